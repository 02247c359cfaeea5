/- FnExactWearAll returns true for every input and leaves its arguments as they were.  No conditions. -/
import Derived.Test.YtniiiimjgamibaaGSRow
import Derived.Test.YtniiiimjgamibaaLawWearAll
import Derived.Test.YtniiiimjgamibaaWearAll
namespace Go.Proofs.Ytniiiimjgamibaa
open Go.ChangeShapes Go.WideShapes Go.ChangeAt Go.RowKit

theorem wearAll_long0 (Z0 : Option Addr) (d0 : Nat) (xs0 : List Int) (n1 : Int) (Z2 : Option Addr) (d2 n2 : Nat) (w : World) (hn0 : 1048576 < xs0.length) (hm0 : xs0.length ≤ 9223372036854775807) :
    Calls Try.prog 3 #[.slice Z0 xs0.length d0, .int .i64 n1, .slice Z2 n2 d2] w fun e w' => e = .returned (.bool true) ∧ Below w.heap.size w w' := by
  go_enter Try.func3, Try.ntmps3
  go_wp2_with fail
  go_ret
  exact ⟨rfl, Below.refl _ _⟩

theorem wearAll_long2 (Z0 : Option Addr) (d0 : Nat) (xs0 : List Int) (n1 : Int) (Z2 : Option Addr) (d2 n2 : Nat) (F2 : Nat → Option Addr) (C2 : Nat → Nat) (xf : Nat → List Int) (w : World) (hn0 : xs0.length ≤ 1048576) (hn2 : 1048576 < n2 + lenK xf n2) (r2 : RdSS w w.heap.size Z2 d2 n2 F2 C2 xf) (hm2 : n2 ≤ 9223372036854775807) (hx2 : ∀ i, i < n2 → (xf i).length ≤ 9223372036854775807) :
    Calls Try.prog 3 #[.slice Z0 xs0.length d0, .int .i64 n1, .slice Z2 n2 d2] w fun e w' => e = .returned (.bool true) ∧ Below w.heap.size w w' := by
  have HSZ := Lib.hid (show szGG xf n2 1048576 = -1 from if_pos (by omega))
  go_enter Try.func3, Try.ntmps3
  go_wp2_with fail
  refine (szSS_any Z2 d2 n2 F2 C2 xf w.heap.size w r2 1048576 (by omega) (by omega) hm2 hx2).mono ?_
  rintro e w' ⟨rfl, rfl⟩
  rw [HSZ.out]
  go_wp2_with fail
  go_ret
  exact ⟨rfl, Below.refl _ _⟩

theorem wearAll_all (Z0 : Option Addr) (d0 : Nat) (xs0 : List Int) (n1 : Int) (Z2 : Option Addr) (d2 n2 : Nat) (F2 : Nat → Option Addr) (C2 : Nat → Nat) (xf : Nat → List Int) (w : World) (r0 : Rd w w.heap.size Z0 d0 xs0) (hm0 : xs0.length ≤ 9223372036854775807) (_lo1 : -9223372036854775808 ≤ n1) (_hi1 : n1 ≤ 9223372036854775807) (r2 : RdSS w w.heap.size Z2 d2 n2 F2 C2 xf) (hm2 : n2 ≤ 9223372036854775807) (hx2 : ∀ i, i < n2 → (xf i).length ≤ 9223372036854775807) :
    Calls Try.prog 3 #[.slice Z0 xs0.length d0, .int .i64 n1, .slice Z2 n2 d2] w fun e w' => e = .returned (.bool true) ∧ Below w.heap.size w w' := by
  by_cases hn0 : 1048576 < xs0.length
  · exact wearAll_long0 Z0 d0 xs0 n1 Z2 d2 n2 w hn0 hm0
  replace hn0 : xs0.length ≤ 1048576 := by omega
  by_cases hn2 : 1048576 < n2 + lenK xf n2
  · exact wearAll_long2 Z0 d0 xs0 n1 Z2 d2 n2 F2 C2 xf w hn0 hn2 r2 hm2 hx2
  replace hn2 : n2 + lenK xf n2 ≤ 1048576 := by omega
  have HXF := fun i (h : i < n2) => Nat.le_trans (lenK_row xf h) (show lenK xf n2 ≤ 1048576 by omega)
  exact wearAll_walk Z0 d0 xs0 n1 Z2 d2 n2 F2 C2 xf (alR xs0 n1 n2 xf) (alB xs0 n1 n2 xf) (alR_length _ _ _ _ hn0) w r0 hn0 r2 hn2 (fun Z0 d0 Z2 d2 F2 C2 B w h0 h2 hB => specAll_any Z0 Z2 d0 d2 n2 F2 C2 xs0 xf n1 B w h0 h2 hB hn0 (by omega) HXF) (fun Z0 d0 Z2 d2 F2 C2 B w h0 h2 hB => implAll_any Z0 Z2 d0 d2 n2 F2 C2 xs0 xf n1 B w h0 h2 hB hn0 (by omega) HXF)

set_option maxRecDepth 100000 in
theorem wearAll_lifted (os : Os) (started : os.Started) (H : Type) (enc : TypeId × Value → H) :
    ReturnsInHanded {} Try.checked os 3 .any (Rows.fnExactWearAllSpec.pre6 enc Try.prog Try.f3 Rows.fnExactWearAllRow.domain false) (Rows.fnExactWearAllSpec.post enc Try.prog Try.f3 false true false false) := by
  refine returnsInHanded_of_change (C := Try.checked) own started (by kernel_rfl) Try.func3
    (ChangeSpec.witness6 (enc := enc) (C := Try.checked) false ⟨#[], #[.slice none 0 0, .int .i64 0, .slice none 0 0], []⟩ 8 (by kernel_rfl) (by kernel_rfl) (by kernel_rfl) (by kernel_rfl)) ?_
  intro W base args ds gs before hval0 hW _ _
  have hval : ∀ (j : Nat) t v, Try.f3.params[j]? = some t → args[j]? = some v → Value.okWide Try.prog W .any base t v := hval0
  have hW' := hW
  obtain ⟨p, q, hA0, hV, rfl, _, _⟩ := hW
  have hA : DataW.TrodAll enc Try.prog W 0 (fun _ => true) true Try.f3.params.toList args.toList ds p := hA0
  rw [Try.params3] at hA hval
  obtain ⟨v0, vs0, d0, ds0, p0, q0, hargs, rfl, rfl, h0, r0⟩ := trodAll_cons hA
  obtain ⟨v1, vs1, d1, ds1, p1, q1, rfl, rfl, rfl, h1, r1⟩ := trodAll_cons r0
  obtain ⟨v2, vs2, d2, ds2, p2, q2, rfl, rfl, rfl, h2, r2⟩ := trodAll_cons r1
  obtain ⟨rfl, rfl, rfl⟩ := trodAll_nil r2
  obtain rfl : args = #[v0, v1, v2] := by cases args; simp_all
  obtain ⟨rfl, rfl⟩ := trodVars_none hV
  have k0 := h0
  have lt0 : ∀ x ∈ p0, x.block < W.heap.size := by obtain ⟨m, hm⟩ := k0; exact DataW.trod_lt m _ _ _ hm
  obtain ⟨Z0, dz0, xs0, e0, rx0, nx0⟩ := inL_of (hval 0 22 v0 rfl rfl) h0
  subst e0
  have k1 := h1
  have lt1 : ∀ x ∈ p1, x.block < W.heap.size := by obtain ⟨m, hm⟩ := k1; exact DataW.trod_lt m _ _ _ hm
  obtain ⟨n1, e1, wb1⟩ := inI_of (hval 1 3 v1 rfl rfl) h1
  subst e1
  have k2 := h2
  have lt2 : ∀ x ∈ p2, x.block < W.heap.size := by obtain ⟨m, hm⟩ := k2; exact DataW.trod_lt m _ _ _ hm
  obtain ⟨Z2, dz2, n2, F2, C2, xf, e2, rx2, nx2, nf2⟩ := inSS_of (hval 2 23 v2 rfl rfl) h2
  subst e2
  clear hA0 hval0
  refine (wearAll_all Z0 dz0 xs0 n1 Z2 dz2 n2 F2 C2 xf W rx0 nx0 wb1.1 wb1.2 rx2 nx2 nf2).mono fun e W' ⟨he, bel⟩ => ?_
  subst he
  exact ⟨_, rfl, _, _, _, [], _, [], hW', trodAll_mk1 (shut_bool Try.underlying4 _), (trodAll_cons_mk (Below.trod laidOut (by kernel_rfl) (of_decide_eq_true (by kernel_rfl)) k0 bel lt0) (trodAll_cons_mk (Below.trod laidOut (by kernel_rfl) (of_decide_eq_true (by kernel_rfl)) k1 bel lt1) (trodAll_cons_mk (Below.trod laidOut (by kernel_rfl) (of_decide_eq_true (by kernel_rfl)) k2 bel lt2) trodAll_mk0))), rfl, bel.frame _, fun h => by cases h⟩

theorem wearAll_holds : Rows.FnExactWearAllSaid :=
  OpenClaim.holds_of_wide 3 Try.f3 rfl rfl rfl rfl rfl rfl rfl ⟨rfl, rfl, rfl, rfl, rfl⟩ rfl rfl rfl rfl rfl (by kernel_rfl) Try.func3 (by kernel_rfl)
    (of_decide_eq_true (by kernel_rfl)) (by unfold Func.isWrapper; first | (rw [if_pos (by decide +kernel)]; kernel_rfl) | (rw [if_neg (by decide +kernel)]; exact ⟨rfl, rfl⟩))
    (fun os started H enc _ => wearAll_lifted os started H enc)
#print axioms wearAll_holds

end Go.Proofs.Ytniiiimjgamibaa
