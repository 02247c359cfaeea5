/- FnExactRollsText returns true for every input and leaves its arguments as they were.  No conditions. -/
import Derived.Test.YtilfbmjohopckaaDoorGRow
import Derived.Test.YtilfbmjohopckaaDoorLawRollsText
import Derived.Test.YtilfbmjohopckaaDoorTxRol
import Derived.Test.YtilfbmjohopckaaDoorGDoor
import Derived.Test.YtilfbmjohopckaaDoorCards
import Derived.Test.YtilfbmjohopckaaDoorTie
import Derived.SevenTiedAt
namespace Go.Proofs.YtilfbmjohopckaaDoor
open Go.ChangeShapes Go.WideShapes Go.ChangeAt Go.RowKit

theorem rollsText_long0 (Z0 : Option Addr) (d0 : Nat) (xs0 : List Int) (w : World) (hn0 : 1048576 < xs0.length) (hm0 : xs0.length ≤ 9223372036854775807) :
    Calls Tryd.prog 3 #[.slice Z0 xs0.length d0] w fun e w' => e = .returned (.bool true) ∧ Below w.heap.size w w' := by
  go_enter Tryd.func3, Tryd.ntmps3
  go_wp2_with fail
  go_ret
  exact ⟨rfl, Below.refl _ _⟩

theorem rollsText_all (Z0 : Option Addr) (d0 : Nat) (xs0 : List Int) (w : World) (hT : TabI w) (r0 : Rd w w.heap.size Z0 d0 xs0) (hm0 : xs0.length ≤ 9223372036854775807) :
    Calls Tryd.prog 3 #[.slice Z0 xs0.length d0] w fun e w' => e = .returned (.bool true) ∧ Below w.heap.size w w' := by
  by_cases hn0 : 1048576 < xs0.length
  · exact rollsText_long0 Z0 d0 xs0 w hn0 hm0
  replace hn0 : xs0.length ≤ 1048576 := by omega
  exact rollsText_walk Z0 d0 xs0 (orS (rollsB xs0) (roS xs0)) (rollsB xs0) w r0 hn0 (fun Z0 d0 B w h0 hB => specRollsText_any Z0 d0 xs0 B w h0 hB hn0) hT (fun Z0 d0 B w h0 hB ht => implRollsText_any Z0 d0 xs0 B w h0 hB hn0 ht)

set_option maxRecDepth 100000 in
theorem rollsText_lifted (os : Os) (started : os.Started) (H : Type) (enc : TypeId × Value → H) :
    ReturnsInHanded {} Tryd.checked os 3 .any (fun w args => (Rows.fnExactRollsTextSpec.pre enc Tryd.prog Tryd.f3 [] false w args ∧ laidMetH Tryd.prog laid3 w) ∧ sizedMet enc Tryd.prog Tryd.f3 (OpenSpec.ofChange Rows.fnExactRollsTextSpec) false w args)
      (Rows.fnExactRollsTextSpec.post enc Tryd.prog Tryd.f3 false true false false) := by
  refine returnsInHanded_of_change_and (C := Tryd.checked) (X := fun w _ => laidMetH Tryd.prog laid3 w) (fun _ _ _ hh h => h.of_heap hh) own started (by kernel_rfl) Tryd.func3
    (ChangeSpec.witness_shaped (enc := enc) (C := Tryd.checked) (os := os) (X := fun w _ => laidMetH Tryd.prog laid3 w) false (World.doorLaid Tryd.prog 400 os) #[.slice none 0 0] 8 rfl (World.shaped_of_RefB (by kernel_rfl) (by kernel_rfl)) (by kernel_rfl) (by kernel_rfl) (by kernel_rfl) (door_met3 os _)) ?_
  intro W base args ds gs before hval0 hW _ _ hL _
  have hval : ∀ (j : Nat) t v, Tryd.f3.params[j]? = some t → args[j]? = some v → Value.okWide Tryd.prog W .any base t v := hval0
  have hW' := hW
  obtain ⟨p, q, hA0, hV, rfl, _, _⟩ := hW
  have hA : DataW.TrodAll enc Tryd.prog W 0 (fun _ => true) true Tryd.f3.params.toList args.toList ds p := hA0
  rw [Tryd.params3] at hA hval
  obtain ⟨v0, vs0, d0, ds0, p0, q0, hargs, rfl, rfl, h0, r0⟩ := trodAll_cons hA
  obtain ⟨rfl, rfl, rfl⟩ := trodAll_nil r0
  obtain rfl : args = #[v0] := by cases args; simp_all
  obtain ⟨rfl, rfl⟩ := trodVars_none hV
  have k0 := h0
  have lt0 : ∀ x ∈ p0, x.block < W.heap.size := by obtain ⟨m, hm⟩ := k0; exact DataW.trod_lt m _ _ _ hm
  obtain ⟨Z0, dz0, xs0, e0, rx0, nx0⟩ := inL_of (hval 0 22 v0 rfl rfl) h0
  subst e0
  clear hA0 hval0
  refine (rollsText_all Z0 dz0 xs0 W (tabI_of_laid hL) rx0 nx0).mono fun e W' ⟨he, bel⟩ => ?_
  subst he
  exact ⟨_, rfl, _, _, _, [], _, [], hW', trodAll_mk1 (shut_bool Tryd.underlying4 _), (trodAll_cons_mk (Below.trod laidOut (by kernel_rfl) (of_decide_eq_true (by kernel_rfl)) k0 bel lt0) trodAll_mk0), rfl, bel.frame _, fun h => by cases h⟩

theorem rollsText_row : Rows.FnExactRollsTextSaid :=
  OpenClaim.holds_of_wide 3 Tryd.f3 rfl rfl rfl rfl rfl rfl rfl ⟨rfl, rfl, rfl, rfl, rfl⟩ rfl rfl rfl rfl rfl (by kernel_rfl) Tryd.func3 (by kernel_rfl)
    (of_decide_eq_true (by kernel_rfl)) (by unfold Func.isWrapper; first | (rw [if_pos (by decide +kernel)]; kernel_rfl) | (rw [if_neg (by decide +kernel)]; exact ⟨rfl, rfl⟩))
    (fun os started H enc _ => rollsText_lifted os started H enc)
theorem rollsText_holds : Rows.FnExactRollsTextCardSaid :=
  Claim7.holds_tied_plain_at .later [] [.data, .data, .data] true Rows.fnExactRollsTextCard.stood.harness true
    rollsText_row (fun _ h => by cases h) (by kernel_rfl) (fun _ h => by cases h) fnExactRollsText_row_tie rfl ⟨rfl, rfl⟩ (by kernel_rfl) rfl
    (fun f fn hf hfn => by
      obtain rfl : f = 3 := Option.some.inj ((show Tryd.prog.funcNamed "loop.example/g01374/laws.FnExactRollsText" = some 3 by kernel_rfl).symm.trans hf) |>.symm
      obtain rfl : fn = Tryd.f3 := (Option.some.inj (Tryd.func3.symm.trans hfn)).symm
      exact ⟨by kernel_rfl, fun j t ht => by
        have hm : t ∈ Tryd.f3.params.toList := by simpa using Array.mem_of_getElem? ht
        have hall : (Tryd.f3.params.toList.all fun u => !Tryd.prog.wantsStandIn u) = true := by kernel_rfl
        exact (show Tryd.prog.wantsStandIn t = false by simpa using List.all_eq_true.1 hall t hm)⟩)
    (by kernel_rfl)
#print axioms rollsText_holds

end Go.Proofs.YtilfbmjohopckaaDoor
