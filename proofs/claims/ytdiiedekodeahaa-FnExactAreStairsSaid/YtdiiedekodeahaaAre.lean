/- FnExactAreStairs returns true for every input and leaves its argument as it was. No conditions. -/
import Derived.Test.YtdiiedekodeahaaRow
namespace Go.Proofs.Ytdiiedekodeahaa
open Go.ChangeShapes Go.WideShapes Go.ChangeAt Go.RowKit

theorem Copied.st {w' : World} {st : Int} {ss bs : List Int} {g g' : Nat} (hx : Blk w' g 3 (ints ss)) (hy : Blk w' g' 3 (ints bs)) (n : ss.length ≤ 1048576) (n' : bs.length ≤ 1048576) :
    St w' w'.heap.size st (some ⟨g, 0, none⟩) (some ⟨g', 0, none⟩) ss.length bs.length ss bs :=
  ⟨hx.rd hx.lt (Nat.le_refl _), hy.rd hy.lt (Nat.le_refl _), n, n'⟩

theorem below_undrew {B : Nat} {a w : World} (h : Below B a.drew w) : Below B a w := ⟨h.os, h.tape, h.output, h.size, h.block⟩
theorem St.drew {w : World} {B : Nat} {st : Int} {A A' : Option Addr} {c c' : Nat} {ss bs : List Int} (h : St w B st A A' c c' ss bs) : St w.drew B st A A' c c' ss bs := ⟨h.rs, h.rb, h.ns, h.nb⟩
theorem St.more {w : World} {B B' : Nat} {st : Int} {A A' : Option Addr} {c c' : Nat} {ss bs : List Int} (h : St w B st A A' c c' ss bs) (hB : B ≤ B') : St w B' st A A' c c' ss bs := ⟨h.rs.more hB, h.rb.more hB, h.ns, h.nb⟩

set_option maxHeartbeats 1000000 in
theorem are_walk (st : Int) (A A' : Option Addr) (c c' : Nat) (ss bs : List Int) (w : World) (h : St w w.heap.size st A A' c c' ss bs) (hs : ss.length + bs.length ≤ 1048576) :
    Calls Try.prog 3 #[stv st A A' c c' ss bs] w fun e w' => e = .returned (.bool true) ∧ Below w.heap.size w w' := by
  have X0 : Blk (w.alloc (.cells #[.int .i64 st, .slice A ss.length c, .slice A' bs.length c'] 24)) w.heap.size 24 #[.int .i64 st, .slice A ss.length c, .slice A' bs.length c'] := Blk.new _ _ _
  go_enter Try.func3, Try.ntmps3
  go_wp2_with fail
  refine (szStairs_yes _ _ _ _ _ _ _ _ hs).mono ?_
  rintro e w1 ⟨rfl, hb1⟩
  have hz1 : w.heap.size < w1.heap.size := by have := hb1.size; simp at this; omega
  have h1 : St w1 w.heap.size st A A' c c' ss bs := (h.alloc (Nat.le_refl _) _).below hb1 (by simp)
  have X1 := X0.below hb1 (by simp)
  have B1 : Below w.heap.size w w1 := ((Below.refl _ _).alloc (Nat.le_refl _) _).trans (hb1.mono (by simp))
  clear hb1 X0
  obtain ⟨p0, p1, p2⟩ := X1.three
  go_wp2_with fail
  refine (toStairs_any _ _ _ _ _ _ _ _ _ h1 (by omega)).mono ?_
  rintro e w2 ⟨g, g', rfl, hg, hgg, hx, hy, hb2⟩
  have hz2 : w.heap.size < w2.heap.size := by have := hb2.size; omega
  have hxy := Copied.st (st := st) hx hy h.ns h.nb
  have h2 := h1.below hb2 (by omega)
  have X2 := X1.below hb2 hz1
  have B2 := B1.trans (hb2.mono (by omega))
  clear hb2 X1 p0 p1 p2 hx hy hg hgg h1 B1
  go_wp2_with fail
  refine (specAre_any _ _ _ _ _ _ _ _ _ hxy (Nat.le_refl _)).mono ?_
  rintro e w3 ⟨rfl, hb3⟩
  have hz3 : w.heap.size < w3.heap.size := by have := hb3.size; omega
  have h3 := h2.below hb3 (by omega)
  have X3 := X2.below hb3 hz2
  have B3 := B2.trans (hb3.mono (by omega))
  clear hb3 X2 hxy h2 B2
  obtain ⟨p0, p1, p2⟩ := X3.three
  go_wp2_with fail
  refine (toStairs_any _ _ _ _ _ _ _ _ _ h3 (by omega)).mono ?_
  rintro e w4 ⟨k, k', rfl, hk, hkk, hx, hy, hb4⟩
  have hz4 : w.heap.size < w4.heap.size := by have := hb4.size; omega
  have hxy := Copied.st (st := st) hx hy h.ns h.nb
  have h4 := h3.below hb4 (by omega)
  have X4 := X3.below hb4 hz3
  have B4 := B3.trans (hb4.mono (by omega))
  have Y4 : Blk (w4.alloc (.cells #[.int .i64 st, .slice (some ⟨k, 0, none⟩) ss.length ss.length, .slice (some ⟨k', 0, none⟩) bs.length bs.length] 27)) w4.heap.size 27 #[.int .i64 st, .slice (some ⟨k, 0, none⟩) ss.length ss.length, .slice (some ⟨k', 0, none⟩) bs.length bs.length] := Blk.new _ _ _
  clear hb4 X3 p0 p1 p2 h3 B3 hk hkk hx hy
  go_wp2_with fail
  refine (implAre_any _ _ _ _ _ _ _ _ _ (hxy.alloc (Nat.le_refl _) _) (by simp)).mono ?_
  rintro e w5 ⟨rfl, hb5⟩
  have hz5 : w4.heap.size < w5.heap.size := by have := hb5.size; simp at this; omega
  have hz5' : w.heap.size < w5.heap.size := by omega
  have h5 := (h4.alloc (by omega) _).below hb5 (by simp; omega)
  have X5 := (X4.alloc _).below hb5 (by simp; omega)
  have Y5 := Y4.below hb5 (by simp)
  have Z5 := (hxy.alloc (Nat.le_refl _) _).below hb5 (by simp)
  have B5 := (B4.alloc (by omega) _).trans (hb5.mono (by simp; omega))
  clear hb5 X4 Y4 h4 B4 hxy
  obtain ⟨p0, p1, p2⟩ := X5.three
  obtain ⟨q0, q1, q2⟩ := Y5.three
  go_wp2_with fail
  go_region_held3 (fun w' => w'.cell? ⟨w4.heap.size, 0, none⟩ = some (.int .i64 st) ∧ w'.cell? ⟨w4.heap.size, 1, none⟩ = some (.slice (some ⟨k, 0, none⟩) ss.length ss.length) ∧ w'.cell? ⟨w4.heap.size, 2, none⟩ = some (.slice (some ⟨k', 0, none⟩) bs.length bs.length) ∧
      w'.cell? ⟨w.heap.size, 0, none⟩ = some (.int .i64 st) ∧ w'.cell? ⟨w.heap.size, 1, none⟩ = some (.slice A ss.length c) ∧ w'.cell? ⟨w.heap.size, 2, none⟩ = some (.slice A' bs.length c'))
    (first | exact ⟨q0, q1, q2, p0, p1, p2⟩ | exact ⟨q0', q1', q2', p0', p1', p2'⟩ | exact ⟨q0'', q1'', q2'', p0'', p1'', p2''⟩)
    (first
      | (go_at_call 11
         go_must (refine (toStairs_any st A A' c c' ss bs w.heap.size w5.drew h5.drew (Nat.le_of_lt hz5')).mono ?_; rintro e w6 ⟨m, m', rfl, hm, hmm, hx6, hy6, hb6'⟩; have hb6 : Below w5.heap.size w5 w6 := below_undrew hb6'; have X6 := X5.below hb6 hz5'; have Y6 := Y5.below hb6 hz5; have Z6 := Z5.below hb6 (Nat.le_of_lt hz5); have hz6 : w5.heap.size ≤ w6.heap.size := hb6.size; obtain ⟨p0', p1', p2'⟩ := X6.three; obtain ⟨q0', q1', q2'⟩ := Y6.three))
      | (go_at_call 13
         go_must (refine (eqStairs_any _ _ _ _ _ _ _ _ _ _ _ _ _ _ w6.heap.size _ (Z6.more (by omega)) (Copied.st hx6 hy6 h.ns h.nb) (Nat.le_refl _)).mono ?_; rintro e w7 ⟨rfl, hb7⟩; rw [eqSt_self]; obtain ⟨p0'', p1'', p2''⟩ := (X6.below hb7 (by omega)).three; obtain ⟨q0'', q1'', q2''⟩ := (Y6.below hb7 (by omega)).three)))
  go_wp2
  go_ret
  exact ⟨rfl, (B5.trans (hb6.mono (by omega))).trans (hb7.mono (by omega))⟩

theorem are_big (st : Int) (A A' : Option Addr) (n n' c c' : Nat) (w : World) (hn : n ≤ 9223372036854775807) (hn' : n' ≤ 9223372036854775807) (hs : 1048576 < n + n') :
    Calls Try.prog 3 #[.agg #[.int .i64 st, .slice A n c, .slice A' n' c']] w fun e w' => e = .returned (.bool true) ∧ Below w.heap.size w w' := by
  go_enter Try.func3, Try.ntmps3
  go_wp2_with fail
  refine (szStairs_no _ _ _ _ _ _ _ _ hn hn' hs).mono ?_
  rintro e w1 ⟨rfl, hb1⟩
  go_wp2_with fail
  go_ret
  exact ⟨rfl, ((Below.refl _ _).alloc (Nat.le_refl _) _).trans (hb1.mono (by simp))⟩

theorem are_all (v : Value) (w : World) (h : InSt w v) :
    Calls Try.prog 3 #[v] w fun e w' => e = .returned (.bool true) ∧ Below w.heap.size w w' := by
  obtain ⟨st, A, A', c, c', ss, bs, rfl, r1, r2, n1, n2, _, _⟩ := h
  by_cases hs : ss.length + bs.length ≤ 1048576
  · exact are_walk st A A' c c' ss bs w ⟨r1, r2, by omega, by omega⟩ hs
  · exact are_big st A A' ss.length bs.length c c' w n1 n2 (by omega)

set_option maxRecDepth 100000 in
theorem are_lifted (os : Os) (started : os.Started) (H : Type) (enc : TypeId × Value → H) :
    ReturnsInHanded {} Try.checked os 3 .any (Rows.fnExactAreStairsSpec.pre6 enc Try.prog Try.f3 Rows.fnExactAreStairsRow.domain false) (Rows.fnExactAreStairsSpec.post enc Try.prog Try.f3 false true false false) := by
  refine returnsInHanded_of_change (C := Try.checked) own started (by kernel_rfl) Try.func3
    (ChangeSpec.witness6 (enc := enc) (C := Try.checked) false ⟨#[], #[.agg #[.int .i64 0, .slice none 0 0, .slice none 0 0]], []⟩ 8 (by kernel_rfl) (by kernel_rfl) (by kernel_rfl) (by kernel_rfl)) ?_
  intro W base args ds gs before hval0 hW _ _
  have hval : ∀ (j : Nat) t v, Try.f3.params[j]? = some t → args[j]? = some v → Value.okWide Try.prog W .any base t v := hval0
  have hW' := hW
  obtain ⟨p, q, hA0, hV, rfl, _, _⟩ := hW
  have hA : DataW.TrodAll enc Try.prog W 0 (fun _ => true) true Try.f3.params.toList args.toList ds p := hA0
  rw [Try.params3] at hA hval
  obtain ⟨v0, vs0, d0, ds0, p0, q0, hargs, rfl, rfl, h0, r0⟩ := trodAll_cons hA
  obtain ⟨rfl, rfl, rfl⟩ := trodAll_nil r0
  obtain rfl : args = #[v0] := by cases args; simp_all
  obtain ⟨rfl, rfl⟩ := trodVars_none hV
  have k0 := h0
  have lt0 : ∀ x ∈ p0, x.block < W.heap.size := by obtain ⟨m, hm⟩ := k0; exact DataW.trod_lt m _ _ _ hm
  have hin := inSt_of (hval 0 24 v0 rfl rfl) h0
  clear hA0 hval0
  refine (are_all v0 W hin).mono fun e W' ⟨he, bel⟩ => ?_
  subst he
  exact ⟨_, rfl, _, _, _, [], _, [], hW', trodAll_mk1 (shut_bool Try.underlying4 _), (trodAll_cons_mk (Below.trod laidOut (by kernel_rfl) (of_decide_eq_true (by kernel_rfl)) k0 bel lt0) trodAll_mk0), rfl, bel.frame _, fun h => by cases h⟩

theorem are_holds : Rows.FnExactAreStairsSaid :=
  OpenClaim.holds_of_wide 3 Try.f3 rfl rfl rfl rfl rfl rfl rfl ⟨rfl, rfl, rfl, rfl, rfl⟩ rfl rfl rfl rfl rfl (by kernel_rfl) Try.func3 (by kernel_rfl)
    (of_decide_eq_true (by kernel_rfl)) (by unfold Func.isWrapper; first | (rw [if_pos (by decide +kernel)]; kernel_rfl) | (rw [if_neg (by decide +kernel)]; exact ⟨rfl, rfl⟩))
    (fun os started H enc _ => are_lifted os started H enc)
#print axioms are_holds

end Go.Proofs.Ytdiiedekodeahaa
