/- FnExactFirstDesk returns true. No conditions. -/
import Derived.Test.YtehffiaobjlpoaaDkB
namespace Go.Proofs.Ytehffiaobjlpoaa
open Go.ChangeShapes Go.WideShapes Go.ChangeAt Go.RowKit
set_option maxRecDepth 100000

set_option maxHeartbeats 2000000 in
theorem firstDesk_walk (w0 : World) : Calls Try.prog 3 #[] w0 fun e w' => e = .returned (.bool true) ∧ Below w0.heap.size w0 w' := by
  go_enter Try.func3, Try.ntmps3
  go_wp2_with fail
  refine (specFirstDesk_any w0).mono ?_
  rintro e w1 ⟨a, a', a'', rfl, Ha, Ha', Ha'', ag, ag', ag'', hb⟩
  have z1 := hb.size
  have la := Ha.lt
  have la' := Ha'.lt
  have la'' := Ha''.lt
  have X0 : Blk (w1.alloc (.cells (dkc 5 (.slice (some ⟨a, 0, none⟩) 2 2) (.slice (some ⟨a', 0, none⟩) 1 1) 60 2 4 3 4 (.slice (some ⟨a'', 0, none⟩) 6 6)) 30)) w1.heap.size 30 (dkc 5 (.slice (some ⟨a, 0, none⟩) 2 2) (.slice (some ⟨a', 0, none⟩) 1 1) 60 2 4 3 4 (.slice (some ⟨a'', 0, none⟩) 6 6)) := Blk.new _ _ _
  go_wp2_with fail
  refine (implFirstDesk_any _).mono ?_
  rintro e w2 ⟨g, g', g'', rfl, Hg, Hg', Hg'', gg, gg', gg'', hc⟩
  have gz : w1.heap.size + 1 ≤ g := by simpa using gg
  have z2 : w1.heap.size + 1 ≤ w2.heap.size := by have := hc.size; simpa using this
  have lg := Hg.lt
  have lg' := Hg'.lt
  have lg'' := Hg''.lt
  have hbc : Below w1.heap.size w1 w2 := (below_alloc _ _).trans (hc.mono (by simp))
  have X1 := X0.below hc X0.lt
  have Ha1 := Ha.below hbc la
  have Ha1' := Ha'.below hbc la'
  have Ha1'' := Ha''.below hbc la''
  have Bt1 : Below w0.heap.size w0 w2 := hb.trans (hbc.mono z1)
  clear X0 Ha Ha' Ha'' hc hbc gg hb
  obtain ⟨p0, p1, p2, p3, p4, p5, p6, p7, p8⟩ := X1.nine
  have lX1 := X1.lt
  go_wp2_with fail
  have Y0 : Blk (w2.alloc (.cells (dkc 5 (.slice (some ⟨g, 0, none⟩) 2 2) (.slice (some ⟨g', 0, none⟩) 1 1) 60 2 4 3 4 (.slice (some ⟨g'', 0, none⟩) 6 6)) 30)) w2.heap.size 30 (dkc 5 (.slice (some ⟨g, 0, none⟩) 2 2) (.slice (some ⟨g', 0, none⟩) 1 1) 60 2 4 3 4 (.slice (some ⟨g'', 0, none⟩) 6 6)) := Blk.new _ _ _
  have hb : Below w2.heap.size w2 (w2.alloc (.cells (dkc 5 (.slice (some ⟨g, 0, none⟩) 2 2) (.slice (some ⟨g', 0, none⟩) 1 1) 60 2 4 3 4 (.slice (some ⟨g'', 0, none⟩) 6 6)) 30)) := below_alloc _ _
  have z3 : w2.heap.size + 1 ≤ (w2.alloc (.cells (dkc 5 (.slice (some ⟨g, 0, none⟩) 2 2) (.slice (some ⟨g', 0, none⟩) 1 1) 60 2 4 3 4 (.slice (some ⟨g'', 0, none⟩) 6 6)) 30)).heap.size := by simp
  generalize hu : w2.alloc (.cells (dkc 5 (.slice (some ⟨g, 0, none⟩) 2 2) (.slice (some ⟨g', 0, none⟩) 1 1) 60 2 4 3 4 (.slice (some ⟨g'', 0, none⟩) 6 6)) 30) = u at *
  clear hu
  replace X1 := X1.below hb X1.lt
  replace Ha1 := Ha1.below hb Ha1.lt
  replace Ha1' := Ha1'.below hb Ha1'.lt
  replace Ha1'' := Ha1''.below hb Ha1''.lt
  replace Hg := Hg.below hb lg
  replace Hg' := Hg'.below hb lg'
  replace Hg'' := Hg''.below hb lg''
  replace Bt1 := Bt1.trans (hb.mono Bt1.size)
  clear hb
  refine (eqDesk_same 5 60 2 4 3 4 _ _ _ _ _ _ 2 1 6 2 1 6 [1, 2] [3] fdJ u.heap.size u (st_of_blks (st := 5) Hg Hg' (by simp) (by simp)) (st_of_blks (st := 5) Ha1 Ha1' (by simp) (by simp)) (Hg''.rd (xs := fdJ) Hg''.lt (Nat.le_refl _)) (Ha1''.rd (xs := fdJ) Ha1''.lt (Nat.le_refl _)) (Nat.le_refl _) (by simp [fdJ])).mono ?_
  rintro e w3 ⟨rfl, hb⟩
  replace X1 := X1.below hb X1.lt
  replace Y0 := Y0.below hb Y0.lt
  replace Ha1 := Ha1.below hb Ha1.lt
  replace Ha1' := Ha1'.below hb Ha1'.lt
  replace Ha1'' := Ha1''.below hb Ha1''.lt
  replace Hg := Hg.below hb Hg.lt
  replace Hg' := Hg'.below hb Hg'.lt
  replace Hg'' := Hg''.below hb Hg''.lt
  replace Bt1 := Bt1.trans (hb.mono Bt1.size)
  have z4 := Nat.le_trans z3 hb.size
  have O := (Hg.own (xs := [1, 2]) (by simp))
  have O' := (Hg'.own (xs := [3]) (by simp))
  have O'' := (Hg''.own (xs := fdJ) (by simp [fdJ]))
  clear hb Hg Hg' Hg'' p0 p1 p2 p3 p4 p5 p6 p7 p8
  obtain ⟨p0, p1, p2, p3, p4, p5, p6, p7, p8⟩ := X1.nine
  have lX1 := X1.lt
  obtain ⟨q0, q1, q2, q3, q4, q5, q6, q7, q8⟩ := Y0.nine
  have lY0 := Y0.lt
  go_wp2_with fail
  refine (markDesk_any 5 60 2 4 3 4 _ _ _ [1, 2] [3] fdJ 1 g g' g'' w3 O O' O'' (fun k h h' => by simp [Value.ownBlock] at h h'; omega) (fun k h h' => by simp [Value.ownBlock] at h h'; omega) (fun k h h' => by simp [Value.ownBlock] at h h'; omega) (by simp) (by simp) (by simp [fdJ]) (by omega) (by omega)).mono ?_
  rintro e w4 ⟨rfl, M, M', M'', ht⟩
  have hge : ∀ k ∈ rowL (.slice (some ⟨g, 0, none⟩) 2 2) ++ rowL (.slice (some ⟨g', 0, none⟩) 1 1) ++ rowL (.slice (some ⟨g'', 0, none⟩) 6 6), k = g ∨ k = g' ∨ k = g'' := fun k hk => by simpa [rowL_some, or_assoc] using hk
  replace X1 := X1.turned ht (fun hm => by have := hge _ hm; omega)
  replace Y0 := Y0.turned ht (fun hm => by have := hge _ hm; omega)
  replace Ha1 := Ha1.turned ht (fun hm => by have := hge _ hm; omega)
  replace Ha1' := Ha1'.turned ht (fun hm => by have := hge _ hm; omega)
  replace Ha1'' := Ha1''.turned ht (fun hm => by have := hge _ hm; omega)
  replace Bt1 := Bt1.trans (ht.below Bt1.size (fun k hm => by have := hge _ hm; omega))
  have z5 := Nat.le_trans z4 ht.size
  clear ht hge O O' O'' p0 p1 p2 p3 p4 p5 p6 p7 p8 q0 q1 q2 q3 q4 q5 q6 q7 q8
  obtain ⟨p0, p1, p2, p3, p4, p5, p6, p7, p8⟩ := X1.nine
  have lX1 := X1.lt
  obtain ⟨q0, q1, q2, q3, q4, q5, q6, q7, q8⟩ := Y0.nine
  have lY0 := Y0.lt
  go_wp2_with fail
  refine (heldDesk_any 5 60 2 4 3 4 _ _ _ 2 1 6 1 g g' g'' w4 M M' M'' (by omega) (by omega) (by omega) (by omega) (by omega)).mono ?_
  rintro e w5 ⟨rfl, hb⟩
  replace X1 := X1.below hb X1.lt
  replace Y0 := Y0.below hb Y0.lt
  replace Ha1 := Ha1.below hb Ha1.lt
  replace Ha1' := Ha1'.below hb Ha1'.lt
  replace Ha1'' := Ha1''.below hb Ha1''.lt
  replace M := M.below hb (Nat.le_refl _)
  replace M' := M'.below hb (Nat.le_refl _)
  replace M'' := M''.below hb (Nat.le_refl _)
  replace Bt1 := Bt1.trans (hb.mono Bt1.size)
  have z6 := Nat.le_trans z5 hb.size
  clear hb p0 p1 p2 p3 p4 p5 p6 p7 p8 q0 q1 q2 q3 q4 q5 q6 q7 q8
  obtain ⟨p0, p1, p2, p3, p4, p5, p6, p7, p8⟩ := X1.nine
  have lX1 := X1.lt
  obtain ⟨q0, q1, q2, q3, q4, q5, q6, q7, q8⟩ := Y0.nine
  have lY0 := Y0.lt
  go_wp2_with fail
  refine (implFirstDesk_any _).mono ?_
  rintro e w6 ⟨h, h', h'', rfl, Hh, Hh', Hh'', hh, hh', hh'', hb⟩
  have lh := Hh.lt
  have lh' := Hh'.lt
  have lh'' := Hh''.lt
  replace X1 := X1.below hb X1.lt
  replace Y0 := Y0.below hb Y0.lt
  replace Ha1 := Ha1.below hb Ha1.lt
  replace Ha1' := Ha1'.below hb Ha1'.lt
  replace Ha1'' := Ha1''.below hb Ha1''.lt
  replace M := M.below hb (Nat.le_refl _)
  replace M' := M'.below hb (Nat.le_refl _)
  replace M'' := M''.below hb (Nat.le_refl _)
  replace Bt1 := Bt1.trans (hb.mono Bt1.size)
  have z7 := Nat.le_trans z6 hb.size
  clear hb p0 p1 p2 p3 p4 p5 p6 p7 p8 q0 q1 q2 q3 q4 q5 q6 q7 q8
  obtain ⟨p0, p1, p2, p3, p4, p5, p6, p7, p8⟩ := X1.nine
  have lX1 := X1.lt
  obtain ⟨q0, q1, q2, q3, q4, q5, q6, q7, q8⟩ := Y0.nine
  have lY0 := Y0.lt
  go_wp2_with fail
  have hb : Below w6.heap.size w6 (w6.alloc (.cells (dkc 5 (.slice (some ⟨h, 0, none⟩) 2 2) (.slice (some ⟨h', 0, none⟩) 1 1) 60 2 4 3 4 (.slice (some ⟨h'', 0, none⟩) 6 6)) 30)) := below_alloc _ _
  have z8 : w6.heap.size + 1 ≤ (w6.alloc (.cells (dkc 5 (.slice (some ⟨h, 0, none⟩) 2 2) (.slice (some ⟨h', 0, none⟩) 1 1) 60 2 4 3 4 (.slice (some ⟨h'', 0, none⟩) 6 6)) 30)).heap.size := by simp
  generalize hu : w6.alloc (.cells (dkc 5 (.slice (some ⟨h, 0, none⟩) 2 2) (.slice (some ⟨h', 0, none⟩) 1 1) 60 2 4 3 4 (.slice (some ⟨h'', 0, none⟩) 6 6)) 30) = u6 at *
  clear hu
  replace Y0 := Y0.below hb Y0.lt
  replace Ha1 := Ha1.below hb Ha1.lt
  replace Ha1' := Ha1'.below hb Ha1'.lt
  replace Ha1'' := Ha1''.below hb Ha1''.lt
  replace Hh := Hh.below hb lh
  replace Hh' := Hh'.below hb lh'
  replace Hh'' := Hh''.below hb lh''
  replace M := M.below hb (Nat.le_refl _)
  replace M' := M'.below hb (Nat.le_refl _)
  replace M'' := M''.below hb (Nat.le_refl _)
  replace Bt1 := Bt1.trans (hb.mono Bt1.size)
  clear hb
  refine (eqDesk_same 5 60 2 4 3 4 _ _ _ _ _ _ 2 1 6 2 1 6 [1, 2] [3] fdJ u6.heap.size u6 (st_of_blks (st := 5) Hh Hh' (by simp) (by simp)) (st_of_blks (st := 5) Ha1 Ha1' (by simp) (by simp)) (Hh''.rd (xs := fdJ) Hh''.lt (Nat.le_refl _)) (Ha1''.rd (xs := fdJ) Ha1''.lt (Nat.le_refl _)) (Nat.le_refl _) (by simp [fdJ])).mono ?_
  rintro e w7 ⟨rfl, hb⟩
  replace Y0 := Y0.below hb Y0.lt
  replace M := M.below hb (Nat.le_refl _)
  replace M' := M'.below hb (Nat.le_refl _)
  replace M'' := M''.below hb (Nat.le_refl _)
  replace Bt1 := Bt1.trans (hb.mono Bt1.size)
  clear hb p0 p1 p2 p3 p4 p5 p6 p7 p8 q0 q1 q2 q3 q4 q5 q6 q7 q8
  obtain ⟨q0, q1, q2, q3, q4, q5, q6, q7, q8⟩ := Y0.nine
  have lY0 := Y0.lt
  go_wp2_with fail
  refine (heldDesk_any 5 60 2 4 3 4 _ _ _ 2 1 6 1 g g' g'' w7 M M' M'' (by omega) (by omega) (by omega) (by omega) (by omega)).mono ?_
  rintro e w8 ⟨rfl, hb⟩
  replace Bt1 := Bt1.trans (hb.mono Bt1.size)
  go_wp2_with fail
  go_ret
  exact ⟨rfl, Bt1⟩

theorem firstDesk_lifted (os : Os) (started : os.Started) (H : Type) (enc : TypeId × Value → H) :
    ReturnsInHanded {} Try.checked os 3 .any (Rows.fnExactFirstDeskSpec.pre6 enc Try.prog Try.f3 Rows.fnExactFirstDeskRow.domain false) (Rows.fnExactFirstDeskSpec.post enc Try.prog Try.f3 false true false false) := by
  refine returnsInHanded_of_change (C := Try.checked) own started (by kernel_rfl) Try.func3
    (ChangeSpec.witness6 (enc := enc) (C := Try.checked) false ⟨#[], #[], []⟩ 8 (by kernel_rfl) (by kernel_rfl) (by kernel_rfl) (by kernel_rfl)) ?_
  intro W base args ds gs before hval0 hW _ _
  have hW' := hW
  obtain ⟨p, q, hA0, hV, rfl, _, _⟩ := hW
  have hA : DataW.TrodAll enc Try.prog W 0 (fun _ => true) true Try.f3.params.toList args.toList ds p := hA0
  rw [Try.params3] at hA
  obtain ⟨hargs, rfl, rfl⟩ := trodAll_nil hA
  obtain rfl : args = #[] := by cases args; simp_all
  obtain ⟨rfl, rfl⟩ := trodVars_none hV
  clear hA0 hval0
  refine (firstDesk_walk W).mono fun e W' ⟨he, bel⟩ => ?_
  subst he
  exact ⟨_, rfl, _, _, _, [], _, [], hW', trodAll_mk1 (shut_bool Try.underlying4 _), trodAll_mk0, rfl, bel.frame _, fun h => by cases h⟩

theorem firstDesk_holds : Rows.FnExactFirstDeskSaid :=
  OpenClaim.holds_of_wide 3 Try.f3 rfl rfl rfl rfl rfl rfl rfl ⟨rfl, rfl, rfl, rfl, rfl⟩ rfl rfl rfl rfl rfl (by kernel_rfl) Try.func3 (by kernel_rfl)
    (of_decide_eq_true (by kernel_rfl)) (by unfold Func.isWrapper; first | (rw [if_pos (by decide +kernel)]; kernel_rfl) | (rw [if_neg (by decide +kernel)]; exact ⟨rfl, rfl⟩))
    (fun os started H enc _ => firstDesk_lifted os started H enc)
#print axioms firstDesk_holds

end Go.Proofs.Ytehffiaobjlpoaa
