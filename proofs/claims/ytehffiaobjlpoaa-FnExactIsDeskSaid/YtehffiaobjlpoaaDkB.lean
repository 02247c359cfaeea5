/- Desks: the laws' own helpers: compare, mark, hold. -/
import Derived.Test.YtehffiaobjlpoaaDkA
import Derived.Test.YtehffiaobjlpoaaMarkS
namespace Go.Proofs.Ytehffiaobjlpoaa
open Go.RowKit
set_option maxRecDepth 100000

theorem Blk.nine {w : World} {g : Nat} {t : TypeId} {v0 v1 v2 v3 v4 v5 v6 v7 v8 : Value} (h : Blk w g t #[v0, v1, v2, v3, v4, v5, v6, v7, v8]) :
    w.cell? ⟨g, 0, none⟩ = some v0 ∧ w.cell? ⟨g, 1, none⟩ = some v1 ∧ w.cell? ⟨g, 2, none⟩ = some v2 ∧ w.cell? ⟨g, 3, none⟩ = some v3 ∧ w.cell? ⟨g, 4, none⟩ = some v4 ∧ w.cell? ⟨g, 5, none⟩ = some v5 ∧ w.cell? ⟨g, 6, none⟩ = some v6 ∧ w.cell? ⟨g, 7, none⟩ = some v7 ∧ w.cell? ⟨g, 8, none⟩ = some v8 :=
  ⟨h.cell 0, h.cell 1, h.cell 2, h.cell 3, h.cell 4, h.cell 5, h.cell 6, h.cell 7, h.cell 8⟩

set_option maxHeartbeats 400000 in
theorem eqMoving_same (x y : Int) (w : World) :
    Calls Try.prog 30 #[.agg #[.int .i64 x, .int .i64 y], .agg #[.int .i64 x, .int .i64 y]] w fun e w' => e = .returned (.bool true) ∧ Below w.heap.size w w' := by
  go_enter Try.func30, Try.ntmps30
  go_wp2_with fail
  go_ret
  exact ⟨rfl, (below_alloc _ _).alloc (by simp) _⟩
set_option maxHeartbeats 400000 in
theorem eqFlight_same (x y z : Int) (w : World) :
    Calls Try.prog 31 #[.agg #[.int .i64 x, .int .i64 y, .int .i64 z], .agg #[.int .i64 x, .int .i64 y, .int .i64 z]] w fun e w' => e = .returned (.bool true) ∧ Below w.heap.size w w' := by
  go_enter Try.func31, Try.ntmps31
  go_wp2_with fail
  go_ret
  exact ⟨rfl, (below_alloc _ _).alloc (by simp) _⟩

set_option maxHeartbeats 1000000 in
theorem eqDesk_same (st x y r s t : Int) (A A' A'' D D' D'' : Option Addr) (c c' c'' d d' d'' : Nat) (ss bs js : List Int) (B : Nat) (w : World) (S : St w B st A A' c c' ss bs) (T : St w B st D D' d d' ss bs) (R : Rd w B A'' c'' js) (Q : Rd w B D'' d'' js) (hB : B ≤ w.heap.size) (hn : js.length ≤ 1048576) :
    Calls Try.prog 9 #[dkv st (.slice A ss.length c) (.slice A' bs.length c') x y r s t (.slice A'' js.length c''), dkv st (.slice D ss.length d) (.slice D' bs.length d') x y r s t (.slice D'' js.length d'')] w fun e w' => e = .returned (.bool true) ∧ Below w.heap.size w w' := by
  have X0 := (Blk.new w 30 (dkc st (.slice A ss.length c) (.slice A' bs.length c') x y r s t (.slice A'' js.length c''))).alloc (.cells (dkc st (.slice D ss.length d) (.slice D' bs.length d') x y r s t (.slice D'' js.length d'')) 30)
  have Y0 : Blk ((w.alloc (.cells (dkc st (.slice A ss.length c) (.slice A' bs.length c') x y r s t (.slice A'' js.length c'')) 30)).alloc (.cells (dkc st (.slice D ss.length d) (.slice D' bs.length d') x y r s t (.slice D'' js.length d'')) 30)) (w.heap.size + 1) 30 (dkc st (.slice D ss.length d) (.slice D' bs.length d') x y r s t (.slice D'' js.length d'')) := Blk.new' (by simp)
  have b0 : Below w.heap.size w ((w.alloc (.cells (dkc st (.slice A ss.length c) (.slice A' bs.length c') x y r s t (.slice A'' js.length c'')) 30)).alloc (.cells (dkc st (.slice D ss.length d) (.slice D' bs.length d') x y r s t (.slice D'' js.length d'')) 30)) := (below_alloc _ _).alloc (by simp) _
  have S0 := S.below b0 hB
  have T0 := T.below b0 hB
  have R0 := R.below b0 hB
  have Q0 := Q.below b0 hB
  have zz : B ≤ ((w.alloc (.cells (dkc st (.slice A ss.length c) (.slice A' bs.length c') x y r s t (.slice A'' js.length c'')) 30)).alloc (.cells (dkc st (.slice D ss.length d) (.slice D' bs.length d') x y r s t (.slice D'' js.length d'')) 30)).heap.size := Nat.le_trans hB b0.size
  clear S T R Q
  go_enter Try.func9, Try.ntmps9
  go_wp2_with fail
  generalize hu : ((w.alloc (.cells (dkc st (.slice A ss.length c) (.slice A' bs.length c') x y r s t (.slice A'' js.length c'')) 30)).alloc (.cells (dkc st (.slice D ss.length d) (.slice D' bs.length d') x y r s t (.slice D'' js.length d'')) 30)) = u at *
  clear hu
  refine (eqStairs_any st st _ _ _ _ _ _ _ _ ss bs ss bs B u S0 T0 zz).mono ?_
  rintro e w1 ⟨rfl, hb⟩
  rw [eqSt_self]
  replace X0 := X0.below hb X0.lt
  replace Y0 := Y0.below hb Y0.lt
  replace R0 := R0.below hb zz
  replace Q0 := Q0.below hb zz
  replace b0 := b0.trans (hb.mono b0.size)
  replace zz := Nat.le_trans zz hb.size
  clear hb
  obtain ⟨p0, p1, p2, p3, p4, p5, p6, p7, p8⟩ := X0.nine
  obtain ⟨q0, q1, q2, q3, q4, q5, q6, q7, q8⟩ := Y0.nine
  go_wp2_with fail
  refine (eqMoving_same x y w1).mono ?_
  rintro e w2 ⟨rfl, hb⟩
  replace X0 := X0.below hb X0.lt
  replace Y0 := Y0.below hb Y0.lt
  replace R0 := R0.below hb zz
  replace Q0 := Q0.below hb zz
  replace b0 := b0.trans (hb.mono b0.size)
  replace zz := Nat.le_trans zz hb.size
  clear hb p0 p1 p2 p3 p4 p5 p6 p7 p8 q0 q1 q2 q3 q4 q5 q6 q7 q8
  obtain ⟨p0, p1, p2, p3, p4, p5, p6, p7, p8⟩ := X0.nine
  obtain ⟨q0, q1, q2, q3, q4, q5, q6, q7, q8⟩ := Y0.nine
  go_wp2_with fail
  refine (eqFlight_same r s t w2).mono ?_
  rintro e w3 ⟨rfl, hb⟩
  replace X0 := X0.below hb X0.lt
  replace Y0 := Y0.below hb Y0.lt
  replace R0 := R0.below hb zz
  replace Q0 := Q0.below hb zz
  replace b0 := b0.trans (hb.mono b0.size)
  replace zz := Nat.le_trans zz hb.size
  clear hb p0 p1 p2 p3 p4 p5 p6 p7 p8 q0 q1 q2 q3 q4 q5 q6 q7 q8
  obtain ⟨p0, p1, p2, p3, p4, p5, p6, p7, p8⟩ := X0.nine
  obtain ⟨q0, q1, q2, q3, q4, q5, q6, q7, q8⟩ := Y0.nine
  go_wp2_with fail
  refine (eqIntS_new _ _ _ _ js js B B w3 R0 Q0 hn).mono ?_
  rintro e w4 ⟨rfl, hb⟩
  rw [eqB_self]
  go_wp2_with fail
  go_ret
  exact ⟨rfl, b0.trans (hb.mono b0.size)⟩

set_option maxHeartbeats 1000000 in
theorem markDesk_any (st x y r s t : Int) (v v' v'' : Value) (xs ys zs : List Int) (k : Int) (B B' B'' : Nat) (w : World) (ho : OwnI w B v xs) (ho' : OwnI w B' v' ys) (ho'' : OwnI w B'' v'' zs) (ha : Apart v v') (hb : Apart v v'') (hc : Apart v' v'') (hn : xs.length ≤ 1048576) (hn' : ys.length ≤ 1048576) (hn'' : zs.length ≤ 1048576) (hk0 : 0 ≤ k) (hk1 : k ≤ 1048576) :
    Calls Try.prog 10 #[dkv st v v' x y r s t v'', .int .i64 k] w fun e w' => e = .returned (.int .i64 (k + xs.length + ys.length + zs.length)) ∧ OwnI w' B v (marksL k xs.length) ∧ OwnI w' B' v' (marksL (k + xs.length) ys.length) ∧ OwnI w' B'' v'' (marksL (k + xs.length + ys.length) zs.length) ∧ Turned w w' (rowL v ++ rowL v' ++ rowL v'') := by
  have X0 : Blk (w.alloc (.cells (dkc st v v' x y r s t v'') 30)) w.heap.size 30 (dkc st v v' x y r s t v'') := Blk.new _ _ _
  have hb1 := fun k h => (ho.lt k h).2
  have hb2 := fun k h => (ho'.lt k h).2
  have hb3 := fun k h => (ho''.lt k h).2
  obtain ⟨A, c, hv, _⟩ := ho.form
  obtain ⟨A', c', hv', _⟩ := ho'.form
  obtain ⟨A'', c'', hv'', _⟩ := ho''.form
  subst hv hv' hv''
  have o0 := ho.alloc (.cells (dkc st (.slice A xs.length c) (.slice A' ys.length c') x y r s t (.slice A'' zs.length c'')) 30)
  have o0' := ho'.alloc (.cells (dkc st (.slice A xs.length c) (.slice A' ys.length c') x y r s t (.slice A'' zs.length c'')) 30)
  have o0'' := ho''.alloc (.cells (dkc st (.slice A xs.length c) (.slice A' ys.length c') x y r s t (.slice A'' zs.length c'')) 30)
  clear ho ho' ho''
  go_enter Try.func10, Try.ntmps10
  go_wp2_with fail
  refine (markStairs_any st _ _ xs ys k B B' _ o0 o0' ha hn hn' hk0 hk1).mono ?_
  rintro e w1 ⟨rfl, h1, h2, t1⟩
  have X1 := X0.turned t1 (fun hm => by rcases List.mem_append.1 hm with hm | hm; (have := hb1 _ (mem_rowL.1 hm); omega); (have := hb2 _ (mem_rowL.1 hm); omega))
  have h3 := o0''.turned t1 (fun j hj hm => by rcases List.mem_append.1 hm with hm | hm; exact hb j (mem_rowL.1 hm) hj; exact hc j (mem_rowL.1 hm) hj)
  obtain ⟨p0, p1, p2, p3, p4, p5, p6, p7, p8⟩ := X1.nine
  clear X0 o0 o0' o0''
  go_wp2_with fail
  refine (markIntS_any _ zs (k + xs.length + ys.length) B'' _ h3 hn'' (by omega) (by omega)).mono ?_
  rintro e w2 ⟨rfl, h4, hg2⟩
  have t2 := Turned.of_grown hg2 (L := rowL (.slice A'' zs.length c'')) (fun j hj => mem_rowL.2 hj)
  have h5 := h1.turned t2 (fun j hj hm => hb j hj (mem_rowL.1 hm))
  have h6 := h2.turned t2 (fun j hj hm => hc j hj (mem_rowL.1 hm))
  go_wp2_with fail
  go_ret
  exact ⟨rfl, h5, h6, h4, ((Turned.of_below (below_alloc _ _) _).trans (t1.more (fun _ h => List.mem_append.2 (.inl h)))).trans (t2.more (fun _ h => List.mem_append.2 (.inr h)))⟩

set_option maxHeartbeats 1000000 in
theorem heldDesk_any (st x y r s t : Int) (v v' v'' : Value) (n n' n'' : Nat) (k : Int) (B B' B'' : Nat) (w : World) (ho : OwnI w B v (marksL k n)) (ho' : OwnI w B' v' (marksL (k + n) n')) (ho'' : OwnI w B'' v'' (marksL (k + n + n') n'')) (hn : n ≤ 1048576) (hn' : n' ≤ 1048576) (hn'' : n'' ≤ 1048576) (hk0 : 0 ≤ k) (hk1 : k ≤ 1048576) :
    Calls Try.prog 11 #[dkv st v v' x y r s t v'', .int .i64 k] w fun e w' => e = .returned (.int .i64 (k + n + n' + n'')) ∧ Below w.heap.size w w' := by
  have X0 : Blk (w.alloc (.cells (dkc st v v' x y r s t v'') 30)) w.heap.size 30 (dkc st v v' x y r s t v'') := Blk.new _ _ _
  have o0 := ho.alloc (.cells (dkc st v v' x y r s t v'') 30)
  have o0' := ho'.alloc (.cells (dkc st v v' x y r s t v'') 30)
  have o0'' := ho''.alloc (.cells (dkc st v v' x y r s t v'') 30)
  obtain ⟨A, c, hv, _⟩ := ho.form
  obtain ⟨A', c', hv', _⟩ := ho'.form
  obtain ⟨A'', c'', hv'', _⟩ := ho''.form
  subst hv hv' hv''
  clear ho ho' ho''
  go_enter Try.func11, Try.ntmps11
  go_wp2_with fail
  refine (heldStairs_any st _ _ n n' k B B' _ o0 o0' hn hn' hk0 hk1).mono ?_
  rintro e w1 ⟨rfl, hb⟩
  have X1 := X0.below hb (by simp)
  have o1 := o0''.below hb (Nat.le_refl _)
  obtain ⟨p0, p1, p2, p3, p4, p5, p6, p7, p8⟩ := X1.nine
  have e1 : ¬ (k + (n : Int) + (n' : Int)) < 0 := by omega
  clear X0 o0 o0' o0''
  go_wp2_with fail
  refine (heldIntS_any _ n'' (k + n + n') B'' _ o1 hn'' (by omega) (by omega)).mono ?_
  rintro e w2 ⟨rfl, rfl⟩
  have e2 : ¬ (k + (n : Int) + (n' : Int) + (n'' : Int)) < 0 := by omega
  go_wp2_with fail
  go_ret
  exact ⟨rfl, (below_alloc _ _).trans (hb.mono (by simp))⟩

end Go.Proofs.Ytehffiaobjlpoaa
