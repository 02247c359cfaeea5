/- Contracts of AddClue: the program's. -/
import Derived.Test.YtehffiaobjlpoaaPzAc
import Derived.Test.YtehffiaobjlpoaaPzLb
import Derived.Deep.DeepCutAuto
namespace Go.Proofs.Ytehffiaobjlpoaa
open Go.RowKit
set_option maxRecDepth 100000

theorem rdF_cells {w : World} {B c : Nat} {ad : Addr} {ys : List Tri} (hr : RdF w B (some ad) c ys) : ∀ j u, (cellsF ys)[j]? = some u → w.cell? (ad.add j) = some u := by
  intro j u hu
  have hj : j < ys.length * 3 := by
    have := (List.getElem?_eq_some_iff.1 hu).1
    rwa [cellsF_len] at this
  obtain ⟨b, o, e, _, h0, h1, h2⟩ := hr.2 (j / 3) (by omega)
  obtain ⟨c0, c1, c2⟩ := cellsF_at ys (j / 3) (by omega)
  injection e with e
  subst e
  rw [Addr.add_lit]
  have hm : j % 3 = 0 ∨ j % 3 = 1 ∨ j % 3 = 2 := by omega
  rcases hm with hm | hm | hm
  · rw [show j = j / 3 * 3 by omega] at hu ⊢
    rw [c0] at hu
    rw [h0]; exact hu
  · rw [show j = j / 3 * 3 + 1 by omega] at hu ⊢
    rw [c1] at hu
    rw [← Nat.add_assoc, h1]; exact hu
  · rw [show j = j / 3 * 3 + 2 by omega] at hu ⊢
    rw [c2] at hu
    rw [← Nat.add_assoc, h2]; exact hu
theorem cellsF_one : ∀ (zs : List Tri), ∀ u ∈ cellsF zs, u.oneCell' = true := by
  intro zs
  induction zs with
  | nil => simp [cellsF]
  | cons z r ih =>
    intro u hu
    simp only [cellsF, List.mem_cons] at hu
    rcases hu with rfl | rfl | rfl | hu
    · rfl
    · rfl
    · rfl
    · exact ih u hu
/-- append onto a row of clues that has no room: a new row -/
theorem run_append_fullF (w : World) (ty : TypeId) (B B' : Nat) (A A' : Option Addr) (ps ys : List Tri) (c' : Nat) (hr : RdF w B A ps.length ps) (hr' : RdF w B' A' c' ys) (hy : 0 < ys.length) (hn : ps.length + ys.length ≤ 4194304) (h0 : A = none → ps.length = 0) :
    ∃ v' w', (Builtin.append_ #[50, 50] ty #[.slice A ps.length ps.length, .slice A' ys.length c']).run Try.prog w = .ok v' w' ∧ OwnF w' w.heap.size v' (ps ++ ys) ∧ Below w.heap.size w w' := by
  cases A with
  | none =>
    have hp : ps = [] := List.eq_nil_of_length_eq_zero (h0 rfl)
    subst hp
    exact run_append_rdF w ty w.heap.size B' (.slice none 0 0) [] ys (OwnF.nil _ _) A' c' hr' (by simpa using hn) (Nat.le_refl _)
  | some ad =>
    obtain ⟨ad', rfl⟩ : ∃ a', A' = some a' := by
      obtain ⟨b, o, e, _⟩ := hr'.2 0 hy
      exact ⟨_, e⟩
    obtain ⟨i0, hi, hz, hsz, hby⟩ := info_parts fl_info
    obtain ⟨v', w', hrun, h1, h2⟩ := run_append_arg_grows (P := Try.prog) w 50 ty 56 i0 (.agg #[.int .i64 0, .int .i64 0, .int .i64 0]) 3 24 Try.underlying50 hi hz hsz hby rfl (by decide) ad ps.length ps.length (cellsF ps) (cellsF_len ps) (rdF_cells hr) ad' ys.length c' (cellsF ys) (cellsF_len ys) (rdF_cells hr') (by omega) (by simp only [maxLen]; omega) (by omega)
    refine ⟨v', w', hrun, ?_, (Below.refl _ _).grown h2 (Nat.le_refl _) (fun k hk => by cases hk)⟩
    unfold OwnF
    rw [cellsF_app, List.length_append]
    exact h1
theorem step_fullF (w : World) {ops : Array Oper} {o : Oper} {a : Act} {K : Act → World → Prop} {Q : Exit → Act → World → Prop} {E : Prop} (hgd : o.guard = none) (s x : Operand)
    (ho : o.op = .call { callee := .builtin .append, args := #[s, x], argTypes := #[50, 50] }) (B B' : Nat) (A A' : Option Addr) (ps ys : List Tri) (n m c c' : Nat) (hs : a.eval s = .slice A n m) (hl : n = ps.length) (hm : m = ps.length) (hx : a.eval x = .slice A' c c') (hc : c = ys.length)
    (hr : RdF w B A ps.length ps) (hr' : RdF w B' A' c' ys) (hy : 0 < ys.length) (hn : ps.length + ys.length ≤ 4194304) (h0 : A = none → ps.length = 0)
    (h : ∀ v' w', OwnF w' w.heap.size v' (ps ++ ys) → Below w.heap.size w w' → K (a.put o.dst v') w') :
    if Region.wanted o (yielded ops a.tmps) = true then Oper.wp Try.prog o a w K Q else E := by
  subst hl hm hc
  have hw : Region.wanted o (yielded ops a.tmps) = true := by simp [Region.wanted, hgd]
  rw [if_pos hw]
  obtain ⟨v', w', hrun, h2, h3⟩ := run_append_fullF w o.type B B' A A' ps ys c' hr hr' hy hn h0
  unfold Oper.wp execOp
  simp only [ho, resolve, invoke, builtin, Sem.run_bind, Sem.run_pure, Result.andThen_ok, List.map_toArray, List.map_cons, List.map_nil, hs, hx, hrun]
  exact h v' w' h2 h3
theorem RdF.full {w : World} {B c : Nat} {A : Option Addr} {ps : List Tri} (h : RdF w B A c ps) : RdF w B A ps.length ps := ⟨Nat.le_refl _, h.2⟩
theorem RdF.none0 {w : World} {B c : Nat} {A : Option Addr} {ps : List Tri} (h : RdF w B A c ps) : A = none → ps.length = 0 := by
  intro e
  cases ps with
  | nil => rfl
  | cons y r =>
    obtain ⟨b, o, e2, _⟩ := h.2 0 (by simp)
    rw [e] at e2
    cases e2

/-- behind the longer puzzle: its cell, its row -/
def AcF (w0 : World) (qs : List Tri) (A4 : Option Addr) (n c4 g : Nat) (wx : World) : Prop :=
  w0.heap.size + 3 ≤ g ∧ Blk wx g 52 #[.slice A4 n c4] ∧ OwnF wx (w0.heap.size + 3) (.slice A4 n c4) qs ∧ Blk wx (w0.heap.size + 2) 52 #[.slice none 0 0] ∧ Below w0.heap.size w0 wx
theorem acF_new {w0 w4 : World} {qs : List Tri} {N n c4 : Nat} {A4 : Option Addr} (R4 : Blk w4 (w0.heap.size + 2) 52 #[.slice none 0 0]) (o4 : OwnF w4 N (.slice A4 n c4) qs) (bb4 : Below w0.heap.size w0 w4) (hN : w0.heap.size + 3 ≤ N) (hz : w0.heap.size + 3 ≤ w4.heap.size) :
    AcF w0 qs A4 n c4 w4.heap.size (w4.alloc (.cells #[.slice A4 n c4] 52)) :=
  ⟨hz, Blk.new _ _ _, (OwnF.mono o4 hN).alloc _, R4.alloc _, bb4.alloc bb4.size _⟩
theorem acF_set {w0 w4 : World} {qs : List Tri} {N gl n c4 : Nat} {x : Value} {A4 : Option Addr} (L9 : Blk w4 gl 52 #[x]) (R4 : Blk w4 (w0.heap.size + 2) 52 #[.slice none 0 0]) (o4 : OwnF w4 N (.slice A4 n c4) qs) (bb4 : Below w0.heap.size w0 w4) (hN : w0.heap.size + 3 ≤ N) (hz : w0.heap.size + 3 ≤ gl) (hne : ∀ i, (Value.slice A4 n c4).ownBlock = some i → gl < i) :
    AcF w0 qs A4 n c4 gl (w4.setCell ⟨gl, 0, none⟩ (.slice A4 n c4)) := by
  have T : Turned w4 (w4.setCell ⟨gl, 0, none⟩ (.slice A4 n c4)) [gl] := ⟨(below_setF w4).os, (below_setF w4).tape, (below_setF w4).output, (below_setF w4).size, fun i _ hi => Below.heap_setCell w4 _ _ i (by simpa using hi)⟩
  exact ⟨hz, L9.set_ 0 _, OwnF.turned (OwnF.mono o4 hN) T (fun i hi h2 => by have := hne i hi; simp at h2; omega), R4.turned T (by simp; omega), bb4.setCell (by simp; omega) _⟩

set_option maxHeartbeats 16000000 in
theorem implAdd9_any (A : Option Addr) (c : Nat) (ps : List Tri) (k a b : Int) (B : Nat) (w : World) (hr : RdF w B A c ps) (hB : B ≤ w.heap.size) (hn : ps.length ≤ 1048576) :
    Calls Try.prog 20 #[pzv A ps.length c, .agg #[.int .i64 k, .int .i64 a, .int .i64 b]] w (NewP w (acL ps k a b) (acB ps k a b)) := by
  have X0 : Blk (((w.alloc (.cells #[.slice A ps.length c] 52)).alloc (.cells #[.int .i64 k, .int .i64 a, .int .i64 b] 56)).alloc (.cells #[.slice none 0 0] 52)) w.heap.size 52 #[.slice A ps.length c] := ((Blk.new' (by simp)).alloc _).alloc _
  have C0 : Blk (((w.alloc (.cells #[.slice A ps.length c] 52)).alloc (.cells #[.int .i64 k, .int .i64 a, .int .i64 b] 56)).alloc (.cells #[.slice none 0 0] 52)) (w.heap.size + 1) 56 #[.int .i64 k, .int .i64 a, .int .i64 b] := (Blk.new' (by simp)).alloc _
  have R0 : Blk (((w.alloc (.cells #[.slice A ps.length c] 52)).alloc (.cells #[.int .i64 k, .int .i64 a, .int .i64 b] 56)).alloc (.cells #[.slice none 0 0] 52)) (w.heap.size + 2) 52 #[.slice none 0 0] := Blk.new' (by simp)
  have b0 : Below w.heap.size w (((w.alloc (.cells #[.slice A ps.length c] 52)).alloc (.cells #[.int .i64 k, .int .i64 a, .int .i64 b] 56)).alloc (.cells #[.slice none 0 0] 52)) := ((below_alloc _ _).alloc (by simp) _).alloc (by simp; omega) _
  have hr0 := hr.below b0 hB
  have zz : w.heap.size + 3 ≤ (((w.alloc (.cells #[.slice A ps.length c] 52)).alloc (.cells #[.int .i64 k, .int .i64 a, .int .i64 b] 56)).alloc (.cells #[.slice none 0 0] 52)).heap.size := by simp
  have z0 : B ≤ (((w.alloc (.cells #[.slice A ps.length c] 52)).alloc (.cells #[.int .i64 k, .int .i64 a, .int .i64 b] 56)).alloc (.cells #[.slice none 0 0] 52)).heap.size := by omega
  have hn' : ps.length ≤ 1048576 := hn
  clear hr
  cases hp : puzB ps
  · have HD := Lib.hid (show acB ps k a b = false ∧ acL ps k a b = [] by simp [acB, acL, hp])
    have HP := Lib.hid hp
    go_enter Try.func20, Try.ntmps20
    go_wp2_with fail
    generalize hu : (((w.alloc (.cells #[.slice A ps.length c] 52)).alloc (.cells #[.int .i64 k, .int .i64 a, .int .i64 b] 56)).alloc (.cells #[.slice none 0 0] 52)) = u at *
    clear hu hp
    refine (implIsPuzzle_any A c ps B u hr0 z0 hn').mono ?_
    rintro e w1 ⟨rfl, hb1⟩
    rw [HP.out]
    have R1 := R0.below hb1 R0.lt
    have q0 := R1.cell 0
    have f0 := R1.frozen 0
    have lR := R1.lt
    go_wp2_with fail
    have r0 := (R1.set_ 0 (.slice none 0 0)).cell 0
    refine bodyPost_ret (v := .tuple #[.agg #[.slice none 0 0], .bool false]) (by simp [results, Try.results20, go_sem, r0]) rfl ?_
    exact ⟨_, by rw [HD.out.1], by rw [HD.out.2]; exact OwnF.nil _ _, (b0.trans (hb1.mono b0.size)).setCell (p := ⟨w.heap.size + 2, 0, none⟩) (by simp) _⟩
  · have h6 := puzB_len hp
    have HP := Lib.hid hp
    have HQ := Lib.hid (puz_app (k := k) (a := a) (b := b) hp)
    go_enter Try.func20, Try.ntmps20
    go_wp2_with fail
    generalize hu : (((w.alloc (.cells #[.slice A ps.length c] 52)).alloc (.cells #[.int .i64 k, .int .i64 a, .int .i64 b] 56)).alloc (.cells #[.slice none 0 0] 52)) = u at *
    clear hu hp
    refine (implIsPuzzle_any A c ps B u hr0 z0 hn').mono ?_
    rintro e w1 ⟨rfl, hb1⟩
    rw [HP.out]
    have X1 := X0.below hb1 X0.lt
    have C1 := C0.below hb1 C0.lt
    have R1 := R0.below hb1 R0.lt
    have hr1 := hr0.below hb1 z0
    have z1 := Nat.le_trans z0 hb1.size
    have y1 := Nat.le_trans zz hb1.size
    have bw := b0.trans (hb1.mono b0.size)
    clear hb1 X0 C0 R0 hr0
    have p0 := X1.cell 0
    have lX := X1.lt
    obtain ⟨d0, d1, d2⟩ := C1.three
    have lC := C1.lt
    have q0 := R1.cell 0
    have f0 := R1.frozen 0
    have lR := R1.lt
    go_wp2_with fail
    go_region_held3 (fun u => u.cell? ⟨w.heap.size, 0, none⟩ = some (.slice A ps.length c) ∧ u.cell? ⟨w.heap.size + 1, 0, none⟩ = some (.int .i64 k) ∧ u.cell? ⟨w.heap.size + 1, 1, none⟩ = some (.int .i64 a) ∧ u.cell? ⟨w.heap.size + 1, 2, none⟩ = some (.int .i64 b)) (first | exact ⟨p0, d0, d1, d2⟩ | exact ⟨x3, e0, e1, e2⟩ | exact ⟨x4, y4, y5, y6⟩ | exact ⟨(X1.below (b4.setCell (p := ⟨_, 0, none⟩) (by omega) _) X1.lt).cell 0, (C1.below (b4.setCell (p := ⟨_, 0, none⟩) (by omega) _) C1.lt).cell 0, (C1.below (b4.setCell (p := ⟨_, 0, none⟩) (by omega) _) C1.lt).cell 1, (C1.below (b4.setCell (p := ⟨_, 0, none⟩) (by omega) _) C1.lt).cell 2⟩ | exact ⟨(X1.below (b4.setCell (p := ⟨w1.heap.size, 0, none⟩) (Nat.le_refl _) _) X1.lt).cell 0, (C1.below (b4.setCell (p := ⟨w1.heap.size, 0, none⟩) (Nat.le_refl _) _) C1.lt).cell 0, (C1.below (b4.setCell (p := ⟨w1.heap.size, 0, none⟩) (Nat.le_refl _) _) C1.lt).cell 1, (C1.below (b4.setCell (p := ⟨w1.heap.size, 0, none⟩) (Nat.le_refl _) _) C1.lt).cell 2⟩ | exact ⟨(X1.below (b4.setCell (p := ⟨w1.heap.size + 1, 0, none⟩) (Nat.le_succ _) _) X1.lt).cell 0, (C1.below (b4.setCell (p := ⟨w1.heap.size + 1, 0, none⟩) (Nat.le_succ _) _) C1.lt).cell 0, (C1.below (b4.setCell (p := ⟨w1.heap.size + 1, 0, none⟩) (Nat.le_succ _) _) C1.lt).cell 1, (C1.below (b4.setCell (p := ⟨w1.heap.size + 1, 0, none⟩) (Nat.le_succ _) _) C1.lt).cell 2⟩ | exact ⟨(X1.below (b4.setCell (p := ⟨w3.heap.size, 0, none⟩) b3.size _) X1.lt).cell 0, (C1.below (b4.setCell (p := ⟨w3.heap.size, 0, none⟩) b3.size _) C1.lt).cell 0, (C1.below (b4.setCell (p := ⟨w3.heap.size, 0, none⟩) b3.size _) C1.lt).cell 1, (C1.below (b4.setCell (p := ⟨w3.heap.size, 0, none⟩) b3.size _) C1.lt).cell 2⟩ | exact ⟨(X1.below (b4.setCell (p := ⟨w3.heap.size + 1, 0, none⟩) (Nat.le_succ_of_le b3.size) _) X1.lt).cell 0, (C1.below (b4.setCell (p := ⟨w3.heap.size + 1, 0, none⟩) (Nat.le_succ_of_le b3.size) _) C1.lt).cell 0, (C1.below (b4.setCell (p := ⟨w3.heap.size + 1, 0, none⟩) (Nat.le_succ_of_le b3.size) _) C1.lt).cell 1, (C1.below (b4.setCell (p := ⟨w3.heap.size + 1, 0, none⟩) (Nat.le_succ_of_le b3.size) _) C1.lt).cell 2⟩ | go_keep)
      (first | (refine step_fullF ((w3.alloc (.cells #[.int .i64 k, .int .i64 a, .int .i64 b] 56)).alloc (.cells #[.slice none 0 0] 52)) (by rfl) _ _ (by rfl) B _ A _ ps [(k, a, b)] _ _ _ 1 (by rfl) rfl rfl (by rfl) rfl (hr3.below ((below_alloc w3 (.cells #[.int .i64 k, .int .i64 a, .int .i64 b] 56)).alloc (by simp) (.cells #[.slice none 0 0] 52)) z3).full (blk_rd1c ((Blk.new' (by simp)).alloc _)) (by simp) (by simp; omega) hr3.none0 ?_; intro v4 w4 o4' k4; have b4 : Below w1.heap.size w1 w4 := (b3.trans (((below_alloc w3 (.cells #[.int .i64 k, .int .i64 a, .int .i64 b] 56)).alloc (by simp) (.cells #[.slice none 0 0] 52)).mono b3.size)).trans (k4.mono (b3.trans (((below_alloc w3 (.cells #[.int .i64 k, .int .i64 a, .int .i64 b] 56)).alloc (by simp) (.cells #[.slice none 0 0] 52)).mono b3.size)).size); have o4 : OwnF w4 w1.heap.size v4 (ps ++ [(k, a, b)]) := o4'.mono (b3.trans (((below_alloc w3 (.cells #[.int .i64 k, .int .i64 a, .int .i64 b] 56)).alloc (by simp) (.cells #[.slice none 0 0] 52)).mono b3.size)).size; have L9 : Blk w4 (w3.heap.size + 1) 52 #[.slice none 0 0] := Blk.below (w := ((w3.alloc (.cells #[.int .i64 k, .int .i64 a, .int .i64 b] 56)).alloc (.cells #[.slice none 0 0] 52))) (Blk.new' (by simp)) k4 (by simp; try omega); have lo4 : ∀ i, v4.ownBlock = some i → ((w3.alloc (.cells #[.int .i64 k, .int .i64 a, .int .i64 b] 56)).alloc (.cells #[.slice none 0 0] 52)).heap.size ≤ i := fun i hi => (o4'.lt i hi).1; (try simp at lo4); clear o4' k4; obtain ⟨A4, c4, hv4⟩ := o4.form; subst hv4; have R4 := R1.below b4 lR; have r4 := R4.cell 0; have g4 := R4.frozen 0; have lR4 := R4.lt; have bb4 := bw.trans (b4.mono bw.size); have x4 := (X1.below b4 lX).cell 0; obtain ⟨y4, y5, y6⟩ := (C1.below b4 lC).three; (first | (have l0 := L9.cell 0; have lf := L9.frozen 0; have lL := L9.lt) | skip)) | (refine step_fullF (w3.alloc (.cells #[.int .i64 k, .int .i64 a, .int .i64 b] 56)) (by rfl) _ _ (by rfl) B _ A _ ps [(k, a, b)] _ _ _ 1 (by rfl) rfl rfl (by rfl) rfl (hr3.below (below_alloc w3 (.cells #[.int .i64 k, .int .i64 a, .int .i64 b] 56)) z3).full (blk_rd1c (Blk.new' (by simp))) (by simp) (by simp; omega) hr3.none0 ?_; intro v4 w4 o4' k4; have b4 : Below w1.heap.size w1 w4 := (b3.trans ((below_alloc w3 (.cells #[.int .i64 k, .int .i64 a, .int .i64 b] 56)).mono b3.size)).trans (k4.mono (b3.trans ((below_alloc w3 (.cells #[.int .i64 k, .int .i64 a, .int .i64 b] 56)).mono b3.size)).size); have o4 : OwnF w4 w1.heap.size v4 (ps ++ [(k, a, b)]) := o4'.mono (b3.trans ((below_alloc w3 (.cells #[.int .i64 k, .int .i64 a, .int .i64 b] 56)).mono b3.size)).size; (first | (have L9 := L9.below (((below_alloc w3 (.cells #[.int .i64 k, .int .i64 a, .int .i64 b] 56))).trans (k4.mono (below_alloc w3 (.cells #[.int .i64 k, .int .i64 a, .int .i64 b] 56)).size)) L9.lt) | skip); have lo4 : ∀ i, v4.ownBlock = some i → (w3.alloc (.cells #[.int .i64 k, .int .i64 a, .int .i64 b] 56)).heap.size ≤ i := fun i hi => (o4'.lt i hi).1; (try simp at lo4); clear o4' k4; obtain ⟨A4, c4, hv4⟩ := o4.form; subst hv4; have R4 := R1.below b4 lR; have r4 := R4.cell 0; have g4 := R4.frozen 0; have lR4 := R4.lt; have bb4 := bw.trans (b4.mono bw.size); have x4 := (X1.below b4 lX).cell 0; obtain ⟨y4, y5, y6⟩ := (C1.below b4 lC).three; (first | (have l0 := L9.cell 0; have lf := L9.frozen 0; have lL := L9.lt) | skip)) | (refine step_fullF w3 (by rfl) _ _ (by rfl) B _ A _ ps [(k, a, b)] _ _ _ 1 (by rfl) rfl rfl (by rfl) rfl (hr3.below (Below.refl w3.heap.size w3) z3).full (blk_rd1c (C9.below (Below.refl w3.heap.size w3) C9.lt)) (by simp) (by simp; omega) hr3.none0 ?_; intro v4 w4 o4' k4; have b4 : Below w1.heap.size w1 w4 := (b3.trans ((Below.refl w3.heap.size w3).mono b3.size)).trans (k4.mono (b3.trans ((Below.refl w3.heap.size w3).mono b3.size)).size); have o4 : OwnF w4 w1.heap.size v4 (ps ++ [(k, a, b)]) := o4'.mono (b3.trans ((Below.refl w3.heap.size w3).mono b3.size)).size; (first | (have L9 := L9.below (((Below.refl w3.heap.size w3)).trans (k4.mono (Below.refl w3.heap.size w3).size)) L9.lt) | skip); have lo4 : ∀ i, v4.ownBlock = some i → w3.heap.size ≤ i := fun i hi => (o4'.lt i hi).1; (try simp at lo4); clear o4' k4; obtain ⟨A4, c4, hv4⟩ := o4.form; subst hv4; have R4 := R1.below b4 lR; have r4 := R4.cell 0; have g4 := R4.frozen 0; have lR4 := R4.lt; have bb4 := bw.trans (b4.mono bw.size); have x4 := (X1.below b4 lX).cell 0; obtain ⟨y4, y5, y6⟩ := (C1.below b4 lC).three; (first | (have l0 := L9.cell 0; have lf := L9.frozen 0; have lL := L9.lt) | skip)) | (refine step_fullF (w3.alloc (.cells #[.slice none 0 0] 52)) (by rfl) _ _ (by rfl) B _ A _ ps [(k, a, b)] _ _ _ 1 (by rfl) rfl rfl (by rfl) rfl (hr3.below (below_alloc w3 (.cells #[.slice none 0 0] 52)) z3).full (blk_rd1c (C9.below (below_alloc w3 (.cells #[.slice none 0 0] 52)) C9.lt)) (by simp) (by simp; omega) hr3.none0 ?_; intro v4 w4 o4' k4; have b4 : Below w1.heap.size w1 w4 := (b3.trans ((below_alloc w3 (.cells #[.slice none 0 0] 52)).mono b3.size)).trans (k4.mono (b3.trans ((below_alloc w3 (.cells #[.slice none 0 0] 52)).mono b3.size)).size); have o4 : OwnF w4 w1.heap.size v4 (ps ++ [(k, a, b)]) := o4'.mono (b3.trans ((below_alloc w3 (.cells #[.slice none 0 0] 52)).mono b3.size)).size; have L9 : Blk w4 (w3.heap.size) 52 #[.slice none 0 0] := Blk.below (w := (w3.alloc (.cells #[.slice none 0 0] 52))) (Blk.new' (by simp)) k4 (by simp; try omega); have lo4 : ∀ i, v4.ownBlock = some i → (w3.alloc (.cells #[.slice none 0 0] 52)).heap.size ≤ i := fun i hi => (o4'.lt i hi).1; (try simp at lo4); clear o4' k4; obtain ⟨A4, c4, hv4⟩ := o4.form; subst hv4; have R4 := R1.below b4 lR; have r4 := R4.cell 0; have g4 := R4.frozen 0; have lR4 := R4.lt; have bb4 := bw.trans (b4.mono bw.size); have x4 := (X1.below b4 lX).cell 0; obtain ⟨y4, y5, y6⟩ := (C1.below b4 lC).three; (first | (have l0 := L9.cell 0; have lf := L9.frozen 0; have lL := L9.lt) | skip)) | (refine step_fullF ((w3.alloc (.cells #[.slice none 0 0] 52)).alloc (.cells #[.int .i64 k, .int .i64 a, .int .i64 b] 56)) (by rfl) _ _ (by rfl) B _ A _ ps [(k, a, b)] _ _ _ 1 (by rfl) rfl rfl (by rfl) rfl (hr3.below ((below_alloc w3 (.cells #[.slice none 0 0] 52)).alloc (by simp) (.cells #[.int .i64 k, .int .i64 a, .int .i64 b] 56)) z3).full (blk_rd1c (Blk.new' (by simp))) (by simp) (by simp; omega) hr3.none0 ?_; intro v4 w4 o4' k4; have b4 : Below w1.heap.size w1 w4 := (b3.trans (((below_alloc w3 (.cells #[.slice none 0 0] 52)).alloc (by simp) (.cells #[.int .i64 k, .int .i64 a, .int .i64 b] 56)).mono b3.size)).trans (k4.mono (b3.trans (((below_alloc w3 (.cells #[.slice none 0 0] 52)).alloc (by simp) (.cells #[.int .i64 k, .int .i64 a, .int .i64 b] 56)).mono b3.size)).size); have o4 : OwnF w4 w1.heap.size v4 (ps ++ [(k, a, b)]) := o4'.mono (b3.trans (((below_alloc w3 (.cells #[.slice none 0 0] 52)).alloc (by simp) (.cells #[.int .i64 k, .int .i64 a, .int .i64 b] 56)).mono b3.size)).size; have L9 : Blk w4 (w3.heap.size) 52 #[.slice none 0 0] := Blk.below (w := ((w3.alloc (.cells #[.slice none 0 0] 52)).alloc (.cells #[.int .i64 k, .int .i64 a, .int .i64 b] 56))) ((Blk.new' (by simp)).alloc _) k4 (by simp; try omega); have lo4 : ∀ i, v4.ownBlock = some i → ((w3.alloc (.cells #[.slice none 0 0] 52)).alloc (.cells #[.int .i64 k, .int .i64 a, .int .i64 b] 56)).heap.size ≤ i := fun i hi => (o4'.lt i hi).1; (try simp at lo4); clear o4' k4; obtain ⟨A4, c4, hv4⟩ := o4.form; subst hv4; have R4 := R1.below b4 lR; have r4 := R4.cell 0; have g4 := R4.frozen 0; have lR4 := R4.lt; have bb4 := bw.trans (b4.mono bw.size); have x4 := (X1.below b4 lX).cell 0; obtain ⟨y4, y5, y6⟩ := (C1.below b4 lC).three; (first | (have l0 := L9.cell 0; have lf := L9.frozen 0; have lL := L9.lt) | skip)) | (go_at_call 50; first | (refine (firstClues_any A c ps ps.length B w1.drew (hr1.below (Below.refl w1.heap.size w1).drew z1) (by show B ≤ w1.heap.size; (try simp); omega) hn' (Nat.le_refl _)).mono ?_; rintro e w3 ⟨rfl, k3⟩; have k9 : Below w1.heap.size w1 w3 := below_undrew k3; have b3 : Below w1.heap.size w1 w3 := (Below.refl w1.heap.size w1).trans (k9.mono (Below.refl w1.heap.size w1).size); have zF : w1.heap.size ≤ w3.heap.size := k9.size; (try simp at zF); clear k9 k3; obtain ⟨e0, e1, e2⟩ := (C1.below b3 lC).three; have eC := (C1.below b3 lC).lt; have x3 := (X1.below b3 lX).cell 0; have lX3 := (X1.below b3 lX).lt; have hr3 := hr1.below b3 z1; have z3 : B ≤ w3.heap.size := Nat.le_trans z1 b3.size) | (refine (firstClues_any A c ps ps.length B (w1.alloc (.cells #[.int .i64 k, .int .i64 a, .int .i64 b] 56)).drew (hr1.below (below_alloc w1 (.cells #[.int .i64 k, .int .i64 a, .int .i64 b] 56)).drew z1) (by show B ≤ (w1.alloc (.cells #[.int .i64 k, .int .i64 a, .int .i64 b] 56)).heap.size; (try simp); omega) hn' (Nat.le_refl _)).mono ?_; rintro e w3 ⟨rfl, k3⟩; have k9 : Below (w1.alloc (.cells #[.int .i64 k, .int .i64 a, .int .i64 b] 56)).heap.size (w1.alloc (.cells #[.int .i64 k, .int .i64 a, .int .i64 b] 56)) w3 := below_undrew k3; have b3 : Below w1.heap.size w1 w3 := (below_alloc w1 (.cells #[.int .i64 k, .int .i64 a, .int .i64 b] 56)).trans (k9.mono (below_alloc w1 (.cells #[.int .i64 k, .int .i64 a, .int .i64 b] 56)).size); have C9 : Blk w3 (w1.heap.size) 56 #[.int .i64 k, .int .i64 a, .int .i64 b] := Blk.below (w := (w1.alloc (.cells #[.int .i64 k, .int .i64 a, .int .i64 b] 56))) (Blk.new' (by simp)) k9 (by simp; try omega); have zF : (w1.alloc (.cells #[.int .i64 k, .int .i64 a, .int .i64 b] 56)).heap.size ≤ w3.heap.size := k9.size; (try simp at zF); clear k9 k3; obtain ⟨e0, e1, e2⟩ := (C1.below b3 lC).three; have eC := (C1.below b3 lC).lt; have x3 := (X1.below b3 lX).cell 0; have lX3 := (X1.below b3 lX).lt; have hr3 := hr1.below b3 z1; have z3 : B ≤ w3.heap.size := Nat.le_trans z1 b3.size) | (refine (firstClues_any A c ps ps.length B (w1.alloc (.cells #[.slice none 0 0] 52)).drew (hr1.below (below_alloc w1 (.cells #[.slice none 0 0] 52)).drew z1) (by show B ≤ (w1.alloc (.cells #[.slice none 0 0] 52)).heap.size; (try simp); omega) hn' (Nat.le_refl _)).mono ?_; rintro e w3 ⟨rfl, k3⟩; have k9 : Below (w1.alloc (.cells #[.slice none 0 0] 52)).heap.size (w1.alloc (.cells #[.slice none 0 0] 52)) w3 := below_undrew k3; have b3 : Below w1.heap.size w1 w3 := (below_alloc w1 (.cells #[.slice none 0 0] 52)).trans (k9.mono (below_alloc w1 (.cells #[.slice none 0 0] 52)).size); have L9 : Blk w3 (w1.heap.size) 52 #[.slice none 0 0] := Blk.below (w := (w1.alloc (.cells #[.slice none 0 0] 52))) (Blk.new' (by simp)) k9 (by simp; try omega); have zF : (w1.alloc (.cells #[.slice none 0 0] 52)).heap.size ≤ w3.heap.size := k9.size; (try simp at zF); clear k9 k3; obtain ⟨e0, e1, e2⟩ := (C1.below b3 lC).three; have eC := (C1.below b3 lC).lt; have x3 := (X1.below b3 lX).cell 0; have lX3 := (X1.below b3 lX).lt; have hr3 := hr1.below b3 z1; have z3 : B ≤ w3.heap.size := Nat.le_trans z1 b3.size) | (refine (firstClues_any A c ps ps.length B ((w1.alloc (.cells #[.int .i64 k, .int .i64 a, .int .i64 b] 56)).alloc (.cells #[.slice none 0 0] 52)).drew (hr1.below ((below_alloc w1 (.cells #[.int .i64 k, .int .i64 a, .int .i64 b] 56)).alloc (by simp) (.cells #[.slice none 0 0] 52)).drew z1) (by show B ≤ ((w1.alloc (.cells #[.int .i64 k, .int .i64 a, .int .i64 b] 56)).alloc (.cells #[.slice none 0 0] 52)).heap.size; (try simp); omega) hn' (Nat.le_refl _)).mono ?_; rintro e w3 ⟨rfl, k3⟩; have k9 : Below ((w1.alloc (.cells #[.int .i64 k, .int .i64 a, .int .i64 b] 56)).alloc (.cells #[.slice none 0 0] 52)).heap.size ((w1.alloc (.cells #[.int .i64 k, .int .i64 a, .int .i64 b] 56)).alloc (.cells #[.slice none 0 0] 52)) w3 := below_undrew k3; have b3 : Below w1.heap.size w1 w3 := ((below_alloc w1 (.cells #[.int .i64 k, .int .i64 a, .int .i64 b] 56)).alloc (by simp) (.cells #[.slice none 0 0] 52)).trans (k9.mono ((below_alloc w1 (.cells #[.int .i64 k, .int .i64 a, .int .i64 b] 56)).alloc (by simp) (.cells #[.slice none 0 0] 52)).size); have C9 : Blk w3 (w1.heap.size) 56 #[.int .i64 k, .int .i64 a, .int .i64 b] := Blk.below (w := ((w1.alloc (.cells #[.int .i64 k, .int .i64 a, .int .i64 b] 56)).alloc (.cells #[.slice none 0 0] 52))) ((Blk.new' (by simp)).alloc _) k9 (by simp; try omega); have L9 : Blk w3 (w1.heap.size + 1) 52 #[.slice none 0 0] := Blk.below (w := ((w1.alloc (.cells #[.int .i64 k, .int .i64 a, .int .i64 b] 56)).alloc (.cells #[.slice none 0 0] 52))) (Blk.new' (by simp)) k9 (by simp; try omega); have zF : ((w1.alloc (.cells #[.int .i64 k, .int .i64 a, .int .i64 b] 56)).alloc (.cells #[.slice none 0 0] 52)).heap.size ≤ w3.heap.size := k9.size; (try simp at zF); clear k9 k3; obtain ⟨e0, e1, e2⟩ := (C1.below b3 lC).three; have eC := (C1.below b3 lC).lt; have x3 := (X1.below b3 lX).cell 0; have lX3 := (X1.below b3 lX).lt; have hr3 := hr1.below b3 z1; have z3 : B ≤ w3.heap.size := Nat.le_trans z1 b3.size) | (refine (firstClues_any A c ps ps.length B ((w1.alloc (.cells #[.slice none 0 0] 52)).alloc (.cells #[.int .i64 k, .int .i64 a, .int .i64 b] 56)).drew (hr1.below ((below_alloc w1 (.cells #[.slice none 0 0] 52)).alloc (by simp) (.cells #[.int .i64 k, .int .i64 a, .int .i64 b] 56)).drew z1) (by show B ≤ ((w1.alloc (.cells #[.slice none 0 0] 52)).alloc (.cells #[.int .i64 k, .int .i64 a, .int .i64 b] 56)).heap.size; (try simp); omega) hn' (Nat.le_refl _)).mono ?_; rintro e w3 ⟨rfl, k3⟩; have k9 : Below ((w1.alloc (.cells #[.slice none 0 0] 52)).alloc (.cells #[.int .i64 k, .int .i64 a, .int .i64 b] 56)).heap.size ((w1.alloc (.cells #[.slice none 0 0] 52)).alloc (.cells #[.int .i64 k, .int .i64 a, .int .i64 b] 56)) w3 := below_undrew k3; have b3 : Below w1.heap.size w1 w3 := ((below_alloc w1 (.cells #[.slice none 0 0] 52)).alloc (by simp) (.cells #[.int .i64 k, .int .i64 a, .int .i64 b] 56)).trans (k9.mono ((below_alloc w1 (.cells #[.slice none 0 0] 52)).alloc (by simp) (.cells #[.int .i64 k, .int .i64 a, .int .i64 b] 56)).size); have L9 : Blk w3 (w1.heap.size) 52 #[.slice none 0 0] := Blk.below (w := ((w1.alloc (.cells #[.slice none 0 0] 52)).alloc (.cells #[.int .i64 k, .int .i64 a, .int .i64 b] 56))) ((Blk.new' (by simp)).alloc _) k9 (by simp; try omega); have C9 : Blk w3 (w1.heap.size + 1) 56 #[.int .i64 k, .int .i64 a, .int .i64 b] := Blk.below (w := ((w1.alloc (.cells #[.slice none 0 0] 52)).alloc (.cells #[.int .i64 k, .int .i64 a, .int .i64 b] 56))) (Blk.new' (by simp)) k9 (by simp; try omega); have zF : ((w1.alloc (.cells #[.slice none 0 0] 52)).alloc (.cells #[.int .i64 k, .int .i64 a, .int .i64 b] 56)).heap.size ≤ w3.heap.size := k9.size; (try simp at zF); clear k9 k3; obtain ⟨e0, e1, e2⟩ := (C1.below b3 lC).three; have eC := (C1.below b3 lC).lt; have x3 := (X1.below b3 lX).cell 0; have lX3 := (X1.below b3 lX).lt; have hr3 := hr1.below b3 z1; have z3 : B ≤ w3.heap.size := Nat.le_trans z1 b3.size)) | fail)
    all_goals
      have el : (ps ++ [(k, a, b)]).length = ps.length + 1 := by simp
      have hql : (ps ++ [(k, a, b)]).length ≤ 1048576 := by simp; omega
      rw [el] at o4 lo4
      first
        | have hc := acF_set (w0 := w) L9 R4 o4 bb4 (by omega) (by omega) (fun i hi => by have := lo4 i hi; omega)
        | have hc := acF_new (w0 := w) R4 o4 bb4 (by omega) (by omega)
      obtain ⟨hg, L5, o5, R5, bb5⟩ := hc
      have HI := implIsPuzzle_any A4 c4 (ps ++ [(k, a, b)]) _ _ (show RdF _ _ A4 c4 (ps ++ [(k, a, b)]) from OwnF.rd o5) (Nat.le_refl _) hql
      rw [el] at HI
      have HI := Lib.hid HI
      have HD0 := Lib.hid (show acB ps k a b = false → acL ps k a b = [] from fun h => by simp [acL, h])
      have HD1 := Lib.hid (show acB ps k a b = true → acL ps k a b = ps ++ [(k, a, b)] from fun h => by simp [acL, h])
      clear el hql hr1 C1 X1 R1 p0 lX d0 d1 d2 lC q0 f0 lR y1 z1 bw R4 r4 g4 lR4 bb4
      generalize ps ++ [(k, a, b)] = qs at *
      have l0 := L5.cell 0
      have lL := L5.lt
      go_wp2_with fail
      refine HI.out.mono ?_
      rintro e w6 ⟨rfl, hb6⟩
      rw [HQ.out]
      have L6 := L5.below hb6 L5.lt
      have R6 := R5.below hb6 R5.lt
      have o6 := OwnF.below o5 hb6 (Nat.le_refl _)
      have bw6 := bb5.trans (hb6.mono bb5.size)
      clear l0 L5 R5 o5 bb5 hb6 lL HI
      have l0 := L6.cell 0
      have lL := L6.lt
      have q0 := R6.cell 0
      have f0 := R6.frozen 0
      have lR := R6.lt
      cases hA : acB ps k a b
      · have HD := Lib.hid (HD0.out hA)
        have HA := Lib.hid hA
        clear hA
        go_wp2_with fail
        have r0 := (R6.set_ 0 (.slice none 0 0)).cell 0
        refine bodyPost_ret (v := .tuple #[.agg #[.slice none 0 0], .bool false]) (by simp [results, Try.results20, go_sem, r0]) rfl ?_
        exact ⟨_, by rw [HA.out], by rw [HD.out]; exact OwnF.nil _ _, bw6.setCell (p := ⟨w.heap.size + 2, 0, none⟩) (by simp) _⟩
      · have HD := Lib.hid (HD1.out hA)
        have HA := Lib.hid hA
        clear hA
        have lt6 := fun i h => (OwnF.lt o6 i h).1
        go_wp2_with fail
        have r0 := (R6.set_ 0 (.slice A4 (ps.length + 1) c4)).cell 0
        refine bodyPost_ret (v := .tuple #[.agg #[.slice A4 (ps.length + 1) c4], .bool true]) (by simp [results, Try.results20, go_sem, r0]) rfl ?_
        refine ⟨_, by rw [HA.out], ?_, bw6.setCell (p := ⟨w.heap.size + 2, 0, none⟩) (by simp) _⟩
        rw [HD.out]
        exact OwnF.turned (OwnF.mono o6 (by omega)) (L := [w.heap.size + 2]) ⟨(below_setF w6).os, (below_setF w6).tape, (below_setF w6).output, (below_setF w6).size, fun i _ hi => Below.heap_setCell w6 _ _ i (by simpa using hi)⟩ (fun i hi h2 => by have := lt6 i hi; simp at h2; omega)

end Go.Proofs.Ytehffiaobjlpoaa
