/- Contracts of AddClue: the model's and the program's. -/
import Derived.Test.YtehffiaobjlpoaaPzAp
import Derived.Test.YtehffiaobjlpoaaPzM
import Derived.Test.YtehffiaobjlpoaaPzS
import Derived.ArgAppend
namespace Go.Proofs.Ytehffiaobjlpoaa
open Go.RowKit
set_option maxRecDepth 100000

theorem run_append_rdT (w : World) (ty : TypeId) (B0 B : Nat) (v : Value) (xs ys : List Tri) (hown : OwnF w B0 v xs) (A : Option Addr) (c : Nat) (hr : RdF w B A c ys) (hn : xs.length + ys.length ≤ 4194304) (hB : B0 ≤ w.heap.size) :
    ∃ v' w', (Builtin.append_ #[50, 50] ty #[v, .slice A ys.length c]).run Try.prog w = .ok v' w' ∧ OwnF w' B0 v' (xs ++ ys) ∧ Turned w w' (rowL v) := by
  obtain ⟨i0, hi, hz, hsz, hby⟩ := info_parts fl_info
  rcases A with _ | ad
  · have hy : ys = [] := by
      cases ys with
      | nil => rfl
      | cons y r =>
        obtain ⟨b, o, e, _⟩ := hr.2 0 (by simp)
        cases e
    subst hy
    refine ⟨v, w, ?_, by simpa using hown, Turned.refl _ _⟩
    rcases hown.2 with ⟨rfl, h0⟩ | ⟨g, cap, cur, rfl, _, _, hnc, _⟩
    · simp [Builtin.append_, run_underlying Try.underlying50, sizeOf, typeInfo, hi, Builtin.lenOf, Builtin.firstCells]
    · simp [Builtin.append_, run_underlying Try.underlying50, sizeOf, typeInfo, hi, Builtin.lenOf, Builtin.firstCells, hnc, storeCells]
  · have hnews : ∀ j u, (cellsF ys)[j]? = some u → w.cell? (ad.add j) = some u := by
      intro j u hu
      have hj : j < ys.length * 3 := by
        have := (List.getElem?_eq_some_iff.1 hu).1
        rwa [cellsF_len] at this
      obtain ⟨b, o, e, _, h0, h1, h2⟩ := hr.2 (j / 3) (by omega)
      obtain ⟨c0, c1, c2⟩ := cellsF_at ys (j / 3) (by omega)
      injection e with e
      subst e
      rw [Addr.add_lit]
      have hm : j % 3 = 0 ∨ j % 3 = 1 ∨ j % 3 = 2 := by omega
      rcases hm with hm | hm | hm
      · rw [show j = j / 3 * 3 by omega] at hu ⊢
        rw [c0] at hu
        rw [h0]; exact hu
      · rw [show j = j / 3 * 3 + 1 by omega] at hu ⊢
        rw [c1] at hu
        rw [← Nat.add_assoc, h1]; exact hu
      · rw [show j = j / 3 * 3 + 2 by omega] at hu ⊢
        rw [c2] at hu
        rw [← Nat.add_assoc, h2]; exact hu
    have hone : ∀ (zs : List Tri), ∀ u ∈ cellsF zs, u.oneCell' = true := by
      intro zs
      induction zs with
      | nil => simp [cellsF]
      | cons z r ih =>
        intro u hu
        simp only [cellsF, List.mem_cons] at hu
        rcases hu with rfl | rfl | rfl | hu
        · rfl
        · rfl
        · rfl
        · exact ih u hu
    obtain ⟨v', w', hrun, h1, h2, _, h4⟩ := run_append_own_at (P := Try.prog) w B0 50 ty 56 i0 (.agg #[.int .i64 0, .int .i64 0, .int .i64 0]) 3 24 Try.underlying50 hi hz hsz hby rfl (by decide) v xs.length _ hown ad ys.length c (cellsF ys) (cellsF_len ys) hnews (hone ys) (by simp only [maxLen]; omega) (by omega) hB
    refine ⟨v', w', hrun, ?_, Turned.of_grown h2 (fun k hk => mem_rowL.2 hk)⟩
    unfold OwnF
    rw [cellsF_app, List.length_append]
    exact h1
theorem step_appT (w : World) {ops : Array Oper} {o : Oper} {a : Act} {K : Act → World → Prop} {Q : Exit → Act → World → Prop} {E : Prop} (hgd : o.guard = none) (s x : Operand)
    (ho : o.op = .call { callee := .builtin .append, args := #[s, x], argTypes := #[50, 50] }) (B0 B : Nat) (v : Value) (xs ys : List Tri) (hs : a.eval s = v) (hown : OwnF w B0 v xs) (A : Option Addr) (n c : Nat) (hl : n = ys.length) (hx : a.eval x = .slice A n c)
    (hr : RdF w B A c ys) (hn : xs.length + ys.length ≤ 4194304) (hB : B0 ≤ w.heap.size)
    (h : ∀ v' w', OwnF w' B0 v' (xs ++ ys) → Turned w w' (rowL v) → K (a.put o.dst v') w') :
    if Region.wanted o (yielded ops a.tmps) = true then Oper.wp Try.prog o a w K Q else E := by
  subst hl
  have hw : Region.wanted o (yielded ops a.tmps) = true := by simp [Region.wanted, hgd]
  rw [if_pos hw]
  obtain ⟨v', w', hrun, h2, h3⟩ := run_append_rdT w o.type B0 B v xs ys hown A c hr hn hB
  unfold Oper.wp execOp
  simp only [ho, resolve, invoke, builtin, Sem.run_bind, Sem.run_pure, Result.andThen_ok, List.map_toArray, List.map_cons, List.map_nil, hs, hx, hrun]
  exact h v' w' h2 h3
theorem turned_undrewF {a w : World} {L : List Nat} (h : Turned a.drew w L) : Turned a w L := ⟨h.os, h.tape, h.output, h.size, h.block⟩

theorem below_setF (w : World) {g : Nat} {v : Value} : Below g w (w.setCell ⟨g, 0, none⟩ v) := (Below.refl g w).setCell (p := ⟨g, 0, none⟩) (Nat.le_refl g) _

def acB (ps : List Tri) (k a b : Int) : Bool := puzB ps && (clueB k a b && !decide (ps.length = 6))
def acL (ps : List Tri) (k a b : Int) : List Tri := if acB ps k a b then ps ++ [(k, a, b)] else []
theorem acL_len (ps : List Tri) (k a b : Int) (h : ps.length ≤ 1048575) : (acL ps k a b).length ≤ 1048576 := by
  unfold acL
  split
  · simp; omega
  · simp
theorem puz_app {ps : List Tri} {k a b : Int} (h : puzB ps = true) : puzB (ps ++ [(k, a, b)]) = acB ps k a b := by
  have h2 := h
  simp only [puzB, Bool.and_eq_true, decide_eq_true_eq] at h2
  simp only [acB, Bool.true_and, puzB, List.length_append, List.length_cons, List.length_nil, List.all_append, h2.2, List.all_cons, List.all_nil, Bool.and_true, clB]
  cases clueB k a b
  · simp
  · have : (ps.length + (0 + 1) ≤ 6) ↔ ¬ ps.length = 6 := by omega
    simp only [this]
    by_cases h6 : ps.length = 6
    · simp [h6]
    · simp [h6, h2.1]
theorem blk_rd1c {w : World} {g : Nat} {k a b : Int} (h : Blk w g 56 #[.int .i64 k, .int .i64 a, .int .i64 b]) : RdF w w.heap.size (some ⟨g, 0, none⟩) 1 [(k, a, b)] :=
  blk_rd (ps := [(k, a, b)]) h (by simp)

set_option maxHeartbeats 2000000 in
theorem specAdd9_any (A : Option Addr) (c : Nat) (ps : List Tri) (k a b : Int) (B : Nat) (w : World) (hr : RdF w B A c ps) (hB : B ≤ w.heap.size) (hn : ps.length ≤ 1048576) :
    Calls Try.prog 17 #[pzv A ps.length c, .agg #[.int .i64 k, .int .i64 a, .int .i64 b]] w (NewP w (acL ps k a b) (acB ps k a b)) := by
  have X0 : Blk (((w.alloc (.cells #[.slice A ps.length c] 52)).alloc (.cells #[.int .i64 k, .int .i64 a, .int .i64 b] 56)).alloc (.cells #[.slice none 0 0] 52)) w.heap.size 52 #[.slice A ps.length c] := ((Blk.new' (by simp)).alloc _).alloc _
  have C0 : Blk (((w.alloc (.cells #[.slice A ps.length c] 52)).alloc (.cells #[.int .i64 k, .int .i64 a, .int .i64 b] 56)).alloc (.cells #[.slice none 0 0] 52)) (w.heap.size + 1) 56 #[.int .i64 k, .int .i64 a, .int .i64 b] := (Blk.new' (by simp)).alloc _
  have R0 : Blk (((w.alloc (.cells #[.slice A ps.length c] 52)).alloc (.cells #[.int .i64 k, .int .i64 a, .int .i64 b] 56)).alloc (.cells #[.slice none 0 0] 52)) (w.heap.size + 2) 52 #[.slice none 0 0] := Blk.new' (by simp)
  have b0 : Below w.heap.size w (((w.alloc (.cells #[.slice A ps.length c] 52)).alloc (.cells #[.int .i64 k, .int .i64 a, .int .i64 b] 56)).alloc (.cells #[.slice none 0 0] 52)) := ((below_alloc _ _).alloc (by simp) _).alloc (by simp; omega) _
  have hr0 := hr.below b0 hB
  have zz : w.heap.size + 3 ≤ (((w.alloc (.cells #[.slice A ps.length c] 52)).alloc (.cells #[.int .i64 k, .int .i64 a, .int .i64 b] 56)).alloc (.cells #[.slice none 0 0] 52)).heap.size := by simp
  have z0 : B ≤ (((w.alloc (.cells #[.slice A ps.length c] 52)).alloc (.cells #[.int .i64 k, .int .i64 a, .int .i64 b] 56)).alloc (.cells #[.slice none 0 0] 52)).heap.size := by omega
  have hn' : ps.length ≤ 1048576 := hn
  clear hr
  cases hp : puzB ps
  · have HD := Lib.hid (show acB ps k a b = false ∧ acL ps k a b = [] by simp [acB, acL, hp])
    have HP := Lib.hid hp
    go_enter Try.func17, Try.ntmps17
    go_wp2_with fail
    generalize hu : (((w.alloc (.cells #[.slice A ps.length c] 52)).alloc (.cells #[.int .i64 k, .int .i64 a, .int .i64 b] 56)).alloc (.cells #[.slice none 0 0] 52)) = u at *
    clear hu hp
    refine (pzGood_any A c ps B u hr0 z0 hn').mono ?_
    rintro e w1 ⟨rfl, hb1⟩
    rw [HP.out]
    have R1 := R0.below hb1 R0.lt
    have q0 := R1.cell 0
    have f0 := R1.frozen 0
    have lR := R1.lt
    go_wp2_with fail
    have r0 := (R1.set_ 0 (.slice none 0 0)).cell 0
    refine bodyPost_ret (v := .tuple #[.agg #[.slice none 0 0], .bool false]) (by simp [results, Try.results17, go_sem, r0]) rfl ?_
    exact ⟨_, by rw [HD.out.1], by rw [HD.out.2]; exact OwnF.nil _ _, (b0.trans (hb1.mono b0.size)).setCell (p := ⟨w.heap.size + 2, 0, none⟩) (by simp) _⟩
  · have h6 := puzB_len hp
    have HP := Lib.hid hp
    cases hc : clueB k a b
    · have HD := Lib.hid (show acB ps k a b = false ∧ acL ps k a b = [] by simp [acB, acL, hc])
      have HC := Lib.hid hc
      go_enter Try.func17, Try.ntmps17
      go_wp2_with fail
      generalize hu : (((w.alloc (.cells #[.slice A ps.length c] 52)).alloc (.cells #[.int .i64 k, .int .i64 a, .int .i64 b] 56)).alloc (.cells #[.slice none 0 0] 52)) = u at *
      clear hu hp hc
      refine (pzGood_any A c ps B u hr0 z0 hn').mono ?_
      rintro e w1 ⟨rfl, hb1⟩
      rw [HP.out]
      have C1 := C0.below hb1 C0.lt
      have R1 := R0.below hb1 R0.lt
      obtain ⟨d0, d1, d2⟩ := C1.three
      have lC := C1.lt
      go_wp2_with fail
      refine (pzClue_any k a b w1).mono ?_
      rintro e w2 ⟨rfl, hb2⟩
      rw [HC.out]
      have R2 := R1.below hb2 R1.lt
      have q0 := R2.cell 0
      have f0 := R2.frozen 0
      have lR := R2.lt
      go_wp2_with fail
      have r0 := (R2.set_ 0 (.slice none 0 0)).cell 0
      refine bodyPost_ret (v := .tuple #[.agg #[.slice none 0 0], .bool false]) (by simp [results, Try.results17, go_sem, r0]) rfl ?_
      exact ⟨_, by rw [HD.out.1], by rw [HD.out.2]; exact OwnF.nil _ _, (b0.trans ((hb1.trans (hb2.mono hb1.size)).mono b0.size)).setCell (p := ⟨w.heap.size + 2, 0, none⟩) (by simp) _⟩
    · have HC := Lib.hid hc
      by_cases he : ps.length = 6
      · have HD := Lib.hid (show acB ps k a b = false ∧ acL ps k a b = [] by simp [acB, acL, he])
        have hei : ((ps.length : Int) == 6) = true := by simp [he]
        have HE := Lib.hid he
        clear he
        go_enter Try.func17, Try.ntmps17
        go_wp2_with fail
        generalize hu : (((w.alloc (.cells #[.slice A ps.length c] 52)).alloc (.cells #[.int .i64 k, .int .i64 a, .int .i64 b] 56)).alloc (.cells #[.slice none 0 0] 52)) = u at *
        clear hu hp hc
        refine (pzGood_any A c ps B u hr0 z0 hn').mono ?_
        rintro e w1 ⟨rfl, hb1⟩
        rw [HP.out]
        have X1 := X0.below hb1 X0.lt
        have C1 := C0.below hb1 C0.lt
        have R1 := R0.below hb1 R0.lt
        obtain ⟨d0, d1, d2⟩ := C1.three
        have lC := C1.lt
        go_wp2_with fail
        refine (pzClue_any k a b w1).mono ?_
        rintro e w2 ⟨rfl, hb2⟩
        rw [HC.out]
        have X2 := X1.below hb2 X1.lt
        have R2 := R1.below hb2 R1.lt
        have p0 := X2.cell 0
        have lX := X2.lt
        have q0 := R2.cell 0
        have f0 := R2.frozen 0
        have lR := R2.lt
        go_wp2_with fail
        have r0 := (R2.set_ 0 (.slice none 0 0)).cell 0
        refine bodyPost_ret (v := .tuple #[.agg #[.slice none 0 0], .bool false]) (by simp [results, Try.results17, go_sem, r0]) rfl ?_
        exact ⟨_, by rw [HD.out.1], by rw [HD.out.2]; exact OwnF.nil _ _, (b0.trans ((hb1.trans (hb2.mono hb1.size)).mono b0.size)).setCell (p := ⟨w.heap.size + 2, 0, none⟩) (by simp) _⟩
      · have HD := Lib.hid (show acB ps k a b = true ∧ acL ps k a b = ps ++ [(k, a, b)] by simp [acB, acL, he, hp, hc])
        have hei : ((ps.length : Int) == 6) = false := by simp; omega
        have hei2 : ¬ (ps.length : Int) = 6 := by omega
        go_enter Try.func17, Try.ntmps17
        go_wp2_with fail
        generalize hu : (((w.alloc (.cells #[.slice A ps.length c] 52)).alloc (.cells #[.int .i64 k, .int .i64 a, .int .i64 b] 56)).alloc (.cells #[.slice none 0 0] 52)) = u at *
        clear hu hp hc
        refine (pzGood_any A c ps B u hr0 z0 hn').mono ?_
        rintro e w1 ⟨rfl, hb1⟩
        rw [HP.out]
        have X1 := X0.below hb1 X0.lt
        have C1 := C0.below hb1 C0.lt
        have R1 := R0.below hb1 R0.lt
        obtain ⟨d0, d1, d2⟩ := C1.three
        have lC := C1.lt
        go_wp2_with fail
        refine (pzClue_any k a b w1).mono ?_
        rintro e w2 ⟨rfl, hb2⟩
        rw [HC.out]
        have hb := hb1.trans (hb2.mono hb1.size)
        have X2 := X1.below hb2 X1.lt
        have C2 := C1.below hb2 C1.lt
        have R2 := R1.below hb2 R1.lt
        have hr2 := hr0.below hb z0
        have z2 := Nat.le_trans z0 hb.size
        have y2 := Nat.le_trans zz hb.size
        have bw := b0.trans (hb.mono b0.size)
        have p0 := X2.cell 0
        have lX := X2.lt
        clear d0 d1 d2 lC R1 C1 X1 hb1 hb2 hb X0 C0 R0 hr0
        obtain ⟨d0, d1, d2⟩ := C2.three
        have lC := C2.lt
        have q0 := R2.cell 0
        have f0 := R2.frozen 0
        have lR := R2.lt
        go_wp2_with fail
        go_region_law (first | (refine step_appT _ (by rfl) _ _ (by rfl) w2.heap.size B _ [] ps (by rfl) ((OwnF.empty rfl).below (Below.refl _ _).drew (Nat.le_refl _)) A ps.length c rfl (by rfl) (hr2.below (Below.drew (below_alloc w2 (.cells #[] 56))) z2) (by simp; omega) (by show w2.heap.size ≤ (w2.alloc (.cells #[] 56)).heap.size; simp; try omega) ?_; intro v3 w3 o3 k3'; have k3 : Turned (w2.alloc (.cells #[] 56)) w3 (rowL (.slice (some ⟨w2.heap.size, 0, none⟩) 0 0)) := turned_undrewF k3'; have b3 : Below w2.heap.size w2 w3 := (below_alloc w2 (.cells #[] 56)).trans (k3.below (by simp; try omega) (fun i hi => by have : i = w2.heap.size := (by simpa [rowL_some] using hi); omega)); obtain ⟨A3, c3, hv3⟩ := o3.form; rw [List.nil_append] at hv3; subst hv3; obtain ⟨e0, e1, e2⟩ := (C2.below b3 lC).three; have eC := (C2.below b3 lC).lt; have r3 := (R2.below b3 lR).cell 0; have g3 := (R2.below b3 lR).frozen 0; have rl3 := (R2.below b3 lR).lt) | (refine step_appT _ (by rfl) _ _ (by rfl) w2.heap.size B _ [] ps (by rfl) (((OwnF.empty rfl).alloc (.cells #[.int .i64 k, .int .i64 a, .int .i64 b] 56)).below (Below.refl _ _).drew (Nat.le_refl _)) A ps.length c rfl (by rfl) (hr2.below (Below.drew ((below_alloc w2 (.cells #[] 56)).alloc (by simp) (.cells #[.int .i64 k, .int .i64 a, .int .i64 b] 56))) z2) (by simp; omega) (by show w2.heap.size ≤ ((w2.alloc (.cells #[] 56)).alloc (.cells #[.int .i64 k, .int .i64 a, .int .i64 b] 56)).heap.size; simp; try omega) ?_; intro v3 w3 o3 k3'; have k3 : Turned ((w2.alloc (.cells #[] 56)).alloc (.cells #[.int .i64 k, .int .i64 a, .int .i64 b] 56)) w3 (rowL (.slice (some ⟨w2.heap.size, 0, none⟩) 0 0)) := turned_undrewF k3'; have b3 : Below w2.heap.size w2 w3 := ((below_alloc w2 (.cells #[] 56)).alloc (by simp) (.cells #[.int .i64 k, .int .i64 a, .int .i64 b] 56)).trans (k3.below (by simp; try omega) (fun i hi => by have : i = w2.heap.size := (by simpa [rowL_some] using hi); omega)); obtain ⟨A3, c3, hv3⟩ := o3.form; rw [List.nil_append] at hv3; subst hv3; obtain ⟨e0, e1, e2⟩ := (C2.below b3 lC).three; have eC := (C2.below b3 lC).lt; have r3 := (R2.below b3 lR).cell 0; have g3 := (R2.below b3 lR).frozen 0; have rl3 := (R2.below b3 lR).lt; have N3 : Blk w3 (w2.heap.size + 1) 56 #[.int .i64 k, .int .i64 a, .int .i64 b] := Blk.turned (w := (w2.alloc (.cells #[] 56)).alloc (.cells #[.int .i64 k, .int .i64 a, .int .i64 b] 56)) (Blk.new' (by simp)) k3 (by simp [rowL_some])) | (refine step_appT _ (by rfl) _ _ (by rfl) w2.heap.size B _ [] ps (by rfl) ((OwnF.mono (B := w2.heap.size + 1) (OwnF.empty (by simp)) (by omega)).below (Below.refl _ _).drew (Nat.le_refl _)) A ps.length c rfl (by rfl) (hr2.below (Below.drew ((below_alloc w2 (.cells #[.int .i64 k, .int .i64 a, .int .i64 b] 56)).alloc (by simp) (.cells #[] 56))) z2) (by simp; omega) (by show w2.heap.size ≤ ((w2.alloc (.cells #[.int .i64 k, .int .i64 a, .int .i64 b] 56)).alloc (.cells #[] 56)).heap.size; simp; try omega) ?_; intro v3 w3 o3 k3'; have k3 : Turned ((w2.alloc (.cells #[.int .i64 k, .int .i64 a, .int .i64 b] 56)).alloc (.cells #[] 56)) w3 (rowL (.slice (some ⟨w2.heap.size + 1, 0, none⟩) 0 0)) := turned_undrewF k3'; have b3 : Below w2.heap.size w2 w3 := ((below_alloc w2 (.cells #[.int .i64 k, .int .i64 a, .int .i64 b] 56)).alloc (by simp) (.cells #[] 56)).trans (k3.below (by simp; try omega) (fun i hi => by have : i = w2.heap.size + 1 := (by simpa [rowL_some] using hi); omega)); obtain ⟨A3, c3, hv3⟩ := o3.form; rw [List.nil_append] at hv3; subst hv3; obtain ⟨e0, e1, e2⟩ := (C2.below b3 lC).three; have eC := (C2.below b3 lC).lt; have r3 := (R2.below b3 lR).cell 0; have g3 := (R2.below b3 lR).frozen 0; have rl3 := (R2.below b3 lR).lt; have N3 : Blk w3 w2.heap.size 56 #[.int .i64 k, .int .i64 a, .int .i64 b] := Blk.turned (w := (w2.alloc (.cells #[.int .i64 k, .int .i64 a, .int .i64 b] 56)).alloc (.cells #[] 56)) ((Blk.new' rfl).alloc _) k3 (by simp [rowL_some])) | (refine step_appF _ (by rfl) _ _ (by rfl) w2.heap.size _ _ ps [(k, a, b)] (by rfl) (o3.alloc (.cells #[.int .i64 k, .int .i64 a, .int .i64 b] 56)) _ 1 1 rfl (by rfl) (blk_rd1c (Blk.new' rfl)) (by simp; omega) (by show w2.heap.size ≤ (w3.alloc (.cells #[.int .i64 k, .int .i64 a, .int .i64 b] 56)).heap.size; have := b3.size; (try simp); omega) ?_; intro v4 w4 o4 k4; have b4 : Below w2.heap.size w2 w4 := (b3.alloc b3.size (.cells #[.int .i64 k, .int .i64 a, .int .i64 b] 56)).trans k4; obtain ⟨A4, c4, hv4⟩ := o4.form; subst hv4; have RR := R2.below b4 lR; have r4 := RR.cell 0; have g4 := RR.frozen 0; have rl4 := RR.lt) | (refine step_appF _ (by rfl) _ _ (by rfl) w2.heap.size _ _ ps [(k, a, b)] (by rfl) o3 _ 1 1 rfl (by rfl) (blk_rd1c N3) (by simp; omega) (by show w2.heap.size ≤ (w3).heap.size; have := b3.size; (try simp); omega) ?_; intro v4 w4 o4 k4; have b4 : Below w2.heap.size w2 w4 := b3.trans k4; obtain ⟨A4, c4, hv4⟩ := o4.form; subst hv4; have RR := R2.below b4 lR; have r4 := RR.cell 0; have g4 := RR.frozen 0; have rl4 := RR.lt))
        all_goals
          go_wp2_with fail
          have r9 := (RR.set_ 0 (.slice A4 (ps.length + 1) c4)).cell 0
          refine bodyPost_ret (v := .tuple #[.agg #[.slice A4 (ps.length + 1) c4], .bool true]) (by simp [results, Try.results17, go_sem, r9]) rfl ?_
          have el : (ps ++ [(k, a, b)]).length = ps.length + 1 := by simp
          rw [el] at o4
          have lt4 := fun i h => (o4.lt i h).1
          refine ⟨.slice A4 (ps.length + 1) c4, by rw [HD.out.1], ?_, (bw.trans (b4.mono bw.size)).setCell (p := ⟨w.heap.size + 2, 0, none⟩) (by simp) _⟩
          rw [HD.out.2]
          exact OwnF.turned (o4.mono (by omega)) (L := [w.heap.size + 2]) ⟨(below_setF w4).os, (below_setF w4).tape, (below_setF w4).output, (below_setF w4).size, fun i _ hi => Below.heap_setCell w4 _ _ i (by simpa using hi)⟩ (fun i hi h2 => by have := lt4 i hi; simp at h2; omega)

end Go.Proofs.Ytehffiaobjlpoaa
