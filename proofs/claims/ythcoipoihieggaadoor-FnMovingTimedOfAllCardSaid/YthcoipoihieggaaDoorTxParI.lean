/- Contracts: ParseMoving, the program. -/
import Derived.Test.YthcoipoihieggaaDoorTxParM
import Derived.Test.YthcoipoihieggaaDoorTxAtN
namespace Go.Proofs.YthcoipoihieggaaDoor
open Go.RowKit
set_option maxRecDepth 100000

theorem mo_split {x y : Int} (h : movB x y = true) : splitS (moS x y) 118 = [x, y].map numS := by
  have b := movB_le h
  exact split_eq (ws := [numS x]) (fun w hw => by obtain rfl := List.mem_singleton.1 hw; exact num_not x (by omega) (by decide)) (num_not y (by omega) (by decide)) (by unfold moS; rw [toList_snoc]; rfl)
theorem mo_nin {x y : Int} (h : movB x y = true) : ninR (moS x y) 118 = [x, y] := by
  have b := movB_le h
  exact nin_nums (mo_split h) (fun n hn => by simp only [List.mem_cons, List.not_mem_nil, or_false] at hn; rcases hn with rfl | rfl <;> omega)
/-- what the program finds -/
theorem mp_nin {s : ByteArray} (h : mpB s = true) : ninR s 118 = [mpX s, mpY s] := by
  obtain ⟨h1, h2⟩ := mp_to h
  have := mo_nin h1
  rwa [h2] at this

set_option maxHeartbeats 4000000 in
theorem implParMov_any (s : ByteArray) (w : World) (hn : s.size ≤ 1048576) (ht : TabI w) (hE : ErrI w) :
    Calls Tryd.prog 26 #[.string s] w fun e w' => e = .returned (.tuple #[moV (mpB s) (mpX s) (mpY s), .bool (mpB s)]) ∧ Below w.heap.size w w' := by
  have NI := Lib.hid (fun u hu => numbersIn_any s 118 u hn (hE.below hu (Nat.le_refl _)))
  by_cases h2 : (ninR s 118).length = 2
  · obtain ⟨x, y, hxy⟩ : ∃ x y, ninR s 118 = [x, y] := by
      match h : ninR s 118, h2 with
      | [x, y], _ => exact ⟨x, y, rfl⟩
    have MT := Lib.hid (fun u hu => implMovingText_any x y u (ht.below hu))
    clear h2
    cases hm : movB x y
    · have hB : mpB s = false := by
        cases h : mpB s
        · rfl
        · rw [mp_nin h] at hxy
          simp only [List.cons.injEq, and_true] at hxy
          rw [← hxy.1, ← hxy.2, (mp_to h).1] at hm; cases hm
      rw [hB]
      have HM := Lib.hid hm
      have HXY := Lib.hid hxy
      clear hB hm hxy
      go_enter Tryd.func26, Tryd.ntmps26
      go_wp2_with fail
      refine (NI.out _ (below_alloc _ _)).mono ?_
      rintro e w1 ⟨v, rfl, ho, hb⟩
      rw [HXY.out] at ho
      obtain ⟨A, c, rfl, hc⟩ := ho.form
      obtain ⟨bb, o, rfl, hbb, d0⟩ := hc.at_ (k := 0) (by simp)
      obtain ⟨b2, o2, he, _, d1⟩ := hc.at_ (k := 1) (by simp)
      obtain ⟨rfl, rfl⟩ : bb = b2 ∧ o = o2 := by injection he with e; injection e with e1 e2; exact ⟨e1, e2⟩
      simp only [List.getD_cons_zero, List.getD_cons_succ, Nat.add_zero] at d0 d1
      have X := (Blk.new w 23 #[.int .i64 0, .int .i64 0]).below hb (by simp)
      have Bt : Below w.heap.size w w1 := (below_alloc _ _).trans (hb.mono (by simp))
      have hs := X.lt
      clear hc he ho hb
      go_wp2_with fail
      go_region
      have XM := (Blk.new w1 23 #[.int .i64 x, .int .i64 y]).drew'
      have XR := (X.alloc (.cells #[.int .i64 x, .int .i64 y] 23)).drew'
      have BR := (Bt.alloc (Nat.le_of_lt hs) (.cells #[.int .i64 x, .int .i64 y] 23)).drew
      have hz : (w1.alloc (.cells #[.int .i64 x, .int .i64 y] 23)).drew.heap.size = w1.heap.size + 1 := by show (w1.alloc _).heap.size = _; simp
      clear X d0 d1
      generalize (w1.alloc (.cells #[.int .i64 x, .int .i64 y] 23)).drew = w2 at *
      obtain ⟨m0, m1⟩ := XM.two
      have zm := XM.lt
      go_wp2_with fail
      refine (MT.out _ BR).mono ?_
      rintro e w3 ⟨rfl, hb3⟩
      have X := XR.below hb3 XR.lt
      have XM3 := XM.below hb3 zm
      obtain ⟨x0, x1⟩ := X.two
      obtain ⟨p0, p1⟩ := XM3.two
      have f0 := X.frozen 0
      have f1 := X.frozen 1
      have B3 := BR.trans (hb3.mono (by omega))
      clear m0 m1
      rw [HM.out, orS_no]
      go_wp2_with fail
      have X2 : Blk ((w3.setCell ⟨w.heap.size, 0, none⟩ (.int .i64 0)).setCell ⟨w.heap.size, 1, none⟩ (.int .i64 0)) w.heap.size 23 #[.int .i64 0, .int .i64 0] := (X.set_ 0 _).set_ 1 _
      obtain ⟨y0, y1⟩ := X2.two
      refine bodyPost_ret (v := .tuple #[.agg #[.int .i64 0, .int .i64 0], .bool false]) ?hr rfl ⟨by rw [moV_no], ?_⟩
      (case hr => simp [results, Tryd.results26, go_sem, y0, y1])
      exact (B3.setCell (Nat.le_refl _) _).setCell (Nat.le_refl _) _
    · by_cases hs0 : moS x y = s
      · subst hs0
        obtain ⟨hB, hX, hY⟩ := mp_of hm
        rw [hB, hX, hY]
        have HM := Lib.hid hm
        have HXY := Lib.hid hxy
        clear hB hm hxy hX hY
        go_enter Tryd.func26, Tryd.ntmps26
        go_wp2_with fail
        refine (NI.out _ (below_alloc _ _)).mono ?_
        rintro e w1 ⟨v, rfl, ho, hb⟩
        rw [HXY.out] at ho
        obtain ⟨A, c, rfl, hc⟩ := ho.form
        obtain ⟨bb, o, rfl, hbb, d0⟩ := hc.at_ (k := 0) (by simp)
        obtain ⟨b2, o2, he, _, d1⟩ := hc.at_ (k := 1) (by simp)
        obtain ⟨rfl, rfl⟩ : bb = b2 ∧ o = o2 := by injection he with e; injection e with e1 e2; exact ⟨e1, e2⟩
        simp only [List.getD_cons_zero, List.getD_cons_succ, Nat.add_zero] at d0 d1
        have X := (Blk.new w 23 #[.int .i64 0, .int .i64 0]).below hb (by simp)
        have Bt : Below w.heap.size w w1 := (below_alloc _ _).trans (hb.mono (by simp))
        have hs := X.lt
        clear hc he ho hb
        go_wp2_with fail
        go_region
        have XM := (Blk.new w1 23 #[.int .i64 x, .int .i64 y]).drew'
        have XR := (X.alloc (.cells #[.int .i64 x, .int .i64 y] 23)).drew'
        have BR := (Bt.alloc (Nat.le_of_lt hs) (.cells #[.int .i64 x, .int .i64 y] 23)).drew
        have hz : (w1.alloc (.cells #[.int .i64 x, .int .i64 y] 23)).drew.heap.size = w1.heap.size + 1 := by show (w1.alloc _).heap.size = _; simp
        clear X d0 d1
        generalize (w1.alloc (.cells #[.int .i64 x, .int .i64 y] 23)).drew = w2 at *
        obtain ⟨m0, m1⟩ := XM.two
        have zm := XM.lt
        go_wp2_with fail
        refine (MT.out _ BR).mono ?_
        rintro e w3 ⟨rfl, hb3⟩
        have X := XR.below hb3 XR.lt
        have XM3 := XM.below hb3 zm
        obtain ⟨x0, x1⟩ := X.two
        obtain ⟨p0, p1⟩ := XM3.two
        have f0 := X.frozen 0
        have f1 := X.frozen 1
        have B3 := BR.trans (hb3.mono (by omega))
        clear m0 m1
        rw [HM.out, orS_yes]
        go_wp2_with fail
        have X2 : Blk ((w3.setCell ⟨w.heap.size, 0, none⟩ (.int .i64 x)).setCell ⟨w.heap.size, 1, none⟩ (.int .i64 y)) w.heap.size 23 #[.int .i64 x, .int .i64 y] := (X.set_ 0 _).set_ 1 _
        obtain ⟨y0, y1⟩ := X2.two
        refine bodyPost_ret (v := .tuple #[.agg #[.int .i64 x, .int .i64 y], .bool true]) ?hr rfl ⟨by rw [moV_yes], ?_⟩
        (case hr => simp [results, Tryd.results26, go_sem, y0, y1])
        exact (B3.setCell (Nat.le_refl _) _).setCell (Nat.le_refl _) _
      · have hB : mpB s = false := by
          cases h : mpB s
          · rfl
          · rw [mp_nin h] at hxy
            simp only [List.cons.injEq, and_true] at hxy
            rw [← hxy.1, ← hxy.2, (mp_to h).2] at hs0; exact absurd rfl hs0
        rw [hB]
        have HM := Lib.hid hm
        have e1 := text_ne hs0
        have e2 : (!((moS x y).toList == s.toList)) = true := by rw [e1]; rfl
        have HXY := Lib.hid hxy
        clear hB hm hxy
        go_enter Tryd.func26, Tryd.ntmps26
        go_wp2_with fail
        refine (NI.out _ (below_alloc _ _)).mono ?_
        rintro e w1 ⟨v, rfl, ho, hb⟩
        rw [HXY.out] at ho
        obtain ⟨A, c, rfl, hc⟩ := ho.form
        obtain ⟨bb, o, rfl, hbb, d0⟩ := hc.at_ (k := 0) (by simp)
        obtain ⟨b2, o2, he, _, d1⟩ := hc.at_ (k := 1) (by simp)
        obtain ⟨rfl, rfl⟩ : bb = b2 ∧ o = o2 := by injection he with e; injection e with e1 e2; exact ⟨e1, e2⟩
        simp only [List.getD_cons_zero, List.getD_cons_succ, Nat.add_zero] at d0 d1
        have X := (Blk.new w 23 #[.int .i64 0, .int .i64 0]).below hb (by simp)
        have Bt : Below w.heap.size w w1 := (below_alloc _ _).trans (hb.mono (by simp))
        have hs := X.lt
        clear hc he ho hb
        go_wp2_with fail
        go_region
        have XM := (Blk.new w1 23 #[.int .i64 x, .int .i64 y]).drew'
        have XR := (X.alloc (.cells #[.int .i64 x, .int .i64 y] 23)).drew'
        have BR := (Bt.alloc (Nat.le_of_lt hs) (.cells #[.int .i64 x, .int .i64 y] 23)).drew
        have hz : (w1.alloc (.cells #[.int .i64 x, .int .i64 y] 23)).drew.heap.size = w1.heap.size + 1 := by show (w1.alloc _).heap.size = _; simp
        clear X d0 d1
        generalize (w1.alloc (.cells #[.int .i64 x, .int .i64 y] 23)).drew = w2 at *
        obtain ⟨m0, m1⟩ := XM.two
        have zm := XM.lt
        go_wp2_with fail
        refine (MT.out _ BR).mono ?_
        rintro e w3 ⟨rfl, hb3⟩
        have X := XR.below hb3 XR.lt
        have XM3 := XM.below hb3 zm
        obtain ⟨x0, x1⟩ := X.two
        obtain ⟨p0, p1⟩ := XM3.two
        have f0 := X.frozen 0
        have f1 := X.frozen 1
        have B3 := BR.trans (hb3.mono (by omega))
        clear m0 m1
        rw [HM.out, orS_yes]
        go_wp2_with fail
        have X2 : Blk ((w3.setCell ⟨w.heap.size, 0, none⟩ (.int .i64 0)).setCell ⟨w.heap.size, 1, none⟩ (.int .i64 0)) w.heap.size 23 #[.int .i64 0, .int .i64 0] := (X.set_ 0 _).set_ 1 _
        obtain ⟨y0, y1⟩ := X2.two
        refine bodyPost_ret (v := .tuple #[.agg #[.int .i64 0, .int .i64 0], .bool false]) ?hr rfl ⟨by rw [moV_no], ?_⟩
        (case hr => simp [results, Tryd.results26, go_sem, y0, y1])
        exact (B3.setCell (Nat.le_refl _) _).setCell (Nat.le_refl _) _
  · have hB : mpB s = false := by
      cases h : mpB s
      · rfl
      · rw [mp_nin h] at h2; exact absurd rfl h2
    rw [hB]
    have H2 := Lib.hid h2
    have h2a : ((ninR s 118).length : Int) ≠ 2 := by omega
    have h2b : (((ninR s 118).length : Int) == 2) = false := by simpa using h2a
    have h2c : (((ninR s 118).length : Int) != 2) = true := by simpa using h2a
    clear hB h2
    go_enter Tryd.func26, Tryd.ntmps26
    go_wp2_with fail
    refine (NI.out _ (below_alloc _ _)).mono ?_
    rintro e w1 ⟨v, rfl, ho, hb⟩
    obtain ⟨A, c, rfl, hc⟩ := ho.form
    have X := (Blk.new w 23 #[.int .i64 0, .int .i64 0]).below hb (by simp)
    have Bt : Below w.heap.size w w1 := (below_alloc _ _).trans (hb.mono (by simp))
    obtain ⟨x0, x1⟩ := X.two
    have f0 := X.frozen 0
    have f1 := X.frozen 1
    clear hc ho hb
    generalize (ninR s 118).length = m at *
    go_wp2_with fail
    have X2 : Blk ((w1.setCell ⟨w.heap.size, 0, none⟩ (.int .i64 0)).setCell ⟨w.heap.size, 1, none⟩ (.int .i64 0)) w.heap.size 23 #[.int .i64 0, .int .i64 0] := (X.set_ 0 _).set_ 1 _
    obtain ⟨y0, y1⟩ := X2.two
    refine bodyPost_ret (v := .tuple #[.agg #[.int .i64 0, .int .i64 0], .bool false]) ?hr rfl ⟨by rw [moV_no], ?_⟩
    (case hr => simp [results, Tryd.results26, go_sem, y0, y1])
    exact (Bt.setCell (Nat.le_refl _) _).setCell (Nat.le_refl _) _
/-- a number or 0 -/
def moU (b : Bool) (x : Int) : Int := if b then x else 0
theorem moV_eq (b : Bool) (x y : Int) : moV b x y = .agg #[.int .i64 (moU b x), .int .i64 (moU b y)] := by cases b <;> rfl
theorem implParMov2_any (s : ByteArray) (w : World) (hn : s.size ≤ 1048576) (ht : TabI w) (hE : ErrI w) :
    Calls Tryd.prog 26 #[.string s] w fun e w' => e = .returned (.tuple #[.agg #[.int .i64 (moU (mpB s) (mpX s)), .int .i64 (moU (mpB s) (mpY s))], .bool (mpB s)]) ∧ Below w.heap.size w w' := by
  rw [← moV_eq]; exact implParMov_any s w hn ht hE


end Go.Proofs.YthcoipoihieggaaDoor
