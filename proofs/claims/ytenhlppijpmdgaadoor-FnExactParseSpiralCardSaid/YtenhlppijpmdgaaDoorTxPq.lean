/- Contracts: reading a spiral, on both sides. -/
import Derived.Test.YtenhlppijpmdgaaDoorTxPqM
import Derived.Deep.RegionHeld3
import Derived.Deep.RegionLaw
import Derived.Deep.DeepCutAuto
namespace Go.Proofs.YtenhlppijpmdgaaDoor
open Go.RowKit
set_option maxRecDepth 100000

set_option maxHeartbeats 2000000 in
theorem specParSpi_any (s : ByteArray) (w : World) (hn : s.size ≤ 1048576) :
    Calls Tryd.prog 10 #[.string s] w fun e w' => e = .returned (.tuple #[.agg #[.int .i64 (orN (pqB s) (pqA s)), .int .i64 (orN (pqB s) (pqX s)), .int .i64 (orN (pqB s) (pqY s))], .bool (pqB s)]) ∧ Below w.heap.size w w' := by
  have MP := Lib.hid (fun u => spParse_any s u hn)
  generalize pqA s = A at *
  generalize pqX s = X0 at *
  generalize pqY s = Y0 at *
  generalize pqB s = r at *
  cases r
  · rw [orN_no, orN_no, orN_no]
    go_enter Tryd.func10, Tryd.ntmps10
    go_wp2_with fail
    refine (MP.out _).mono ?_
    rintro e w1 ⟨⟨a, b, c, rfl, hc⟩, hb⟩
    clear hc
    have X1 := (Blk.new w 26 #[.int .i64 0, .int .i64 0, .int .i64 0]).below hb (by simp)
    have Bt1 : Below w.heap.size w w1 := (below_alloc _ _).trans (hb.mono (by simp))
    have X := X1.alloc (.cells #[.int .i64 a, .int .i64 b, .int .i64 c] 26)
    have Bt := Bt1.alloc (Nat.le_of_lt X1.lt) (.cells #[.int .i64 a, .int .i64 b, .int .i64 c] 26)
    obtain ⟨x0, x1, x2⟩ := X.three
    have f0 := X.frozen 0
    have f1 := X.frozen 1
    have f2 := X.frozen 2
    clear hb X1 Bt1
    go_wp2_with fail
    have X2 : Blk ((((w1.alloc (.cells #[.int .i64 a, .int .i64 b, .int .i64 c] 26)).setCell ⟨w.heap.size, 0, none⟩ (.int .i64 0)).setCell ⟨w.heap.size, 1, none⟩ (.int .i64 0)).setCell ⟨w.heap.size, 2, none⟩ (.int .i64 0)) w.heap.size 26 #[.int .i64 0, .int .i64 0, .int .i64 0] := ((X.set_ 0 _).set_ 1 _).set_ 2 _
    obtain ⟨y0, y1, y2⟩ := X2.three
    refine bodyPost_ret (v := .tuple #[.agg #[.int .i64 0, .int .i64 0, .int .i64 0], .bool false]) ?hr rfl ⟨rfl, ?_⟩
    (case hr => simp [results, Tryd.results10, go_sem, y0, y1, y2])
    exact ((Bt.setCell (Nat.le_refl _) _).setCell (Nat.le_refl _) _).setCell (Nat.le_refl _) _
  · rw [orN_yes, orN_yes, orN_yes]
    go_enter Tryd.func10, Tryd.ntmps10
    go_wp2_with fail
    refine (MP.out _).mono ?_
    rintro e w1 ⟨⟨a, b, c, rfl, hc⟩, hb⟩
    obtain ⟨rfl, rfl, rfl⟩ := hc (by trivial)
    have X1 := (Blk.new w 26 #[.int .i64 0, .int .i64 0, .int .i64 0]).below hb (by simp)
    have Bt1 : Below w.heap.size w w1 := (below_alloc _ _).trans (hb.mono (by simp))
    have X := X1.alloc (.cells #[.int .i64 a, .int .i64 b, .int .i64 c] 26)
    have Bt := Bt1.alloc (Nat.le_of_lt X1.lt) (.cells #[.int .i64 a, .int .i64 b, .int .i64 c] 26)
    obtain ⟨x0, x1, x2⟩ := X.three
    have f0 := X.frozen 0
    have f1 := X.frozen 1
    have f2 := X.frozen 2
    clear hb X1 Bt1
    go_wp2_with fail
    have X2 : Blk ((((w1.alloc (.cells #[.int .i64 a, .int .i64 b, .int .i64 c] 26)).setCell ⟨w.heap.size, 0, none⟩ (.int .i64 a)).setCell ⟨w.heap.size, 1, none⟩ (.int .i64 b)).setCell ⟨w.heap.size, 2, none⟩ (.int .i64 c)) w.heap.size 26 #[.int .i64 a, .int .i64 b, .int .i64 c] := ((X.set_ 0 _).set_ 1 _).set_ 2 _
    obtain ⟨y0, y1, y2⟩ := X2.three
    refine bodyPost_ret (v := .tuple #[.agg #[.int .i64 a, .int .i64 b, .int .i64 c], .bool true]) ?hr rfl ⟨rfl, ?_⟩
    (case hr => simp [results, Tryd.results10, go_sem, y0, y1, y2])
    exact ((Bt.setCell (Nat.le_refl _) _).setCell (Nat.le_refl _) _).setCell (Nat.le_refl _) _
set_option maxHeartbeats 4000000 in
theorem implParSpi_any (s : ByteArray) (w : World) (hn : s.size ≤ 1048576) (ht : TabI w) (hE : ErrI w) :
    Calls Tryd.prog 11 #[.string s] w fun e w' => e = .returned (.tuple #[.agg #[.int .i64 (orN (pqB s) (pqA s)), .int .i64 (orN (pqB s) (pqX s)), .int .i64 (orN (pqB s) (pqY s))], .bool (pqB s)]) ∧ Below w.heap.size w w' := by
  have CT := Lib.hid (fun u => cut_any s 64 u hn)
  have z1 := cutA_size s 64
  have z2 := cutZ_size s 64
  have y1 := ninR_length (cutA s 64) 42
  have y2 := ninR_length (cutZ s 64) 42
  have N1 := Lib.hid (fun u hu => numbersIn_any (cutA s 64) 42 u (by omega) (hE.below hu (Nat.le_refl _)))
  have N2 := Lib.hid (fun u hu => numbersIn_any (cutZ s 64) 42 u (by omega) (hE.below hu (Nat.le_refl _)))
  have hP := pq_nin (s := s)
  have hl : ninR (cutA s 64) 42 ++ ninR (cutZ s 64) 42 = pqL s := rfl
  generalize ninR (cutA s 64) 42 = l1 at *
  generalize ninR (cutZ s 64) 42 = l2 at *
  generalize cutA s 64 = s1 at *
  generalize cutZ s 64 = s2 at *
  generalize cutB s 64 = sb at *
  by_cases h3 : (pqL s).length = 3
  · obtain ⟨x, y, z, hxyz⟩ : ∃ x y z, pqL s = [x, y, z] := by
      match h : pqL s, h3 with
      | [x, y, z], _ => exact ⟨x, y, z, rfl⟩
    have MT := Lib.hid (fun u hu => implSpiralText_any x y z u (ht.below hu))
    rw [hxyz] at hl hP
    clear h3 hxyz
    cases hm : spiB x y z
    · have hB : pqB s = false := by
        cases h : pqB s
        · rfl
        · have e := hP h
          simp only [List.cons.injEq, and_true] at e
          rw [e.1, e.2.1, e.2.2, (pq_to h).1] at hm; cases hm
      rw [hB, orN_no, orN_no, orN_no]
      have HM := Lib.hid hm
      have HL := Lib.hid hl
      clear hl hB hm hP
      go_enter Tryd.func11, Tryd.ntmps11
      go_wp2_with fail
      refine (CT.out _).mono ?_
      rintro e w1 ⟨rfl, hb1⟩
      have X := (Blk.new w 26 #[.int .i64 0, .int .i64 0, .int .i64 0]).below hb1 (by simp)
      have Bt : Below w.heap.size w w1 := (below_alloc _ _).trans (hb1.mono (by simp))
      have hs := X.lt
      clear hb1
      go_wp2_with fail
      refine (N1.out _ Bt).mono ?_
      rintro e w2 ⟨v1, rfl, ho1, hb2⟩
      have Bt2 : Below w.heap.size w w2 := Bt.trans (hb2.mono (by omega))
      have hz2 := hb2.size
      go_wp2_with fail
      refine (N2.out _ Bt2).mono ?_
      rintro e w3 ⟨v2, rfl, ho2, hb3⟩
      have hz3 := hb3.size
      have Bt3 : Below w.heap.size w w3 := Bt2.trans (hb3.mono (by omega))
      replace ho1 := ho1.below hb3 (Nat.le_refl _)
      replace X := (X.below hb2 hs).below hb3 (by omega)
      obtain ⟨A2, c2, rfl, hc2⟩ := ho2.form
      clear ho2 hb2 hb3 Bt Bt2
      go_wp2_with (at_builtin; refine wpList_append_rd' _ rfl _ _ rfl w1.heap.size _ _ _ _ rfl ho1 A2 _ c2 rfl rfl hc2 (by omega) (by omega) ?_; intro v' w4 hown4 hb4; rw [HL.out] at hown4; obtain ⟨A4, c4, rfl, hc⟩ := hown4.form; have X4 := X.below hb4 hs; have Bt4 : Below w.heap.size w w4 := Bt3.trans (hb4.mono (by omega)); obtain ⟨bb, o, rfl, hbb, d0⟩ := hc.at_ (k := 0) (by simp); obtain ⟨b2, o2, he, _, d1⟩ := hc.at_ (k := 1) (by simp); obtain ⟨rfl, rfl⟩ : bb = b2 ∧ o = o2 := (by injection he with e; injection e with e1 e2; exact ⟨e1, e2⟩); obtain ⟨b3, o3, he3, _, d2⟩ := hc.at_ (k := 2) (by simp); obtain ⟨rfl, rfl⟩ : bb = b3 ∧ o = o3 := (by injection he3 with e; injection e with e1 e2; exact ⟨e1, e2⟩); simp only [List.getD_cons_zero, List.getD_cons_succ, Nat.add_zero] at d0 d1 d2; clear hc he he3 hown4 hb4 ho1 hc2)
      go_region
      have hs4 := X4.lt
      have XM := (Blk.new w4 26 #[.int .i64 x, .int .i64 y, .int .i64 z]).drew'
      have XR := (X4.alloc (.cells #[.int .i64 x, .int .i64 y, .int .i64 z] 26)).drew'
      have BR := (Bt4.alloc (Nat.le_of_lt hs4) (.cells #[.int .i64 x, .int .i64 y, .int .i64 z] 26)).drew
      clear X X4 d0 d1 d2
      generalize (w4.alloc (.cells #[.int .i64 x, .int .i64 y, .int .i64 z] 26)).drew = w5 at *
      obtain ⟨m0, m1, m2⟩ := XM.three
      have zm := XM.lt
      go_wp2_with fail
      refine (MT.out _ BR).mono ?_
      rintro e w6 ⟨rfl, hb6⟩
      have X := XR.below hb6 XR.lt
      have XM3 := XM.below hb6 zm
      obtain ⟨x0, x1, x2⟩ := X.three
      obtain ⟨p0, p1, p2⟩ := XM3.three
      have f0 := X.frozen 0
      have f1 := X.frozen 1
      have f2 := X.frozen 2
      have B6 := BR.trans (hb6.mono (by omega))
      clear m0 m1 m2
      rw [HM.out, orS_no]
      go_wp2_with fail
      have X2 : Blk (((w6.setCell ⟨w.heap.size, 0, none⟩ (.int .i64 0)).setCell ⟨w.heap.size, 1, none⟩ (.int .i64 0)).setCell ⟨w.heap.size, 2, none⟩ (.int .i64 0)) w.heap.size 26 #[.int .i64 0, .int .i64 0, .int .i64 0] := ((X.set_ 0 _).set_ 1 _).set_ 2 _
      obtain ⟨y0, y1, y2⟩ := X2.three
      refine bodyPost_ret (v := .tuple #[.agg #[.int .i64 0, .int .i64 0, .int .i64 0], .bool false]) ?hr rfl ⟨rfl, ?_⟩
      (case hr => simp [results, Tryd.results11, go_sem, y0, y1, y2])
      exact ((B6.setCell (Nat.le_refl _) _).setCell (Nat.le_refl _) _).setCell (Nat.le_refl _) _
    · by_cases hs0 : spS x y z = s
      · obtain ⟨hB, hX, hY, hZ⟩ := pq_of hm
        rw [hs0] at hB hX hY hZ
        rw [hB, hX, hY, hZ, orN_yes, orN_yes, orN_yes]
        have HM := Lib.hid hm
        have HS := Lib.hid hs0
        have HL := Lib.hid hl
        clear hl hB hX hY hZ hm hs0 hP
        go_enter Tryd.func11, Tryd.ntmps11
        go_wp2_with fail
        refine (CT.out _).mono ?_
        rintro e w1 ⟨rfl, hb1⟩
        have X := (Blk.new w 26 #[.int .i64 0, .int .i64 0, .int .i64 0]).below hb1 (by simp)
        have Bt : Below w.heap.size w w1 := (below_alloc _ _).trans (hb1.mono (by simp))
        have hs := X.lt
        clear hb1
        go_wp2_with fail
        refine (N1.out _ Bt).mono ?_
        rintro e w2 ⟨v1, rfl, ho1, hb2⟩
        have Bt2 : Below w.heap.size w w2 := Bt.trans (hb2.mono (by omega))
        have hz2 := hb2.size
        go_wp2_with fail
        refine (N2.out _ Bt2).mono ?_
        rintro e w3 ⟨v2, rfl, ho2, hb3⟩
        have hz3 := hb3.size
        have Bt3 : Below w.heap.size w w3 := Bt2.trans (hb3.mono (by omega))
        replace ho1 := ho1.below hb3 (Nat.le_refl _)
        replace X := (X.below hb2 hs).below hb3 (by omega)
        obtain ⟨A2, c2, rfl, hc2⟩ := ho2.form
        clear ho2 hb2 hb3 Bt Bt2
        go_wp2_with (at_builtin; refine wpList_append_rd' _ rfl _ _ rfl w1.heap.size _ _ _ _ rfl ho1 A2 _ c2 rfl rfl hc2 (by omega) (by omega) ?_; intro v' w4 hown4 hb4; rw [HL.out] at hown4; obtain ⟨A4, c4, rfl, hc⟩ := hown4.form; have X4 := X.below hb4 hs; have Bt4 : Below w.heap.size w w4 := Bt3.trans (hb4.mono (by omega)); obtain ⟨bb, o, rfl, hbb, d0⟩ := hc.at_ (k := 0) (by simp); obtain ⟨b2, o2, he, _, d1⟩ := hc.at_ (k := 1) (by simp); obtain ⟨rfl, rfl⟩ : bb = b2 ∧ o = o2 := (by injection he with e; injection e with e1 e2; exact ⟨e1, e2⟩); obtain ⟨b3, o3, he3, _, d2⟩ := hc.at_ (k := 2) (by simp); obtain ⟨rfl, rfl⟩ : bb = b3 ∧ o = o3 := (by injection he3 with e; injection e with e1 e2; exact ⟨e1, e2⟩); simp only [List.getD_cons_zero, List.getD_cons_succ, Nat.add_zero] at d0 d1 d2; clear hc he he3 hown4 hb4 ho1 hc2)
        go_region
        have hs4 := X4.lt
        have XM := (Blk.new w4 26 #[.int .i64 x, .int .i64 y, .int .i64 z]).drew'
        have XR := (X4.alloc (.cells #[.int .i64 x, .int .i64 y, .int .i64 z] 26)).drew'
        have BR := (Bt4.alloc (Nat.le_of_lt hs4) (.cells #[.int .i64 x, .int .i64 y, .int .i64 z] 26)).drew
        clear X X4 d0 d1 d2
        generalize (w4.alloc (.cells #[.int .i64 x, .int .i64 y, .int .i64 z] 26)).drew = w5 at *
        obtain ⟨m0, m1, m2⟩ := XM.three
        have zm := XM.lt
        go_wp2_with fail
        refine (MT.out _ BR).mono ?_
        rintro e w6 ⟨rfl, hb6⟩
        have X := XR.below hb6 XR.lt
        have XM3 := XM.below hb6 zm
        obtain ⟨x0, x1, x2⟩ := X.three
        obtain ⟨p0, p1, p2⟩ := XM3.three
        have f0 := X.frozen 0
        have f1 := X.frozen 1
        have f2 := X.frozen 2
        have B6 := BR.trans (hb6.mono (by omega))
        clear m0 m1 m2
        rw [HM.out, orS_yes, HS.out]
        go_wp2_with fail
        have X2 : Blk (((w6.setCell ⟨w.heap.size, 0, none⟩ (.int .i64 x)).setCell ⟨w.heap.size, 1, none⟩ (.int .i64 y)).setCell ⟨w.heap.size, 2, none⟩ (.int .i64 z)) w.heap.size 26 #[.int .i64 x, .int .i64 y, .int .i64 z] := ((X.set_ 0 _).set_ 1 _).set_ 2 _
        obtain ⟨y0, y1, y2⟩ := X2.three
        refine bodyPost_ret (v := .tuple #[.agg #[.int .i64 x, .int .i64 y, .int .i64 z], .bool true]) ?hr rfl ⟨rfl, ?_⟩
        (case hr => simp [results, Tryd.results11, go_sem, y0, y1, y2])
        exact ((B6.setCell (Nat.le_refl _) _).setCell (Nat.le_refl _) _).setCell (Nat.le_refl _) _
      · have hB : pqB s = false := by
          cases h : pqB s
          · rfl
          · have e := hP h
            simp only [List.cons.injEq, and_true] at e
            rw [e.1, e.2.1, e.2.2, (pq_to h).2] at hs0; exact absurd rfl hs0
        rw [hB, orN_no, orN_no, orN_no]
        have HM := Lib.hid hm
        have e1 := text_ne hs0
        have e2 : (!((spS x y z).toList == s.toList)) = true := by rw [e1]; rfl
        have HL := Lib.hid hl
        clear hl hB hm hs0 hP
        go_enter Tryd.func11, Tryd.ntmps11
        go_wp2_with fail
        refine (CT.out _).mono ?_
        rintro e w1 ⟨rfl, hb1⟩
        have X := (Blk.new w 26 #[.int .i64 0, .int .i64 0, .int .i64 0]).below hb1 (by simp)
        have Bt : Below w.heap.size w w1 := (below_alloc _ _).trans (hb1.mono (by simp))
        have hs := X.lt
        clear hb1
        go_wp2_with fail
        refine (N1.out _ Bt).mono ?_
        rintro e w2 ⟨v1, rfl, ho1, hb2⟩
        have Bt2 : Below w.heap.size w w2 := Bt.trans (hb2.mono (by omega))
        have hz2 := hb2.size
        go_wp2_with fail
        refine (N2.out _ Bt2).mono ?_
        rintro e w3 ⟨v2, rfl, ho2, hb3⟩
        have hz3 := hb3.size
        have Bt3 : Below w.heap.size w w3 := Bt2.trans (hb3.mono (by omega))
        replace ho1 := ho1.below hb3 (Nat.le_refl _)
        replace X := (X.below hb2 hs).below hb3 (by omega)
        obtain ⟨A2, c2, rfl, hc2⟩ := ho2.form
        clear ho2 hb2 hb3 Bt Bt2
        go_wp2_with (at_builtin; refine wpList_append_rd' _ rfl _ _ rfl w1.heap.size _ _ _ _ rfl ho1 A2 _ c2 rfl rfl hc2 (by omega) (by omega) ?_; intro v' w4 hown4 hb4; rw [HL.out] at hown4; obtain ⟨A4, c4, rfl, hc⟩ := hown4.form; have X4 := X.below hb4 hs; have Bt4 : Below w.heap.size w w4 := Bt3.trans (hb4.mono (by omega)); obtain ⟨bb, o, rfl, hbb, d0⟩ := hc.at_ (k := 0) (by simp); obtain ⟨b2, o2, he, _, d1⟩ := hc.at_ (k := 1) (by simp); obtain ⟨rfl, rfl⟩ : bb = b2 ∧ o = o2 := (by injection he with e; injection e with e1 e2; exact ⟨e1, e2⟩); obtain ⟨b3, o3, he3, _, d2⟩ := hc.at_ (k := 2) (by simp); obtain ⟨rfl, rfl⟩ : bb = b3 ∧ o = o3 := (by injection he3 with e; injection e with e1 e2; exact ⟨e1, e2⟩); simp only [List.getD_cons_zero, List.getD_cons_succ, Nat.add_zero] at d0 d1 d2; clear hc he he3 hown4 hb4 ho1 hc2)
        go_region
        have hs4 := X4.lt
        have XM := (Blk.new w4 26 #[.int .i64 x, .int .i64 y, .int .i64 z]).drew'
        have XR := (X4.alloc (.cells #[.int .i64 x, .int .i64 y, .int .i64 z] 26)).drew'
        have BR := (Bt4.alloc (Nat.le_of_lt hs4) (.cells #[.int .i64 x, .int .i64 y, .int .i64 z] 26)).drew
        clear X X4 d0 d1 d2
        generalize (w4.alloc (.cells #[.int .i64 x, .int .i64 y, .int .i64 z] 26)).drew = w5 at *
        obtain ⟨m0, m1, m2⟩ := XM.three
        have zm := XM.lt
        go_wp2_with fail
        refine (MT.out _ BR).mono ?_
        rintro e w6 ⟨rfl, hb6⟩
        have X := XR.below hb6 XR.lt
        have XM3 := XM.below hb6 zm
        obtain ⟨x0, x1, x2⟩ := X.three
        obtain ⟨p0, p1, p2⟩ := XM3.three
        have f0 := X.frozen 0
        have f1 := X.frozen 1
        have f2 := X.frozen 2
        have B6 := BR.trans (hb6.mono (by omega))
        clear m0 m1 m2
        rw [HM.out, orS_yes]
        go_wp2_with fail
        have X2 : Blk (((w6.setCell ⟨w.heap.size, 0, none⟩ (.int .i64 0)).setCell ⟨w.heap.size, 1, none⟩ (.int .i64 0)).setCell ⟨w.heap.size, 2, none⟩ (.int .i64 0)) w.heap.size 26 #[.int .i64 0, .int .i64 0, .int .i64 0] := ((X.set_ 0 _).set_ 1 _).set_ 2 _
        obtain ⟨y0, y1, y2⟩ := X2.three
        refine bodyPost_ret (v := .tuple #[.agg #[.int .i64 0, .int .i64 0, .int .i64 0], .bool false]) ?hr rfl ⟨rfl, ?_⟩
        (case hr => simp [results, Tryd.results11, go_sem, y0, y1, y2])
        exact ((B6.setCell (Nat.le_refl _) _).setCell (Nat.le_refl _) _).setCell (Nat.le_refl _) _
  · have hB : pqB s = false := by
      cases h : pqB s
      · rfl
      · rw [hP h] at h3; exact absurd rfl h3
    rw [hB, orN_no, orN_no, orN_no]
    have h2a : ((pqL s).length : Int) ≠ 3 := by omega
    have h2b : (((pqL s).length : Int) == 3) = false := by simpa using h2a
    have h2c : (((pqL s).length : Int) != 3) = true := by simpa using h2a
    clear hP
    generalize pqL s = L at *
    have HL := Lib.hid hl
    clear hl hB h3
    go_enter Tryd.func11, Tryd.ntmps11
    go_wp2_with fail
    refine (CT.out _).mono ?_
    rintro e w1 ⟨rfl, hb1⟩
    have X := (Blk.new w 26 #[.int .i64 0, .int .i64 0, .int .i64 0]).below hb1 (by simp)
    have Bt : Below w.heap.size w w1 := (below_alloc _ _).trans (hb1.mono (by simp))
    have hs := X.lt
    clear hb1
    go_wp2_with fail
    refine (N1.out _ Bt).mono ?_
    rintro e w2 ⟨v1, rfl, ho1, hb2⟩
    have Bt2 : Below w.heap.size w w2 := Bt.trans (hb2.mono (by omega))
    have hz2 := hb2.size
    go_wp2_with fail
    refine (N2.out _ Bt2).mono ?_
    rintro e w3 ⟨v2, rfl, ho2, hb3⟩
    have hz3 := hb3.size
    have Bt3 : Below w.heap.size w w3 := Bt2.trans (hb3.mono (by omega))
    replace ho1 := ho1.below hb3 (Nat.le_refl _)
    replace X := (X.below hb2 hs).below hb3 (by omega)
    obtain ⟨A2, c2, rfl, hc2⟩ := ho2.form
    clear ho2 hb2 hb3 Bt Bt2
    go_wp2_with (at_builtin; refine wpList_append_rd' _ rfl _ _ rfl w1.heap.size _ _ _ _ rfl ho1 A2 _ c2 rfl rfl hc2 (by omega) (by omega) ?_; intro v' w4 hown4 hb4; rw [HL.out] at hown4; obtain ⟨A4, c4, rfl, hc⟩ := hown4.form; have X4 := X.below hb4 hs; have Bt4 : Below w.heap.size w w4 := Bt3.trans (hb4.mono (by omega)); clear hown4 hb4 ho1 hc2 hc; obtain ⟨x0, x1, x2⟩ := X4.three; have f0 := X4.frozen 0; have f1 := X4.frozen 1; have f2 := X4.frozen 2; generalize L.length = m at *)
    clear X
    have X := X4
    have X2 : Blk (((w4.setCell ⟨w.heap.size, 0, none⟩ (.int .i64 0)).setCell ⟨w.heap.size, 1, none⟩ (.int .i64 0)).setCell ⟨w.heap.size, 2, none⟩ (.int .i64 0)) w.heap.size 26 #[.int .i64 0, .int .i64 0, .int .i64 0] := ((X.set_ 0 _).set_ 1 _).set_ 2 _
    obtain ⟨y0, y1, y2⟩ := X2.three
    refine bodyPost_ret (v := .tuple #[.agg #[.int .i64 0, .int .i64 0, .int .i64 0], .bool false]) ?hr rfl ⟨rfl, ?_⟩
    (case hr => simp [results, Tryd.results11, go_sem, y0, y1, y2])
    exact ((Bt4.setCell (Nat.le_refl _) _).setCell (Nat.le_refl _) _).setCell (Nat.le_refl _) _

end Go.Proofs.YtenhlppijpmdgaaDoor
