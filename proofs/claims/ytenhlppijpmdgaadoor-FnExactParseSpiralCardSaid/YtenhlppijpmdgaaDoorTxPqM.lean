/- Contracts: reading a spiral, the model. -/
import Derived.Test.YtenhlppijpmdgaaDoorTxPqP
import Derived.Deep.RegionHeld3
import Derived.Deep.RegionLaw
import Derived.Deep.DeepCutAuto
namespace Go.Proofs.YtenhlppijpmdgaaDoor
open Go.RowKit
set_option maxRecDepth 100000

set_option maxHeartbeats 8000000 in
theorem spParse_any (s : ByteArray) (w : World) (hn : s.size ≤ 1048576) :
    Calls Tryd.prog 26 #[.string s] w fun e w' => (∃ a b c : Int, e = .returned (.tuple #[.agg #[.int .i64 a, .int .i64 b, .int .i64 c], .bool (pqB s)]) ∧ (pqB s = true → a = pqA s ∧ b = pqX s ∧ c = pqY s)) ∧ Below w.heap.size w w' := by
  by_cases h6 : s.size ≤ 10
  · have h6' : ¬ (10 : Int) < (s.size : Int) := by omega
    have h6b : decide ((10 : Int) < (s.size : Int)) = false := decide_eq_false (by omega)
    by_cases h2 : (splitS s 64).length = 2
    · obtain ⟨a, r, har, _⟩ := two_words h2
      have sa := word_le s 64 a (by rw [har]; simp)
      have sr := word_le s 64 r (by rw [har]; simp)
      have eR : pqR s = r := by simp [pqR, har]
      have eA : pqA s = rdI a := by simp [pqA, har]
      have L1 := Lib.hid (fun u => l1Read_any a u (by omega))
      have SP := Lib.hid (fun u => l1Split_any r 42 u (by omega))
      by_cases h3 : (splitS r 42).length = 2
      · obtain ⟨p, q, hpq, _⟩ := two_words h3
        have sp := word_le r 42 p (by rw [hpq]; simp)
        have sq := word_le r 42 q (by rw [hpq]; simp)
        have eX : pqX s = rdI p := by simp [pqX, eR, hpq]
        have eY : pqY s = rdI q := by simp [pqY, eR, hpq]
        have eB : pqB s = spiB (rdI a) (rdI p) (rdI q) := by simp [pqB, eR, eA, eX, eY, har, hpq, h6]
        have hto := fun h : pqB s = true => (pq_to h).2
        rw [eB, eA, eX, eY] at hto
        have L2 := Lib.hid (fun u => l1Read_any p u (by omega))
        have L3 := Lib.hid (fun u => l1Read_any q u (by omega))
        have GM := Lib.hid (fun u => spGood_any (rdI a) (rdI p) (rdI q) u)
        have TT := fun (h : spiB (rdI a) (rdI p) (rdI q) = true) u => spText_any (rdI a) (rdI p) (rdI q) u (by have := spiB_le h; omega) (by have := spiB_le h; omega) (by have := spiB_le h; omega)
        rw [eB, eA, eX, eY]
        have HAR := Lib.hid har
        have HPQ := Lib.hid hpq
        clear eB eA eX eY eR h2 h3 har hpq
        generalize rdI a = X0 at *
        generalize rdI p = Y0 at *
        generalize rdI q = Z0 at *
        have HTO := Lib.hid hto
        have HTT := Lib.hid TT
        clear hto TT
        go_enter Tryd.func26, Tryd.ntmps26
        go_wp2_with fail
        refine (l1Split_any s 64 _ hn).mono ?_
        rintro e w1 ⟨v, rfl, ho, hb⟩
        rw [HAR.out] at ho
        obtain ⟨A, c, rfl, hc⟩ := ho.form
        have X := (Blk.new w 26 #[.int .i64 0, .int .i64 0, .int .i64 0]).below hb (by simp)
        have Bt : Below w.heap.size w w1 := (below_alloc _ _).trans (hb.mono (by simp))
        have hs := X.lt
        obtain ⟨x0, x1, x2⟩ := X.three
        have f0 := X.frozen 0
        have f1 := X.frozen 1
        have f2 := X.frozen 2
        clear hb ho
        obtain ⟨g, hA, hg, d0⟩ := hc 0 (by simp)
        obtain ⟨g', hA', _, d1⟩ := hc 1 (by simp)
        obtain rfl : g = g' := by rw [hA] at hA'; injection hA' with e; injection e
        subst hA
        simp only [List.getD_cons_zero, List.getD_cons_succ] at d0 d1
        clear hc hA'
        go_wp2_with fail
        refine (SP.out _).mono ?_
        rintro e w2 ⟨v2, rfl, ho2, hb2⟩
        rw [HPQ.out] at ho2
        obtain ⟨A2, c2, rfl, hc⟩ := ho2.form
        replace d0 := (hb2.cell (p := ⟨g, 0, none⟩) hg).trans d0
        replace d1 := (hb2.cell (p := ⟨g, 1, none⟩) hg).trans d1
        replace X := X.below hb2 hs
        replace Bt := Bt.trans (hb2.mono (by omega))
        replace hs := X.lt
        clear x0 x1 x2 f0 f1 f2
        obtain ⟨x0, x1, x2⟩ := X.three
        have f0 := X.frozen 0
        have f1 := X.frozen 1
        have f2 := X.frozen 2
        clear hb2 ho2 hg
        obtain ⟨k, hA, hk, m0⟩ := hc 0 (by simp)
        obtain ⟨k', hA', _, m1⟩ := hc 1 (by simp)
        obtain rfl : k = k' := by rw [hA] at hA'; injection hA' with e; injection e
        subst hA
        simp only [List.getD_cons_zero, List.getD_cons_succ] at m0 m1
        clear hc hA' d1
        go_upto_region 7 with fail
        go_cut [6] (fun s6 wx => ∃ g6 : Nat, s6 = .pointer (some ⟨g6, 0, none⟩) ∧ Blk wx g6 26 #[.int .i64 X0, .int .i64 Y0, .int .i64 Z0] ∧ Blk wx w.heap.size 26 #[.int .i64 0, .int .i64 0, .int .i64 0] ∧ Below w.heap.size w wx)
        case first =>
          go_region_held3 (fun u => u.cell? ⟨g, 0, none⟩ = some (.string a) ∧ u.cell? ⟨k, 0, none⟩ = some (.string p) ∧ u.cell? ⟨k, 1, none⟩ = some (.string q)) (first | exact ⟨d0, m0, m1⟩ | go_keep)
            (first
              | (go_at_call_of 46 (Value.string a); refine (L1.out _).mono ?_; rintro e w' ⟨rfl, rfl⟩)
              | (go_at_call_of 46 (Value.string p); refine (L2.out _).mono ?_; rintro e w' ⟨rfl, rfl⟩)
              | (go_at_call_of 46 (Value.string q); refine (L3.out _).mono ?_; rintro e w' ⟨rfl, rfl⟩)
            )
          all_goals (go_wp2_with fail; go_meet; exact ⟨_, rfl, (Blk.new w2 26 #[.int .i64 X0, .int .i64 Y0, .int .i64 Z0]).drew', (X.alloc (.cells #[.int .i64 X0, .int .i64 Y0, .int .i64 Z0] 26)).drew', (Bt.alloc (Nat.le_of_lt hs) (.cells #[.int .i64 X0, .int .i64 Y0, .int .i64 Z0] 26)).drew⟩)
        case rest =>
          obtain ⟨g6, rfl, XM, XR, BR⟩ := hcut
          obtain ⟨w4, rfl⟩ : ∃ w4, w4 = wc := ⟨_, rfl⟩
          obtain ⟨m0, m1, m2⟩ := XM.three
          have zm := XM.lt
          have hxr := XR.lt
          cases hm : spiB X0 Y0 Z0
          · have HM := Lib.hid hm
            clear hm
            go_wp2_with fail
            first | (go_region_law (first | (go_simp; go_at_call 22; (refine (GM.out w4.drew).mono ?_); rintro e w5 ⟨rfl, hb5'⟩; rw [HM.out]; have hb5 : Below w4.heap.size w4 w5 := below_undrew hb5'; have XM5 := XM.below hb5 zm; have X5 := XR.below hb5 XR.lt; obtain ⟨p0, p1, p2⟩ := XM5.three; obtain ⟨x0, x1, x2⟩ := X5.three; have f0 := X5.frozen 0; have f1 := X5.frozen 1; have f2 := X5.frozen 2; have B5 := BR.trans (hb5.mono (by omega))) | fail)) | fail
            all_goals go_wp2_with fail
            all_goals have X := X5
            all_goals (
              have X2 : Blk (((w5.setCell ⟨w.heap.size, 0, none⟩ (.int .i64 X0)).setCell ⟨w.heap.size, 1, none⟩ (.int .i64 Y0)).setCell ⟨w.heap.size, 2, none⟩ (.int .i64 Z0)) w.heap.size 26 #[.int .i64 X0, .int .i64 Y0, .int .i64 Z0] := ((X.set_ 0 _).set_ 1 _).set_ 2 _
              obtain ⟨y0, y1, y2⟩ := X2.three
              refine bodyPost_ret (v := .tuple #[.agg #[.int .i64 X0, .int .i64 Y0, .int .i64 Z0], .bool false]) ?hr rfl ⟨⟨X0, Y0, Z0, by rw [HM.out], fun _ => ⟨rfl, rfl, rfl⟩⟩, ?_⟩
              (case hr => simp [results, Tryd.results26, go_sem, y0, y1, y2])
              exact ((B5.setCell (Nat.le_refl _) _).setCell (Nat.le_refl _) _).setCell (Nat.le_refl _) _)
          · have HM := Lib.hid hm
            have HS := Lib.hid (HTO.out hm)
            have TX := Lib.hid (HTT.out hm)
            clear hm
            go_wp2_with fail
            first | (go_region_law (first | (go_simp; go_at_call 22; (refine (GM.out w4.drew).mono ?_); rintro e w5 ⟨rfl, hb5'⟩; rw [HM.out]; have hb5 : Below w4.heap.size w4 w5 := below_undrew hb5'; have XM5 := XM.below hb5 zm; have X5 := XR.below hb5 XR.lt; obtain ⟨p0, p1, p2⟩ := XM5.three; obtain ⟨x0, x1, x2⟩ := X5.three; have f0 := X5.frozen 0; have f1 := X5.frozen 1; have f2 := X5.frozen 2; have B5 := BR.trans (hb5.mono (by omega))) | (go_simp; go_at_call 23; (refine (TX.out w5).mono ?_); rintro e w6 ⟨rfl, hb6⟩; rw [HS.out]; have XM6 := XM5.below hb6 XM5.lt; have X6 := X5.below hb6 X5.lt; obtain ⟨q0, q1, q2⟩ := XM6.three; obtain ⟨y0, y1, y2⟩ := X6.three; have g0 := X6.frozen 0; have g1 := X6.frozen 1; have g2 := X6.frozen 2; have B6 := B5.trans (hb6.mono (by have := hb5.size; omega))) | fail)) | fail
            all_goals go_wp2_with fail
            all_goals have X := X6
            all_goals (
              have X2 : Blk (((w6.setCell ⟨w.heap.size, 0, none⟩ (.int .i64 X0)).setCell ⟨w.heap.size, 1, none⟩ (.int .i64 Y0)).setCell ⟨w.heap.size, 2, none⟩ (.int .i64 Z0)) w.heap.size 26 #[.int .i64 X0, .int .i64 Y0, .int .i64 Z0] := ((X.set_ 0 _).set_ 1 _).set_ 2 _
              obtain ⟨y0, y1, y2⟩ := X2.three
              refine bodyPost_ret (v := .tuple #[.agg #[.int .i64 X0, .int .i64 Y0, .int .i64 Z0], .bool true]) ?hr rfl ⟨⟨X0, Y0, Z0, by rw [HM.out], fun _ => ⟨rfl, rfl, rfl⟩⟩, ?_⟩
              (case hr => simp [results, Tryd.results26, go_sem, y0, y1, y2])
              exact ((B6.setCell (Nat.le_refl _) _).setCell (Nat.le_refl _) _).setCell (Nat.le_refl _) _)
      · have eB : pqB s = false := by simp [pqB, eR, h3]
        rw [eB]
        have h3' : ¬ ((splitS r 42).length : Int) = 2 := by omega
        have h3b : (((splitS r 42).length : Int) == 2) = false := by simpa using h3'
        have HAR := Lib.hid har
        clear eB eA eR h2 h3 har
        go_enter Tryd.func26, Tryd.ntmps26
        go_wp2_with fail
        refine (l1Split_any s 64 _ hn).mono ?_
        rintro e w1 ⟨v, rfl, ho, hb⟩
        rw [HAR.out] at ho
        obtain ⟨A, c, rfl, hc⟩ := ho.form
        have X := (Blk.new w 26 #[.int .i64 0, .int .i64 0, .int .i64 0]).below hb (by simp)
        have Bt : Below w.heap.size w w1 := (below_alloc _ _).trans (hb.mono (by simp))
        have hs := X.lt
        obtain ⟨x0, x1, x2⟩ := X.three
        have f0 := X.frozen 0
        have f1 := X.frozen 1
        have f2 := X.frozen 2
        clear hb ho
        obtain ⟨g, hA, hg, d0⟩ := hc 0 (by simp)
        obtain ⟨g', hA', _, d1⟩ := hc 1 (by simp)
        obtain rfl : g = g' := by rw [hA] at hA'; injection hA' with e; injection e
        subst hA
        simp only [List.getD_cons_zero, List.getD_cons_succ] at d0 d1
        clear hc hA'
        go_wp2_with fail
        refine (SP.out _).mono ?_
        rintro e w2 ⟨v2, rfl, ho2, hb2⟩
        obtain ⟨A2, c2, rfl, hc⟩ := ho2.form
        replace X := X.below hb2 hs
        replace Bt := Bt.trans (hb2.mono (by omega))
        replace hs := X.lt
        clear x0 x1 x2 f0 f1 f2
        obtain ⟨x0, x1, x2⟩ := X.three
        have f0 := X.frozen 0
        have f1 := X.frozen 1
        have f2 := X.frozen 2
        clear hb2 ho2 hc
        go_wp2_with fail
        have X2 : Blk (((w2.setCell ⟨w.heap.size, 0, none⟩ (.int .i64 0)).setCell ⟨w.heap.size, 1, none⟩ (.int .i64 0)).setCell ⟨w.heap.size, 2, none⟩ (.int .i64 0)) w.heap.size 26 #[.int .i64 0, .int .i64 0, .int .i64 0] := ((X.set_ 0 _).set_ 1 _).set_ 2 _
        obtain ⟨y0, y1, y2⟩ := X2.three
        refine bodyPost_ret (v := .tuple #[.agg #[.int .i64 0, .int .i64 0, .int .i64 0], .bool false]) ?hr rfl ⟨⟨0, 0, 0, rfl, fun h => by cases h⟩, ?_⟩
        (case hr => simp [results, Tryd.results26, go_sem, y0, y1, y2])
        exact ((Bt.setCell (Nat.le_refl _) _).setCell (Nat.le_refl _) _).setCell (Nat.le_refl _) _
    · have eB : pqB s = false := by simp [pqB, h2]
      rw [eB]
      have h2' : ¬ ((splitS s 64).length : Int) = 2 := by omega
      have h2b : (((splitS s 64).length : Int) == 2) = false := by simpa using h2'
      go_enter Tryd.func26, Tryd.ntmps26
      go_wp2_with fail
      refine (l1Split_any s 64 _ hn).mono ?_
      rintro e w1 ⟨v, rfl, ho, hb⟩
      obtain ⟨A, c, rfl, hc⟩ := ho.form
      have X := (Blk.new w 26 #[.int .i64 0, .int .i64 0, .int .i64 0]).below hb (by simp)
      have Bt : Below w.heap.size w w1 := (below_alloc _ _).trans (hb.mono (by simp))
      have hs := X.lt
      obtain ⟨x0, x1, x2⟩ := X.three
      have f0 := X.frozen 0
      have f1 := X.frozen 1
      have f2 := X.frozen 2
      clear hb ho
      go_wp2_with fail
      have X2 : Blk (((w1.setCell ⟨w.heap.size, 0, none⟩ (.int .i64 0)).setCell ⟨w.heap.size, 1, none⟩ (.int .i64 0)).setCell ⟨w.heap.size, 2, none⟩ (.int .i64 0)) w.heap.size 26 #[.int .i64 0, .int .i64 0, .int .i64 0] := ((X.set_ 0 _).set_ 1 _).set_ 2 _
      obtain ⟨y0, y1, y2⟩ := X2.three
      refine bodyPost_ret (v := .tuple #[.agg #[.int .i64 0, .int .i64 0, .int .i64 0], .bool false]) ?hr rfl ⟨⟨0, 0, 0, rfl, fun h => by cases h⟩, ?_⟩
      (case hr => simp [results, Tryd.results26, go_sem, y0, y1, y2])
      exact ((Bt.setCell (Nat.le_refl _) _).setCell (Nat.le_refl _) _).setCell (Nat.le_refl _) _
  · have eB : pqB s = false := by simp [pqB, h6]
    rw [eB]
    have h6' : (10 : Int) < (s.size : Int) := by omega
    go_enter Tryd.func26, Tryd.ntmps26
    go_wp2_with fail
    refine (l1Split_any s 64 _ hn).mono ?_
    rintro e w1 ⟨v, rfl, ho, hb⟩
    obtain ⟨A, c, rfl, hc⟩ := ho.form
    have X := (Blk.new w 26 #[.int .i64 0, .int .i64 0, .int .i64 0]).below hb (by simp)
    have Bt : Below w.heap.size w w1 := (below_alloc _ _).trans (hb.mono (by simp))
    have hs := X.lt
    obtain ⟨x0, x1, x2⟩ := X.three
    have f0 := X.frozen 0
    have f1 := X.frozen 1
    have f2 := X.frozen 2
    clear hb ho
    go_wp2_with fail
    have X2 : Blk (((w1.setCell ⟨w.heap.size, 0, none⟩ (.int .i64 0)).setCell ⟨w.heap.size, 1, none⟩ (.int .i64 0)).setCell ⟨w.heap.size, 2, none⟩ (.int .i64 0)) w.heap.size 26 #[.int .i64 0, .int .i64 0, .int .i64 0] := ((X.set_ 0 _).set_ 1 _).set_ 2 _
    obtain ⟨y0, y1, y2⟩ := X2.three
    refine bodyPost_ret (v := .tuple #[.agg #[.int .i64 0, .int .i64 0, .int .i64 0], .bool false]) ?hr rfl ⟨⟨0, 0, 0, rfl, fun h => by cases h⟩, ?_⟩
    (case hr => simp [results, Tryd.results26, go_sem, y0, y1, y2])
    exact ((Bt.setCell (Nat.le_refl _) _).setCell (Nat.le_refl _) _).setCell (Nat.le_refl _) _

end Go.Proofs.YtenhlppijpmdgaaDoor
