/- Contracts: reading stairs, the model. -/
import Derived.Test.YtfojcefbgdaelaaDoorTxPstT
import Derived.Test.YtfojcefbgdaelaaDoorTxPstO
import Derived.Deep.RegionHeld3
namespace Go.Proofs.YtfojcefbgdaelaaDoor
open Go.RowKit
set_option maxRecDepth 100000

set_option maxHeartbeats 8000000 in
theorem clParse_any (t : ByteArray) (w : World) (hn : t.size ≤ 1048576) :
    Calls Tryd.prog 67 #[.string t] w (OwnSt (orN (psB t) (psS t)) (orX (psB t) (psA t)) (orX (psB t) (psK t)) (psB t) w) := by
  by_cases h6 : t.size ≤ 200
  · have h6' : ¬ (200 : Int) < (t.size : Int) := by omega
    have h6b : decide ((200 : Int) < (t.size : Int)) = false := decide_eq_false (by omega)
    by_cases h2 : (splitS t 115).length = 2
    · obtain ⟨a, r, har, _⟩ := two_words h2
      have sa := word_le t 115 a (by rw [har]; simp)
      have sr := word_le t 115 r (by rw [har]; simp)
      have eR : psR t = r := by simp [psR, har]
      have eS : psS t = rdI a := by simp [psS, har]
      have L1 := Lib.hid (fun u => l1Read_any a u (by omega))
      have SP := Lib.hid (fun u => l1Split_any r 120 u (by omega))
      have HAR := Lib.hid har
      by_cases h3 : (splitS r 120).length = 2
      · exact clParse_two t w hn h6 h2 (by unfold psP; rw [eR]; exact h3)
      · by_cases h3n : (splitS r 120).length ≤ 2
        · exact clParse_one t w hn h6 h2 (by unfold psP; rw [eR]; exact h3) (by unfold psP; rw [eR]; exact h3n)
        · have hB : psB t = false := by simp [psB, psP, eR, h3n]
          have B0 := Lib.hid hB
          have h3' : (2 : Int) < ((splitS r 120).length : Int) := by omega
          have h3b : decide ((2 : Int) < ((splitS r 120).length : Int)) = true := decide_eq_true h3'
          clear hB eR eS h2 h3 h3n har
          go_enter Tryd.func67, Tryd.ntmps67
          go_wp2_with fail
          refine (l1Split_any t 115 _ hn).mono ?_
          rintro e w1 ⟨v, rfl, ho, hb⟩
          rw [HAR.out] at ho
          obtain ⟨A, c, rfl, hc⟩ := ho.form
          have X := (Blk.new w 47 #[.int .i64 0, .slice none 0 0, .slice none 0 0]).below hb (by simp)
          have Bt : Below w.heap.size w w1 := (below_alloc _ _).trans (hb.mono (by simp))
          have hs := X.lt
          obtain ⟨x0, x1, x2⟩ := X.three
          have f0 := X.frozen 0
          have f1 := X.frozen 1
          have f2 := X.frozen 2
          clear hb ho
          obtain ⟨g, hA, hg, d0⟩ := hc 0 (by simp)
          obtain ⟨g', hA', _, d1⟩ := hc 1 (by simp)
          obtain rfl : g = g' := by rw [hA] at hA'; injection hA' with e; injection e
          subst hA
          simp only [List.getD_cons_zero, List.getD_cons_succ] at d0 d1
          clear hc hA'
          go_wp2_with fail
          refine (SP.out _).mono ?_
          rintro e w2 ⟨v2, rfl, ho2, hb2⟩
          obtain ⟨A2, c2, rfl, hc⟩ := ho2.form
          replace d0 := (hb2.cell (p := ⟨g, 0, none⟩) hg).trans d0
          replace X := X.below hb2 hs
          replace Bt := Bt.trans (hb2.mono (by omega))
          have hz2 := hb2.size
          replace hs := X.lt
          clear x0 x1 x2 f0 f1 f2
          obtain ⟨x0, x1, x2⟩ := X.three
          have f0 := X.frozen 0
          have f1 := X.frozen 1
          have f2 := X.frozen 2
          clear hb2 ho2
          clear hc
          go_wp2_with fail
          have XF := X.put3 (.int .i64 0) (.slice none 0 0) (.slice none 0 0)
          obtain ⟨t0, t1, t2⟩ := XF.three
          refine bodyPost_ret (v := .tuple #[.agg #[.int .i64 0, .slice none 0 0, .slice none 0 0], .bool false]) (by simp [results, Tryd.results67, go_sem, t0, t1, t2]) rfl ?_
          exact ⟨none, none, 0, 0, by rw [B0.out]; rfl, by rw [B0.out]; exact OwnI.nil _ _, by rw [B0.out]; exact OwnI.nil _ _, below_put3 Bt (Nat.le_refl _) _ _ _⟩
    · have hB : psB t = false := by simp [psB, h2]
      have B0 := Lib.hid hB
      have h2' : ¬ ((splitS t 115).length : Int) = 2 := by omega
      have h2b : (((splitS t 115).length : Int) == 2) = false := by simpa using h2'
      clear hB
      go_enter Tryd.func67, Tryd.ntmps67
      go_wp2_with fail
      refine (l1Split_any t 115 _ hn).mono ?_
      rintro e w1 ⟨v, rfl, ho, hb⟩
      obtain ⟨A, c, rfl, hc⟩ := ho.form
      have X := (Blk.new w 47 #[.int .i64 0, .slice none 0 0, .slice none 0 0]).below hb (by simp)
      have Bt : Below w.heap.size w w1 := (below_alloc _ _).trans (hb.mono (by simp))
      have hs := X.lt
      obtain ⟨x0, x1, x2⟩ := X.three
      have f0 := X.frozen 0
      have f1 := X.frozen 1
      have f2 := X.frozen 2
      clear hb ho
      go_wp2_with fail
      have XF := X.put3 (.int .i64 0) (.slice none 0 0) (.slice none 0 0)
      obtain ⟨t0, t1, t2⟩ := XF.three
      refine bodyPost_ret (v := .tuple #[.agg #[.int .i64 0, .slice none 0 0, .slice none 0 0], .bool false]) (by simp [results, Tryd.results67, go_sem, t0, t1, t2]) rfl ?_
      exact ⟨none, none, 0, 0, by rw [B0.out]; rfl, by rw [B0.out]; exact OwnI.nil _ _, by rw [B0.out]; exact OwnI.nil _ _, below_put3 Bt (Nat.le_refl _) _ _ _⟩
  · have hB : psB t = false := by simp [psB, h6]
    have B0 := Lib.hid hB
    have h6' : (200 : Int) < (t.size : Int) := by omega
    clear hB
    go_enter Tryd.func67, Tryd.ntmps67
    go_wp2_with fail
    refine (l1Split_any t 115 _ hn).mono ?_
    rintro e w1 ⟨v, rfl, ho, hb⟩
    obtain ⟨A, c, rfl, hc⟩ := ho.form
    have X := (Blk.new w 47 #[.int .i64 0, .slice none 0 0, .slice none 0 0]).below hb (by simp)
    have Bt : Below w.heap.size w w1 := (below_alloc _ _).trans (hb.mono (by simp))
    have hs := X.lt
    obtain ⟨x0, x1, x2⟩ := X.three
    have f0 := X.frozen 0
    have f1 := X.frozen 1
    have f2 := X.frozen 2
    clear hb ho
    go_wp2_with fail
    have XF := X.put3 (.int .i64 0) (.slice none 0 0) (.slice none 0 0)
    obtain ⟨t0, t1, t2⟩ := XF.three
    refine bodyPost_ret (v := .tuple #[.agg #[.int .i64 0, .slice none 0 0, .slice none 0 0], .bool false]) (by simp [results, Tryd.results67, go_sem, t0, t1, t2]) rfl ?_
    exact ⟨none, none, 0, 0, by rw [B0.out]; rfl, by rw [B0.out]; exact OwnI.nil _ _, by rw [B0.out]; exact OwnI.nil _ _, below_put3 Bt (Nat.le_refl _) _ _ _⟩

set_option maxHeartbeats 1000000 in
theorem specParSt_any (t : ByteArray) (w : World) (hn : t.size ≤ 1048576) :
    Calls Tryd.prog 30 #[.string t] w (SomeSt (orN (psB t) (psS t)) (orX (psB t) (psA t)) (orX (psB t) (psK t)) (psB t) w) := by
  have MP := Lib.hid (fun u => clParse_any t u hn)
  have lA := orX_lenA t
  have lK := orX_lenK t
  generalize orN (psB t) (psS t) = n at *
  generalize orX (psB t) (psA t) = xs at *
  generalize orX (psB t) (psK t) = ys at *
  generalize psB t = r at *
  go_enter Tryd.func30, Tryd.ntmps30
  go_wp2_with fail
  refine (MP.out _).mono ?_
  rintro e w1 ⟨A1, A2, c1, c2, rfl, O1, O2, hb⟩
  have X := (Blk.new w 47 #[.int .i64 0, .slice none 0 0, .slice none 0 0]).below hb (by simp)
  have Bt : Below w.heap.size w w1 := (below_alloc _ _).trans (hb.mono (by simp))
  obtain ⟨x0, x1, x2⟩ := X.three
  have f0 := X.frozen 0
  have f1 := X.frozen 1
  have f2 := X.frozen 2
  have XF := X.put3 (.int .i64 n) (.slice A1 xs.length c1) (.slice A2 ys.length c2)
  have g1 : ∀ k, Value.ownBlock (.slice A1 xs.length c1) = some k → k ≠ w.heap.size := fun k h e => by have h9 := (O1.lt k h).1; simp at h9; omega
  have g2 : ∀ k, Value.ownBlock (.slice A2 ys.length c2) = some k → k ≠ w.heap.size := fun k h e => by have h9 := (O2.lt k h).1; simp at h9; omega
  have q1 := O1.put3 g1 (.int .i64 n) (.slice A1 xs.length c1) (.slice A2 ys.length c2)
  have q2 := O2.put3 g2 (.int .i64 n) (.slice A1 xs.length c1) (.slice A2 ys.length c2)
  clear O1 O2 hb g1 g2
  go_wp2_with fail
  obtain ⟨t0, t1, t2⟩ := XF.three
  refine bodyPost_ret (v := .tuple #[.agg #[.int .i64 n, .slice A1 xs.length c1, .slice A2 ys.length c2], .bool r]) (by simp [results, Tryd.results30, go_sem, t0, t1, t2]) rfl ?_
  exact ⟨A1, A2, c1, c2, rfl, ⟨q1.rd, q2.rd, lA, lK⟩, below_put3 Bt (Nat.le_refl _) _ _ _⟩


end Go.Proofs.YtfojcefbgdaelaaDoor
