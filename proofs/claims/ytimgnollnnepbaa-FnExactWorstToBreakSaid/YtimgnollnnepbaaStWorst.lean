/- Contracts: WorstToBreak, on both sides. -/
import Derived.Test.YtimgnollnnepbaaStThrough
namespace Go.Proofs.Ytimgnollnnepbaa
open Go.RowKit

set_option maxHeartbeats 4000000 in
theorem implWorst_any (st : Int) (A A' : Option Addr) (c c' : Nat) (ss bs : List Int) (B : Nat) (w : World) (h : St w B st A A' c c' ss bs) (hB : B ≤ w.heap.size) :
    Calls Try.prog 39 #[stv st A A' c c' ss bs] w (Plain (.tuple #[.int .i64 (worstN st ss bs), .int .i64 (worstV st ss bs), .bool (worstB st ss bs)]) w) := by
  cases g : countB st ss bs
  · rw [show worstN st ss bs = 0 by simp [worstN, worstB, g], show worstV st ss bs = 0 by simp [worstV, worstB, g], show worstB st ss bs = false by simp [worstB, g]]
    have H := Lib.hid g
    clear g
    have h1 := h.alloc hB (.cells #[.int .i64 st, .slice A ss.length c, .slice A' bs.length c'] 28)
    have X0 : Blk (w.alloc (.cells #[.int .i64 st, .slice A ss.length c, .slice A' bs.length c'] 28)) w.heap.size 28 #[.int .i64 st, .slice A ss.length c, .slice A' bs.length c'] := Blk.new _ _ _
    go_enter Try.func39, Try.ntmps39
    go_wp2_with fail
    refine (toRank_any _ _ _ _ _ _ _ B _ h1 (by simp; omega)).mono ?_
    rintro e w1 ⟨v, rfl, hb, _⟩
    rw [H.out]
    have Bt : Below w.heap.size w w1 := (below_alloc _ _).trans (hb.mono (by simp))
    have hs : w.heap.size + 1 ≤ w1.heap.size := by have := hb.size; simp at this; omega
    replace h1 := h1.below hb (by simp; omega)
    replace X0 := X0.below hb (by simp)
    clear hb
    obtain ⟨p0, p1, p2⟩ := X0.three
    go_wp2_with fail
    go_ret3
    exact ⟨rfl, Bt⟩
  · have hg : goodB st ss bs = true := by simp only [countB, Bool.and_eq_true] at g; exact g.1
    have hle : wS st ss bs st.toNat ≤ 1000000000000000 := by simp only [countB, Bool.and_eq_true, decide_eq_true_eq] at g; exact g.2
    have G := good_of hg
    obtain ⟨n, rfl⟩ : ∃ n : Nat, st = (n : Int) := ⟨st.toNat, by have := G.st1; omega⟩
    have g1 : 1 ≤ n := by have := G.st1; omega
    have g2 : n ≤ 60 := by have := G.st2; omega
    rw [Int.toNat_natCast] at hle
    by_cases hw : wS n ss bs n = 0
    · rw [show worstN n ss bs = 0 by simp [worstN, worstB, hw], show worstV n ss bs = 0 by simp [worstV, worstB, hw], show worstB n ss bs = false by simp [worstB, hw]]
      have H := Lib.hid g
      clear g
      have h1 := h.alloc hB (.cells #[.int .i64 (n : Int), .slice A ss.length c, .slice A' bs.length c'] 28)
      have X0 : Blk (w.alloc (.cells #[.int .i64 (n : Int), .slice A ss.length c, .slice A' bs.length c'] 28)) w.heap.size 28 #[.int .i64 (n : Int), .slice A ss.length c, .slice A' bs.length c'] := Blk.new _ _ _
      go_enter Try.func39, Try.ntmps39
      go_wp2_with fail
      refine (toRank_any _ _ _ _ _ _ _ B _ h1 (by simp; omega)).mono ?_
      rintro e w1 ⟨v, rfl, hb, hv⟩
      obtain ⟨gr, rfl, hgr, hblkr⟩ := hv H.out
      rw [Int.toNat_natCast] at hblkr
      have c0 := hblkr.int_at (k := 0) (by unfold onL; rw [tell_length]; omega)
      rw [onL_zero] at c0
      rw [H.out]
      clear hv
      have Bt : Below w.heap.size w w1 := (below_alloc _ _).trans (hb.mono (by simp))
      have hs : w.heap.size + 1 ≤ w1.heap.size := by have := hb.size; simp at this; omega
      replace h1 := h1.below hb (by simp; omega)
      replace X0 := X0.below hb (by simp)
      clear hb
      obtain ⟨p0, p1, p2⟩ := X0.three
      rw [hw] at c0
      clear hle hw G
      go_wp2_with fail
      go_ret3
      exact ⟨rfl, Bt⟩
    · by_cases h1n : n = 1
      · have h11 : (n : Int) = 1 := by omega
        rw [show worstN n ss bs = 0 by simp [worstN, worstB, h11], show worstV n ss bs = 0 by simp [worstV, worstB, h11], show worstB n ss bs = false by simp [worstB, h11]]
        have H := Lib.hid g
        have hw0 : (wS n ss bs n == 0) = false := by simpa using hw
        have H11 := Lib.hid h11
        clear g h11 h1n
        have h1 := h.alloc hB (.cells #[.int .i64 (n : Int), .slice A ss.length c, .slice A' bs.length c'] 28)
        have X0 : Blk (w.alloc (.cells #[.int .i64 (n : Int), .slice A ss.length c, .slice A' bs.length c'] 28)) w.heap.size 28 #[.int .i64 (n : Int), .slice A ss.length c, .slice A' bs.length c'] := Blk.new _ _ _
        go_enter Try.func39, Try.ntmps39
        go_wp2_with fail
        refine (toRank_any _ _ _ _ _ _ _ B _ h1 (by simp; omega)).mono ?_
        rintro e w1 ⟨v, rfl, hb, hv⟩
        obtain ⟨gr, rfl, hgr, hblkr⟩ := hv H.out
        rw [Int.toNat_natCast] at hblkr
        have c0 := hblkr.int_at (k := 0) (by unfold onL; rw [tell_length]; omega)
        rw [onL_zero] at c0
        rw [H.out]
        clear hv
        have Bt : Below w.heap.size w w1 := (below_alloc _ _).trans (hb.mono (by simp))
        have hs : w.heap.size + 1 ≤ w1.heap.size := by have := hb.size; simp at this; omega
        replace h1 := h1.below hb (by simp; omega)
        replace X0 := X0.below hb (by simp)
        clear hb
        obtain ⟨p0, p1, p2⟩ := X0.three
        generalize wS n ss bs n = z at *
        clear hle hg G
        rw [H11.out] at p0
        go_wp2_with fail
        go_ret3
        exact ⟨rfl, Bt⟩
      · have hn2 : 2 ≤ n := by omega
        have hni : ¬ (n : Int) = 1 := by omega
        have hn0 : ((n : Int) == 1) = false := by simpa using hni
        have hB1 : worstB n ss bs = true := by simp [worstB, g, hw, hni]
        rw [show worstN n ss bs = topN n ss bs (n - 2) by simp [worstN, hB1], show worstV n ss bs = th n ss bs (topN n ss bs (n - 2)) by simp [worstV, hB1], hB1]
        have H := Lib.hid g
        have hw0 : (wS n ss bs n == 0) = false := by simpa using hw
        clear g hB1
        have HIN := Lib.hid (fun k => topN_in n ss bs k)
        have HY := Lib.hid (fun k => topN_yes (n := n) (ss := ss) (bs := bs) (k := k))
        have HN := Lib.hid (fun k => topN_no (n := n) (ss := ss) (bs := bs) (k := k))
        have h1 := h.alloc hB (.cells #[.int .i64 (n : Int), .slice A ss.length c, .slice A' bs.length c'] 28)
        have X0 : Blk (w.alloc (.cells #[.int .i64 (n : Int), .slice A ss.length c, .slice A' bs.length c'] 28)) w.heap.size 28 #[.int .i64 (n : Int), .slice A ss.length c, .slice A' bs.length c'] := Blk.new _ _ _
        go_enter Try.func39, Try.ntmps39
        go_wp2_with fail
        refine (toRank_any _ _ _ _ _ _ _ B _ h1 (by simp; omega)).mono ?_
        rintro e w1 ⟨v, rfl, hb, hv⟩
        obtain ⟨gr, rfl, hgr, hblkr⟩ := hv H.out
        rw [Int.toNat_natCast] at hblkr
        have c0 := hblkr.int_at (k := 0) (by unfold onL; rw [tell_length]; omega)
        rw [onL_zero] at c0
        rw [H.out]
        clear hv
        have Bt : Below w.heap.size w w1 := (below_alloc _ _).trans (hb.mono (by simp))
        have hs : w.heap.size + 1 ≤ w1.heap.size := by have := hb.size; simp at this; omega
        replace h1 := h1.below hb (by simp; omega)
        replace X0 := X0.below hb (by simp)
        clear hb
        obtain ⟨p0, p1, p2⟩ := X0.three
        generalize wS n ss bs n = z at *
        clear hle hblkr
        go_wp2_with fail
        refine (waysThrough_any n _ _ _ _ _ _ B _ h1 (by omega) G).mono ?_
        rintro e w2 ⟨g, ys, rfl, hgg, hblk, hyl, hys, hb⟩
        have HYL := Lib.hid hyl
        have HYS := Lib.hid hys
        clear hys hyl G c0
        replace Bt := Bt.trans (hb.mono (by omega))
        replace h1 := h1.below hb (by omega)
        replace X0 := X0.below hb (by omega)
        replace hs : w.heap.size + 1 ≤ w2.heap.size := by have := hb.size; omega
        clear p0 p1 p2
        clear hb
        obtain ⟨p0, p1, p2⟩ := X0.three
        go_wp2_with fail
        go_loopw [8, 9] (fun v i wr => ∃ k : Nat, k + 2 ≤ n ∧ v = .int .i64 (topN n ss bs k : Int) ∧ i = .int .i64 ((k : Int) + 2) ∧ Below w2.heap.size w2 wr) (fun _ i _ => (62 - intOf i).toNat)
        case atStart => exact ⟨0, by omega, rfl, rfl, Below.refl _ _⟩
        case round =>
          obtain ⟨k, hk, rfl, rfl, hbw⟩ := hrel
          have hX := X0.below hbw (by omega)
          clear p0 p1 p2
          obtain ⟨p0, p1, p2⟩ := hX.three
          have hblk2 := hblk.below hbw hblk.lt
          have hi := HIN.out k
          have c2 := hblk2.int_at (k := topN n ss bs k) (by rw [HYL.out]; omega)
          rw [HYS.out _ (by omega)] at c2
          by_cases hlt : k + 2 < n
          · have hkn : (k : Int) + 2 < (n : Int) := by omega
            have c1 := hblk2.int_at (k := k + 2) (by rw [HYL.out]; omega)
            rw [HYS.out _ (by omega)] at c1
            have hk2 : (0 : Int) ≤ (k : Int) + 2 := by omega
            have hk3 : ((k : Int) + 2).toNat = k + 2 := by omega
            have hk4 : (k : Int) + 2 < (n : Int) + 1 := by omega
            have hk5 : k + 2 < n + 1 := by omega
            by_cases hp : th n ss bs (topN n ss bs k) < th n ss bs (k + 2)
            · have HT := Lib.hid (HY.out k hp)
              generalize th n ss bs (topN n ss bs k) = a at *
              generalize th n ss bs (k + 2) = b at *
              generalize topN n ss bs k = q at *
              have hq1 : (q : Int) < (n : Int) + 1 := by omega
              have hq2 : q < n + 1 := by omega
              clear hi
              go_wp2
              go_region
              go_wp2
              go_roundw
              case rel => exact ⟨k + 1, by omega, by rw [HT.out]; go_num, by go_num, hbw.drew⟩
              case measure => simp [intOf] <;> omega
            · have HT := Lib.hid (HN.out k (by first | exact hp | exact Int.not_lt.mp hp | omega))
              generalize th n ss bs (topN n ss bs k) = a at *
              generalize th n ss bs (k + 2) = b at *
              generalize topN n ss bs k = q at *
              have hq1 : (q : Int) < (n : Int) + 1 := by omega
              have hq2 : q < n + 1 := by omega
              clear hi
              go_wp2
              go_region
              go_wp2
              go_roundw
              case rel => exact ⟨k + 1, by omega, by rw [HT.out], by go_num, hbw.drew⟩
              case measure => simp [intOf] <;> omega
          · obtain rfl : n = k + 2 := by omega
            generalize ha : th (k + 2) ss bs (topN (k + 2) ss bs k) = a at *
            generalize hq : topN (k + 2) ss bs k = q at *
            have HA := Lib.hid ha
            have HQ := Lib.hid hq
            clear ha hq
            have hq1 : (q : Int) < ((k + 2 : Nat) : Int) + 1 := by omega
            have hq2 : q < k + 2 + 1 := by omega
            clear hi
            go_wp2
            go_region
            go_wp2
            go_ret3
            have ha := HA.out
            have hq := HQ.out
            subst ha
            subst hq
            exact ⟨rfl, Bt.trans ((hbw.mono (by omega)).drew)⟩

set_option maxHeartbeats 4000000 in
theorem specWorst_any (st : Int) (A A' : Option Addr) (c c' : Nat) (ss bs : List Int) (B : Nat) (w : World) (h : St w B st A A' c c' ss bs) (hB : B ≤ w.heap.size) :
    Calls Try.prog 38 #[stv st A A' c c' ss bs] w (Plain (.tuple #[.int .i64 (worstN st ss bs), .int .i64 (worstV st ss bs), .bool (worstB st ss bs)]) w) := by
  cases g : countB st ss bs
  · rw [show worstN st ss bs = 0 by simp [worstN, worstB, g], show worstV st ss bs = 0 by simp [worstV, worstB, g], show worstB st ss bs = false by simp [worstB, g]]
    have H := Lib.hid g
    clear g
    have h1 := h.alloc hB (.cells #[.int .i64 st, .slice A ss.length c, .slice A' bs.length c'] 28)
    have X0 : Blk (w.alloc (.cells #[.int .i64 st, .slice A ss.length c, .slice A' bs.length c'] 28)) w.heap.size 28 #[.int .i64 st, .slice A ss.length c, .slice A' bs.length c'] := Blk.new _ _ _
    go_enter Try.func38, Try.ntmps38
    go_wp2_with fail
    refine (clCounted_any _ _ _ _ _ _ _ B _ h1 (by simp; omega)).mono ?_
    rintro e w1 ⟨rfl, hb⟩
    have Bt : Below w.heap.size w w1 := (below_alloc _ _).trans (hb.mono (by simp))
    have hs : w.heap.size + 1 ≤ w1.heap.size := by have := hb.size; simp at this; omega
    replace h1 := h1.below hb (by simp; omega)
    replace X0 := X0.below hb (by simp)
    clear hb
    obtain ⟨p0, p1, p2⟩ := X0.three
    rw [H.out]
    go_wp2_with fail
    go_ret3
    exact ⟨rfl, Bt⟩
  · have hg : goodB st ss bs = true := by simp only [countB, Bool.and_eq_true] at g; exact g.1
    have hle : wS st ss bs st.toNat ≤ 1000000000000000 := by simp only [countB, Bool.and_eq_true, decide_eq_true_eq] at g; exact g.2
    have G := good_of hg
    obtain ⟨n, rfl⟩ : ∃ n : Nat, st = (n : Int) := ⟨st.toNat, by have := G.st1; omega⟩
    have g1 : 1 ≤ n := by have := G.st1; omega
    have g2 : n ≤ 60 := by have := G.st2; omega
    rw [Int.toNat_natCast] at hle
    by_cases hw : wS n ss bs n = 0
    · rw [show worstN n ss bs = 0 by simp [worstN, worstB, hw], show worstV n ss bs = 0 by simp [worstV, worstB, hw], show worstB n ss bs = false by simp [worstB, hw]]
      have H := Lib.hid g
      clear g
      have h1 := h.alloc hB (.cells #[.int .i64 (n : Int), .slice A ss.length c, .slice A' bs.length c'] 28)
      have X0 : Blk (w.alloc (.cells #[.int .i64 (n : Int), .slice A ss.length c, .slice A' bs.length c'] 28)) w.heap.size 28 #[.int .i64 (n : Int), .slice A ss.length c, .slice A' bs.length c'] := Blk.new _ _ _
      go_enter Try.func38, Try.ntmps38
      go_wp2_with fail
      refine (clCounted_any _ _ _ _ _ _ _ B _ h1 (by simp; omega)).mono ?_
      rintro e w1 ⟨rfl, hb⟩
      have Bt : Below w.heap.size w w1 := (below_alloc _ _).trans (hb.mono (by simp))
      have hs : w.heap.size + 1 ≤ w1.heap.size := by have := hb.size; simp at this; omega
      replace h1 := h1.below hb (by simp; omega)
      replace X0 := X0.below hb (by simp)
      clear hb
      obtain ⟨p0, p1, p2⟩ := X0.three
      rw [H.out]
      go_wp2_with fail
      refine (clWays_any n _ _ _ _ _ _ B _ h1 (by omega) G).mono ?_
      rintro e w2 ⟨gq, rfl, hgq, hblkq, hb⟩
      have c0 := hblkq.int_at (k := 0) (by unfold caL; rw [tell_length]; omega)
      rw [caL_zero, cap_same hle] at c0
      rw [hw] at c0
      clear hle hw G
      replace Bt := Bt.trans (hb.mono (by omega))
      replace h1 := h1.below hb (by omega)
      replace X0 := X0.below hb (by omega)
      replace hs : w.heap.size + 1 ≤ w2.heap.size := by have := hb.size; omega
      clear p0 p1 p2
      clear hb
      obtain ⟨p0, p1, p2⟩ := X0.three
      go_wp2_with fail
      go_ret3
      exact ⟨rfl, Bt⟩
    · by_cases h1n : n = 1
      · have h11 : (n : Int) = 1 := by omega
        rw [show worstN n ss bs = 0 by simp [worstN, worstB, h11], show worstV n ss bs = 0 by simp [worstV, worstB, h11], show worstB n ss bs = false by simp [worstB, h11]]
        have H := Lib.hid g
        have hw0 : (wS n ss bs n == 0) = false := by simpa using hw
        have H11 := Lib.hid h11
        clear g h11 h1n
        have h1 := h.alloc hB (.cells #[.int .i64 (n : Int), .slice A ss.length c, .slice A' bs.length c'] 28)
        have X0 : Blk (w.alloc (.cells #[.int .i64 (n : Int), .slice A ss.length c, .slice A' bs.length c'] 28)) w.heap.size 28 #[.int .i64 (n : Int), .slice A ss.length c, .slice A' bs.length c'] := Blk.new _ _ _
        go_enter Try.func38, Try.ntmps38
        go_wp2_with fail
        refine (clCounted_any _ _ _ _ _ _ _ B _ h1 (by simp; omega)).mono ?_
        rintro e w1 ⟨rfl, hb⟩
        have Bt : Below w.heap.size w w1 := (below_alloc _ _).trans (hb.mono (by simp))
        have hs : w.heap.size + 1 ≤ w1.heap.size := by have := hb.size; simp at this; omega
        replace h1 := h1.below hb (by simp; omega)
        replace X0 := X0.below hb (by simp)
        clear hb
        obtain ⟨p0, p1, p2⟩ := X0.three
        rw [H.out]
        go_wp2_with fail
        refine (clWays_any n _ _ _ _ _ _ B _ h1 (by omega) G).mono ?_
        rintro e w2 ⟨gq, rfl, hgq, hblkq, hb⟩
        have c0 := hblkq.int_at (k := 0) (by unfold caL; rw [tell_length]; omega)
        rw [caL_zero, cap_same hle] at c0
        generalize wS n ss bs n = z at *
        clear hle hg G
        replace Bt := Bt.trans (hb.mono (by omega))
        replace h1 := h1.below hb (by omega)
        replace X0 := X0.below hb (by omega)
        replace hs : w.heap.size + 1 ≤ w2.heap.size := by have := hb.size; omega
        clear p0 p1 p2
        clear hb
        obtain ⟨p0, p1, p2⟩ := X0.three
        rw [H11.out] at p0
        go_wp2_with fail
        go_ret3
        exact ⟨rfl, Bt⟩
      · have hn2 : 2 ≤ n := by omega
        have hni : ¬ (n : Int) = 1 := by omega
        have hn0 : ((n : Int) == 1) = false := by simpa using hni
        have hB1 : worstB n ss bs = true := by simp [worstB, g, hw, hni]
        rw [show worstN n ss bs = topN n ss bs (n - 2) by simp [worstN, hB1], show worstV n ss bs = th n ss bs (topN n ss bs (n - 2)) by simp [worstV, hB1], hB1]
        have H := Lib.hid g
        have hw0 : (wS n ss bs n == 0) = false := by simpa using hw
        clear g hB1
        have HIN := Lib.hid (fun k => topN_in n ss bs k)
        have HY := Lib.hid (fun k => topN_yes (n := n) (ss := ss) (bs := bs) (k := k))
        have HN := Lib.hid (fun k => topN_no (n := n) (ss := ss) (bs := bs) (k := k))
        have HLE := Lib.hid hle
        have HTN := Lib.hid (fun k => th_nonneg n ss bs k)
        have GH := Lib.hid G
        have h1 := h.alloc hB (.cells #[.int .i64 (n : Int), .slice A ss.length c, .slice A' bs.length c'] 28)
        have X0 : Blk (w.alloc (.cells #[.int .i64 (n : Int), .slice A ss.length c, .slice A' bs.length c'] 28)) w.heap.size 28 #[.int .i64 (n : Int), .slice A ss.length c, .slice A' bs.length c'] := Blk.new _ _ _
        go_enter Try.func38, Try.ntmps38
        go_wp2_with fail
        refine (clCounted_any _ _ _ _ _ _ _ B _ h1 (by simp; omega)).mono ?_
        rintro e w1 ⟨rfl, hb⟩
        have Bt : Below w.heap.size w w1 := (below_alloc _ _).trans (hb.mono (by simp))
        have hs : w.heap.size + 1 ≤ w1.heap.size := by have := hb.size; simp at this; omega
        replace h1 := h1.below hb (by simp; omega)
        replace X0 := X0.below hb (by simp)
        clear hb
        obtain ⟨p0, p1, p2⟩ := X0.three
        rw [H.out]
        go_wp2_with fail
        refine (clWays_any n _ _ _ _ _ _ B _ h1 (by omega) G).mono ?_
        rintro e w2 ⟨gq, rfl, hgq, hblkq, hb⟩
        have c0 := hblkq.int_at (k := 0) (by unfold caL; rw [tell_length]; omega)
        rw [caL_zero, cap_same hle] at c0
        clear hle G
        replace Bt := Bt.trans (hb.mono (by omega))
        replace h1 := h1.below hb (by omega)
        replace X0 := X0.below hb (by omega)
        replace hs : w.heap.size + 1 ≤ w2.heap.size := by have := hb.size; omega
        clear p0 p1 p2
        clear hb
        obtain ⟨p0, p1, p2⟩ := X0.three
        generalize hz : wS n ss bs n = z at hw hw0 c0
        clear hz
        go_wp2_with fail
        go_loopw [5, 6, 7] (fun v u i wr => ∃ k : Nat, k + 1 ≤ n ∧ (k = 0 → v = .int .i64 0 ∧ u = .int .i64 (-1)) ∧ (∀ m, k = m + 1 → v = .int .i64 (topN n ss bs m : Int) ∧ u = .int .i64 (th n ss bs (topN n ss bs m))) ∧ i = .int .i64 ((k : Int) + 1) ∧ Below w2.heap.size w2 wr) (fun _ _ i _ => (62 - intOf i).toNat)
        case atStart => exact ⟨0, by omega, fun _ => ⟨rfl, rfl⟩, fun m hm => by omega, rfl, Below.refl _ _⟩
        case round =>
          obtain ⟨k, hk, hz0, hzs, rfl, hbw⟩ := hrel
          have hX := X0.below hbw (by omega)
          have hS := h1.below hbw (by omega)
          have hz1 := hbw.size
          clear p0 p1 p2
          obtain ⟨p0, p1, p2⟩ := hX.three
          by_cases hlt : k + 1 < n
          · have hkn : (k : Int) + 1 < (n : Int) := by omega
            have hcl := clThrough_any n _ _ _ _ ss bs (k + 1) B wr hS (by omega) GH.out (by omega) (by omega) HLE.out
            rw [show ((k + 1 : Nat) : Int) = (k : Int) + 1 by omega] at hcl
            have HC := Lib.hid hcl
            clear hcl
            have hn1 := HTN.out (k + 1)
            by_cases hk0 : k = 0
            · obtain ⟨rfl, rfl⟩ := hz0 hk0
              subst hk0
              have hgt : (-1 : Int) < th n ss bs (0 + 1) := by omega
              have HT : Hid (topN n ss bs 0 = 1) := Lib.hid rfl
              generalize hb1 : th n ss bs (0 + 1) = b at *
              have HB : Hid (th n ss bs 1 = b) := Lib.hid hb1
              clear hb1
              clear hzs
              go_wp2_with fail
              refine HC.out.mono ?_
              rintro e w3 ⟨rfl, hb3⟩
              replace hbw := hbw.trans (hb3.mono hz1)
              clear p0 p1 p2 hb3 hX hS
              go_wp2_with fail
              go_roundw
              case rel => exact ⟨1, by omega, fun h => by omega, fun m hm => by obtain rfl : m = 0 := (by omega); rw [HT.out, HB.out]; exact ⟨rfl, rfl⟩, rfl, hbw⟩
              case measure => simp [intOf] <;> omega
            · obtain ⟨m, rfl⟩ : ∃ m, k = m + 1 := ⟨k - 1, by omega⟩
              obtain ⟨rfl, rfl⟩ := hzs m rfl
              clear hz0 hzs
              by_cases hp : th n ss bs (topN n ss bs m) < th n ss bs (m + 1 + 1)
              · have HT := Lib.hid (HY.out m hp)
                have HV : Hid (th n ss bs (topN n ss bs (m + 1)) = th n ss bs (m + 1 + 1)) := Lib.hid (by rw [HT.out])
                generalize th n ss bs (m + 1 + 1) = b at *
                generalize th n ss bs (topN n ss bs m) = a at *
                generalize topN n ss bs m = q at *
                go_wp2_with fail
                refine HC.out.mono ?_
                rintro e w3 ⟨rfl, hb3⟩
                replace hbw := hbw.trans (hb3.mono hz1)
                clear p0 p1 p2 hb3 hX hS
                go_wp2_with fail
                go_roundw
                case rel => exact ⟨m + 2, by omega, fun h => by omega, fun m2 hm2 => by obtain rfl : m2 = m + 1 := (by omega); rw [HV.out, HT.out]; exact ⟨by go_num, rfl⟩, by go_num, hbw⟩
                case measure => simp [intOf] <;> omega
              · have HT := Lib.hid (HN.out m (by first | exact hp | exact Int.not_lt.mp hp | omega))
                have HV : Hid (th n ss bs (topN n ss bs (m + 1)) = th n ss bs (topN n ss bs m)) := Lib.hid (by rw [HT.out])
                generalize th n ss bs (m + 1 + 1) = b at *
                generalize th n ss bs (topN n ss bs m) = a at *
                generalize topN n ss bs m = q at *
                go_wp2_with fail
                refine HC.out.mono ?_
                rintro e w3 ⟨rfl, hb3⟩
                replace hbw := hbw.trans (hb3.mono hz1)
                clear p0 p1 p2 hb3 hX hS
                go_wp2_with fail
                go_roundw
                case rel => exact ⟨m + 2, by omega, fun h => by omega, fun m2 hm2 => by obtain rfl : m2 = m + 1 := (by omega); rw [HV.out, HT.out]; exact ⟨rfl, rfl⟩, by go_num, hbw⟩
                case measure => simp [intOf] <;> omega
          · obtain ⟨m, rfl⟩ : ∃ m, k = m + 1 := ⟨k - 1, by omega⟩
            obtain rfl : n = m + 1 + 1 := by omega
            obtain ⟨rfl, rfl⟩ := hzs m rfl
            clear hz0 hzs
            generalize ha : th (m + 1 + 1) ss bs (topN (m + 1 + 1) ss bs m) = a at *
            generalize hq : topN (m + 1 + 1) ss bs m = q at *
            have HA := Lib.hid ha
            have HQ := Lib.hid hq
            clear ha hq
            go_wp2_with fail
            go_ret3
            have ha := HA.out
            have hq := HQ.out
            subst ha
            subst hq
            exact ⟨rfl, Bt.trans (hbw.mono (by omega))⟩

end Go.Proofs.Ytimgnollnnepbaa
