/- Contracts: ClimbsThrough, NeededSteps, WorstToBreak, on both sides. -/
import Derived.Test.YtimgnollnnepbaaStThr
namespace Go.Proofs.Ytimgnollnnepbaa
open Go.RowKit

set_option maxHeartbeats 2000000 in
theorem implThrough_any (st : Int) (A A' : Option Addr) (c c' : Nat) (ss bs : List Int) (x : Int) (B : Nat) (w : World) (h : St w B st A A' c c' ss bs) (hB : B ≤ w.heap.size) :
    Calls Try.prog 27 #[stv st A A' c c' ss bs, .int .i64 x] w (Plain (.tuple #[.int .i64 (throughV st ss bs x), .bool (throughB st ss bs x)]) w) := by
  cases g : countB st ss bs
  · rw [show throughV st ss bs x = 0 by simp [throughV, throughB, g], show throughB st ss bs x = false by simp [throughB, g]]
    have H := Lib.hid g
    clear g
    have h1 := h.alloc hB (.cells #[.int .i64 st, .slice A ss.length c, .slice A' bs.length c'] 28)
    have X0 : Blk (w.alloc (.cells #[.int .i64 st, .slice A ss.length c, .slice A' bs.length c'] 28)) w.heap.size 28 #[.int .i64 st, .slice A ss.length c, .slice A' bs.length c'] := Blk.new _ _ _
    go_enter Try.func27, Try.ntmps27
    go_wp2_with fail
    refine (toRank_any _ _ _ _ _ _ _ B _ h1 (by simp; omega)).mono ?_
    rintro e w1 ⟨v, rfl, hb, _⟩
    rw [H.out]
    have Bt : Below w.heap.size w w1 := (below_alloc _ _).trans (hb.mono (by simp))
    have hs : w.heap.size + 1 ≤ w1.heap.size := by have := hb.size; simp at this; omega
    replace h1 := h1.below hb (by simp; omega)
    replace X0 := X0.below hb (by simp)
    clear hb
    obtain ⟨p0, p1, p2⟩ := X0.three
    go_wp2_with fail
    go_ret2
    exact ⟨rfl, Bt⟩
  · have hg : goodB st ss bs = true := by simp only [countB, Bool.and_eq_true] at g; exact g.1
    have hle : wS st ss bs st.toNat ≤ 1000000000000000 := by simp only [countB, Bool.and_eq_true, decide_eq_true_eq] at g; exact g.2
    have G := good_of hg
    obtain ⟨n, rfl⟩ : ∃ n : Nat, st = (n : Int) := ⟨st.toNat, by have := G.st1; omega⟩
    have g1 : 1 ≤ n := by have := G.st1; omega
    have g2 : n ≤ 60 := by have := G.st2; omega
    rw [Int.toNat_natCast] at hle
    by_cases hx : x < 1
    · have hin : inB x 1 (n : Int) = false := inB_no (.inl (by omega))
      rw [show throughV n ss bs x = 0 by simp [throughV, throughB, hin], show throughB n ss bs x = false by simp [throughB, hin]]
      have H := Lib.hid g
      clear g hin hle G
      have h1 := h.alloc hB (.cells #[.int .i64 (n : Int), .slice A ss.length c, .slice A' bs.length c'] 28)
      have X0 : Blk (w.alloc (.cells #[.int .i64 (n : Int), .slice A ss.length c, .slice A' bs.length c'] 28)) w.heap.size 28 #[.int .i64 (n : Int), .slice A ss.length c, .slice A' bs.length c'] := Blk.new _ _ _
      go_enter Try.func27, Try.ntmps27
      go_wp2_with fail
      refine (toRank_any _ _ _ _ _ _ _ B _ h1 (by simp; omega)).mono ?_
      rintro e w1 ⟨v, rfl, hb, _⟩
      rw [H.out]
      have Bt : Below w.heap.size w w1 := (below_alloc _ _).trans (hb.mono (by simp))
      have hs : w.heap.size + 1 ≤ w1.heap.size := by have := hb.size; simp at this; omega
      replace h1 := h1.below hb (by simp; omega)
      replace X0 := X0.below hb (by simp)
      clear hb
      obtain ⟨p0, p1, p2⟩ := X0.three
      go_wp2_with fail
      go_ret2
      exact ⟨rfl, Bt⟩
    · by_cases hx2 : (n : Int) < x
      · have hin : inB x 1 (n : Int) = false := inB_no (.inr (by omega))
        rw [show throughV n ss bs x = 0 by simp [throughV, throughB, hin], show throughB n ss bs x = false by simp [throughB, hin]]
        have H := Lib.hid g
        clear g hin hle G
        have hx3 : ¬ x < 1 := hx
        have h1 := h.alloc hB (.cells #[.int .i64 (n : Int), .slice A ss.length c, .slice A' bs.length c'] 28)
        have X0 : Blk (w.alloc (.cells #[.int .i64 (n : Int), .slice A ss.length c, .slice A' bs.length c'] 28)) w.heap.size 28 #[.int .i64 (n : Int), .slice A ss.length c, .slice A' bs.length c'] := Blk.new _ _ _
        go_enter Try.func27, Try.ntmps27
        go_wp2_with fail
        refine (toRank_any _ _ _ _ _ _ _ B _ h1 (by simp; omega)).mono ?_
        rintro e w1 ⟨v, rfl, hb, _⟩
        rw [H.out]
        have Bt : Below w.heap.size w w1 := (below_alloc _ _).trans (hb.mono (by simp))
        have hs : w.heap.size + 1 ≤ w1.heap.size := by have := hb.size; simp at this; omega
        replace h1 := h1.below hb (by simp; omega)
        replace X0 := X0.below hb (by simp)
        clear hb
        obtain ⟨p0, p1, p2⟩ := X0.three
        go_wp2_with fail
        go_ret2
        exact ⟨rfl, Bt⟩
      · obtain ⟨m, rfl⟩ : ∃ m : Nat, x = (m : Int) := ⟨x.toNat, by omega⟩
        have hin : inB (m : Int) 1 (n : Int) = true := inB_yes (by omega) (by omega)
        have hT : throughB n ss bs (m : Int) = true := by simp [throughB, g, hin]
        rw [show throughV n ss bs (m : Int) = th n ss bs m by simp [throughV, hT], hT]
        have H := Lib.hid g
        clear g hT hin hle
        have h1 := h.alloc hB (.cells #[.int .i64 (n : Int), .slice A ss.length c, .slice A' bs.length c'] 28)
        have X0 : Blk (w.alloc (.cells #[.int .i64 (n : Int), .slice A ss.length c, .slice A' bs.length c'] 28)) w.heap.size 28 #[.int .i64 (n : Int), .slice A ss.length c, .slice A' bs.length c'] := Blk.new _ _ _
        go_enter Try.func27, Try.ntmps27
        go_wp2_with fail
        refine (toRank_any _ _ _ _ _ _ _ B _ h1 (by simp; omega)).mono ?_
        rintro e w1 ⟨v, rfl, hb, _⟩
        rw [H.out]
        have Bt : Below w.heap.size w w1 := (below_alloc _ _).trans (hb.mono (by simp))
        have hs : w.heap.size + 1 ≤ w1.heap.size := by have := hb.size; simp at this; omega
        replace h1 := h1.below hb (by simp; omega)
        replace X0 := X0.below hb (by simp)
        clear hb
        obtain ⟨p0, p1, p2⟩ := X0.three
        go_wp2_with fail
        refine (waysThrough_any n _ _ _ _ _ _ B _ h1 (by omega) G).mono ?_
        rintro e w2 ⟨g, ys, rfl, hgg, hblk, hyl, hys, hb⟩
        have c1 := hblk.int_at (k := m) (by omega)
        rw [hys m (by omega)] at c1
        generalize th n ss bs m = v at *
        clear hys hyl G
        replace Bt := Bt.trans (hb.mono (by omega))
        replace h1 := h1.below hb (by omega)
        replace X0 := X0.below hb (by omega)
        replace hs : w.heap.size + 1 ≤ w2.heap.size := by have := hb.size; omega
        clear p0 p1 p2
        clear hb
        obtain ⟨p0, p1, p2⟩ := X0.three
        go_wp2_with fail
        go_ret2
        exact ⟨rfl, Bt⟩

set_option maxHeartbeats 2000000 in
theorem specThrough_any (st : Int) (A A' : Option Addr) (c c' : Nat) (ss bs : List Int) (x : Int) (B : Nat) (w : World) (h : St w B st A A' c c' ss bs) (hB : B ≤ w.heap.size) :
    Calls Try.prog 26 #[stv st A A' c c' ss bs, .int .i64 x] w (Plain (.tuple #[.int .i64 (throughV st ss bs x), .bool (throughB st ss bs x)]) w) := by
  cases g : countB st ss bs
  · rw [show throughV st ss bs x = 0 by simp [throughV, throughB, g], show throughB st ss bs x = false by simp [throughB, g]]
    have H := Lib.hid g
    clear g
    have h1 := h.alloc hB (.cells #[.int .i64 st, .slice A ss.length c, .slice A' bs.length c'] 28)
    have X0 : Blk (w.alloc (.cells #[.int .i64 st, .slice A ss.length c, .slice A' bs.length c'] 28)) w.heap.size 28 #[.int .i64 st, .slice A ss.length c, .slice A' bs.length c'] := Blk.new _ _ _
    go_enter Try.func26, Try.ntmps26
    go_wp2_with fail
    refine (clCounted_any _ _ _ _ _ _ _ B _ h1 (by simp; omega)).mono ?_
    rintro e w1 ⟨rfl, hb⟩
    have Bt : Below w.heap.size w w1 := (below_alloc _ _).trans (hb.mono (by simp))
    have hs : w.heap.size + 1 ≤ w1.heap.size := by have := hb.size; simp at this; omega
    replace h1 := h1.below hb (by simp; omega)
    replace X0 := X0.below hb (by simp)
    clear hb
    obtain ⟨p0, p1, p2⟩ := X0.three
    rw [H.out]
    go_wp2_with fail
    go_ret2
    exact ⟨rfl, Bt⟩
  · have hg : goodB st ss bs = true := by simp only [countB, Bool.and_eq_true] at g; exact g.1
    have hle : wS st ss bs st.toNat ≤ 1000000000000000 := by simp only [countB, Bool.and_eq_true, decide_eq_true_eq] at g; exact g.2
    have G := good_of hg
    obtain ⟨n, rfl⟩ : ∃ n : Nat, st = (n : Int) := ⟨st.toNat, by have := G.st1; omega⟩
    have g1 : 1 ≤ n := by have := G.st1; omega
    have g2 : n ≤ 60 := by have := G.st2; omega
    rw [Int.toNat_natCast] at hle
    cases hin : inB x 1 (n : Int)
    · rw [show throughV n ss bs x = 0 by simp [throughV, throughB, hin], show throughB n ss bs x = false by simp [throughB, hin]]
      have H := Lib.hid g
      have HI := Lib.hid hin
      clear g hin hle G
      have h1 := h.alloc hB (.cells #[.int .i64 (n : Int), .slice A ss.length c, .slice A' bs.length c'] 28)
      have X0 : Blk (w.alloc (.cells #[.int .i64 (n : Int), .slice A ss.length c, .slice A' bs.length c'] 28)) w.heap.size 28 #[.int .i64 (n : Int), .slice A ss.length c, .slice A' bs.length c'] := Blk.new _ _ _
      go_enter Try.func26, Try.ntmps26
      go_wp2_with fail
      refine (clCounted_any _ _ _ _ _ _ _ B _ h1 (by simp; omega)).mono ?_
      rintro e w1 ⟨rfl, hb⟩
      have Bt : Below w.heap.size w w1 := (below_alloc _ _).trans (hb.mono (by simp))
      have hs : w.heap.size + 1 ≤ w1.heap.size := by have := hb.size; simp at this; omega
      replace h1 := h1.below hb (by simp; omega)
      replace X0 := X0.below hb (by simp)
      clear hb
      obtain ⟨p0, p1, p2⟩ := X0.three
      rw [H.out]
      go_wp2_with fail
      refine (l1In_any _ _ _ _).mono ?_
      rintro e w' ⟨rfl, rfl⟩
      rw [HI.out]
      go_wp2_with fail
      go_ret2
      exact ⟨rfl, Bt⟩
    · have hx := inB_le hin
      obtain ⟨m, rfl⟩ : ∃ m : Nat, x = (m : Int) := ⟨x.toNat, by omega⟩
      have hT : throughB n ss bs (m : Int) = true := by simp [throughB, g, hin]
      rw [show throughV n ss bs (m : Int) = th n ss bs m by simp [throughV, hT], hT]
      have H := Lib.hid g
      have HI := Lib.hid hin
      clear g hT hin
      have h1 := h.alloc hB (.cells #[.int .i64 (n : Int), .slice A ss.length c, .slice A' bs.length c'] 28)
      have X0 : Blk (w.alloc (.cells #[.int .i64 (n : Int), .slice A ss.length c, .slice A' bs.length c'] 28)) w.heap.size 28 #[.int .i64 (n : Int), .slice A ss.length c, .slice A' bs.length c'] := Blk.new _ _ _
      go_enter Try.func26, Try.ntmps26
      go_wp2_with fail
      refine (clCounted_any _ _ _ _ _ _ _ B _ h1 (by simp; omega)).mono ?_
      rintro e w1 ⟨rfl, hb⟩
      have Bt : Below w.heap.size w w1 := (below_alloc _ _).trans (hb.mono (by simp))
      have hs : w.heap.size + 1 ≤ w1.heap.size := by have := hb.size; simp at this; omega
      replace h1 := h1.below hb (by simp; omega)
      replace X0 := X0.below hb (by simp)
      clear hb
      obtain ⟨p0, p1, p2⟩ := X0.three
      rw [H.out]
      go_wp2_with fail
      refine (l1In_any _ _ _ _).mono ?_
      rintro e w' ⟨rfl, rfl⟩
      rw [HI.out]
      go_wp2_with fail
      refine (clThrough_any n _ _ _ _ _ _ m B _ h1 (by omega) G (by omega) (by omega) hle).mono ?_
      rintro e w2 ⟨rfl, hb⟩
      replace Bt := Bt.trans (hb.mono (by omega))
      replace h1 := h1.below hb (by omega)
      replace X0 := X0.below hb (by omega)
      replace hs : w.heap.size + 1 ≤ w2.heap.size := by have := hb.size; omega
      clear p0 p1 p2
      clear hb
      obtain ⟨p0, p1, p2⟩ := X0.three
      go_wp2_with fail
      go_ret2
      exact ⟨rfl, Bt⟩

set_option maxHeartbeats 2000000 in
theorem implNeeded_any (st : Int) (A A' : Option Addr) (c c' : Nat) (ss bs : List Int) (B : Nat) (w : World) (h : St w B st A A' c c' ss bs) (hB : B ≤ w.heap.size) :
    Calls Try.prog 37 #[stv st A A' c c' ss bs] w (fun e w' => Lists w (needR st ss bs) (needB st ss bs) e w') := by
  cases g : goodB st ss bs
  · rw [show needR st ss bs = [] by simp [needR, needB, g], show needB st ss bs = false by simp [needB, g]]
    have H := Lib.hid g
    clear g
    have h1 := h.alloc hB (.cells #[.int .i64 st, .slice A ss.length c, .slice A' bs.length c'] 28)
    have X0 : Blk (w.alloc (.cells #[.int .i64 st, .slice A ss.length c, .slice A' bs.length c'] 28)) w.heap.size 28 #[.int .i64 st, .slice A ss.length c, .slice A' bs.length c'] := Blk.new _ _ _
    go_enter Try.func37, Try.ntmps37
    go_wp2_with fail
    refine (implAre_any _ _ _ _ _ _ _ B _ h1 (by simp; omega)).mono ?_
    rintro e w1 ⟨rfl, hb⟩
    have Bt : Below w.heap.size w w1 := (below_alloc _ _).trans (hb.mono (by simp))
    have hs : w.heap.size + 1 ≤ w1.heap.size := by have := hb.size; simp at this; omega
    replace h1 := h1.below hb (by simp; omega)
    replace X0 := X0.below hb (by simp)
    clear hb
    obtain ⟨p0, p1, p2⟩ := X0.three
    rw [H.out]
    go_wp2_with fail
    go_ret2
    exact ⟨_, rfl, OwnI.nil _ _, Bt⟩
  · have G := good_of g
    obtain ⟨n, rfl⟩ : ∃ n : Nat, st = (n : Int) := ⟨st.toNat, by have := G.st1; omega⟩
    have g1 : 1 ≤ n := by have := G.st1; omega
    have g2 : n ≤ 60 := by have := G.st2; omega
    by_cases hw : wS n ss bs n = 0
    · rw [show needR n ss bs = [] by simp [needR, needB, hw], show needB n ss bs = false by simp [needB, hw]]
      have H := Lib.hid g
      clear g
      have h1 := h.alloc hB (.cells #[.int .i64 (n : Int), .slice A ss.length c, .slice A' bs.length c'] 28)
      have X0 : Blk (w.alloc (.cells #[.int .i64 (n : Int), .slice A ss.length c, .slice A' bs.length c'] 28)) w.heap.size 28 #[.int .i64 (n : Int), .slice A ss.length c, .slice A' bs.length c'] := Blk.new _ _ _
      go_enter Try.func37, Try.ntmps37
      go_wp2_with fail
      refine (implAre_any _ _ _ _ _ _ _ B _ h1 (by simp; omega)).mono ?_
      rintro e w1 ⟨rfl, hb⟩
      have Bt : Below w.heap.size w w1 := (below_alloc _ _).trans (hb.mono (by simp))
      have hs : w.heap.size + 1 ≤ w1.heap.size := by have := hb.size; simp at this; omega
      replace h1 := h1.below hb (by simp; omega)
      replace X0 := X0.below hb (by simp)
      clear hb
      obtain ⟨p0, p1, p2⟩ := X0.three
      rw [H.out]
      go_wp2_with fail
      refine (waysThrough_any n _ _ _ _ _ _ B _ h1 (by omega) G).mono ?_
      rintro e w2 ⟨g, ys, rfl, hgg, hblk, hyl, hys, hb⟩
      have c1 := hblk.int_at (k := n) (by omega)
      rw [hys n (by omega), th_top G] at c1
      rw [hw] at c1
      clear hys hyl G hw
      replace Bt := Bt.trans (hb.mono (by omega))
      replace h1 := h1.below hb (by omega)
      replace X0 := X0.below hb (by omega)
      replace hs : w.heap.size + 1 ≤ w2.heap.size := by have := hb.size; omega
      clear p0 p1 p2
      clear hb
      obtain ⟨p0, p1, p2⟩ := X0.three
      go_wp2_with fail
      go_ret2
      exact ⟨_, rfl, OwnI.nil _ _, Bt⟩
    · have hB1 : needB n ss bs = true := by simp [needB, g, hw]
      rw [show needR n ss bs = needL n ss bs n by simp [needR, hB1], hB1]
      have GH := Lib.hid G
      have H := Lib.hid g
      clear g hB1
      have h1 := h.alloc hB (.cells #[.int .i64 (n : Int), .slice A ss.length c, .slice A' bs.length c'] 28)
      have X0 : Blk (w.alloc (.cells #[.int .i64 (n : Int), .slice A ss.length c, .slice A' bs.length c'] 28)) w.heap.size 28 #[.int .i64 (n : Int), .slice A ss.length c, .slice A' bs.length c'] := Blk.new _ _ _
      go_enter Try.func37, Try.ntmps37
      go_wp2_with fail
      refine (implAre_any _ _ _ _ _ _ _ B _ h1 (by simp; omega)).mono ?_
      rintro e w1 ⟨rfl, hb⟩
      have Bt : Below w.heap.size w w1 := (below_alloc _ _).trans (hb.mono (by simp))
      have hs : w.heap.size + 1 ≤ w1.heap.size := by have := hb.size; simp at this; omega
      replace h1 := h1.below hb (by simp; omega)
      replace X0 := X0.below hb (by simp)
      clear hb
      obtain ⟨p0, p1, p2⟩ := X0.three
      rw [H.out]
      go_wp2_with fail
      refine (waysThrough_any n _ _ _ _ _ _ B _ h1 (by omega) G).mono ?_
      rintro e w2 ⟨g, ys, rfl, hgg, hblk, hyl, hys, hb⟩
      have c1 := hblk.int_at (k := n) (by omega)
      rw [hys n (by omega), th_top G] at c1
      have HYL := Lib.hid hyl
      have HYS := Lib.hid hys
      have HY := Lib.hid (fun k => needL_yes (n := n) (ss := ss) (bs := bs) (k := k))
      have HN := Lib.hid (fun k => needL_no (n := n) (ss := ss) (bs := bs) (k := k))
      have hw0 : (wS n ss bs n == 0) = false := by simpa using hw
      generalize wS n ss bs n = z at *
      clear hys hyl G
      replace Bt := Bt.trans (hb.mono (by omega))
      replace h1 := h1.below hb (by omega)
      replace X0 := X0.below hb (by omega)
      replace hs : w.heap.size + 1 ≤ w2.heap.size := by have := hb.size; omega
      clear p0 p1 p2
      clear hb
      obtain ⟨p0, p1, p2⟩ := X0.three
      go_wp2_with fail
      go_loopw [6, 7] (fun v i wr => ∃ k : Nat, k ≤ n ∧ i = .int .i64 ((k : Int) + 1) ∧ OwnI wr w2.heap.size v (needL n ss bs k) ∧ Below w2.heap.size w2 wr) (fun _ i _ => (62 - intOf i).toNat)
      case atStart => exact ⟨0, by omega, rfl, OwnI.nil _ _, Below.refl _ _⟩
      case round =>
        obtain ⟨k, hk, rfl, hown, hbw⟩ := hrel
        have hz0 := hbw.size
        obtain ⟨p0, p1, p2⟩ := (X0.below hbw (by omega)).three
        have hblk2 := hblk.below hbw hblk.lt
        by_cases hlt : k < n
        · have hkn : (k : Int) + 1 ≤ (n : Int) := by omega
          have hc := hblk2.int_at (k := k + 1) (by rw [HYL.out]; omega)
          rw [HYS.out (k + 1) (by omega)] at hc
          have hrl := needL_length n ss bs k
          have hi2 : ((k : Int) + 1).toNat = k + 1 := by omega
          by_cases hp : th n ss bs (k + 1) = z
          · have HT := Lib.hid (HY.out k hp)
            rw [hp] at hc
            generalize needL n ss bs k = zs at *
            clear hp
            go_wp2_with (at_builtin; refine wpList_push _ rfl _ _ rfl w2.heap.size _ zs rfl (hown.alloc _) wr.heap.size ((k : Int) + 1) rfl (by simp) (by omega) (by simp; omega) ?_; intro v1 w3 hown1 hg1)
            go_roundw
            case rel => exact ⟨k + 1, by omega, by go_num, by rw [HT.out]; exact hown1, (hbw.alloc hz0 _).trans hg1⟩
            case measure => simp [intOf] <;> omega
          · have HT := Lib.hid (HN.out k hp)
            have hp0 : (th n ss bs (k + 1) == z) = false := by simpa using hp
            generalize th n ss bs (k + 1) = t at *
            go_wp2_with fail
            go_roundw
            case rel => exact ⟨k + 1, by omega, by go_num, by rw [HT.out]; exact hown, hbw⟩
            case measure => simp [intOf] <;> omega
        · obtain rfl : k = n := by omega
          go_wp2_with fail
          go_ret2
          exact ⟨_, rfl, hown.mono (by omega), Bt.trans (hbw.mono (by omega))⟩

theorem capZ {v : Int} (h : ¬ v = 0) : ¬ capI v = 0 := by unfold capI leastI; split <;> omega
theorem need_put {n k : Nat} {ss bs : List Int} (G : Good n ss bs) (h2 : k + 1 < n) (hb : hasB bs ((k : Int) + 1) = false) : (wS n ss (putL bs ((k : Int) + 1)) n = 0 ↔ th n ss bs (k + 1) = wS n ss bs n) := by
  have := th_cut G (k := k + 1) (by omega) h2 hb
  rw [show ((k + 1 : Nat) : Int) = (k : Int) + 1 by omega] at this
  omega
theorem need_dead {n k : Nat} {ss bs : List Int} (hb : hasB bs ((k : Int) + 1) = true) (hw : ¬ wS n ss bs n = 0) : ¬ th n ss bs (k + 1) = wS n ss bs n := by
  rw [th_dead (k := k + 1) (by omega) hb]
  exact fun e => hw e.symm
theorem stand_up {n k : Nat} {bs : List Int} (h : k + 1 ≤ n) : standB (n : Int) bs ((k : Int) + 1) = !hasB bs ((k : Int) + 1) := stand_in (n := n) (a := k + 1) h

set_option maxHeartbeats 4000000 in
theorem specNeeded_any (st : Int) (A A' : Option Addr) (c c' : Nat) (ss bs : List Int) (B : Nat) (w : World) (h : St w B st A A' c c' ss bs) (hB : B ≤ w.heap.size) :
    Calls Try.prog 36 #[stv st A A' c c' ss bs] w (fun e w' => Lists w (needR st ss bs) (needB st ss bs) e w') := by
  cases g : goodB st ss bs
  · rw [show needR st ss bs = [] by simp [needR, needB, g], show needB st ss bs = false by simp [needB, g]]
    have H := Lib.hid g
    clear g
    have h1 := h.alloc hB (.cells #[.int .i64 st, .slice A ss.length c, .slice A' bs.length c'] 28)
    have X0 : Blk (w.alloc (.cells #[.int .i64 st, .slice A ss.length c, .slice A' bs.length c'] 28)) w.heap.size 28 #[.int .i64 st, .slice A ss.length c, .slice A' bs.length c'] := Blk.new _ _ _
    go_enter Try.func36, Try.ntmps36
    go_wp2_with fail
    refine (clGood_any _ _ _ _ _ _ _ B _ h1 (by simp; omega)).mono ?_
    rintro e w1 ⟨rfl, hb⟩
    have Bt : Below w.heap.size w w1 := (below_alloc _ _).trans (hb.mono (by simp))
    have hs : w.heap.size + 1 ≤ w1.heap.size := by have := hb.size; simp at this; omega
    replace h1 := h1.below hb (by simp; omega)
    replace X0 := X0.below hb (by simp)
    clear hb
    obtain ⟨p0, p1, p2⟩ := X0.three
    rw [H.out]
    go_wp2_with fail
    go_ret2
    exact ⟨_, rfl, OwnI.nil _ _, Bt⟩
  · have G := good_of g
    obtain ⟨n, rfl⟩ : ∃ n : Nat, st = (n : Int) := ⟨st.toNat, by have := G.st1; omega⟩
    have g1 : 1 ≤ n := by have := G.st1; omega
    have g2 : n ≤ 60 := by have := G.st2; omega
    by_cases hw : wS n ss bs n = 0
    · rw [show needR n ss bs = [] by simp [needR, needB, hw], show needB n ss bs = false by simp [needB, hw]]
      have H := Lib.hid g
      clear g
      have h1 := h.alloc hB (.cells #[.int .i64 (n : Int), .slice A ss.length c, .slice A' bs.length c'] 28)
      have X0 : Blk (w.alloc (.cells #[.int .i64 (n : Int), .slice A ss.length c, .slice A' bs.length c'] 28)) w.heap.size 28 #[.int .i64 (n : Int), .slice A ss.length c, .slice A' bs.length c'] := Blk.new _ _ _
      go_enter Try.func36, Try.ntmps36
      go_wp2_with fail
      refine (clGood_any _ _ _ _ _ _ _ B _ h1 (by simp; omega)).mono ?_
      rintro e w1 ⟨rfl, hb⟩
      have Bt : Below w.heap.size w w1 := (below_alloc _ _).trans (hb.mono (by simp))
      have hs : w.heap.size + 1 ≤ w1.heap.size := by have := hb.size; simp at this; omega
      replace h1 := h1.below hb (by simp; omega)
      replace X0 := X0.below hb (by simp)
      clear hb
      obtain ⟨p0, p1, p2⟩ := X0.three
      rw [H.out]
      go_wp2_with fail
      refine (clWays_any n _ _ _ _ _ _ B _ h1 (by omega) G).mono ?_
      rintro e w2 ⟨g, rfl, hgg, hblk, hb⟩
      have c1 := hblk.int_at (k := 0) (by unfold caL; rw [tell_length]; omega)
      rw [caL_zero] at c1
      rw [hw, show capI 0 = 0 from rfl] at c1
      clear G hw
      replace Bt := Bt.trans (hb.mono (by omega))
      replace h1 := h1.below hb (by omega)
      replace X0 := X0.below hb (by omega)
      replace hs : w.heap.size + 1 ≤ w2.heap.size := by have := hb.size; omega
      clear p0 p1 p2
      clear hb
      obtain ⟨p0, p1, p2⟩ := X0.three
      go_wp2_with fail
      go_ret2
      exact ⟨_, rfl, OwnI.nil _ _, Bt⟩
    · have hB1 : needB n ss bs = true := by simp [needB, g, hw]
      rw [show needR n ss bs = needL n ss bs n by simp [needR, hB1], hB1]
      have GH := Lib.hid G
      have H := Lib.hid g
      clear g hB1
      have h1 := h.alloc hB (.cells #[.int .i64 (n : Int), .slice A ss.length c, .slice A' bs.length c'] 28)
      have X0 : Blk (w.alloc (.cells #[.int .i64 (n : Int), .slice A ss.length c, .slice A' bs.length c'] 28)) w.heap.size 28 #[.int .i64 (n : Int), .slice A ss.length c, .slice A' bs.length c'] := Blk.new _ _ _
      go_enter Try.func36, Try.ntmps36
      go_wp2_with fail
      refine (clGood_any _ _ _ _ _ _ _ B _ h1 (by simp; omega)).mono ?_
      rintro e w1 ⟨rfl, hb⟩
      have Bt : Below w.heap.size w w1 := (below_alloc _ _).trans (hb.mono (by simp))
      have hs : w.heap.size + 1 ≤ w1.heap.size := by have := hb.size; simp at this; omega
      replace h1 := h1.below hb (by simp; omega)
      replace X0 := X0.below hb (by simp)
      clear hb
      obtain ⟨p0, p1, p2⟩ := X0.three
      rw [H.out]
      go_wp2_with fail
      refine (clWays_any n _ _ _ _ _ _ B _ h1 (by omega) G).mono ?_
      rintro e w2 ⟨g, rfl, hgg, hblk, hb⟩
      have c1 := hblk.int_at (k := 0) (by unfold caL; rw [tell_length]; omega)
      rw [caL_zero] at c1
      have HY := Lib.hid (fun k => needL_yes (n := n) (ss := ss) (bs := bs) (k := k))
      have HN := Lib.hid (fun k => needL_no (n := n) (ss := ss) (bs := bs) (k := k))
      have HTOP := Lib.hid (th_top G)
      have HPUT := Lib.hid (fun k h1 h2 => need_put (k := k) G h1 h2)
      have HDEAD := Lib.hid (fun k h1 => need_dead (n := n) (k := k) (ss := ss) (bs := bs) h1 hw)
      have hbl : bs.length ≤ 1000 := by have := G.nb; omega
      have hw1 := capZ hw
      have hw0 : (capI (wS n ss bs n) == 0) = false := by simpa using hw1
      generalize capI (wS n ss bs n) = z0 at *
      clear G hw
      replace Bt := Bt.trans (hb.mono (by omega))
      replace h1 := h1.below hb (by omega)
      replace X0 := X0.below hb (by omega)
      replace hs : w.heap.size + 1 ≤ w2.heap.size := by have := hb.size; omega
      clear p0 p1 p2
      clear hb
      obtain ⟨p0, p1, p2⟩ := X0.three
      go_wp2_with fail
      go_loopw [4, 5] (fun v i wr => ∃ k : Nat, k + 1 ≤ n ∧ i = .int .i64 ((k : Int) + 1) ∧ OwnI wr w2.heap.size v (needL n ss bs k) ∧ Below w2.heap.size w2 wr) (fun _ i _ => (62 - intOf i).toNat)
      case atStart => exact ⟨0, by omega, rfl, OwnI.nil _ _, Below.refl _ _⟩
      case round =>
        obtain ⟨k, hk, rfl, hown, hbw⟩ := hrel
        have hz0 := hbw.size
        have hX := X0.below hbw (by omega)
        have hS := h1.below hbw (by omega)
        clear p0 p1 p2
        obtain ⟨p0, p1, p2⟩ := hX.three
        have hrl := needL_length n ss bs k
        by_cases hlt : k + 1 < n
        · have hkn : (k : Int) + 1 < (n : Int) := by omega
          have hst := stand_up (n := n) (k := k) (bs := bs) (by omega)
          cases hd : hasB bs ((k : Int) + 1)
          · have HP := Lib.hid (HPUT.out k hlt hd)
            have GP := Lib.hid (GH.out.put (x := (k : Int) + 1) (by omega) hkn)
            rw [hd] at hst
            have HS := Lib.hid hst
            clear hd hst
            go_wp2_with fail
            refine (clStands_any _ _ _ _ _ _ _ _ B _ hS (by omega)).mono ?_
            rintro e w3 ⟨rfl, hb3⟩
            rw [HS.out]
            have hz3 := hb3.size
            replace hX := hX.below hb3 (by omega)
            replace hS := hS.below hb3 (by omega)
            replace hown := hown.below hb3 (Nat.le_refl _)
            replace hbw := hbw.trans (hb3.mono hz0)
            clear p0 p1 p2 hb3
            obtain ⟨p0, p1, p2⟩ := hX.three
            go_wp2_with fail
            refine (clBreak_any _ _ _ _ _ ss bs ((k : Int) + 1) B _ hS (by omega) hbl).mono ?_
            rintro e w4 ⟨A3, A3', c3, c3', rfl, hst3, _, _, hb3⟩
            have hz4 := hb3.size
            replace hown := hown.below hb3 (Nat.le_refl _)
            replace hbw := hbw.trans (hb3.mono (by omega))
            clear p0 p1 p2 hb3 hX hS
            go_wp2_with fail
            refine (clWays_any n _ _ _ _ ss (putL bs ((k : Int) + 1)) w4.heap.size _ hst3 (Nat.le_refl _) GP.out).mono ?_
            rintro e w5 ⟨g4, rfl, hgg4, hblk4, hb3⟩
            have hz5 := hb3.size
            replace hown := hown.below hb3 (Nat.le_refl _)
            replace hbw := hbw.trans (hb3.mono (by omega))
            have hc := hblk4.int_at (k := 0) (by unfold caL; rw [tell_length]; omega)
            rw [caL_zero] at hc
            clear hb3
            by_cases hy : wS n ss (putL bs ((k : Int) + 1)) n = 0
            · have HT := Lib.hid (HY.out k (HP.out.1 hy))
              rw [hy, show capI 0 = 0 from rfl] at hc
              clear hy
              generalize needL n ss bs k = zs at *
              go_wp2_with (at_builtin; refine wpList_push _ rfl _ _ rfl w2.heap.size _ zs rfl (hown.alloc _) w5.heap.size ((k : Int) + 1) rfl (by simp) (by omega) (by simp; omega) ?_; intro v1 w6 hown1 hg1)
              go_roundw
              case rel => exact ⟨k + 1, by omega, by go_num, by rw [HT.out]; exact hown1, (hbw.alloc (by omega) _).trans hg1⟩
              case measure => simp [intOf] <;> omega
            · have HT := Lib.hid (HN.out k (fun e => hy (HP.out.2 e)))
              have hy1 := capZ hy
              have hy0 : (capI (wS n ss (putL bs ((k : Int) + 1)) n) == 0) = false := by simpa using hy1
              generalize capI (wS n ss (putL bs ((k : Int) + 1)) n) = y at hc hy0 hy1
              go_wp2_with fail
              go_roundw
              case rel => exact ⟨k + 1, by omega, by go_num, by rw [HT.out]; exact hown, hbw⟩
              case measure => simp [intOf] <;> omega
          · have HT := Lib.hid (HN.out k (HDEAD.out k hd))
            rw [hd] at hst
            have HS := Lib.hid hst
            clear hd hst
            go_wp2_with fail
            refine (clStands_any _ _ _ _ _ _ _ _ B _ hS (by omega)).mono ?_
            rintro e w3 ⟨rfl, hb3⟩
            rw [HS.out]
            replace hown := hown.below hb3 (Nat.le_refl _)
            replace hbw := hbw.trans (hb3.mono hz0)
            clear p0 p1 p2 hb3 hX hS
            go_wp2_with fail
            go_roundw
            case rel => exact ⟨k + 1, by omega, by go_num, by rw [HT.out]; exact hown, hbw⟩
            case measure => simp [intOf] <;> omega
        · obtain rfl : n = k + 1 := by omega
          have HT := Lib.hid (HY.out k HTOP.out)
          generalize needL (k + 1) ss bs k = zs at *
          have hz9 : w.heap.size < w2.heap.size := by omega
          go_wp2_with (at_builtin; first | (refine wpList_push _ rfl _ _ rfl w2.heap.size _ zs rfl (hown.alloc _) wr.heap.size ((k : Int) + 1) rfl (by simp) (by omega) (by simp; omega) ?_; intro v1 w6 hown1 hg1) | (refine wpList_push _ rfl _ _ rfl w2.heap.size _ zs rfl (hown.alloc _) wr.heap.size ((k + 1 : Nat) : Int) rfl (by simp) (by omega) (by simp; omega) ?_; intro v1 w6 hown1 hg1))
          go_ret2
          exact ⟨_, rfl, by rw [HT.out]; exact hown1.mono (by omega), Bt.trans (((hbw.alloc hz0 _).trans hg1).mono (by omega))⟩

end Go.Proofs.Ytimgnollnnepbaa
