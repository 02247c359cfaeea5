/- Contracts: RankOfClimb and NextClimb, on both sides. -/
import Derived.Test.YtimgnollnnepbaaStRkP
namespace Go.Proofs.Ytimgnollnnepbaa
open Go.RowKit

theorem caL_on {n : Nat} {ss bs : List Int} {p : Nat} (h : p ≤ n) : (caL n ss bs).getD p 0 = capI ((onL n ss bs).getD p 0) := by
  unfold caL onL
  rw [tell_getD _ _ _ (by omega), tell_getD _ _ _ (by omega)]
  rfl
theorem ret_ib {k : IntKind} {a b : Int} {c : Bool} (h : a = b) : Ending.returned (.tuple #[.int k a, .bool c]) = .returned (.tuple #[.int k b, .bool c]) := by rw [h]
theorem onL_length (n : Nat) (ss bs : List Int) : (onL n ss bs).length = n + 10 := tell_length _ _
theorem caL_length (n : Nat) (ss bs : List Int) : (caL n ss bs).length = n + 1 := tell_length _ _
set_option maxHeartbeats 2000000 in
theorem implRankOf_any (st : Int) (A A' Z : Option Addr) (c c' d : Nat) (ss bs xs : List Int) (B : Nat) (w : World) (h : St w B st A A' c c' ss bs) (hB : B ≤ w.heap.size) (hz : Rd w B Z d xs) (hn : xs.length ≤ 1048576) :
    Calls Try.prog 18 #[stv st A A' c c' ss bs, .slice Z xs.length d] w (Plain (.tuple #[.int .i64 (rkV st ss bs xs), .bool (rkB st ss bs xs)]) w) := by
  cases hc : countB st ss bs
  · rw [show rkV st ss bs xs = 0 by simp [rkV, rkB, hc], show rkB st ss bs xs = false by simp [rkB, hc]]
    have HC := Lib.hid hc
    clear hc
    have h1 := h.alloc hB (.cells #[.int .i64 st, .slice A ss.length c, .slice A' bs.length c'] 28)
    have X0 : Blk (w.alloc (.cells #[.int .i64 st, .slice A ss.length c, .slice A' bs.length c'] 28)) w.heap.size 28 #[.int .i64 st, .slice A ss.length c, .slice A' bs.length c'] := Blk.new _ _ _
    go_enter Try.func18, Try.ntmps18
    go_wp2_with fail
    refine (toRank_any _ _ _ _ _ _ _ B _ h1 (by simp; omega)).mono ?_
    rintro e w1 ⟨v, rfl, hb, _⟩
    rw [HC.out]
    have Bt : Below w.heap.size w w1 := (below_alloc _ _).trans (hb.mono (by simp))
    have hs : w.heap.size + 1 ≤ w1.heap.size := by have := hb.size; simp at this; omega
    replace h1 := h1.below hb (by simp; omega)
    replace X0 := X0.below hb (by simp)
    replace hz := (hz.below (below_alloc _ _) hB).below hb (by simp; omega)
    clear hb
    obtain ⟨p0, p1, p2⟩ := X0.three
    go_wp2_with fail
    go_ret2
    exact ⟨rfl, Bt⟩
  · have hg := (count_good hc).1
    have G := good_of hg
    have hw15 := (count_good hc).2
    obtain ⟨n, rfl⟩ : ∃ n : Nat, st = (n : Int) := ⟨st.toNat, by have := G.st1; omega⟩
    rw [Int.toNat_natCast] at hw15
    have g1 : 1 ≤ n := by have := G.st1; omega
    have g2 : n ≤ 60 := by have := G.st2; omega
    have hl5 := G.l2
    have HC := Lib.hid hc
    have GH := Lib.hid G
    cases hk : climbB n ss bs 0 xs
    · rw [show rkV n ss bs xs = 0 by simp [rkV, rkB, hk], show rkB n ss bs xs = false by simp [rkB, hk]]
      have HK := Lib.hid hk
      have HF := Lib.hid (show stepsF (climbB n ss bs 0 xs) xs = [] by rw [hk]; rfl)
      clear hk hc hg
      have h1 := h.alloc hB (.cells #[.int .i64 (n : Int), .slice A ss.length c, .slice A' bs.length c'] 28)
      have X0 : Blk (w.alloc (.cells #[.int .i64 (n : Int), .slice A ss.length c, .slice A' bs.length c'] 28)) w.heap.size 28 #[.int .i64 (n : Int), .slice A ss.length c, .slice A' bs.length c'] := Blk.new _ _ _
      go_enter Try.func18, Try.ntmps18
      go_wp2_with fail
      refine (toRank_any _ _ _ _ _ _ _ B _ h1 (by simp; omega)).mono ?_
      rintro e w1 ⟨v, rfl, hb, hv⟩
      obtain ⟨g, rfl, hgg, hblk⟩ := hv HC.out
      rw [Int.toNat_natCast] at hblk
      rw [Int.toNat_natCast]
      rw [HC.out]
      have Bt : Below w.heap.size w w1 := (below_alloc _ _).trans (hb.mono (by simp))
      have hs : w.heap.size + 1 ≤ w1.heap.size := by have := hb.size; simp at this; omega
      replace h1 := h1.below hb (by simp; omega)
      replace X0 := X0.below hb (by simp)
      replace hz := (hz.below (below_alloc _ _) hB).below hb (by simp; omega)
      clear hb
      obtain ⟨p0, p1, p2⟩ := X0.three
      go_wp2_with fail
      refine (walk_any _ _ _ _ _ _ _ _ _ _ B _ h1 (by omega) hz hn GH.out).mono ?_
      rintro e w2 ⟨v, rfl, hown, hb⟩
      rw [HF.out] at hown
      obtain ⟨A3, c3, rfl, _⟩ := hown.form
      rw [HK.out]
      replace Bt := Bt.trans (hb.mono (by omega))
      replace h1 := h1.below hb (by omega)
      replace X0 := X0.below hb (by omega)
      replace hs : w.heap.size + 1 ≤ w2.heap.size := by have := hb.size; omega
      clear p0 p1 p2
      clear hb
      obtain ⟨p0, p1, p2⟩ := X0.three
      go_wp2_with fail
      go_ret2
      exact ⟨rfl, Bt⟩
    · rw [show rkV n ss bs xs = rkS n ss bs 0 xs by simp [rkV, rkB, hc, hk], show rkB n ss bs xs = true by simp [rkB, hc, hk]]
      have HK := Lib.hid hk
      have HF := Lib.hid (show stepsF (climbB n ss bs 0 xs) xs = sumsL 0 xs by rw [hk]; rfl)
      have HR := Lib.hid (RAt.first G hk)
      have hsl := Lib.hid (sumsL_length 0 xs)
      have hol := Lib.hid (onL_length n ss bs)
      clear hk hc hg
      have h1 := h.alloc hB (.cells #[.int .i64 (n : Int), .slice A ss.length c, .slice A' bs.length c'] 28)
      have X0 : Blk (w.alloc (.cells #[.int .i64 (n : Int), .slice A ss.length c, .slice A' bs.length c'] 28)) w.heap.size 28 #[.int .i64 (n : Int), .slice A ss.length c, .slice A' bs.length c'] := Blk.new _ _ _
      go_enter Try.func18, Try.ntmps18
      go_wp2_with fail
      refine (toRank_any _ _ _ _ _ _ _ B _ h1 (by simp; omega)).mono ?_
      rintro e w1 ⟨v, rfl, hb, hv⟩
      obtain ⟨g, rfl, hgg, hblk⟩ := hv HC.out
      rw [Int.toNat_natCast] at hblk
      rw [Int.toNat_natCast]
      rw [HC.out]
      have Bt : Below w.heap.size w w1 := (below_alloc _ _).trans (hb.mono (by simp))
      have hs : w.heap.size + 1 ≤ w1.heap.size := by have := hb.size; simp at this; omega
      replace h1 := h1.below hb (by simp; omega)
      replace X0 := X0.below hb (by simp)
      replace hz := (hz.below (below_alloc _ _) hB).below hb (by simp; omega)
      clear hb
      obtain ⟨p0, p1, p2⟩ := X0.three
      go_wp2_with fail
      refine (walk_any _ _ _ _ _ _ _ _ _ _ B _ h1 (by omega) hz hn GH.out).mono ?_
      rintro e w2 ⟨v, rfl, hown, hb⟩
      rw [HF.out] at hown
      obtain ⟨A3, c3, rfl, hrd3⟩ := hown.form
      rw [HK.out, hsl.out]
      replace hblk := hblk.below hb hblk.lt
      replace hz := hz.below hb (by omega)
      replace Bt := Bt.trans (hb.mono (by omega))
      replace h1 := h1.below hb (by omega)
      replace X0 := X0.below hb (by omega)
      replace hs : w.heap.size + 1 ≤ w2.heap.size := by have := hb.size; omega
      clear p0 p1 p2
      clear hb
      obtain ⟨p0, p1, p2⟩ := X0.three
      go_wp2_with fail
      go_loop [9, 32] (fun v i => ∃ (k a : Nat) (vn : Int), k ≤ xs.length ∧ i = .int .i64 k ∧ v = .int .i64 vn ∧ Hid (RAt n ss bs xs k a vn)) (fun _ i => xs.length - (intOf i).toNat)
      case atStart => exact ⟨0, 0, 0, Nat.zero_le _, rfl, rfl, HR.out⟩
      case round =>
        obtain ⟨k, a, v, hk, rfl, rfl, HA⟩ := hrel
        have hv0 := HA.out.v0
        have hvl := HA.out.le
        by_cases hlt : k < xs.length
        · obtain ⟨b, o, rfl, hb0, hcell⟩ := hz.at_ hlt
          obtain ⟨b3, o3, rfl, hb3, hcell3⟩ := hrd3.at_ (k := k) (by rw [hsl.out]; exact hlt)
          obtain ⟨m, HN⟩ := HA.out.next GH.out hlt
          have HX := Lib.hid HN
          rw [HN.sk] at hcell3
          have hx1 := HN.x1
          have hx9 := HN.x9
          have hm := HN.hm
          have hwl := HA.out.wle
          clear HN
          generalize xs.getD k 0 = x at *
          have hsub : (a : Int) + x - x = a := by omega
          have ha60 : a ≤ 60 := by omega
          go_wp2_with fail
          go_loop [9, 46] (fun u i => ∃ j : Nat, j ≤ ss.length ∧ i = .int .i64 j ∧ u = .int .i64 (v + qS n ss bs m x j)) (fun _ i => ss.length - (intOf i).toNat)
          case atStart => exact ⟨0, Nat.zero_le _, rfl, by simp [qS]⟩
          case round =>
            obtain ⟨j, hj, rfl, rfl⟩ := hrel
            have hq := HX.out.q j hj
            by_cases hjl : j < ss.length
            · obtain ⟨b4, o4, rfl, hb4, hcell4⟩ := h1.rs.at_ hjl
              have hs := GH.out.sat hjl
              have HY := Lib.hid (qS_yes (st := n) (ss := ss) (bs := bs) (d := m) (k := j) (own := x))
              have HNo := Lib.hid (qS_no (st := n) (ss := ss) (bs := bs) (d := m) (k := j) (own := x))
              have hSl := HX.out.s j hjl
              obtain ⟨s, hss⟩ : ∃ s : Nat, ss.getD j 0 = (s : Int) := ⟨(ss.getD j 0).toNat, by omega⟩
              rw [hss] at hcell4 hs HY HNo hSl
              have hon := hblk.int_at (k := a + s) (by rw [hol.out]; omega)
              rw [onL_up hm (by omega) (by omega)] at hon
              have hS0 := sS_nn n ss bs m (s : Int)
              generalize sS n ss bs m (s : Int) = t at *
              generalize hQ : qS n ss bs m x j = q at *
              have HQ := Lib.hid hQ
              clear hQ hss
              by_cases hsx : (s : Int) < x
              · have HT := Lib.hid (HY.out hsx)
                have ht := hSl hsx
                clear hSl
                have hi1 : (0 : Int) ≤ (a : Int) + (s : Int) := by omega
                have hi2 : ((a : Int) + (s : Int)).toNat = a + s := by omega
                go_wp2_with fail
                go_round
                case rel => exact ⟨j + 1, by omega, by go_num, by rw [HT.out]; congr 1; omega⟩
                case measure => simp [intOf] <;> omega
              · have HT := Lib.hid (HNo.out (by omega))
                go_wp2_with fail
                go_round
                case rel => exact ⟨j + 1, by omega, by go_num, by rw [HT.out]⟩
                case measure => simp [intOf] <;> omega
            · obtain rfl : j = ss.length := by omega
              go_wp2_with fail
              go_round
              case rel => exact ⟨k + 1, _, _, by omega, by go_num, rfl, HX.out.nx⟩
              case measure => simp [intOf] <;> omega
        · have HD := Lib.hid (HA.out.done hlt)
          go_wp2_with fail
          go_ret2
          exact ⟨ret_ib HD.out, Bt⟩

set_option maxHeartbeats 2000000 in
theorem clRank_any (n : Nat) (A A' Z : Option Addr) (c c' d : Nat) (ss bs xs : List Int) (B : Nat) (w : World) (h : St w B n A A' c c' ss bs) (hB : B ≤ w.heap.size) (hz : Rd w B Z d xs) (hn : xs.length ≤ 1048576) (G : Good n ss bs) (hk : climbB n ss bs 0 xs = true) (hw15 : wS n ss bs n ≤ 1000000000000000) :
    Calls Try.prog 47 #[stv n A A' c c' ss bs, .slice Z xs.length d] w (Plain (.int .i64 (rkS n ss bs 0 xs)) w) := by
  have g1 : 1 ≤ n := by have := G.st1; omega
  have g2 : n ≤ 60 := by have := G.st2; omega
  have hl5 := G.l2
  have GH := Lib.hid G
  have HR := Lib.hid (RAt.first G hk)
  have hcl := Lib.hid (caL_length n ss bs)
  clear hk
  have h1 := h.alloc hB (.cells #[.int .i64 (n : Int), .slice A ss.length c, .slice A' bs.length c'] 28)
  have X0 : Blk (w.alloc (.cells #[.int .i64 (n : Int), .slice A ss.length c, .slice A' bs.length c'] 28)) w.heap.size 28 #[.int .i64 (n : Int), .slice A ss.length c, .slice A' bs.length c'] := Blk.new _ _ _
  go_enter Try.func47, Try.ntmps47
  go_wp2_with fail
  refine (clWays_any n _ _ _ _ _ _ B _ h1 (by simp; omega) G).mono ?_
  rintro e w1 ⟨g, rfl, hgg, hblk, hb⟩
  have Bt : Below w.heap.size w w1 := (below_alloc _ _).trans (hb.mono (by simp))
  have hs : w.heap.size + 1 ≤ w1.heap.size := by have := hb.size; simp at this; omega
  replace h1 := h1.below hb (by simp; omega)
  replace X0 := X0.below hb (by simp)
  replace hz := (hz.below (below_alloc _ _) hB).below hb (by simp; omega)
  clear hb
  obtain ⟨p0, p1, p2⟩ := X0.three
  clear G
  go_wp2_with fail
  go_loop [6, 7, 16] (fun v u i => ∃ (k a : Nat) (vn : Int), k ≤ xs.length ∧ i = .int .i64 k ∧ u = .int .i64 a ∧ v = .int .i64 vn ∧ Hid (RAt n ss bs xs k a vn)) (fun _ _ i => xs.length - (intOf i).toNat)
  case atStart => exact ⟨0, 0, 0, Nat.zero_le _, rfl, rfl, rfl, HR.out⟩
  case round =>
    obtain ⟨k, a, v, hk, rfl, rfl, rfl, HA⟩ := hrel
    have hv0 := HA.out.v0
    have hvl := HA.out.le
    by_cases hlt : k < xs.length
    · obtain ⟨b, o, rfl, hb0, hcell⟩ := hz.at_ hlt
      obtain ⟨m, HN⟩ := HA.out.next GH.out hlt
      have HX := Lib.hid HN
      have hx1 := HN.x1
      have hx9 := HN.x9
      have hm := HN.hm
      have hax := HN.nx.an
      have hwl := HA.out.wle
      clear HN
      generalize xs.getD k 0 = x at *
      have hxt : ((x.toNat : Nat) : Int) = x := by omega
      have ha60 : a ≤ 60 := by omega
      go_wp2_with fail
      go_loop [6, 23] (fun u i => ∃ j : Nat, j ≤ ss.length ∧ i = .int .i64 j ∧ u = .int .i64 (v + qS n ss bs m x j)) (fun _ i => ss.length - (intOf i).toNat)
      case atStart => exact ⟨0, Nat.zero_le _, rfl, by simp [qS]⟩
      case round =>
        obtain ⟨j, hj, rfl, rfl⟩ := hrel
        have hq := HX.out.q j hj
        by_cases hjl : j < ss.length
        · obtain ⟨b4, o4, rfl, hb4, hcell4⟩ := h1.rs.at_ hjl
          have hs := GH.out.sat hjl
          have HY := Lib.hid (qS_yes (st := n) (ss := ss) (bs := bs) (d := m) (k := j) (own := x))
          have HNo := Lib.hid (qS_no (st := n) (ss := ss) (bs := bs) (d := m) (k := j) (own := x))
          have hSl := HX.out.s j hjl
          obtain ⟨s, hss⟩ : ∃ s : Nat, ss.getD j 0 = (s : Int) := ⟨(ss.getD j 0).toNat, by omega⟩
          rw [hss] at hcell4 hs HY HNo hSl
          by_cases hsx : (s : Int) < x
          · have HT := Lib.hid (HY.out hsx)
            have ht := hSl hsx
            have hon := hblk.int_at (k := a + s) (by rw [hcl.out]; omega)
            rw [caL_on (by omega), onL_up hm (by omega) (by omega), cap_same (by omega)] at hon
            have hS0 := sS_nn n ss bs m (s : Int)
            generalize sS n ss bs m (s : Int) = t at *
            generalize hQ : qS n ss bs m x j = q at *
            have HQ := Lib.hid hQ
            clear hQ hss hSl
            have hi1 : (0 : Int) ≤ (a : Int) + (s : Int) := by omega
            have hi2 : ((a : Int) + (s : Int)).toNat = a + s := by omega
            go_wp2_with fail
            go_round
            case rel => exact ⟨j + 1, by omega, by go_num, by rw [HT.out]; congr 1; omega⟩
            case measure => simp [intOf] <;> omega
          · have HT := Lib.hid (HNo.out (by omega))
            generalize hQ : qS n ss bs m x j = q at *
            have HQ := Lib.hid hQ
            clear hQ hss hSl
            go_wp2_with fail
            go_round
            case rel => exact ⟨j + 1, by omega, by go_num, by rw [HT.out]⟩
            case measure => simp [intOf] <;> omega
        · obtain rfl : j = ss.length := by omega
          go_wp2_with fail
          go_round
          case rel => exact ⟨k + 1, _, _, by omega, by go_num, by go_num, rfl, HX.out.nx⟩
          case measure => simp [intOf] <;> omega
    · have HD := Lib.hid (HA.out.done hlt)
      go_wp2_with fail
      go_ret
      exact ⟨ret_int HD.out, Bt⟩

set_option maxHeartbeats 2000000 in
theorem specRankOf_any (st : Int) (A A' : Option Addr) (c c' : Nat) (ss bs : List Int) (Z : Option Addr) (d : Nat) (xs : List Int) (B : Nat) (w : World) (h : St w B st A A' c c' ss bs) (hB : B ≤ w.heap.size) (hz : Rd w B Z d xs) (hn : xs.length ≤ 1048576) :
    Calls Try.prog 15 #[stv st A A' c c' ss bs, .slice Z xs.length d] w (Plain (.tuple #[.int .i64 (rkV st ss bs xs), .bool (rkB st ss bs xs)]) w) := by
  cases g : goodB st ss bs && climbB st ss bs 0 xs
  · have hb0 : rkB st ss bs xs = false := by cases hc : rkB st ss bs xs; rfl; simp only [rkB, Bool.and_eq_true] at hc; rw [(count_good hc.1).1, hc.2] at g; cases g
    rw [show rkV st ss bs xs = 0 by simp [rkV, hb0], hb0]
    have H := Lib.hid g
    clear g hb0
    have hz1 := hz.below (below_alloc w (.cells #[.int .i64 st, .slice A ss.length c, .slice A' bs.length c'] 28)) hB
    have h1 := h.alloc hB (.cells #[.int .i64 st, .slice A ss.length c, .slice A' bs.length c'] 28)
    have X0 : Blk (w.alloc (.cells #[.int .i64 st, .slice A ss.length c, .slice A' bs.length c'] 28)) w.heap.size 28 #[.int .i64 st, .slice A ss.length c, .slice A' bs.length c'] := Blk.new _ _ _
    go_enter Try.func15, Try.ntmps15
    go_wp2_with fail
    refine (clBoth_any _ _ _ _ _ _ _ _ _ _ B _ h1 (by simp; omega) hz1 hn).mono ?_
    rintro e w1 ⟨rfl, hb⟩
    have Bt : Below w.heap.size w w1 := (below_alloc _ _).trans (hb.mono (by simp))
    have hs : w.heap.size + 1 ≤ w1.heap.size := by have := hb.size; simp at this; omega
    replace h1 := h1.below hb (by simp; omega)
    replace X0 := X0.below hb (by simp)
    clear hb
    obtain ⟨p0, p1, p2⟩ := X0.three
    rw [H.out]
    go_wp2_with fail
    go_ret2
    exact ⟨rfl, Bt⟩
  · cases g2 : countB st ss bs
    · rw [show rkV st ss bs xs = 0 by simp [rkV, rkB, g2], show rkB st ss bs xs = false by simp [rkB, g2]]
      have H := Lib.hid g
      have H2 := Lib.hid g2
      clear g g2
      have hz1 := hz.below (below_alloc w (.cells #[.int .i64 st, .slice A ss.length c, .slice A' bs.length c'] 28)) hB
      have h1 := h.alloc hB (.cells #[.int .i64 st, .slice A ss.length c, .slice A' bs.length c'] 28)
      have X0 : Blk (w.alloc (.cells #[.int .i64 st, .slice A ss.length c, .slice A' bs.length c'] 28)) w.heap.size 28 #[.int .i64 st, .slice A ss.length c, .slice A' bs.length c'] := Blk.new _ _ _
      go_enter Try.func15, Try.ntmps15
      go_wp2_with fail
      refine (clBoth_any _ _ _ _ _ _ _ _ _ _ B _ h1 (by simp; omega) hz1 hn).mono ?_
      rintro e w1 ⟨rfl, hb⟩
      have Bt : Below w.heap.size w w1 := (below_alloc _ _).trans (hb.mono (by simp))
      have hs : w.heap.size + 1 ≤ w1.heap.size := by have := hb.size; simp at this; omega
      replace h1 := h1.below hb (by simp; omega)
      replace X0 := X0.below hb (by simp)
      clear hb
      obtain ⟨p0, p1, p2⟩ := X0.three
      rw [H.out]
      go_wp2_with fail
      refine (clCounted_any _ _ _ _ _ _ _ B _ h1 (by omega)).mono ?_
      rintro e w2 ⟨rfl, hb⟩
      replace Bt := Bt.trans (hb.mono (by omega))
      replace h1 := h1.below hb (by omega)
      replace X0 := X0.below hb (by omega)
      replace hs : w.heap.size + 1 ≤ w2.heap.size := by have := hb.size; omega
      clear p0 p1 p2
      clear hb
      obtain ⟨p0, p1, p2⟩ := X0.three
      rw [H2.out]
      go_wp2_with fail
      go_ret2
      exact ⟨rfl, Bt⟩
    · have hk : climbB st ss bs 0 xs = true := by simp only [Bool.and_eq_true] at g; exact g.2
      have G := good_of (count_good g2).1
      have hw15 := (count_good g2).2
      obtain ⟨n, rfl⟩ : ∃ n : Nat, st = (n : Int) := ⟨st.toNat, by have := G.st1; omega⟩
      rw [Int.toNat_natCast] at hw15
      rw [show rkV n ss bs xs = rkS n ss bs 0 xs by simp [rkV, rkB, g2, hk], show rkB n ss bs xs = true by simp [rkB, g2, hk]]
      have H := Lib.hid g
      have H2 := Lib.hid g2
      have HK := Lib.hid hk
      clear g g2 hk
      have hz1 := hz.below (below_alloc w (.cells #[.int .i64 (n : Int), .slice A ss.length c, .slice A' bs.length c'] 28)) hB
      have h1 := h.alloc hB (.cells #[.int .i64 (n : Int), .slice A ss.length c, .slice A' bs.length c'] 28)
      have X0 : Blk (w.alloc (.cells #[.int .i64 (n : Int), .slice A ss.length c, .slice A' bs.length c'] 28)) w.heap.size 28 #[.int .i64 (n : Int), .slice A ss.length c, .slice A' bs.length c'] := Blk.new _ _ _
      go_enter Try.func15, Try.ntmps15
      go_wp2_with fail
      refine (clBoth_any _ _ _ _ _ _ _ _ _ _ B _ h1 (by simp; omega) hz1 hn).mono ?_
      rintro e w1 ⟨rfl, hb⟩
      have Bt : Below w.heap.size w w1 := (below_alloc _ _).trans (hb.mono (by simp))
      have hs : w.heap.size + 1 ≤ w1.heap.size := by have := hb.size; simp at this; omega
      replace h1 := h1.below hb (by simp; omega)
      replace X0 := X0.below hb (by simp)
      replace hz := (hz.below (below_alloc _ _) hB).below hb (by simp; omega)
      clear hb
      obtain ⟨p0, p1, p2⟩ := X0.three
      rw [H.out]
      go_wp2_with fail
      refine (clCounted_any _ _ _ _ _ _ _ B _ h1 (by omega)).mono ?_
      rintro e w2 ⟨rfl, hb⟩
      replace Bt := Bt.trans (hb.mono (by omega))
      replace h1 := h1.below hb (by omega)
      replace X0 := X0.below hb (by omega)
      replace hz := hz.below hb (by omega)
      replace hs : w.heap.size + 1 ≤ w2.heap.size := by have := hb.size; omega
      clear p0 p1 p2
      clear hb
      obtain ⟨p0, p1, p2⟩ := X0.three
      rw [H2.out]
      go_wp2_with fail
      refine (clRank_any n _ _ _ _ _ _ _ _ _ B _ h1 (by omega) hz hn G HK.out hw15).mono ?_
      rintro e w3 ⟨rfl, hb⟩
      replace Bt := Bt.trans (hb.mono (by omega))
      replace h1 := h1.below hb (by omega)
      replace X0 := X0.below hb (by omega)
      replace hs : w.heap.size + 1 ≤ w3.heap.size := by have := hb.size; omega
      clear p0 p1 p2
      clear hb
      obtain ⟨p0, p1, p2⟩ := X0.three
      go_wp2_with fail
      go_ret2
      exact ⟨rfl, Bt⟩

def nextB (st : Int) (ss bs xs : List Int) : Bool := rkB st ss bs xs && rankB st ss bs (rkV st ss bs xs + 1)
def nextR (st : Int) (ss bs xs : List Int) : List Int := if rkB st ss bs xs then rankR st ss bs (rkV st ss bs xs + 1) else []
theorem nextR_length (st : Int) (ss bs xs : List Int) : (nextR st ss bs xs).length ≤ 1048576 := by
  unfold nextR
  split
  · exact rankR_length _ _ _ _
  · simp
theorem RAt.all {n : Nat} {ss bs xs : List Int} (G : Good n ss bs) (h : climbB n ss bs 0 xs = true) : ∀ j, j ≤ xs.length → ∃ v a, RAt n ss bs xs j a v
  | 0, _ => ⟨_, _, RAt.first G h⟩
  | j + 1, hj => by
    obtain ⟨v, a, hA⟩ := RAt.all G h j (by omega)
    obtain ⟨m, hN⟩ := hA.next G (by omega)
    exact ⟨_, _, hN.nx⟩
theorem rkV_bd {st : Int} {ss bs xs : List Int} (h : rkB st ss bs xs = true) : 0 ≤ rkV st ss bs xs ∧ rkV st ss bs xs ≤ 1000000000000000 := by
  have h2 := h
  simp only [rkB, Bool.and_eq_true] at h2
  have G := good_of (count_good h2.1).1
  have hw := (count_good h2.1).2
  obtain ⟨n, rfl⟩ : ∃ n : Nat, st = (n : Int) := ⟨st.toNat, by have := G.st1; omega⟩
  rw [show rkV n ss bs xs = rkS n ss bs 0 xs by simp [rkV, h]]
  rw [Int.toNat_natCast] at hw
  obtain ⟨v, a, hA⟩ := RAt.all G h2.2 xs.length (Nat.le_refl _)
  have hk : ¬ xs.length < xs.length := by omega
  rw [← hA.done hk]
  have := hA.le
  have := hA.v0
  omega

set_option maxHeartbeats 2000000 in
theorem specNext_any (st : Int) (A A' : Option Addr) (c c' : Nat) (ss bs : List Int) (Z : Option Addr) (d : Nat) (xs : List Int) (B : Nat) (w : World) (h : St w B st A A' c c' ss bs) (hB : B ≤ w.heap.size) (hz : Rd w B Z d xs) (hn : xs.length ≤ 1048576) :
    Calls Try.prog 21 #[stv st A A' c c' ss bs, .slice Z xs.length d] w (fun e w' => Lists w (nextR st ss bs xs) (nextB st ss bs xs) e w') := by
  cases g : rkB st ss bs xs
  · rw [show nextR st ss bs xs = [] by simp [nextR, g], show nextB st ss bs xs = false by simp [nextB, g]]
    have H := Lib.hid g
    have HV := Lib.hid (show rkV st ss bs xs = 0 by simp [rkV, g])
    clear g
    have hz1 := hz.below (below_alloc w (.cells #[.int .i64 st, .slice A ss.length c, .slice A' bs.length c'] 28)) hB
    have h1 := h.alloc hB (.cells #[.int .i64 st, .slice A ss.length c, .slice A' bs.length c'] 28)
    have X0 : Blk (w.alloc (.cells #[.int .i64 st, .slice A ss.length c, .slice A' bs.length c'] 28)) w.heap.size 28 #[.int .i64 st, .slice A ss.length c, .slice A' bs.length c'] := Blk.new _ _ _
    go_enter Try.func21, Try.ntmps21
    go_wp2_with fail
    refine (specRankOf_any _ _ _ _ _ _ _ _ _ _ B _ h1 (by simp; omega) hz1 hn).mono ?_
    rintro e w1 ⟨rfl, hb⟩
    have Bt : Below w.heap.size w w1 := (below_alloc _ _).trans (hb.mono (by simp))
    have hs : w.heap.size + 1 ≤ w1.heap.size := by have := hb.size; simp at this; omega
    replace h1 := h1.below hb (by simp; omega)
    replace X0 := X0.below hb (by simp)
    clear hb
    obtain ⟨p0, p1, p2⟩ := X0.three
    rw [HV.out]
    rw [H.out]
    go_wp2_with fail
    go_ret2
    exact ⟨_, rfl, OwnI.nil _ _, Bt⟩
  · rw [show nextR st ss bs xs = rankR st ss bs (rkV st ss bs xs + 1) by simp [nextR, g], show nextB st ss bs xs = rankB st ss bs (rkV st ss bs xs + 1) by simp [nextB, g]]
    have H := Lib.hid g
    have hbd := rkV_bd g
    clear g
    have hz1 := hz.below (below_alloc w (.cells #[.int .i64 st, .slice A ss.length c, .slice A' bs.length c'] 28)) hB
    have h1 := h.alloc hB (.cells #[.int .i64 st, .slice A ss.length c, .slice A' bs.length c'] 28)
    have X0 : Blk (w.alloc (.cells #[.int .i64 st, .slice A ss.length c, .slice A' bs.length c'] 28)) w.heap.size 28 #[.int .i64 st, .slice A ss.length c, .slice A' bs.length c'] := Blk.new _ _ _
    go_enter Try.func21, Try.ntmps21
    go_wp2_with fail
    refine (specRankOf_any _ _ _ _ _ _ _ _ _ _ B _ h1 (by simp; omega) hz1 hn).mono ?_
    rintro e w1 ⟨rfl, hb⟩
    have Bt : Below w.heap.size w w1 := (below_alloc _ _).trans (hb.mono (by simp))
    have hs : w.heap.size + 1 ≤ w1.heap.size := by have := hb.size; simp at this; omega
    replace h1 := h1.below hb (by simp; omega)
    replace X0 := X0.below hb (by simp)
    clear hb
    obtain ⟨p0, p1, p2⟩ := X0.three
    rw [H.out]
    go_wp2_with fail
    refine (specRank_any _ _ _ _ _ _ _ (rkV st ss bs xs + 1) B _ h1 (by omega)).mono ?_
    rintro e w2 ⟨v, rfl, hown, hb⟩
    go_wp2_with fail
    go_ret2
    exact ⟨_, rfl, hown.mono (by omega), Bt.trans (hb.mono (by omega))⟩

set_option maxHeartbeats 2000000 in
theorem implNext_any (st : Int) (A A' : Option Addr) (c c' : Nat) (ss bs : List Int) (Z : Option Addr) (d : Nat) (xs : List Int) (B : Nat) (w : World) (h : St w B st A A' c c' ss bs) (hB : B ≤ w.heap.size) (hz : Rd w B Z d xs) (hn : xs.length ≤ 1048576) :
    Calls Try.prog 22 #[stv st A A' c c' ss bs, .slice Z xs.length d] w (fun e w' => Lists w (nextR st ss bs xs) (nextB st ss bs xs) e w') := by
  cases g : rkB st ss bs xs
  · rw [show nextR st ss bs xs = [] by simp [nextR, g], show nextB st ss bs xs = false by simp [nextB, g]]
    have H := Lib.hid g
    have HV := Lib.hid (show rkV st ss bs xs = 0 by simp [rkV, g])
    clear g
    have hz1 := hz.below (below_alloc w (.cells #[.int .i64 st, .slice A ss.length c, .slice A' bs.length c'] 28)) hB
    have h1 := h.alloc hB (.cells #[.int .i64 st, .slice A ss.length c, .slice A' bs.length c'] 28)
    have X0 : Blk (w.alloc (.cells #[.int .i64 st, .slice A ss.length c, .slice A' bs.length c'] 28)) w.heap.size 28 #[.int .i64 st, .slice A ss.length c, .slice A' bs.length c'] := Blk.new _ _ _
    go_enter Try.func22, Try.ntmps22
    go_wp2_with fail
    refine (implRankOf_any _ _ _ _ _ _ _ _ _ _ B _ h1 (by simp; omega) hz1 hn).mono ?_
    rintro e w1 ⟨rfl, hb⟩
    have Bt : Below w.heap.size w w1 := (below_alloc _ _).trans (hb.mono (by simp))
    have hs : w.heap.size + 1 ≤ w1.heap.size := by have := hb.size; simp at this; omega
    replace h1 := h1.below hb (by simp; omega)
    replace X0 := X0.below hb (by simp)
    clear hb
    obtain ⟨p0, p1, p2⟩ := X0.three
    rw [HV.out]
    rw [H.out]
    go_wp2_with fail
    go_ret2
    exact ⟨_, rfl, OwnI.nil _ _, Bt⟩
  · rw [show nextR st ss bs xs = rankR st ss bs (rkV st ss bs xs + 1) by simp [nextR, g], show nextB st ss bs xs = rankB st ss bs (rkV st ss bs xs + 1) by simp [nextB, g]]
    have H := Lib.hid g
    have hbd := rkV_bd g
    clear g
    have hz1 := hz.below (below_alloc w (.cells #[.int .i64 st, .slice A ss.length c, .slice A' bs.length c'] 28)) hB
    have h1 := h.alloc hB (.cells #[.int .i64 st, .slice A ss.length c, .slice A' bs.length c'] 28)
    have X0 : Blk (w.alloc (.cells #[.int .i64 st, .slice A ss.length c, .slice A' bs.length c'] 28)) w.heap.size 28 #[.int .i64 st, .slice A ss.length c, .slice A' bs.length c'] := Blk.new _ _ _
    go_enter Try.func22, Try.ntmps22
    go_wp2_with fail
    refine (implRankOf_any _ _ _ _ _ _ _ _ _ _ B _ h1 (by simp; omega) hz1 hn).mono ?_
    rintro e w1 ⟨rfl, hb⟩
    have Bt : Below w.heap.size w w1 := (below_alloc _ _).trans (hb.mono (by simp))
    have hs : w.heap.size + 1 ≤ w1.heap.size := by have := hb.size; simp at this; omega
    replace h1 := h1.below hb (by simp; omega)
    replace X0 := X0.below hb (by simp)
    clear hb
    obtain ⟨p0, p1, p2⟩ := X0.three
    rw [H.out]
    go_wp2_with fail
    refine (implRank_any _ _ _ _ _ _ _ (rkV st ss bs xs + 1) B _ h1 (by omega)).mono ?_
    rintro e w2 ⟨v, rfl, hown, hb⟩
    go_wp2_with fail
    go_ret2
    exact ⟨_, rfl, hown.mono (by omega), Bt.trans (hb.mono (by omega))⟩

end Go.Proofs.Ytimgnollnnepbaa
