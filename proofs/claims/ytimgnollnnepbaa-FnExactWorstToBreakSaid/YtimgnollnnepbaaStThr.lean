/- Contracts: in how many climbs one stands on a step, on both sides. -/
import Derived.Test.YtimgnollnnepbaaStThrP
import Derived.Test.YtimgnollnnepbaaStCl
import Derived.Test.YtimgnollnnepbaaClBreak
namespace Go.Proofs.Ytimgnollnnepbaa
open Go.RowKit

/-- WHAT THE PROGRAM's waysThrough LEAVES -/
def ThPost (n : Nat) (ss bs : List Int) (T : TypeId) (w : World) (e : Ending) (w' : World) : Prop :=
  ∃ g ys, e = .returned (.slice (some ⟨g, 0, none⟩) (n + 1) (n + 10)) ∧ w.heap.size ≤ g ∧ Blk w' g T (ints ys) ∧ ys.length = n + 10 ∧ (∀ k, k ≤ n → ys.getD k 0 = th n ss bs k) ∧ Below w.heap.size w w'

set_option maxHeartbeats 2000000 in
theorem waysThrough_any (n : Nat) (A A' : Option Addr) (c c' : Nat) (ss bs : List Int) (B : Nat) (w : World) (h : St w B n A A' c c' ss bs) (hB : B ≤ w.heap.size) (G : Good n ss bs) :
    Calls Try.prog 54 #[stv n A A' c c' ss bs] w (ThPost n ss bs 3 w) := by
  have g1 : 1 ≤ n := by have := G.st1; omega
  have g2 : n ≤ 60 := by have := G.st2; omega
  have GH := Lib.hid G
  have BD := Lib.hid (fun m (hm : m ≤ n) => th_le G (k := m) hm)
  have hbd := (wS_bd G (d := n) (by omega)).2
  generalize hZ : wS n ss bs n = z at BD hbd
  replace hZ := trivial
  have h1 := h.alloc hB (.cells #[.int .i64 (n : Int), .slice A ss.length c, .slice A' bs.length c'] 28)
  have X0 : Blk (w.alloc (.cells #[.int .i64 (n : Int), .slice A ss.length c, .slice A' bs.length c'] 28)) w.heap.size 28 #[.int .i64 (n : Int), .slice A ss.length c, .slice A' bs.length c'] := Blk.new _ _ _
  go_enter Try.func54, Try.ntmps54
  go_wp2_with fail
  refine (waysTo_any n _ _ _ _ _ _ B _ h1 (by simp; omega) G).mono ?_
  rintro e w1 ⟨g, ys, rfl, hgg, hblk, hyl, hys, hb⟩
  replace hgg : w.heap.size + 1 ≤ g := by simpa using hgg
  have HYS := Lib.hid hys
  clear hys G
  have Bt : Below w.heap.size w w1 := (below_alloc _ _).trans (hb.mono (by simp))
  have hs : w.heap.size + 1 ≤ w1.heap.size := by have := hb.size; simp at this; omega
  replace h1 := h1.below hb (by simp; omega)
  replace X0 := X0.below hb (by simp)
  clear hb
  obtain ⟨p0, p1, p2⟩ := X0.three
  go_wp2_with fail
  refine (waysOn_any n _ _ _ _ _ _ B _ h1 (by omega) GH.out).mono ?_
  rintro e w2 ⟨g2, rfl, hgg2, hbo, hb⟩
  have hg12 : g < w1.heap.size := hblk.lt
  replace hblk := hblk.below hb hg12
  replace Bt := Bt.trans (hb.mono (by omega))
  replace h1 := h1.below hb (by omega)
  replace X0 := X0.below hb (by omega)
  replace hs : w.heap.size + 1 ≤ w2.heap.size := by have := hb.size; omega
  clear p0 p1 p2
  clear hb
  obtain ⟨p0, p1, p2⟩ := X0.three
  have hol := Lib.hid (show (onL n ss bs).length = n + 10 from tell_length _ _)
  have HON := Lib.hid (fun m (hm : m ≤ n) => onL_at (n := n) (ss := ss) (bs := bs) (p := m) hm)
  have hyl2 := Lib.hid hyl
  clear hyl p0 p1 p2
  generalize onL n ss bs = os at *
  go_wp2_with fail
  go_loopw [12] (fun i wr => ∃ m : Nat, m ≤ n + 1 ∧ i = .int .i64 (m : Int) ∧ Blk wr g 3 (ints (mulT ys os m)) ∧ Blk wr g2 3 (ints os) ∧ Below w.heap.size w wr) (fun i _ => (62 - intOf i).toNat)
  case atStart => exact ⟨0, by omega, rfl, by rw [mulT_zero]; exact hblk, hbo, Bt⟩
  case round =>
    clear hblk hbo Bt h1 X0
    obtain ⟨m, hm, rfl, hblk, hbo, hbw⟩ := hrel
    by_cases hlt : m < n + 1
    · have c1 := hblk.int_at (k := m) (by rw [mulT_length, hyl2.out]; omega)
      have c2 := hbo.int_at (k := m) (by rw [hol.out]; omega)
      have f1 := hblk.frozen m
      rw [mulT_get (by rw [hyl2.out]; omega), if_neg (by omega)] at c1
      have o2 := hblk.int_set m (ys.getD m 0 * os.getD m 0)
      rw [mulT_set (by rw [hyl2.out]; omega)] at o2
      have e0 : ys.getD m 0 * os.getD m 0 = th n ss bs m := by rw [HYS.out m (by omega), HON.out m (by omega)]; rfl
      have b1 := BD.out m (by omega)
      have b0 := th_nonneg n ss bs m
      rw [← e0] at b0 b1
      have E1 : IntKind.i64.wrap (ys.getD m 0 * os.getD m 0) = ys.getD m 0 * os.getD m 0 := IntWalk.i64_in _ (by omega)
      have hne : ¬ g2 = g := by omega
      clear e0 b0 b1
      generalize ys.getD m 0 = x at *
      generalize os.getD m 0 = y at *
      have hbo2 := hbo.far (p := ⟨g, m, none⟩) hne (.int .i64 (x * y))
      go_wp2
      go_region
      go_wp2
      go_roundw
      case rel => exact ⟨m + 1, by omega, by go_num, o2, hbo2, (hbw.setCell (by show w.heap.size ≤ g; omega) _).drew⟩
      case measure => simp [intOf] <;> omega
    · obtain rfl : m = n + 1 := by omega
      go_wp2
      go_ret
      refine ⟨g, _, rfl, by omega, hblk, by rw [mulT_length]; exact hyl2.out, fun j hj => ?_, hbw⟩
      rw [mulT_get (by rw [hyl2.out]; omega), if_pos (by omega), HYS.out j hj, HON.out j hj]
      rfl

set_option maxHeartbeats 2000000 in
theorem clThrough_any (n : Nat) (A A' : Option Addr) (c c' : Nat) (ss bs : List Int) (k : Nat) (B : Nat) (w : World) (h : St w B n A A' c c' ss bs) (hB : B ≤ w.heap.size) (G : Good n ss bs) (h1k : 1 ≤ k) (hkn : k ≤ n) (hc : wS n ss bs n ≤ 1000000000000000) :
    Calls Try.prog 53 #[stv n A A' c c' ss bs, .int .i64 (k : Int)] w (Plain (.int .i64 (th n ss bs k)) w) := by
  have g1 : 1 ≤ n := by have := G.st1; omega
  have g2 : n ≤ 60 := by have := G.st2; omega
  by_cases hk : k = n
  · subst hk
    have HV := Lib.hid (show capI (wS k ss bs k) = th k ss bs k by rw [th_top G, cap_same hc])
    have E := Lib.hid (caL_zero k ss bs)
    have HL := Lib.hid (show (caL k ss bs).length = k + 1 from tell_length _ _)
    have h1 := h.alloc hB (.cells #[.int .i64 (k : Int), .slice A ss.length c, .slice A' bs.length c'] 28)
    have X0 : Blk (w.alloc (.cells #[.int .i64 (k : Int), .slice A ss.length c, .slice A' bs.length c'] 28)) w.heap.size 28 #[.int .i64 (k : Int), .slice A ss.length c, .slice A' bs.length c'] := Blk.new _ _ _
    go_enter Try.func53, Try.ntmps53
    go_wp2_with fail
    refine (clWays_any k _ _ _ _ _ _ B _ h1 (by simp; omega) G).mono ?_
    rintro e w1 ⟨g, rfl, hgg, hblk, hb⟩
    have Bt : Below w.heap.size w w1 := (below_alloc _ _).trans (hb.mono (by simp))
    have hs : w.heap.size + 1 ≤ w1.heap.size := by have := hb.size; simp at this; omega
    replace h1 := h1.below hb (by simp; omega)
    replace X0 := X0.below hb (by simp)
    clear hb
    obtain ⟨p0, p1, p2⟩ := X0.three
    have c0 := hblk.int_at (k := 0) (by rw [HL.out]; omega)
    rw [E.out, HV.out] at c0
    generalize th k ss bs k = v at *
    clear hc
    go_wp2_with fail
    go_ret
    exact ⟨rfl, Bt⟩
  · have hk2 : (k : Int) < (n : Int) := by omega
    have hk3 : ¬ (k : Int) = (n : Int) := by omega
    have HK3 : Hid (((k : Int) == (n : Int)) = false) := Lib.hid (by simp only [beq_eq_false_iff_ne, ne_eq]; omega)
    have hs := stand_in (n := n) (a := k) (bs := bs) (by omega)
    cases hd : hasB bs (k : Int)
    · have hcut := th_cut G h1k (by omega) hd
      have htn := th_nonneg n ss bs k
      have hpn := wS_nonneg n ss (putL bs k) n
      have hbl : bs.length ≤ 1000 := by have := h.nb; have := G.nb; omega
      have hc1 : capI (wS n ss bs n) = wS n ss bs n := cap_same hc
      have hc2 : capI (wS n ss (putL bs k) n) = wS n ss (putL bs k) n := cap_same (by omega)
      have GP := Lib.hid (G.put (x := (k : Int)) (by omega) hk2)
      have GH := Lib.hid G
      have E := Lib.hid (caL_zero n ss bs)
      have EP := Lib.hid (caL_zero n ss (putL bs k))
      rw [hc1] at E
      rw [hc2] at EP
      have HL := Lib.hid (show (caL n ss bs).length = n + 1 from tell_length _ _)
      have HLP := Lib.hid (show (caL n ss (putL bs k)).length = n + 1 from tell_length _ _)
      rw [hd] at hs
      have HS := Lib.hid hs
      generalize wS n ss bs n = x at *
      generalize wS n ss (putL bs k) n = y at *
      generalize th n ss bs k = v at *
      obtain rfl : v = x - y := by omega
      have E1 : IntKind.i64.wrap (x - y) = x - y := IntWalk.i64_in _ (by omega)
      clear hs hd hc1 hc2 hcut htn hpn hc G
      have h1 := h.alloc hB (.cells #[.int .i64 (n : Int), .slice A ss.length c, .slice A' bs.length c'] 28)
      have X0 : Blk (w.alloc (.cells #[.int .i64 (n : Int), .slice A ss.length c, .slice A' bs.length c'] 28)) w.heap.size 28 #[.int .i64 (n : Int), .slice A ss.length c, .slice A' bs.length c'] := Blk.new _ _ _
      go_enter Try.func53, Try.ntmps53
      go_wp2_with fail
      refine (clStands_any _ _ _ _ _ _ _ _ B _ h1 (by simp; omega)).mono ?_
      rintro e w1 ⟨rfl, hb⟩
      have Bt : Below w.heap.size w w1 := (below_alloc _ _).trans (hb.mono (by simp))
      have hs : w.heap.size + 1 ≤ w1.heap.size := by have := hb.size; simp at this; omega
      replace h1 := h1.below hb (by simp; omega)
      replace X0 := X0.below hb (by simp)
      clear hb
      obtain ⟨p0, p1, p2⟩ := X0.three
      rw [HS.out]
      go_wp2_with fail
      go_region_with (first | (go_at_call 62; refine (clWays_any n _ _ _ _ ss (putL bs k) w3.heap.size w3 hst3 (Nat.le_refl _) GP.out).mono ?_; rintro e w4 ⟨g4, rfl, hgg4, hblk4, hb4⟩; have X4 := X3.below hb4 (by omega); have Bt4 := Bt3.trans (hb4.mono (by omega)); obtain ⟨s0, s1, s2⟩ := X4.three; have hblk5 := hblk3.below hb4 hblk3.lt; have c3 := hblk5.int_at (k := 0) (by rw [HL.out]; omega); rw [E.out] at c3; have c4 := hblk4.int_at (k := 0) (by rw [HLP.out]; omega); rw [EP.out] at c4) | (go_at_call 65; refine (clBreak_any _ _ _ _ _ ss bs (k : Int) B w2 hst (by omega) hbl).mono ?_; rintro e w3 ⟨A3, A3', c3, c3', rfl, hst3, _, _, hb3⟩; have hz3 := hb3.size; have X3 := X2.below hb3 (by omega); have Bt3 := Bt2.trans (hb3.mono (by omega)); obtain ⟨r0, r1, r2⟩ := X3.three; have hblk3 := hblk.below hb3 hblk.lt; have c2 := hblk3.int_at (k := 0) (by rw [HL.out]; omega); rw [E.out] at c2) | (go_at_call 62; refine (clWays_any n _ _ _ _ ss bs B w1.drew h1.drewS (by show B ≤ w1.heap.size; omega) GH.out).mono ?_; rintro e w2 ⟨g, rfl, hgg, hblk, hb'⟩; have hb2 : Below w1.heap.size w1 w2 := below_undrew hb'; have hz2 := hb2.size; have hst := h1.below hb2 (by omega); have X2 := X0.below hb2 (by omega); have Bt2 := Bt.trans (hb2.mono (by omega)); obtain ⟨q0, q1, q2⟩ := X2.three; have c1 := hblk.int_at (k := 0) (by rw [HL.out]; omega); rw [E.out] at c1))
      all_goals (go_wp2_with fail; go_ret; exact ⟨rfl, Bt4⟩)
    · rw [hd] at hs
      have HS := Lib.hid hs
      rw [th_dead h1k hd]
      clear hs hd
      have h1 := h.alloc hB (.cells #[.int .i64 (n : Int), .slice A ss.length c, .slice A' bs.length c'] 28)
      have X0 : Blk (w.alloc (.cells #[.int .i64 (n : Int), .slice A ss.length c, .slice A' bs.length c'] 28)) w.heap.size 28 #[.int .i64 (n : Int), .slice A ss.length c, .slice A' bs.length c'] := Blk.new _ _ _
      go_enter Try.func53, Try.ntmps53
      go_wp2_with fail
      refine (clStands_any _ _ _ _ _ _ _ _ B _ h1 (by simp; omega)).mono ?_
      rintro e w1 ⟨rfl, hb⟩
      have Bt : Below w.heap.size w w1 := (below_alloc _ _).trans (hb.mono (by simp))
      have hs : w.heap.size + 1 ≤ w1.heap.size := by have := hb.size; simp at this; omega
      replace h1 := h1.below hb (by simp; omega)
      replace X0 := X0.below hb (by simp)
      clear hb
      obtain ⟨p0, p1, p2⟩ := X0.three
      rw [HS.out]
      go_wp2_with fail
      go_ret
      exact ⟨rfl, Bt⟩

end Go.Proofs.Ytimgnollnnepbaa
