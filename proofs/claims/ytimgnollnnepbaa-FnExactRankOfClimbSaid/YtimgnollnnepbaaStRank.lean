/- Contracts: the climb of a rank, on both sides. -/
import Derived.Test.YtimgnollnnepbaaStFirst
namespace Go.Proofs.Ytimgnollnnepbaa
open Go.RowKit

def rankB (st : Int) (ss bs : List Int) (r : Int) : Bool := countB st ss bs && atB st.toNat ss bs r
def rankR (st : Int) (ss bs : List Int) (r : Int) : List Int := if rankB st ss bs r then climbR st ss bs (st.toNat + 1) st.toNat r else []
theorem rankR_length (st : Int) (ss bs : List Int) (r : Int) : (rankR st ss bs r).length ≤ 1048576 := by
  unfold rankR
  split
  · next h =>
    have hg : goodB st ss bs = true := by simp only [rankB, countB, Bool.and_eq_true] at h; exact h.1.1
    have := (good_of hg).st2
    have := climbR_length (st := st) (ss := ss) (bs := bs) (st.toNat + 1) st.toNat r
    omega
  · simp
theorem count_good {st : Int} {ss bs : List Int} (h : countB st ss bs = true) : goodB st ss bs = true ∧ wS st ss bs st.toNat ≤ 1000000000000000 := by
  simpa [countB] using h
theorem rank_at {n : Nat} {ss bs : List Int} {r : Int} (h : countB n ss bs = true) : atB n ss bs r = rankB n ss bs r ∧ atR n ss bs r = rankR n ss bs r := by
  have : atB n ss bs r = rankB n ss bs r := by simp [rankB, h]
  exact ⟨this, by simp [atR, rankR, this]⟩

set_option maxHeartbeats 1000000 in
theorem implRank_any (st : Int) (A A' : Option Addr) (c c' : Nat) (ss bs : List Int) (r : Int) (B : Nat) (w : World) (h : St w B st A A' c c' ss bs) (hB : B ≤ w.heap.size) :
    Calls Try.prog 51 #[stv st A A' c c' ss bs, .int .i64 r] w (Lists w (rankR st ss bs r) (rankB st ss bs r)) := by
  have X0 : Blk (w.alloc (.cells #[.int .i64 st, .slice A ss.length c, .slice A' bs.length c'] 28)) w.heap.size 28 #[.int .i64 st, .slice A ss.length c, .slice A' bs.length c'] := Blk.new _ _ _
  have h1 := h.alloc hB
  cases hc : countB st ss bs
  · rw [show rankR st ss bs r = [] by simp [rankR, rankB, hc], show rankB st ss bs r = false by simp [rankB, hc]]
    have HC := Lib.hid hc
    clear hc
    go_enter Try.func51, Try.ntmps51
    go_wp2_with fail
    refine (toRank_any _ _ _ _ _ _ _ B _ (h1 _) (by simp; omega)).mono ?_
    rintro e w1 ⟨v, rfl, hb, _⟩
    rw [HC.out]
    go_wp2_with fail
    go_ret2
    exact ⟨_, rfl, OwnI.nil _ _, (below_alloc _ _).trans (hb.mono (by simp))⟩
  · have hg := (count_good hc).1
    have G := good_of hg
    obtain ⟨n, rfl⟩ : ∃ n : Nat, st = (n : Int) := ⟨st.toNat, by have := G.st1; omega⟩
    rw [← (rank_at hc).1, ← (rank_at hc).2]
    have HC := Lib.hid hc
    have GH := Lib.hid G
    clear hc hg G
    go_enter Try.func51, Try.ntmps51
    go_wp2_with fail
    refine (toRank_any _ _ _ _ _ _ _ B _ (h1 _) (by simp; omega)).mono ?_
    rintro e w1 ⟨v, rfl, hb, hv⟩
    obtain ⟨g, rfl, hgg, hblk⟩ := hv HC.out
    rw [HC.out]
    rw [Int.toNat_natCast] at hblk
    rw [Int.toNat_natCast]
    have X1 := X0.below hb (by simp)
    have B1 : Below w.heap.size w w1 := (below_alloc _ _).trans (hb.mono (by simp))
    have hz : w.heap.size < w1.heap.size := by have := hb.size; simp at this; omega
    obtain ⟨p0, p1, p2⟩ := X1.three
    clear hb h1 hv
    go_wp2_with fail
    refine (climbAt_any n A A' c c' ss bs r g B _ (h.below B1 hB) (by omega) GH.out hblk).mono ?_
    rintro e w2 ⟨v, rfl, ho, hb2⟩
    go_wp2_with fail
    go_ret2
    exact ⟨_, rfl, ho.mono (by omega), B1.trans (hb2.mono (by omega))⟩

theorem cap_lt {y v : Int} (hy : y ≤ 1000000000000000) : y < capI v ↔ y < v := by unfold capI leastI; split <;> omega
theorem cap_ge {y v : Int} (hy : y ≤ 1000000000000000) (h : ¬ y < v) : capI v = v := cap_same (by omega)

set_option maxRecDepth 100000 in
set_option maxHeartbeats 4000000 in
theorem specRank_any (st : Int) (A A' : Option Addr) (c c' : Nat) (ss bs : List Int) (r : Int) (B : Nat) (w : World) (h : St w B st A A' c c' ss bs) (hB : B ≤ w.heap.size) :
    Calls Try.prog 50 #[stv st A A' c c' ss bs, .int .i64 r] w (Lists w (rankR st ss bs r) (rankB st ss bs r)) := by
  have X0 : Blk (w.alloc (.cells #[.int .i64 st, .slice A ss.length c, .slice A' bs.length c'] 28)) w.heap.size 28 #[.int .i64 st, .slice A ss.length c, .slice A' bs.length c'] := Blk.new _ _ _
  have h1 := h.alloc hB
  cases hc : countB st ss bs
  · rw [show rankR st ss bs r = [] by simp [rankR, rankB, hc], show rankB st ss bs r = false by simp [rankB, hc]]
    have HC := Lib.hid hc
    clear hc
    go_enter Try.func50, Try.ntmps50
    go_wp2_with fail
    refine (clCounted_any _ _ _ _ _ _ _ B _ (h1 _) (by simp; omega)).mono ?_
    rintro e w1 ⟨rfl, hb⟩
    rw [HC.out]
    go_wp2_with fail
    go_ret2
    exact ⟨_, rfl, OwnI.nil _ _, (below_alloc _ _).trans (hb.mono (by simp))⟩
  · have hg := (count_good hc).1
    have hle := (count_good hc).2
    have G := good_of hg
    obtain ⟨n, rfl⟩ : ∃ n : Nat, st = (n : Int) := ⟨st.toNat, by have := G.st1; omega⟩
    rw [Int.toNat_natCast] at hle
    have g1 : 1 ≤ n := by have := G.st1; omega
    have g2 : n ≤ 60 := by have := G.st2; omega
    have E := Lib.hid ((caL_zero n ss bs).trans (cap_same hle))
    have HC := Lib.hid hc
    have GH := Lib.hid G
    have hl2 : ss.length ≤ 5 := G.l2
    by_cases hr0 : r < 0
    · rw [show rankR (n : Int) ss bs r = [] by simp [rankR, rankB, atB]; omega, show rankB (n : Int) ss bs r = false by simp [rankB, atB]; omega]
      clear hc hg hle G
      go_enter Try.func50, Try.ntmps50
      go_wp2_with fail
      refine (clCounted_any _ _ _ _ _ _ _ B _ (h1 _) (by simp; omega)).mono ?_
      rintro e w1 ⟨rfl, hb⟩
      rw [HC.out]
      go_wp2_with fail
      go_ret2
      exact ⟨_, rfl, OwnI.nil _ _, (below_alloc _ _).trans (hb.mono (by simp))⟩
    · by_cases hr1 : wS n ss bs n ≤ r
      · rw [show rankR (n : Int) ss bs r = [] by simp [rankR, rankB, atB]; omega, show rankB (n : Int) ss bs r = false by simp [rankB, atB]; omega]
        generalize wS n ss bs n = v0 at *
        clear hc hg G
        go_enter Try.func50, Try.ntmps50
        go_wp2_with fail
        refine (clCounted_any _ _ _ _ _ _ _ B _ (h1 _) (by simp; omega)).mono ?_
        rintro e w1 ⟨rfl, hb⟩
        rw [HC.out]
        have X1 := X0.below hb (by simp)
        have B1 : Below w.heap.size w w1 := (below_alloc _ _).trans (hb.mono (by simp))
        have hz : w.heap.size < w1.heap.size := by have := hb.size; simp at this; omega
        obtain ⟨p0, p1, p2⟩ := X1.three
        clear hb h1 X0
        go_wp2_with fail
        refine (clWays_any _ _ _ _ _ _ _ B _ (h.below B1 hB) (by omega) GH.out).mono ?_
        rintro e w2 ⟨g, rfl, hgg, hblk, hb2⟩
        have k := hblk.int_at (k := 0) (by unfold caL; rw [tell_length]; omega)
        rw [E.out] at k
        have B2 : Below w.heap.size w w2 := B1.trans (hb2.mono (by omega))
        clear p0 p1 p2 X1 hb2
        go_wp2_with fail
        go_ret2
        exact ⟨_, rfl, OwnI.nil _ _, B2⟩
      · have hb : rankB (n : Int) ss bs r = true := by simp [rankB, atB, hc]; omega
        rw [show rankR (n : Int) ss bs r = climbR n ss bs (n + 1) n r by simp [rankR, hb], hb]
        have hr2 : 0 ≤ r := by omega
        have hr3 : r < wS n ss bs n := by omega
        have hr4 : r ≤ 1000000000000000 := by omega
        have HR := Lib.hid hr3
        clear hb hr0 hr1 hc hg G
        generalize wS n ss bs n = v0 at E hr3 hle
        go_enter Try.func50, Try.ntmps50
        go_wp2_with fail
        refine (clCounted_any _ _ _ _ _ _ _ B _ (h1 _) (by simp; omega)).mono ?_
        rintro e w1 ⟨rfl, hb⟩
        rw [HC.out]
        have X1 := X0.below hb (by simp)
        have B1 : Below w.heap.size w w1 := (below_alloc _ _).trans (hb.mono (by simp))
        have hz : w.heap.size < w1.heap.size := by have := hb.size; simp at this; omega
        obtain ⟨p0, p1, p2⟩ := X1.three
        clear hb h1 X0
        go_wp2_with fail
        refine (clWays_any _ _ _ _ _ _ _ B _ (h.below B1 hB) (by omega) GH.out).mono ?_
        rintro e w2 ⟨g, rfl, hgg, hblk, hb2⟩
        have k := hblk.int_at (k := 0) (by unfold caL; rw [tell_length]; omega)
        rw [E.out] at k
        have B2 : Below w.heap.size w w2 := B1.trans (hb2.mono (by omega))
        have X2 := X1.below hb2 hz
        have hz2 : w1.heap.size ≤ w2.heap.size := hb2.size
        clear p0 p1 p2 X1 hb2 hblk
        obtain ⟨p0, p1, p2⟩ := X2.three
        go_wp2_with fail
        clear k hr3 hle
        refine (clWays_any _ _ _ _ _ _ _ B _ (h.below B2 hB) (by omega) GH.out).mono ?_
        rintro e w3 ⟨g', rfl, hgg', hblk, hb3⟩
        have B3 : Below w.heap.size w w3 := B2.trans (hb3.mono (by omega))
        have X3 := X2.below hb3 (by omega)
        have hz3 : w2.heap.size ≤ w3.heap.size := hb3.size
        have hgl := hblk.lt
        clear p0 p1 p2 X2 hb3
        obtain ⟨p0, p1, p2⟩ := X3.three
        go_wp2_with fail
        clear p0 p1 p2
        go_loopw [1, 7, 8] (fun q o i wr => ∃ (ys : List Int) (a d f : Nat) (x : Int), a + d = n ∧ q = .int .i64 x ∧ i = .int .i64 a ∧ 0 ≤ x ∧ x ≤ 1000000000000000 ∧ Hid (x < wS n ss bs d) ∧ d + 1 ≤ f ∧ ys.length + f ≤ n + 1 ∧ Hid (climbR n ss bs (n + 1) n r = ys ++ climbR n ss bs f d x) ∧ OwnI wr w3.heap.size o ys ∧ Below w3.heap.size w3 wr) (fun _ _ i _ => (61 - intOf i).toNat)
        case atStart => exact ⟨[], 0, n, n + 1, r, by omega, rfl, rfl, hr2, hr4, HR, by omega, by simp, Lib.hid rfl, OwnI.nil _ _, Below.refl _ _⟩
        case round =>
          obtain ⟨ys, a, d, f, x, had, rfl, rfl, hx0, hx1, HX, hf, hyl, HCC, hown, hbw⟩ := hrel
          have X := X3.below hbw (by omega)
          have hzr : w3.heap.size ≤ wr.heap.size := hbw.size
          have HB4 := Lib.hid (B3.trans (hbw.mono (by omega)))
          have hw := h.below HB4.out hB
          have hon := hblk.below hbw hgl
          obtain ⟨p0, p1, p2⟩ := X.three
          have HBW := Lib.hid hbw
          obtain ⟨f, rfl⟩ : ∃ f', f = f' + 1 := ⟨f - 1, by omega⟩
          clear X hbw
          by_cases hd : d = 0
          · subst hd
            have HY := Lib.hid (by rw [HCC.out, climbR_top, List.append_nil] : climbR n ss bs (n + 1) n r = ys)
            obtain rfl : a = n := by omega
            go_wp2_with fail
            go_ret2
            exact ⟨_, rfl, by rw [HY.out]; exact hown.mono (by omega), HB4.out⟩
          · obtain ⟨m, rfl⟩ : ∃ m, d = m + 1 := ⟨d - 1, by omega⟩
            have HA := Lib.hid had
            have han : a < n := by omega
            have HS := Lib.hid (wS_some hx0 HX.out)
            go_wp2_with fail
            go_loop [1, 7, 8, 36] (fun q v5 v6 i => ∃ (k : Nat) (y : Int), k ≤ ss.length ∧ v6 = .int .i64 (a : Int) ∧ OwnI wr w3.heap.size v5 ys ∧ i = .int .i64 (k : Int) ∧ q = .int .i64 y ∧ 0 ≤ y ∧ y ≤ 1000000000000000 ∧ Hid (y = x - pS n ss bs m k) ∧ Hid (pick (sS n ss bs m) ss x = pick (sS n ss bs m) (ss.drop k) y)) (fun _ _ _ i => ss.length - (intOf i).toNat)
            case atStart => exact ⟨0, x, Nat.zero_le _, rfl, hown, rfl, rfl, hx0, hx1, Lib.hid (by rw [pS_zero]; omega), Lib.hid (by simp)⟩
            case round =>
              clear hown
              obtain ⟨k, y, hk, rfl, hown, rfl, rfl, hy0, hy1, HY, HP⟩ := hrel
              by_cases hkl : k < ss.length
              · obtain ⟨bb, o, rfl, hb, hcell⟩ := hw.rs.at_ hkl
                obtain ⟨s, hs⟩ : ∃ s : Nat, ss.getD k 0 = (s : Int) := ⟨(ss.getD k 0).toNat, by have := GH.out.hs _ (getD_mem hkl); omega⟩
                have hsb : 1 ≤ s ∧ s ≤ 9 := by have := GH.out.hs _ (getD_mem hkl); rw [hs] at this; omega
                have hs1 := hsb.1
                have hs2 := hsb.2
                have bd2 := sS_bd GH.out (d := m) (by omega) (s : Int)
                have HKL := Lib.hid hkl
                rw [hs] at hcell
                have HSS := Lib.hid hs
                clear hsb hs
                by_cases hsn : a + s ≤ n
                · have k2 := hon.int_at (k := a + s) (by unfold caL; rw [tell_length]; omega)
                  rw [caL_up HA.out hs1 hsn] at k2
                  have hsn2 : (a : Int) + (s : Int) ≤ (n : Int) := by omega
                  by_cases hlt : y < sS n ss bs m (s : Int)
                  · have HN := Lib.hid (HP.out.trans (pick_yes HKL.out (by rw [HSS.out]; exact hlt)))
                    rw [HSS.out] at HN
                    have hps := sS_pos hy0 hlt
                    have HLT : Hid (y < wS n ss bs (m + 1 - s)) := Lib.hid (by rw [← hps.2]; exact hlt)
                    have HST := Lib.hid (climbR_step (f := f) HN.out)
                    have hcp := (cap_lt hy1).2 hlt
                    clear hps hlt bd2
                    generalize capI (sS n ss bs m (s : Int)) = v at *
                    go_wp2_with (at_builtin; refine wpList_push _ rfl _ _ rfl w3.heap.size _ ys rfl (hown.alloc _) wr.heap.size (s : Int) rfl (by simp) (by omega) (by simp; omega) ?_; intro v1 w4 hown1 hg1)
                    go_roundw
                    case rel => exact ⟨ys ++ [(s : Int)], a + s, m + 1 - s, f, y, by omega, rfl, by go_num, hy0, hy1, HLT, by omega, by simp; omega, Lib.hid (by rw [HCC.out, HST.out, List.append_assoc, Int.toNat_natCast]; rfl), hown1, (HBW.out.alloc (by omega) _).trans hg1⟩
                    case measure => simp [intOf]; omega
                  · have HN := Lib.hid (HP.out.trans (pick_no HKL.out (by rw [HSS.out]; exact hlt)))
                    rw [HSS.out] at HN
                    have HYN : Hid (y - sS n ss bs m (s : Int) = x - pS n ss bs m (k + 1)) := Lib.hid (by rw [pS_succ HKL.out (by rw [HSS.out]; omega), HSS.out, HY.out]; omega)
                    rw [cap_ge hy1 hlt] at k2
                    generalize sS n ss bs m (s : Int) = v at *
                    go_wp2_with fail
                    go_round
                    case rel => exact ⟨k + 1, y - v, by omega, rfl, hown, by go_num, by first | rfl | go_num, by omega, by omega, HYN, HN⟩
                    case measure => simp [intOf]; omega
                · have hz1 := sS_over (n := n) (ss := ss) (bs := bs) HA.out (show n < a + s by omega)
                  have HN : Hid (pick (sS n ss bs m) ss x = pick (sS n ss bs m) (ss.drop (k + 1)) y) := Lib.hid (by
                    have := HP.out.trans (pick_no HKL.out (by rw [HSS.out, hz1]; omega))
                    rw [HSS.out, hz1] at this; simpa using this)
                  have HYN : Hid (y = x - pS n ss bs m (k + 1)) := Lib.hid (by rw [pS_succ HKL.out (by rw [HSS.out]; omega), HSS.out, hz1, HY.out]; omega)
                  have hsn2 : (n : Int) < (a : Int) + (s : Int) := by omega
                  clear hz1 bd2
                  go_wp2_with fail
                  go_round
                  case rel => exact ⟨k + 1, y, by omega, rfl, hown, by go_num, rfl, hy0, hy1, HYN, HN⟩
                  case measure => simp [intOf]; omega
              · exfalso
                obtain rfl : k = ss.length := by omega
                have h1 := HY.out
                have h2 := HX.out
                rw [HS.out] at h2
                omega

end Go.Proofs.Ytimgnollnnepbaa
