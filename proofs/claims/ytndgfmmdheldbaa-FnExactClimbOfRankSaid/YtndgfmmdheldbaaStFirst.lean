/- Contracts: the first climb, on the model's side. -/
import Derived.Test.YtndgfmmdheldbaaStClimb
namespace Go.Proofs.Ytndgfmmdheldbaa
open Go.RowKit

theorem caL_up {n : Nat} {ss bs : List Int} {m a s : Nat} (h : a + (m + 1) = n) (hs : 1 ≤ s) (hn : a + s ≤ n) : (caL n ss bs).getD (a + s) 0 = capI (sS n ss bs m (s : Int)) := by
  unfold caL
  rw [tell_getD _ _ _ (by omega)]
  unfold caS onS sS
  rw [Int.toNat_natCast, if_pos (by omega), if_pos (by omega)]
  congr 2; omega
theorem cap_pos {v : Int} : 0 < capI v ↔ 0 < v := by unfold capI leastI; split <;> omega
theorem sS_over {n : Nat} {ss bs : List Int} {m a s : Nat} (h : a + (m + 1) = n) (hn : n < a + s) : sS n ss bs m (s : Int) = 0 := by
  unfold sS; rw [Int.toNat_natCast, if_neg (by omega)]

set_option maxRecDepth 100000 in
set_option maxHeartbeats 4000000 in
theorem specFirst_any (st : Int) (A A' : Option Addr) (c c' : Nat) (ss bs : List Int) (B : Nat) (w : World) (h : St w B st A A' c c' ss bs) (hB : B ≤ w.heap.size) :
    Calls Try.prog 20 #[stv st A A' c c' ss bs] w (Lists w (firstR st ss bs) (firstB st ss bs)) := by
  have X0 : Blk (w.alloc (.cells #[.int .i64 st, .slice A ss.length c, .slice A' bs.length c'] 28)) w.heap.size 28 #[.int .i64 st, .slice A ss.length c, .slice A' bs.length c'] := Blk.new _ _ _
  have h1 := h.alloc hB
  cases hg : goodB st ss bs
  · rw [show firstR st ss bs = [] by simp [firstR, firstB, hg], show firstB st ss bs = false by simp [firstB, hg]]
    have HG := Lib.hid hg
    clear hg
    go_enter Try.func20, Try.ntmps20
    go_wp2_with fail
    refine (clGood_any _ _ _ _ _ _ _ B _ (h1 _) (by simp; omega)).mono ?_
    rintro e w1 ⟨rfl, hb⟩
    rw [HG.out]
    go_wp2_with fail
    go_ret2
    exact ⟨_, rfl, OwnI.nil _ _, (below_alloc _ _).trans (hb.mono (by simp))⟩
  · have G := good_of hg
    obtain ⟨n, rfl⟩ : ∃ n : Nat, st = (n : Int) := ⟨st.toNat, by have := G.st1; omega⟩
    have g1 : 1 ≤ n := by have := G.st1; omega
    have g2 : n ≤ 60 := by have := G.st2; omega
    have E := Lib.hid (caL_zero n ss bs)
    have HG := Lib.hid hg
    have GH := Lib.hid G
    have hl2 : ss.length ≤ 5 := G.l2
    have h0 := wS_nonneg (n : Int) ss bs n
    by_cases hw : 0 < wS n ss bs n
    · rw [show firstB (n : Int) ss bs = true by simp [firstB, hg, hw], show firstR (n : Int) ss bs = climbR n ss bs (n + 1) n 0 by simp [firstR, firstB, hg, hw]]
      have hz0 : (capI (wS n ss bs n) == 0) = false := by have := (cap_pos (v := wS n ss bs n)).2 hw; simp only [beq_eq_false_iff_ne]; omega
      have HW := Lib.hid hw
      clear hg G h0 hw
      go_enter Try.func20, Try.ntmps20
      go_wp2_with fail
      refine (clGood_any _ _ _ _ _ _ _ B _ (h1 _) (by simp; omega)).mono ?_
      rintro e w1 ⟨rfl, hb⟩
      rw [HG.out]
      have X1 := X0.below hb (by simp)
      have B1 : Below w.heap.size w w1 := (below_alloc _ _).trans (hb.mono (by simp))
      have hz : w.heap.size < w1.heap.size := by have := hb.size; simp at this; omega
      obtain ⟨p0, p1, p2⟩ := X1.three
      clear hb h1 X0
      go_wp2_with fail
      refine (clWays_any _ _ _ _ _ _ _ B _ (h.below B1 hB) (by omega) GH.out).mono ?_
      rintro e w2 ⟨g, rfl, hgg, hblk, hb2⟩
      have k := hblk.int_at (k := 0) (by unfold caL; rw [tell_length]; omega)
      rw [E.out] at k
      generalize capI (wS n ss bs n) = v at *
      have B2 : Below w.heap.size w w2 := B1.trans (hb2.mono (by omega))
      have X2 := X1.below hb2 hz
      have hz2 : w1.heap.size ≤ w2.heap.size := hb2.size
      clear p0 p1 p2 X1 hb2 hblk
      obtain ⟨p0, p1, p2⟩ := X2.three
      go_wp2_with fail
      clear k hz0
      refine (clWays_any _ _ _ _ _ _ _ B _ (h.below B2 hB) (by omega) GH.out).mono ?_
      rintro e w3 ⟨g', rfl, hgg', hblk, hb3⟩
      have B3 : Below w.heap.size w w3 := B2.trans (hb3.mono (by omega))
      have X3 := X2.below hb3 (by omega)
      have hz3 : w2.heap.size ≤ w3.heap.size := hb3.size
      have hgl := hblk.lt
      clear p0 p1 p2 X2 hb3
      obtain ⟨p0, p1, p2⟩ := X3.three
      go_wp2_with fail
      clear p0 p1 p2
      go_loopw [5, 6] (fun o i wr => ∃ (ys : List Int) (a d f : Nat), a + d = n ∧ i = .int .i64 a ∧ Hid (0 < wS n ss bs d) ∧ d + 1 ≤ f ∧ ys.length + f ≤ n + 1 ∧ Hid (climbR n ss bs (n + 1) n 0 = ys ++ climbR n ss bs f d 0) ∧ OwnI wr w3.heap.size o ys ∧ Below w3.heap.size w3 wr) (fun _ i _ => (61 - intOf i).toNat)
      case atStart => exact ⟨[], 0, n, n + 1, by omega, rfl, HW, by omega, by simp, Lib.hid rfl, OwnI.nil _ _, Below.refl _ _⟩
      case round =>
        obtain ⟨ys, a, d, f, had, rfl, HX, hf, hyl, HC, hown, hbw⟩ := hrel
        have X := X3.below hbw (by omega)
        have hzr : w3.heap.size ≤ wr.heap.size := hbw.size
        have HB4 := Lib.hid (B3.trans (hbw.mono (by omega)))
        have hw := h.below HB4.out hB
        have hon := hblk.below hbw hgl
        obtain ⟨p0, p1, p2⟩ := X.three
        have HBW := Lib.hid hbw
        obtain ⟨f, rfl⟩ : ∃ f', f = f' + 1 := ⟨f - 1, by omega⟩
        clear X hbw
        by_cases hd : d = 0
        · subst hd
          have HY := Lib.hid (by rw [HC.out, climbR_top, List.append_nil] : climbR n ss bs (n + 1) n 0 = ys)
          obtain rfl : a = n := by omega
          go_wp2_with fail
          go_ret2
          exact ⟨_, rfl, by rw [HY.out]; exact hown.mono (by omega), HB4.out⟩
        · obtain ⟨m, rfl⟩ : ∃ m, d = m + 1 := ⟨d - 1, by omega⟩
          have HA := Lib.hid had
          have han : a < n := by omega
          have HS := Lib.hid (wS_some (Int.le_refl 0) HX.out)
          go_wp2_with fail
          go_loop [5, 6, 28] (fun v5 v6 i => ∃ (k : Nat), k ≤ ss.length ∧ v6 = .int .i64 (a : Int) ∧ OwnI wr w3.heap.size v5 ys ∧ i = .int .i64 (k : Int) ∧ Hid (pS n ss bs m k = 0) ∧ Hid (pick (sS n ss bs m) ss 0 = pick (sS n ss bs m) (ss.drop k) 0)) (fun _ _ i => ss.length - (intOf i).toNat)
          case atStart => exact ⟨0, Nat.zero_le _, rfl, hown, rfl, Lib.hid (pS_zero _ _ _ _), Lib.hid (by simp)⟩
          case round =>
            clear hown
            obtain ⟨k, hk, rfl, hown, rfl, HY, HP⟩ := hrel
            by_cases hkl : k < ss.length
            · obtain ⟨bb, o, rfl, hb, hcell⟩ := hw.rs.at_ hkl
              obtain ⟨s, hs⟩ : ∃ s : Nat, ss.getD k 0 = (s : Int) := ⟨(ss.getD k 0).toNat, by have := GH.out.hs _ (getD_mem hkl); omega⟩
              have hsb : 1 ≤ s ∧ s ≤ 9 := by have := GH.out.hs _ (getD_mem hkl); rw [hs] at this; omega
              have hs1 := hsb.1
              have hs2 := hsb.2
              have bd2 := sS_bd GH.out (d := m) (by omega) (s : Int)
              have HKL := Lib.hid hkl
              rw [hs] at hcell
              have HSS := Lib.hid hs
              clear hsb hs
              by_cases hlt : 0 < sS n ss bs m (s : Int)
              · have HN := Lib.hid (HP.out.trans (pick_yes HKL.out (by rw [HSS.out]; exact hlt)))
                rw [HSS.out] at HN
                have hps := sS_pos (Int.le_refl 0) hlt
                have hsd : s ≤ m + 1 := hps.1
                have hsn : (a : Int) + (s : Int) ≤ (n : Int) := by omega
                have k2 := hon.int_at (k := a + s) (by unfold caL; rw [tell_length]; omega)
                rw [caL_up HA.out hs1 (by omega)] at k2
                have HLT : Hid (0 < wS n ss bs (m + 1 - s)) := Lib.hid (by rw [← hps.2]; exact hlt)
                have HST := Lib.hid (climbR_step (f := f) HN.out)
                have hcp := cap_pos.2 hlt
                clear hps hlt bd2
                generalize capI (sS n ss bs m (s : Int)) = v at *
                go_wp2_with (at_builtin; refine wpList_push _ rfl _ _ rfl w3.heap.size _ ys rfl (hown.alloc _) wr.heap.size (s : Int) rfl (by simp) (by omega) (by simp; omega) ?_; intro v1 w4 hown1 hg1)
                go_roundw
                case rel => exact ⟨ys ++ [(s : Int)], a + s, m + 1 - s, f, by omega, by go_num, HLT, by omega, by simp; omega, Lib.hid (by rw [HC.out, HST.out, List.append_assoc, Int.toNat_natCast]; rfl), hown1, (HBW.out.alloc (by omega) _).trans hg1⟩
                case measure => simp [intOf]; omega
              · have hz1 : sS n ss bs m (s : Int) = 0 := by omega
                have HN : Hid (pick (sS n ss bs m) ss 0 = pick (sS n ss bs m) (ss.drop (k + 1)) 0) := Lib.hid (by
                  have := HP.out.trans (pick_no HKL.out (by rw [HSS.out]; exact hlt))
                  rw [HSS.out, hz1] at this; simpa using this)
                have HYN : Hid (pS n ss bs m (k + 1) = 0) := Lib.hid (by rw [pS_succ HKL.out (by rw [HSS.out]; omega), HSS.out, HY.out, hz1]; rfl)
                by_cases hsn : a + s ≤ n
                · have k2 := hon.int_at (k := a + s) (by unfold caL; rw [tell_length]; omega)
                  rw [caL_up HA.out hs1 hsn, hz1] at k2
                  rw [show capI 0 = 0 from rfl] at k2
                  have hsn2 : (a : Int) + (s : Int) ≤ (n : Int) := by omega
                  clear hz1 hlt bd2
                  go_wp2_with fail
                  go_round
                  case rel => exact ⟨k + 1, by omega, rfl, hown, by go_num, HYN, HN⟩
                  case measure => simp [intOf]; omega
                · have hsn2 : (n : Int) < (a : Int) + (s : Int) := by omega
                  clear hz1 hlt bd2
                  go_wp2_with fail
                  go_round
                  case rel => exact ⟨k + 1, by omega, rfl, hown, by go_num, HYN, HN⟩
                  case measure => simp [intOf]; omega
            · exfalso
              obtain rfl : k = ss.length := by omega
              have h1 := HY.out
              have h2 := HX.out
              rw [HS.out] at h2
              omega
    · rw [show firstB (n : Int) ss bs = false by simp [firstB, hg, hw], show firstR (n : Int) ss bs = [] by simp [firstR, firstB, hg, hw]]
      have hw0 : wS n ss bs n = 0 := by omega
      rw [hw0, show capI 0 = 0 from rfl] at E
      clear hg G h0 hw hw0
      go_enter Try.func20, Try.ntmps20
      go_wp2_with fail
      refine (clGood_any _ _ _ _ _ _ _ B _ (h1 _) (by simp; omega)).mono ?_
      rintro e w1 ⟨rfl, hb⟩
      rw [HG.out]
      have X1 := X0.below hb (by simp)
      have B1 : Below w.heap.size w w1 := (below_alloc _ _).trans (hb.mono (by simp))
      have hz : w.heap.size < w1.heap.size := by have := hb.size; simp at this; omega
      obtain ⟨p0, p1, p2⟩ := X1.three
      clear hb h1 X0
      go_wp2_with fail
      refine (clWays_any _ _ _ _ _ _ _ B _ (h.below B1 hB) (by omega) GH.out).mono ?_
      rintro e w2 ⟨g, rfl, hgg, hblk, hb2⟩
      have k := hblk.int_at (k := 0) (by unfold caL; rw [tell_length]; omega)
      rw [E.out] at k
      have B2 : Below w.heap.size w w2 := B1.trans (hb2.mono (by omega))
      clear p0 p1 p2 X1 hb2
      go_wp2_with fail
      go_ret2
      exact ⟨_, rfl, OwnI.nil _ _, B2⟩

end Go.Proofs.Ytndgfmmdheldbaa
