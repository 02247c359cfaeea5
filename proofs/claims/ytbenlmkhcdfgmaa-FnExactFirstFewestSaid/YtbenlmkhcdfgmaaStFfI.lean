/- Contracts: FirstFewest, the program. -/
import Derived.Test.YtbenlmkhcdfgmaaStFewI
import Derived.Test.YtbenlmkhcdfgmaaStFfP
namespace Go.Proofs.Ytbenlmkhcdfgmaa
open Go.RowKit

def ffL (st : Int) (ss bs : List Int) : List Int := if strB false st ss bs then ffR st.toNat ss bs (lv false st.toNat ss bs st.toNat).toNat st.toNat else []
theorem ffL_length (st : Int) (ss bs : List Int) : (ffL st ss bs).length ≤ 1048576 := by
  unfold ffL
  split
  · next h =>
    simp only [strB, Bool.and_eq_true] at h
    have G := good_of h.1
    have h1 := ffR_length (n := st.toNat) (ss := ss) (bs := bs) (lv false st.toNat ss bs st.toNat).toNat st.toNat
    have h2 := lv_bd (most := false) (n := st.toNat) (bs := bs) (fun s hs => (G.hs s hs).1) st.toNat
    have := G.st2
    omega
  · simp
theorem make0_run (n : Nat) (hn : n ≤ 1048576) (u : World) : (Instr.makeSlice 22 (.int .i64 0) (.int .i64 (n : Int))).run Try.prog u = .ok (.slice (some ⟨u.heap.size, 0, none⟩) 0 n) (u.alloc (.cells (ints (List.replicate n 0)) 3)) := by
  obtain ⟨i0, hi, hz, hs, hby⟩ := info_parts int_info
  have := run_make (P := Try.prog) u 22 3 i0 (.int .i64 0) Try.underlying22 hi hz .i64 .i64 0 n (Int.le_refl _) (by omega) (by rw [hby]; omega) (by omega)
  rw [Int.toNat_natCast, hs, made_ints] at this
  exact this
theorem OwnI.made0 (w : World) (n : Nat) (hn : n ≤ 1048576) {B : Nat} (hB : B ≤ w.heap.size) : OwnI (w.alloc (.cells (ints (List.replicate n 0)) 3)) B (.slice (some ⟨w.heap.size, 0, none⟩) 0 n) [] :=
  World.ownsRow_made w _ n hB (by simp [maxLen]; omega) (by simp [ints])

set_option maxRecDepth 100000 in
set_option maxHeartbeats 4000000 in
theorem implFirstFew_any (st : Int) (A A' : Option Addr) (c c' : Nat) (ss bs : List Int) (B : Nat) (w : World) (h : St w B st A A' c c' ss bs) (hB : B ≤ w.heap.size) :
    Calls Try.prog 10 #[stv st A A' c c' ss bs] w (Lists w (ffL st ss bs) (strB false st ss bs)) := by
  have h1 := h.alloc hB (.cells #[.int .i64 st, .slice A ss.length c, .slice A' bs.length c'] 28)
  have X0 : Blk (w.alloc (.cells #[.int .i64 st, .slice A ss.length c, .slice A' bs.length c'] 28)) w.heap.size 28 #[.int .i64 st, .slice A ss.length c, .slice A' bs.length c'] := Blk.new _ _ _
  cases g : strB false st ss bs
  · rw [show ffL st ss bs = [] by simp [ffL, g]]
    have H := Lib.hid g
    clear g
    go_enter Try.func10, Try.ntmps10
    go_wp2_with fail
    refine (implFewest_any _ _ _ _ _ _ _ B _ h1 (by simp; omega)).mono ?_
    rintro e w1 ⟨rfl, hb⟩
    have Bt : Below w.heap.size w w1 := (below_alloc _ _).trans (hb.mono (by simp))
    rw [H.out]
    go_wp2_with fail
    go_ret2
    exact ⟨_, rfl, OwnI.nil _ _, Bt⟩
  · have gg : goodB st ss bs = true := by simp only [strB, Bool.and_eq_true] at g; exact g.1
    have G := good_of gg
    obtain ⟨n, rfl⟩ : ∃ n : Nat, st = (n : Int) := ⟨st.toNat, by have := G.st1; omega⟩
    have g1 : 1 ≤ n := by have := G.st1; omega
    have g2 : n ≤ 60 := by have := G.st2; omega
    have hl2 : ss.length ≤ 5 := G.l2
    have hlv := lv_bd (most := false) (n := n) (bs := bs) (fun s hs => (G.hs s hs).1) n
    have hlp : 0 ≤ lv false n ss bs n := by simp only [strB, gg, Int.toNat_natCast, Bool.true_and, Bool.not_eq_true', decide_eq_false_iff_not] at g; omega
    obtain ⟨M, hM⟩ : ∃ M : Nat, lv false n ss bs n = (M : Int) := ⟨(lv false n ss bs n).toNat, by omega⟩
    have hM2 : M ≤ n := by omega
    have hP0 := Lib.hid (lv_pos (fun s hs => (G.hs s hs).1) hM)
    have EV := Lib.hid (show strV false n ss bs = (M : Int) by rw [strV, if_pos g, Int.toNat_natCast, hM])
    have hmk := make0_run M (by omega)
    rw [show ffL n ss bs = ffR n ss bs M n by simp only [ffL, g, Int.toNat_natCast, hM, if_true]]
    have GH := Lib.hid G
    have H := Lib.hid g
    clear g gg hlv hlp hM G
    go_enter Try.func10, Try.ntmps10
    go_wp2_with fail
    refine (implFewest_any _ _ _ _ _ _ _ B _ h1 (by simp; omega)).mono ?_
    rintro e w1 ⟨rfl, hb⟩
    have Bt : Below w.heap.size w w1 := (below_alloc _ _).trans (hb.mono (by simp))
    have hs : w.heap.size + 1 ≤ w1.heap.size := by have := hb.size; simp at this; omega
    replace h1 := h1.below hb (by simp; omega)
    replace X0 := X0.below hb (by simp)
    clear hb
    obtain ⟨p0, p1, p2⟩ := X0.three
    rw [H.out, EV.out]
    go_wp2_with fail
    refine (byStrides_any n _ _ _ _ _ _ B _ h1 (by omega) GH.out).mono ?_
    rintro e w2 ⟨g, gs, f, rfl, hgg, RW, hf, hb⟩
    have HF2 := Lib.hid hf
    clear hf
    replace Bt := Bt.trans (hb.mono (by omega))
    replace h1 := h1.below hb (by omega)
    replace X0 := X0.below hb (by omega)
    replace hs : w.heap.size + 1 ≤ w2.heap.size := by have := hb.size; omega
    clear p0 p1 p2 hb
    obtain ⟨p0, p1, p2⟩ := X0.three
    have OW0 := OwnI.made0 w2 M (by omega) (Nat.le_refl _)
    go_wp2_with fail
    clear hmk
    go_loopw [7, 8, 9] (fun o i l wr => ∃ (ys : List Int) (a d m : Nat), a + d = n ∧ i = .int .i64 (a : Int) ∧ l = .int .i64 ((m : Int) - 1) ∧ Hid (0 < bS n ss bs m d) ∧ ys.length + m ≤ n ∧ m ≤ n ∧ Hid (ffR n ss bs M n = ys ++ ffR n ss bs m d) ∧ OwnI wr w2.heap.size o ys ∧ Below w2.heap.size w2 wr) (fun _ _ l _ => (intOf l + 1).toNat)
    case atStart => exact ⟨[], 0, n, M, by omega, rfl, by go_num, hP0, by simpa using hM2, hM2, Lib.hid rfl, OW0, below_alloc _ _⟩
    case round =>
      obtain ⟨ys, a, d, m, had, rfl, rfl, HX, hyl, hm, HC, hown, hbw⟩ := hrel
      have X := X0.below hbw (by omega)
      have RW2 := RW.below hbw (Nat.le_refl _)
      have hz : w2.heap.size ≤ wr.heap.size := hbw.size
      have hw := h1.below hbw (by omega)
      obtain ⟨q0, q1, q2⟩ := X.three
      have HBW := Lib.hid hbw
      clear X hbw
      by_cases hd : m = 0
      · subst hd
        have HY := Lib.hid (by rw [HC.out]; simp [ffR] : ffR n ss bs M n = ys)
        go_wp2_with fail
        go_ret2
        exact ⟨_, rfl, by rw [HY.out]; exact hown.mono (by omega), Bt.trans (HBW.out.mono (by omega))⟩
      · obtain ⟨m, rfl⟩ : ∃ m', m = m' + 1 := ⟨m - 1, by omega⟩
        rw [show ((m + 1 : Nat) : Int) - 1 = (m : Int) by omega]
        have HA := Lib.hid had
        have han : a ≤ n := by omega
        have HS := Lib.hid (ff_some HX.out)
        have a1 := RW2.out (j := m) (by omega)
        have hmn : (m : Int) < (n : Int) + 1 := by omega
        have hmn2 : m < n + 1 := by omega
        go_wp2_with fail
        go_loop [7, 8, 32] (fun v7 v8 i => ∃ (k : Nat), k ≤ ss.length ∧ v8 = .int .i64 (a : Int) ∧ OwnI wr w2.heap.size v7 ys ∧ i = .int .i64 (k : Int) ∧ Hid (ss.find? (ffP n ss bs m d) = (ss.drop k).find? (ffP n ss bs m d))) (fun _ _ i => ss.length - (intOf i).toNat)
        case atStart => exact ⟨0, Nat.zero_le _, rfl, hown, rfl, Lib.hid (by simp)⟩
        case round =>
          clear hown
          obtain ⟨k, hk, rfl, hown, rfl, HP⟩ := hrel
          by_cases hkl : k < ss.length
          · obtain ⟨bb, o, rfl, hb, hcell⟩ := hw.rs.at_ hkl
            obtain ⟨s, hs'⟩ : ∃ s : Nat, ss.getD k 0 = (s : Int) := ⟨(ss.getD k 0).toNat, by have := GH.out.hs _ (getD_mem hkl); omega⟩
            have hsb : 1 ≤ s ∧ s ≤ 9 := by have := GH.out.hs _ (getD_mem hkl); rw [hs'] at this; omega
            have hs1 := hsb.1
            have hs2 := hsb.2
            have k2 := RW2.at_ (j := m) (q := a + s) (by omega) (by omega)
            rw [HF2.out m (a + s) (by omega)] at k2
            have HKL := Lib.hid hkl
            rw [hs'] at hcell
            have HSS := Lib.hid hs'
            have has : 0 ≤ (a : Int) + (s : Int) := by omega
            have has2 : (a : Int) + (s : Int) < (n : Int) + 10 := by omega
            have has3 : ((a : Int) + (s : Int)).toNat = a + s := by omega
            have has4 : a + s < n + 10 := by omega
            clear hsb hs'
            generalize hr : gs m = r at *
            by_cases hlt : 0 < bY n ss bs m (a + s)
            · have hsd : s ≤ d := by
                rcases Nat.lt_or_ge n (a + s) with h | h
                · rw [bY_out n ss bs m h] at hlt; omega
                · omega
              have hbp : 0 < bS n ss bs m (d - s) := by rw [bY_in n ss bs m (by omega), show n - (a + s) = d - s by omega] at hlt; exact hlt
              have HN := Lib.hid (HP.out.trans (find_yes HKL.out (by rw [HSS.out]; exact ff_yes hsd hbp)))
              rw [HSS.out] at HN
              have HST := Lib.hid (ffR_step HN.out)
              have HBP := Lib.hid hbp
              clear hbp
              generalize bY n ss bs m (a + s) = v at *
              go_wp2_with (at_builtin; refine wpList_push _ rfl _ _ rfl w2.heap.size _ ys rfl (hown.alloc _) wr.heap.size (s : Int) rfl (by simp) (by omega) (by simp; omega) ?_; intro v1 w4 hown1 hg1)
              go_roundw
              case rel => exact ⟨ys ++ [(s : Int)], a + s, d - s, m, by omega, by go_num, by go_num, HBP, by simp; omega, by omega, Lib.hid (by rw [HC.out, HST.out, List.append_assoc, Int.toNat_natCast]; rfl), hown1, (HBW.out.alloc (by omega) _).trans hg1⟩
              case measure => simp [intOf] <;> omega
            · have hff : ffP n ss bs m d (s : Int) = false := by
                rcases Nat.lt_or_ge d s with h | h
                · exact ff_over h
                · exact ff_no (by rw [bY_in n ss bs m (by omega), show n - (a + s) = d - s by omega] at hlt; exact hlt)
              have HN := Lib.hid (HP.out.trans (find_no HKL.out (by rw [HSS.out]; exact hff)))
              clear hff
              generalize bY n ss bs m (a + s) = v at *
              go_wp2_with fail
              go_round
              case rel => exact ⟨k + 1, by omega, rfl, hown, by go_num, HN⟩
              case measure => simp [intOf]; omega
          · exfalso
            obtain rfl : k = ss.length := by omega
            exact HS.out (HP.out.trans (by simp))

end Go.Proofs.Ytbenlmkhcdfgmaa
