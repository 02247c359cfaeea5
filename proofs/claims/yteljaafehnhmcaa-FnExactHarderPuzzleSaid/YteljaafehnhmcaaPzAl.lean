/- Contract: the hidden stairs that fit some clues, in order, none sharing memory (the model). -/
import Derived.Test.YteljaafehnhmcaaPzY
import Derived.Test.YteljaafehnhmcaaPzZ
import Derived.Test.YteljaafehnhmcaaPzF
namespace Go.Proofs.Yteljaafehnhmcaa
open Go.RowKit
set_option maxRecDepth 100000

theorem fits_take {ps : List Tri} {k : Nat} (hk : k < ps.length) (r : Rc) : fitsB (ps.take (k + 1)) r = (fitsB (ps.take k) r && fitB (ps.getD k z3) r) := by
  rw [← fitsB_snoc, List.take_succ_eq_append_getElem hk, show ps.getD k z3 = ps[k] by simp [List.getD_eq_getElem?_getD, hk]]
theorem filt_len {L : Lr} {rs : List Rc} {f : Rc → Bool} (h : recL L = rs.filter f) (h2 : rs.length ≤ 1048575) : (elsL L).length ≤ 1048576 := by
  have h3 := List.length_filter_le f rs
  exact len_of_rec h (by omega)
theorem filt_yes {rs : List Rc} {f : Rc → Bool} {r : Rc} (h : f r = true) : (rs ++ [r]).filter f = rs.filter f ++ [r] := by simp [List.filter_append, h]
theorem filt_no {rs : List Rc} {f : Rc → Bool} {r : Rc} (h : f r = false) : (rs ++ [r]).filter f = rs.filter f := by simp [List.filter_append, h]

set_option maxHeartbeats 3000000 in
theorem pzAll_any (Z : Option Addr) (d : Nat) (ps : List Tri) (B : Nat) (w : World) (hzr : RdF w B Z d ps) (hB : B ≤ w.heap.size) (hm : ps.length ≤ 1048576) (hkk : ∀ p ∈ ps, 0 ≤ p.1 ∧ p.1 ≤ 5) :
    Calls Try.prog 23 #[.slice Z ps.length d] w fun e w' => ∃ v L, e = .returned v ∧ recL L = hidL.filter (fitsB ps) ∧ Stock w' w.heap.size v L ∧ Below w.heap.size w w' := by
  have HZ := Lib.hid hzr
  have HK := Lib.hid (fun k (hk : k < ps.length) => hkk (ps.getD k z3) (by simp [List.getD_eq_getElem?_getD, hk]))
  clear hzr hkk
  go_enter Try.func23, Try.ntmps23
  go_wp2_with fail
  go_loopw [3, 4] (fun all st wr => ∃ (n : Nat) (v : Value) (L : Lr), n ≤ 7 ∧ st = .int .i64 ((n : Int) + 1) ∧ all = v ∧ Hid (recL L = (preL n 0 0).filter (fitsB ps)) ∧ Stock wr w.heap.size v L ∧ Below w.heap.size w wr) (fun _ st _ => (8 - intOf st).toNat)
  case atStart => exact ⟨0, _, [], by omega, rfl, rfl, rfl, Stock.nil _ _, Below.refl _ _⟩
  case round =>
    obtain ⟨n, v, L, hn, rfl, rfl, HL, hst, hbw⟩ := hrel
    obtain ⟨w1, rfl⟩ : ∃ w1, w1 = wr := ⟨_, rfl⟩
    have hz1 : w.heap.size ≤ w1.heap.size := hbw.size
    by_cases hlt : n < 7
    · have hi1 : (n : Int) + 1 ≤ 7 := by omega
      go_wp2_with fail
      refine (strides_any w1).mono ?_
      rintro e w2 ⟨rfl, hS, hb2⟩
      have hst2 := hst.below hb2 (Nat.le_refl _)
      have HV2 := Lib.hid (fun j' (_ : j' < 8) => (hst.notIn (k := w1.heap.size + j') (by omega)).1)
      have hbw2 := hbw.trans (hb2.mono hz1)
      clear hst hbw hb2
      go_wp2_with fail
      go_loopw [3, 18] (fun all i wr => ∃ (j : Nat) (v : Value) (L : Lr), j ≤ 7 ∧ i = .int .i64 j ∧ all = v ∧ Hid (recL L = (preL n j 0).filter (fitsB ps)) ∧ Stock wr w.heap.size v L ∧ Hid (∀ j', j' < 8 → v.ownBlock ≠ some (w1.heap.size + j')) ∧ Strd wr w1.heap.size 37 ∧ Below w.heap.size w wr) (fun _ i _ => (7 - intOf i).toNat)
      case atStart => exact ⟨0, _, L, by omega, rfl, rfl, HL, hst2, HV2, hS, hbw2⟩
      case round =>
        clear hst2 HL hbw2 hS HV2
        obtain ⟨j, v, L, hj, rfl, rfl, HL, hst, HV, hS, hbw⟩ := hrel
        have hz2 : w1.heap.size + 8 ≤ wr.heap.size := hS.size
        by_cases hjt : j < 7
        · obtain ⟨w3, rfl⟩ : ∃ w3, w3 = wr := ⟨_, rfl⟩
          have hji : (j : Int) < 7 := by omega
          have hsl := str_len j hjt
          have hrow : w3.cell? ⟨w1.heap.size + 7, j, none⟩ = some (.slice (some ⟨w1.heap.size + j, 0, none⟩) (strL.getD j []).length (strL.getD j []).length) := (hS.row.cell j).trans (stRow_at hjt)
          have hP := Lib.hid (fun b (hb : b < n + 1) => preL_step (n := n) (j := j) hb)
          have hP2 := Lib.hid (preL_strides (n := n) (j := j) hjt)
          have hlen := Lib.hid (fun b (hb : b < 9) => preL_len n (by omega) j (by omega) b hb)
          have hhid := Lib.hid (fun b (hb : b < n + 1) => pre_hid n hlt j hjt b hb)
          generalize hX : strL.getD j [] = xs at *
          have HX := Lib.hid hX
          clear hX
          go_wp2_with fail
          go_loopw [3, 7] (fun all bk wr => ∃ (b : Nat) (v : Value) (L : Lr), b ≤ n + 1 ∧ bk = .int .i64 b ∧ all = v ∧ Hid (recL L = (preL n j b).filter (fitsB ps)) ∧ Stock wr w.heap.size v L ∧ Hid (∀ j', j' < 8 → v.ownBlock ≠ some (w1.heap.size + j')) ∧ Strd wr w1.heap.size 37 ∧ Below w.heap.size w wr) (fun _ bk _ => (n + 1) - (intOf bk).toNat)
          case atStart => exact ⟨0, _, L, by omega, rfl, rfl, HL, hst, HV, hS, hbw⟩
          case round =>
            clear hst HL hS hbw hrow HV
            obtain ⟨b, v, L, hb1, rfl, rfl, HL, hst, HV, hS, hbw⟩ := hrel
            have hz3 : w1.heap.size + 8 ≤ wr.heap.size := hS.size
            by_cases hbt : b < n + 1
            · obtain ⟨w4, rfl⟩ : ∃ w4, w4 = wr := ⟨_, rfl⟩
              have hbi : (b : Int) < (n : Int) + 1 := by omega
              have hblk := hS.each j hjt
              rw [HX.out] at hblk
              have hPb := Lib.hid (hP.out b hbt)
              have hHb := Lib.hid (hhid.out b hbt)
              have hlb : (if b = 0 then [] else [(b : Int)] : List Int).length ≤ 1 := by split <;> simp
              have hCall := Lib.hid (pzStairs_any ((n : Int) + 1) (some ⟨w1.heap.size + j, 0, none⟩) xs.length xs b w4.heap.size w4 (hblk.rd hblk.lt (Nat.le_refl _)) (Nat.le_refl _) (by omega))
              generalize (if b = 0 then [] else [(b : Int)] : List Int) = bs at *
              go_wp2_with fail
              refine hCall.out.mono ?_
              rintro e w5 ⟨v1, v2, he, hO1, hO2, hap, hb5⟩
              obtain ⟨A1, c1, hv1, hr1⟩ := hO1.form
              obtain ⟨A2, c2, hv2, hr2⟩ := hO2.form
              subst hv1
              subst hv2
              subst he
              have hz5 : w4.heap.size ≤ w5.heap.size := hb5.size
              have hb6 : Below w4.heap.size w4 (w5.alloc (.cells #[.int .i64 ((n : Int) + 1), .slice A1 xs.length c1, .slice A2 bs.length c2] 42)) := hb5.alloc hz5 _
              have X6 : Blk (w5.alloc (.cells #[.int .i64 ((n : Int) + 1), .slice A1 xs.length c1, .slice A2 bs.length c2] 42)) w5.heap.size 42 #[.int .i64 ((n : Int) + 1), .slice A1 xs.length c1, .slice A2 bs.length c2] := Blk.new _ _ _
              have ba6 : Below w5.heap.size w5 (w5.alloc (.cells #[.int .i64 ((n : Int) + 1), .slice A1 xs.length c1, .slice A2 bs.length c2] 42)) := below_alloc _ _
              have hSt : St (w5.alloc (.cells #[.int .i64 ((n : Int) + 1), .slice A1 xs.length c1, .slice A2 bs.length c2] 42)) w5.heap.size ((n : Int) + 1) A1 A2 c1 c2 xs bs := ⟨hr1.below ba6 (Nat.le_refl _), hr2.below ba6 (Nat.le_refl _), by omega, by omega⟩
              have hst6 := hst.below hb6 (Nat.le_refl _)
              have hO6 := (hO1.below ba6 (Nat.le_refl _))
              have hO7 := (hO2.below ba6 (Nat.le_refl _))
              have hS6 := hS.below hb6 (by omega)
              have hbw6 := hbw.trans (hb6.mono hbw.size)
              have hl1 := Lib.hid (fun k hk => hO1.lt k hk)
              have hl2 := Lib.hid (fun k hk => hO2.lt k hk)
              have hni := Lib.hid (fun k (hk : w4.heap.size ≤ k) => hst.notIn hk)
              have hzu : w5.heap.size < (w5.alloc (.cells #[.int .i64 ((n : Int) + 1), .slice A1 xs.length c1, .slice A2 bs.length c2] 42)).heap.size := X6.lt
              clear hb5 hb6 ba6 hr1 hr2 hO1 hO2 hst hS hbw hblk hCall
              go_wp2_with fail
              generalize (w5.alloc (.cells #[.int .i64 ((n : Int) + 1), .slice A1 xs.length c1, .slice A2 bs.length c2] 42)) = u at *
              go_loopw [9, 33] (fun f i wr => ∃ m : Nat, m ≤ ps.length ∧ i = .int .i64 m ∧ f = .bool (fitsB (ps.take m) ((n : Int) + 1, xs, bs)) ∧ Below u.heap.size u wr) (fun _ i _ => ps.length - (intOf i).toNat)
              case atStart => exact ⟨0, Nat.zero_le _, rfl, rfl, Below.refl _ _⟩
              case round =>
                obtain ⟨m, hm1, rfl, rfl, hbu⟩ := hrel
                have hzw : u.heap.size ≤ wr.heap.size := hbu.size
                have X7 := X6.below hbu hzu
                obtain ⟨p0, p1, p2⟩ := X7.three
                by_cases hmt : m < ps.length
                · obtain ⟨g, o, rfl, hg, a0, a1, a2⟩ := (HZ.out.below (hbw6.trans (hbu.mono (by omega))) hB).2 m hmt
                  have HT := Lib.hid (fits_take hmt ((n : Int) + 1, xs, bs))
                  have HKm := HK.out m hmt
                  obtain ⟨⟨x, y, z⟩, hxyz⟩ : ∃ q : Tri, ps.getD m z3 = q := ⟨_, rfl⟩
                  have hq : ps.getD m (0, 0, 0) = (x, y, z) := hxyz
                  rw [hq] at a0 a1 a2
                  rw [hxyz] at HT HKm
                  dsimp only at a0 a1 a2 HKm
                  obtain ⟨hk0, hk1⟩ := HKm
                  clear hq hxyz
                  have hSt7 := hSt.below hbu (Nat.le_of_lt hzu)
                  have b8 : Below u.heap.size u (wr.alloc (.cells #[.int .i64 x, .int .i64 y, .int .i64 z] 54)) := hbu.alloc hzw _
                  have hSt8 := hSt.below b8 (Nat.le_of_lt hzu)
                  have X8 := X7.alloc (.cells #[.int .i64 x, .int .i64 y, .int .i64 z] 54)
                  have hz8 : u.heap.size ≤ (wr.alloc (.cells #[.int .i64 x, .int .i64 y, .int .i64 z] 54)).heap.size := b8.size
                  have HC := Lib.hid (pzFits_any x y z ((n : Int) + 1) A1 A2 c1 c2 xs bs w5.heap.size _ hSt8 (by omega) hHb.out hk0 hk1)
                  have hTr : Hid (fitB (x, y, z) ((n : Int) + 1, xs, bs) = decide (toldV x y ((n : Int) + 1) xs bs = z)) := rfl
                  generalize toldV x y ((n : Int) + 1) xs bs = tv at *
                  generalize hfv : fitsB (ps.take m) ((n : Int) + 1, xs, bs) = fv at *
                  have HFV := Lib.hid hfv
                  obtain ⟨q0, q1, q2⟩ := X8.three
                  clear hfv hSt7 X7 hSt8 p0 p1 p2
                  cases fv
                  · go_wp2_with fail
                    go_roundw
                    case rel => exact ⟨m + 1, by omega, by go_num, by rw [HT.out]; rfl, b8⟩
                    case measure => simp [intOf]; omega
                  · go_wp2_with ((refine HC.out.mono ?_); rintro e w9 ⟨rfl, hb9⟩)
                    go_roundw
                    case rel => exact ⟨m + 1, by omega, by go_num, by rw [HT.out, hTr.out]; rfl, b8.trans (hb9.mono hz8)⟩
                    case measure => simp [intOf]; omega
                · obtain rfl : m = ps.length := by omega
                  rw [List.take_length] at *
                  have hst7 := hst6.below hbu (Nat.le_refl _)
                  have hO8 := (hO6.below hbu (Nat.le_refl _)).mono (show w.heap.size ≤ w4.heap.size by have := hbw6.size; omega)
                  have hO9 := (hO7.below hbu (Nat.le_refl _)).mono (show w.heap.size ≤ w4.heap.size by have := hbw6.size; omega)
                  have hS7 := hS6.below hbu (by omega)
                  have hbw7 := hbw6.trans (hbu.mono hbw6.size)
                  have hL0 := filt_len HL.out (hlen.out b (by omega))
                  generalize hfv : fitsB ps ((n : Int) + 1, xs, bs) = fv at *
                  have HFV := Lib.hid hfv
                  clear hfv hst6 hO6 hO7 hS6 hbw6
                  cases fv
                  · go_wp2_with fail
                    go_roundw
                    case rel => exact ⟨b + 1, _, L, by omega, by go_num, rfl, (by show _ = _; rw [hPb.out, filt_no HFV.out]; exact HL.out), hst7, HV, hS7, hbw7⟩
                    case measure => simp [intOf]; omega
                  · have hba : Below wr.heap.size wr (wr.alloc (.cells #[.int .i64 ((n : Int) + 1), .slice A1 xs.length c1, .slice A2 bs.length c2] 42)) := below_alloc _ _
                    have hst8 := hst7.below hba (Nat.le_refl _)
                    have hO10 := hO8.below hba (Nat.le_refl _)
                    have hO11 := hO9.below hba (Nat.le_refl _)
                    have hS8 := hS7.below hba (by omega)
                    have hbw8 := hbw7.trans (hba.mono hbw7.size)
                    have hzz : w.heap.size ≤ wr.heap.size := hbw7.size
                    go_wp2_with (at_builtin; refine wpList_pushE _ rfl _ _ rfl w.heap.size _ (elsL L) rfl hst8.row wr.heap.size ((n : Int) + 1, .slice A1 xs.length c1, .slice A2 bs.length c2) rfl (by simp) (by simp) (by simp) rfl rfl hL0 (by simp; omega) ?_; intro v9 w9 hOE hg9 hv9)
                    have hst9 := Stock.push (r := ((n : Int) + 1, xs, bs)) hst8 rfl hO10 hO11 hap (fun k e1 => hni.out k (hl1.out k e1).1) (fun k e1 => hni.out k (hl2.out k e1).1) hOE hg9 hv9
                    have hL9 : Hid (recL (L ++ [(((n : Int) + 1, .slice A1 xs.length c1, .slice A2 bs.length c2), ((n : Int) + 1, xs, bs))]) = (preL n j (b + 1)).filter (fitsB ps)) := rec_snoc HL.out (by rw [hPb.out, filt_yes HFV.out])
                    have hS9 := hS8.grown hg9 HV.out
                    have HV9 := Lib.hid (own_new HV.out hv9 (by simp; omega))
                    have hbw9 : Below w.heap.size w w9 := hbw8.grown hg9 (by simp; omega) (fun k hk => (hst8.row.lt k hk).1)
                    go_roundw
                    case rel => exact ⟨b + 1, _, _, by omega, by go_num, rfl, hL9, hst9, HV9, hS9, hbw9⟩
                    case measure => simp [intOf]; omega
            · obtain rfl : b = n + 1 := by omega
              go_wp2_with fail
              go_roundw
              case rel => exact ⟨j + 1, _, L, by omega, by go_num, rfl, by rw [Hid, ← hP2.out]; exact HL.out, hst, HV, hS, hbw⟩
              case measure => simp [intOf]; omega
        · obtain rfl : j = 7 := by omega
          go_wp2_with fail
          go_roundw
          case rel => exact ⟨n + 1, _, L, by omega, by go_num, rfl, by rw [Hid, ← preL_steps]; exact HL.out, hst, hbw⟩
          case measure => simp [intOf]; omega
    · obtain rfl : n = 7 := by omega
      go_wp2_with fail
      go_ret
      exact ⟨_, L, rfl, by rw [HL.out, preL_end], hst, hbw⟩

end Go.Proofs.Yteljaafehnhmcaa
