/- Contracts: how many stairs the first clues leave, on both sides. -/
import Derived.Test.YtmiojofeoaocfaaPzO
import Derived.Test.YtmiojofeoaocfaaPzS
namespace Go.Proofs.Ytmiojofeoaocfaa
open Go.RowKit
set_option maxRecDepth 100000

theorem RdF.take {w : World} {B c k : Nat} {A : Option Addr} {ps : List Tri} (h : RdF w B A c ps) (hk : k ≤ ps.length) {c' : Nat} (hc : k ≤ c') : RdF w B A c' (ps.take k) := by
  have hl : (ps.take k).length = k := by simp; omega
  refine ⟨by omega, fun j hj => ?_⟩
  rw [hl] at hj
  obtain ⟨b, o, e, hb, r⟩ := h.2 j (by omega)
  have hg : (ps.take k).getD j (0, 0, 0) = ps.getD j (0, 0, 0) := by simp [List.getD_eq_getElem?_getD, hj]
  rw [hg]
  exact ⟨b, o, e, hb, r⟩
theorem puzB_take {ps : List Tri} (h : puzB ps = true) (k : Nat) : puzB (ps.take k) = true := by
  simp only [puzB, Bool.and_eq_true, List.all_eq_true, decide_eq_true_eq] at h ⊢
  exact ⟨by simp; omega, fun p hp => h.2 p (List.mem_of_mem_take hp)⟩
theorem puzB_len {ps : List Tri} (h : puzB ps = true) : ps.length ≤ 6 := by
  simp only [puzB, Bool.and_eq_true, decide_eq_true_eq] at h
  exact h.1
/-- how many the first 0, 1, .. clues leave: k numbers -/
def lbL (ps : List Tri) : Nat → List Int
  | 0 => []
  | k + 1 => lbL ps k ++ [((solL (ps.take k)).length : Int)]
theorem lbL_length (ps : List Tri) : ∀ k, (lbL ps k).length = k
  | 0 => rfl
  | k + 1 => by simp [lbL, lbL_length ps k]
def lbR (ps : List Tri) : List Int := if puzB ps then lbL ps (ps.length + 1) else []
theorem lbR_length (ps : List Tri) : (lbR ps).length ≤ 1048576 := by
  unfold lbR
  split
  · next h => have := puzB_len h; rw [lbL_length]; omega
  · simp

set_option maxHeartbeats 1000000 in
theorem specLeft_any (A : Option Addr) (c : Nat) (ps : List Tri) (B : Nat) (w : World) (hr : RdF w B A c ps) (hB : B ≤ w.heap.size) (hn : ps.length ≤ 1048576) :
    Calls Try.prog 54 #[pzv A ps.length c] w (Lists w (lbR ps) (puzB ps)) := by
  have X0 : Blk (w.alloc (.cells #[.slice A ps.length c] 35)) w.heap.size 35 #[.slice A ps.length c] := Blk.new _ _ _
  have b0 : Below w.heap.size w (w.alloc (.cells #[.slice A ps.length c] 35)) := below_alloc _ _
  have hr0 := hr.below b0 hB
  have p0 := X0.cell 0
  have z0 : B ≤ (w.alloc (.cells #[.slice A ps.length c] 35)).heap.size := by simp; omega
  have hN := Lib.hid hn
  cases hp : puzB ps
  · have HP := Lib.hid hp
    have HR := Lib.hid (show lbR ps = [] by simp [lbR, hp])
    clear hp hr
    go_enter Try.func54, Try.ntmps54
    go_wp2_with fail
    refine (pzGood_any A c ps B _ hr0 z0 hn).mono ?_
    rintro e w1 ⟨rfl, hb1⟩
    rw [HP.out]
    go_wp2_with fail
    go_ret2
    exact ⟨_, rfl, by rw [HR.out]; exact OwnI.nil _ _, b0.trans (hb1.mono b0.size)⟩
  · have HP := Lib.hid hp
    have HK := Lib.hid (fun k => puz_kinds (puzB_take hp k))
    have hl6 := puzB_len hp
    have HR := Lib.hid (show lbR ps = lbL ps (ps.length + 1) by simp [lbR, hp])
    have hcc := hr.1
    clear hp hr
    go_enter Try.func54, Try.ntmps54
    go_wp2_with fail
    generalize hu : w.alloc (.cells #[.slice A ps.length c] 35) = u at *
    have hU := Lib.hid hu
    clear hu
    refine (pzGood_any A c ps B _ hr0 z0 hn).mono ?_
    rintro e w1 ⟨rfl, hb1⟩
    rw [HP.out]
    have bw1 := b0.trans (hb1.mono b0.size)
    have hr1 := (hr0.below hb1 z0).more (Nat.le_trans z0 hb1.size)
    have X1 := X0.below hb1 X0.lt
    have zw1 : w.heap.size < w1.heap.size := X1.lt
    clear p0 hr0 X0 hb1 b0 z0
    go_wp2_with fail
    go_loopw [4, 5] (fun l i wr => ∃ (k : Nat) (v : Value), k ≤ ps.length + 1 ∧ i = .int .i64 k ∧ l = v ∧ OwnI wr w1.heap.size v (lbL ps k) ∧ Below w1.heap.size w1 wr) (fun _ i _ => ps.length + 1 - (intOf i).toNat)
    case atStart => exact ⟨0, _, by omega, rfl, rfl, OwnI.nil _ _, Below.refl _ _⟩
    case round =>
      obtain ⟨k, v, hk, rfl, rfl, hown, hbw⟩ := hrel
      have hzw : w1.heap.size ≤ wr.heap.size := hbw.size
      have p1 := (X1.below hbw zw1).cell 0
      by_cases hlt : k ≤ ps.length
      · have hki : (k : Int) ≤ (ps.length : Int) := by omega
        have hkc : k ≤ c := by omega
        have HC := pzAll_any A c (ps.take k) w1.heap.size wr ((hr1.below hbw (Nat.le_refl _)).take hlt hkc) hzw (by simp; omega) (HK.out k)
        rw [List.length_take, Nat.min_eq_left hlt] at HC
        have HC := Lib.hid HC
        have HS := Lib.hid (show lbL ps (k + 1) = lbL ps k ++ [((solL (ps.take k)).length : Int)] from rfl)
        have hll : (lbL ps k).length ≤ 1048576 := by rw [lbL_length]; omega
        have hle := solL_le (ps.take k)
        generalize lbL ps k = xs at *
        go_wp2_with (first | ((refine HC.out.mono ?_); rintro e w2 ⟨v2, L2, rfl, hL2, hst2, hb2⟩; have hl2 : L2.length = (solL (ps.take k)).length := (by rw [← recL_len, hL2]; rfl); obtain ⟨A2, c2, hv2⟩ := hst2.row.form; subst hv2; rw [elsL_len, hl2]; clear hL2 hst2 hl2; have hown2 := hown.below hb2 (Nat.le_refl _); have hbw2 := hbw.trans (hb2.mono hzw); have hz2 := hbw2.size; generalize (solL (ps.take k)).length = m at *) | (at_builtin; refine wpList_push _ rfl _ _ rfl w1.heap.size _ xs rfl (hown2.alloc _) w2.heap.size (m : Int) rfl (by simp) (by omega) (by simp; omega) ?_; intro v3 w3 hown3 hg3))
        go_roundw
        case rel => exact ⟨k + 1, _, by omega, by go_num, rfl, by rw [HS.out]; exact hown3, (hbw2.alloc hz2 _).trans hg3⟩
        case measure => simp [intOf]; omega
      · obtain rfl : k = ps.length + 1 := by omega
        go_wp2_with fail
        go_ret2
        exact ⟨_, rfl, by rw [HR.out]; exact hown.mono (by omega), bw1.trans (hbw.mono (by omega))⟩

set_option maxHeartbeats 400000 in
theorem firstClues_any (A : Option Addr) (c : Nat) (ps : List Tri) (k : Nat) (B : Nat) (w : World) (hr : RdF w B A c ps) (_hB : B ≤ w.heap.size) (_hn : ps.length ≤ 1048576) (hk : k ≤ ps.length) :
    Calls Try.prog 80 #[pzv A ps.length c, .int .i64 (k : Int)] w fun e w' => e = .returned (.slice A k k) ∧ Below w.heap.size w w' := by
  have hcc := hr.1
  have hki : (k : Int) ≤ (ps.length : Int) := by omega
  go_enter Try.func80, Try.ntmps80
  go_wp2_with fail
  go_ret
  exact ⟨rfl, below_alloc _ _⟩

set_option maxHeartbeats 1000000 in
theorem implLeft_any (A : Option Addr) (c : Nat) (ps : List Tri) (B : Nat) (w : World) (hr : RdF w B A c ps) (hB : B ≤ w.heap.size) (hn : ps.length ≤ 1048576) :
    Calls Try.prog 55 #[pzv A ps.length c] w (Lists w (lbR ps) (puzB ps)) := by
  have X0 : Blk (w.alloc (.cells #[.slice A ps.length c] 35)) w.heap.size 35 #[.slice A ps.length c] := Blk.new _ _ _
  have b0 : Below w.heap.size w (w.alloc (.cells #[.slice A ps.length c] 35)) := below_alloc _ _
  have hr0 := hr.below b0 hB
  have p0 := X0.cell 0
  have z0 : B ≤ (w.alloc (.cells #[.slice A ps.length c] 35)).heap.size := by simp; omega
  have hN := Lib.hid hn
  cases hp : puzB ps
  · have HP := Lib.hid hp
    have HR := Lib.hid (show lbR ps = [] by simp [lbR, hp])
    clear hp hr
    go_enter Try.func55, Try.ntmps55
    go_wp2_with fail
    refine (implIsPuzzle_any A c ps B _ hr0 z0 hn).mono ?_
    rintro e w1 ⟨rfl, hb1⟩
    rw [HP.out]
    go_wp2_with fail
    go_ret2
    exact ⟨_, rfl, by rw [HR.out]; exact OwnI.nil _ _, b0.trans (hb1.mono b0.size)⟩
  · have HP := Lib.hid hp
    have HT := Lib.hid (fun k => puzB_take hp k)
    have hl6 := puzB_len hp
    have HR := Lib.hid (show lbR ps = lbL ps (ps.length + 1) by simp [lbR, hp])
    have hcc := hr.1
    clear hp hr
    go_enter Try.func55, Try.ntmps55
    go_wp2_with fail
    generalize hu : w.alloc (.cells #[.slice A ps.length c] 35) = u at *
    have hU := Lib.hid hu
    clear hu
    refine (implIsPuzzle_any A c ps B _ hr0 z0 hn).mono ?_
    rintro e w1 ⟨rfl, hb1⟩
    rw [HP.out]
    have bw1 := b0.trans (hb1.mono b0.size)
    have hr1 := (hr0.below hb1 z0).more (Nat.le_trans z0 hb1.size)
    have X1 := X0.below hb1 X0.lt
    have p1 := X1.cell 0
    have zw1 : w.heap.size < w1.heap.size := X1.lt
    have hwr : IntKind.i64.wrap ((ps.length : Int) + 1) = (ps.length : Int) + 1 := IntWalk.i64_in _ (by omega)
    clear p0 hr0 X0 hb1 b0 z0
    go_wp2_with fail
    clear p1
    go_loopw [4, 15] (fun l i wr => ∃ (k : Nat) (v : Value), k ≤ ps.length + 1 ∧ i = .int .i64 k ∧ l = v ∧ OwnI wr w1.heap.size v (lbL ps k) ∧ Below w1.heap.size w1 wr) (fun _ i _ => ps.length + 1 - (intOf i).toNat)
    case atStart => exact ⟨0, _, by omega, rfl, rfl, OwnI.nil _ _, Below.refl _ _⟩
    case round =>
      obtain ⟨k, v, hk, rfl, rfl, hown, hbw⟩ := hrel
      have hzw : w1.heap.size ≤ wr.heap.size := hbw.size
      have p1 := (X1.below hbw zw1).cell 0
      by_cases hlt : k ≤ ps.length
      · have hki : (k : Int) < (ps.length : Int) + 1 := by omega
        have hrk := hr1.below hbw (Nat.le_refl _)
        have HS := Lib.hid (show lbL ps (k + 1) = lbL ps k ++ [((solL (ps.take k)).length : Int)] from rfl)
        have HTk := Lib.hid (HT.out k)
        have hll : (lbL ps k).length ≤ 1048576 := by rw [lbL_length]; omega
        have hle := solL_le (ps.take k)
        have hlk : (ps.take k).length = k := by simp; omega
        have HLK := Lib.hid hlk
        clear hlk
        generalize lbL ps k = xs at *
        go_wp2_with fail
        refine (firstClues_any A c ps k w1.heap.size wr hrk hzw hn hlt).mono ?_
        rintro e w2 ⟨rfl, hb2⟩
        have z2 : wr.heap.size ≤ w2.heap.size := hb2.size
        go_wp2_with fail
        refine (hidden_any w2).mono ?_
        rintro e w3 ⟨v3, L3, rfl, hL3, hst3, hb3⟩
        obtain ⟨A3, c3, hv3, hrd, hall⟩ := hst3.read (hid_all hL3)
        subst hv3
        have z3 : w2.heap.size ≤ w3.heap.size := hb3.size
        have hb23 := hb2.trans (hb3.mono z2)
        have HC := leftBy_any A k (ps.take k) A3 c3 L3 w3.heap.size w3 (((hrk.below hb23 hzw).take hlt (Nat.le_refl _)).more (by omega)) hrd hall (Nat.le_refl _) (hid_len hL3) (by rw [HLK.out]; omega)
        rw [HLK.out] at HC
        have HC := Lib.hid HC
        go_wp2_with fail
        refine HC.out.mono ?_
        rintro e w4 h4
        have h5 := left_sol (w := w2) hb3 hst3 hL3 h4
        obtain ⟨hb4, v4, L4, rfl, hL4, hst4⟩ := h5
        have hl4 : L4.length = (solL (ps.take k)).length := by rw [← recL_len, hL4]; simp [solR, HTk.out]
        obtain ⟨A4, c4, hv4⟩ := hst4.row.form
        subst hv4
        rw [elsL_len, hl4]
        have hbw4 := hbw.trans ((hb2.trans (hb4.mono z2)).mono hzw)
        have hown4 := hown.below (hb2.trans (hb4.mono z2)) (Nat.le_refl _)
        have hz4 := hbw4.size
        clear hL4 hst4 hl4 h4 HC hL3 hst3 hrd hall
        generalize (solL (ps.take k)).length = m at *
        go_wp2_with (at_builtin; refine wpList_push _ rfl _ _ rfl w1.heap.size _ xs rfl (hown4.alloc _) w4.heap.size (m : Int) rfl (by simp) (by omega) (by simp; omega) ?_; intro v5 w5 hown5 hg5)
        go_roundw
        case rel => exact ⟨k + 1, _, by omega, by go_num, rfl, by rw [HS.out]; exact hown5, (hbw4.alloc hz4 _).trans hg5⟩
        case measure => simp [intOf]; omega
      · obtain rfl : k = ps.length + 1 := by omega
        go_wp2_with fail
        go_ret2
        exact ⟨_, rfl, by rw [HR.out]; exact hown.mono (by omega), bw1.trans (hbw.mono (by omega))⟩

end Go.Proofs.Ytmiojofeoaocfaa
