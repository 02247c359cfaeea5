/- Contracts of NeedlessClues: the model's and the program's. -/
import Derived.Test.YtmiojofeoaocfaaPzCt
import Derived.Test.YtmiojofeoaocfaaPzM
namespace Go.Proofs.Ytmiojofeoaocfaa
open Go.RowKit
set_option maxRecDepth 100000

def ncB (ps : List Tri) (k : Nat) : Bool := decide ((solL (wo ps k)).length = (solL ps).length)
def ncL (ps : List Tri) : Nat → List Int
  | 0 => []
  | k + 1 => if ncB ps k then ncL ps k ++ [(k : Int)] else ncL ps k
def ncR (ps : List Tri) : List Int := if puzB ps then ncL ps ps.length else []
theorem ncL_len (ps : List Tri) : ∀ k, (ncL ps k).length ≤ k
  | 0 => by simp [ncL]
  | k + 1 => by
    have := ncL_len ps k
    unfold ncL
    split <;> simp <;> omega
theorem ncR_len (ps : List Tri) (h : ps.length ≤ 1048576) : (ncR ps).length ≤ 1048576 := by
  unfold ncR
  have := ncL_len ps ps.length
  split
  · omega
  · simp
theorem puz_wo {ps : List Tri} (h : puzB ps = true) {k : Nat} (hk : k < ps.length) : puzB (wo ps k) = true := by
  simp only [puzB, Bool.and_eq_true, decide_eq_true_eq, List.all_eq_true] at h ⊢
  refine ⟨by rw [wo_len hk]; omega, fun p hp => h.2 p ?_⟩
  unfold wo at hp
  rcases List.mem_append.1 hp with hp | hp
  · exact List.mem_of_mem_take hp
  · exact List.mem_of_mem_drop hp

set_option maxHeartbeats 1000000 in
theorem specNeedless_any (A : Option Addr) (c : Nat) (ps : List Tri) (B : Nat) (w : World) (hr : RdF w B A c ps) (hB : B ≤ w.heap.size) (hn : ps.length ≤ 1048576) :
    Calls Try.prog 47 #[pzv A ps.length c] w (Lists w (ncR ps) (puzB ps)) := by
  have X0 : Blk (w.alloc (.cells #[.slice A ps.length c] 35)) w.heap.size 35 #[.slice A ps.length c] := Blk.new _ _ _
  have b0 : Below w.heap.size w (w.alloc (.cells #[.slice A ps.length c] 35)) := below_alloc _ _
  have hr0 := hr.below b0 hB
  have p0 := X0.cell 0
  have z0 : B ≤ (w.alloc (.cells #[.slice A ps.length c] 35)).heap.size := by simp; omega
  have hN := Lib.hid hn
  cases hp : puzB ps
  · have HP := Lib.hid hp
    have HR := Lib.hid (show ncR ps = [] by simp [ncR, hp])
    clear hp hr
    go_enter Try.func47, Try.ntmps47
    go_wp2_with fail
    refine (pzGood_any A c ps B _ hr0 z0 hn).mono ?_
    rintro e w1 ⟨rfl, hb1⟩
    rw [HP.out]
    go_wp2_with fail
    go_ret2
    exact ⟨_, rfl, by rw [HR.out]; exact OwnI.nil _ _, b0.trans (hb1.mono b0.size)⟩
  · have HP := Lib.hid hp
    have HK := Lib.hid (puz_kinds hp)
    have HW := Lib.hid (fun k (hk : k < ps.length) => puz_kinds (puz_wo hp hk))
    have hl6 := puzB_len hp
    have HR := Lib.hid (show ncR ps = ncL ps ps.length by simp [ncR, hp])
    clear hp hr
    go_enter Try.func47, Try.ntmps47
    go_wp2_with fail
    generalize hu : w.alloc (.cells #[.slice A ps.length c] 35) = u at *
    have hU := Lib.hid hu
    clear hu
    refine (pzGood_any A c ps B _ hr0 z0 hn).mono ?_
    rintro e w1 ⟨rfl, hb1⟩
    rw [HP.out]
    have bw1 := b0.trans (hb1.mono b0.size)
    have hr1 := (hr0.below hb1 z0).more (Nat.le_trans z0 hb1.size)
    have X1 := X0.below hb1 X0.lt
    have zw1 : w.heap.size < w1.heap.size := X1.lt
    clear p0 hr0 X0 hb1 b0 z0
    have p0 := X1.cell 0
    go_wp2_with fail
    refine (pzAll_any A c ps w1.heap.size w1 hr1 (Nat.le_refl _) hN.out HK.out).mono ?_
    rintro e w2 ⟨v, L, rfl, hL, hst, hb2⟩
    have hll : L.length = (solL ps).length := by rw [← recL_len, hL]; rfl
    obtain ⟨A2, c2, hv2⟩ := hst.row.form
    subst hv2
    rw [elsL_len, hll]
    have hr2 := (hr1.below hb2 (Nat.le_refl _)).more hb2.size
    have X2 := X1.below hb2 zw1
    have zw2 : w.heap.size < w2.heap.size := X2.lt
    have bw2 := bw1.trans (hb2.mono (by omega))
    have hle := solL_le ps
    have HC0 := Lib.hid (fun k => show ncL ps (k + 1) = if decide ((solL (wo ps k)).length = (solL ps).length) then ncL ps k ++ [(k : Int)] else ncL ps k from rfl)
    generalize (solL ps).length = N at *
    clear p0 hL hst hll hr1 X1
    have p0 := X2.cell 0
    go_wp2_with fail
    go_loopw [4, 6, 17] (fun l _ i wr => ∃ (k : Nat) (v : Value), k ≤ ps.length ∧ i = .int .i64 k ∧ l = v ∧ OwnI wr w2.heap.size v (ncL ps k) ∧ Below w2.heap.size w2 wr) (fun _ _ i _ => ps.length + 1 - (intOf i).toNat)
    case atStart => exact ⟨0, _, by omega, rfl, rfl, OwnI.nil _ _, Below.refl _ _⟩
    case round =>
      obtain ⟨k, v, hk, rfl, rfl, hown, hbw⟩ := hrel
      have hzw : w2.heap.size ≤ wr.heap.size := hbw.size
      have p1 := (X2.below hbw zw2).cell 0
      by_cases hlt : k < ps.length
      · have HWo := Lib.hid (pzWithout_any A c ps k w2.heap.size wr (hr2.below hbw (Nat.le_refl _)) hzw hN.out hlt)
        have hll := ncL_len ps k
        have HC := HC0.out k
        generalize hxs : ncL ps k = xs at *
        clear hxs
        obtain ⟨Al, cl, hvl, _⟩ := hown.form
        subst hvl
        go_wp2_with fail
        refine HWo.out.mono ?_
        rintro e w3 ⟨v3, rfl, o3, hb3⟩
        obtain ⟨A3, c3, hv3⟩ := o3.form
        subst hv3
        go_wp2_with fail
        refine (pzAll_any A3 c3 (wo ps k) w3.heap.size w3 o3.rd (Nat.le_refl _) (by rw [wo_len hlt]; omega) (HW.out k hlt)).mono ?_
        rintro e w4 ⟨v4, L4, rfl, hL4, hst4, hb4⟩
        have hl4 : L4.length = (solL (wo ps k)).length := by rw [← recL_len, hL4]; rfl
        obtain ⟨A4, c4, hv4⟩ := hst4.row.form
        subst hv4
        rw [elsL_len, hl4]
        have hle4 := solL_le (wo ps k)
        have hown4 := (hown.below hb3 (Nat.le_refl _)).below hb4 (Nat.le_refl _)
        have hbw4 := (hbw.trans (hb3.mono hzw)).trans (hb4.mono (Nat.le_trans hzw hb3.size))
        have hz4 := hbw4.size
        generalize (solL (wo ps k)).length = M at *
        clear hl4 hL4 hst4 o3 hb3 hb4 hown HWo
        by_cases hc : M = N
        · subst hc
          have HS := Lib.hid (show ncL ps (k + 1) = xs ++ [(k : Int)] by rw [HC]; simp)
          clear HC HC0
          go_wp2_with (at_builtin; refine wpList_push _ rfl _ _ rfl w2.heap.size _ xs rfl (hown4.alloc _) w4.heap.size (k : Int) rfl (by simp) (by omega) (by simp; omega) ?_; intro v5 w5 hown5 hg5)
          go_roundw
          case rel => exact ⟨k + 1, _, by omega, by go_num, rfl, by rw [HS.out]; exact hown5, (hbw4.alloc hz4 _).trans hg5⟩
          case measure => simp [intOf]; omega
        · have HS := Lib.hid (show ncL ps (k + 1) = xs by rw [HC]; simp [hc])
          have hci : ¬ (M : Int) = (N : Int) := by omega
          have hcb : ((M : Int) == (N : Int)) = false := by simpa using hci
          clear HC HC0
          go_wp2_with fail
          go_roundw
          case rel => exact ⟨k + 1, _, by omega, by go_num, rfl, by rw [HS.out]; exact hown4, hbw4⟩
          case measure => simp [intOf]; omega
      · obtain rfl : k = ps.length := by omega
        go_wp2_with fail
        go_ret2
        exact ⟨_, rfl, by rw [HR.out]; exact hown.mono (by omega), bw2.trans (hbw.mono (by omega))⟩

set_option maxHeartbeats 1000000 in
theorem implNeedless_any (A : Option Addr) (c : Nat) (ps : List Tri) (B : Nat) (w : World) (hr : RdF w B A c ps) (hB : B ≤ w.heap.size) (hn : ps.length ≤ 1048576) :
    Calls Try.prog 48 #[pzv A ps.length c] w (Lists w (ncR ps) (puzB ps)) := by
  have X0 : Blk (w.alloc (.cells #[.slice A ps.length c] 35)) w.heap.size 35 #[.slice A ps.length c] := Blk.new _ _ _
  have b0 : Below w.heap.size w (w.alloc (.cells #[.slice A ps.length c] 35)) := below_alloc _ _
  have hr0 := hr.below b0 hB
  have p0 := X0.cell 0
  have z0 : B ≤ (w.alloc (.cells #[.slice A ps.length c] 35)).heap.size := by simp; omega
  have hN := Lib.hid hn
  cases hp : puzB ps
  · have HP := Lib.hid hp
    have HR := Lib.hid (show ncR ps = [] by simp [ncR, hp])
    clear hp hr
    go_enter Try.func48, Try.ntmps48
    go_wp2_with fail
    refine (implCountSol_any A c ps B _ hr0 z0 hn).mono ?_
    rintro e w1 ⟨rfl, hb1⟩
    rw [HP.out]
    go_wp2_with fail
    go_ret2
    exact ⟨_, rfl, by rw [HR.out]; exact OwnI.nil _ _, b0.trans (hb1.mono b0.size)⟩
  · have HP := Lib.hid hp
    have HW := Lib.hid (fun k (hk : k < ps.length) => show puzB (wo ps k) = true ∧ solN (wo ps k) = ((solL (wo ps k)).length : Int) from ⟨puz_wo hp hk, by simp [solN, puz_wo hp hk]⟩)
    have hl6 := puzB_len hp
    have HR := Lib.hid (show ncR ps = ncL ps ps.length by simp [ncR, hp])
    have HSN := Lib.hid (show solN ps = ((solL ps).length : Int) by simp [solN, hp])
    clear hp hr
    go_enter Try.func48, Try.ntmps48
    go_wp2_with fail
    generalize hu : w.alloc (.cells #[.slice A ps.length c] 35) = u at *
    have hU := Lib.hid hu
    clear hu
    refine (implCountSol_any A c ps B _ hr0 z0 hn).mono ?_
    rintro e w2 ⟨rfl, hb1⟩
    rw [HP.out, HSN.out]
    have bw2 := b0.trans (hb1.mono b0.size)
    have hr2 := (hr0.below hb1 z0).more (Nat.le_trans z0 hb1.size)
    have X2 := X0.below hb1 X0.lt
    have zw2 : w.heap.size < w2.heap.size := X2.lt
    clear p0 hr0 X0 hb1 b0 z0
    have hle := solL_le ps
    have HC0 := Lib.hid (fun k => show ncL ps (k + 1) = if decide ((solL (wo ps k)).length = (solL ps).length) then ncL ps k ++ [(k : Int)] else ncL ps k from rfl)
    generalize (solL ps).length = N at *
    have p0 := X2.cell 0
    go_wp2_with fail
    go_loopw [6, 7, 8, 9, 20] (fun l _ _ _ i wr => ∃ (k : Nat) (v : Value), k ≤ ps.length ∧ i = .int .i64 k ∧ l = v ∧ OwnI wr w2.heap.size v (ncL ps k) ∧ Below w2.heap.size w2 wr) (fun _ _ _ _ i _ => ps.length + 1 - (intOf i).toNat)
    case atStart => exact ⟨0, _, by omega, rfl, rfl, OwnI.nil _ _, Below.refl _ _⟩
    case round =>
      obtain ⟨k, v, hk, rfl, rfl, hown, hbw⟩ := hrel
      have hzw : w2.heap.size ≤ wr.heap.size := hbw.size
      have p1 := (X2.below hbw zw2).cell 0
      by_cases hlt : k < ps.length
      · have HWo := Lib.hid (withoutClue_any A c ps k w2.heap.size wr (hr2.below hbw (Nat.le_refl _)) hzw hl6 hlt)
        have hll := ncL_len ps k
        have HC := HC0.out k
        generalize hxs : ncL ps k = xs at *
        clear hxs
        obtain ⟨Al, cl, hvl, _⟩ := hown.form
        subst hvl
        go_wp2_with fail
        refine HWo.out.mono ?_
        rintro e w3 ⟨v3, rfl, o3, hb3⟩
        obtain ⟨A3, c3, hv3⟩ := o3.form
        subst hv3
        go_wp2_with fail
        refine (implCountSol_any A3 c3 (wo ps k) w3.heap.size w3 o3.rd (Nat.le_refl _) (by rw [wo_len hlt]; omega)).mono ?_
        rintro e w4 ⟨rfl, hb4⟩
        rw [(HW.out k hlt).1, (HW.out k hlt).2]
        have hle4 := solL_le (wo ps k)
        have hown4 := (hown.below hb3 (Nat.le_refl _)).below hb4 (Nat.le_refl _)
        have hbw4 := (hbw.trans (hb3.mono hzw)).trans (hb4.mono (Nat.le_trans hzw hb3.size))
        have hz4 := hbw4.size
        generalize (solL (wo ps k)).length = M at *
        clear o3 hb3 hb4 hown HWo
        by_cases hc : M = N
        · subst hc
          have HS := Lib.hid (show ncL ps (k + 1) = xs ++ [(k : Int)] by rw [HC]; simp)
          clear HC HC0
          go_wp2_with (at_builtin; refine wpList_push _ rfl _ _ rfl w2.heap.size _ xs rfl (hown4.alloc _) w4.heap.size (k : Int) rfl (by simp) (by omega) (by simp; omega) ?_; intro v5 w5 hown5 hg5)
          go_roundw
          case rel => exact ⟨k + 1, _, by omega, by go_num, rfl, by rw [HS.out]; exact hown5, (hbw4.alloc hz4 _).trans hg5⟩
          case measure => simp [intOf]; omega
        · have HS := Lib.hid (show ncL ps (k + 1) = xs by rw [HC]; simp [hc])
          have hci : ¬ (M : Int) = (N : Int) := by omega
          have hcb : ((M : Int) == (N : Int)) = false := by simpa using hci
          clear HC HC0
          go_wp2_with fail
          go_roundw
          case rel => exact ⟨k + 1, _, by omega, by go_num, rfl, by rw [HS.out]; exact hown4, hbw4⟩
          case measure => simp [intOf]; omega
      · obtain rfl : k = ps.length := by omega
        go_wp2_with fail
        go_ret2
        exact ⟨_, rfl, by rw [HR.out]; exact hown.mono (by omega), bw2.trans (hbw.mono (by omega))⟩

end Go.Proofs.Ytmiojofeoaocfaa
