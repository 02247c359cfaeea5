/- Contracts: how many feet each part bears together, on both sides. -/
import Derived.Test.YtkfacfhneooaiaaWearCount
import Derived.Test.YtkfacfhneooaiaaPartWalk
namespace Go.Proofs.Ytkfacfhneooaiaa
open Go.RowKit

/-- bears and a reach that is not greater than they are many -/
def endsB (xs : List Int) (n : Int) : Bool := reachB xs n && decide (n ≤ (xs.length : Int))
theorem endsB_le {xs : List Int} {n : Int} (h : endsB xs n = true) : bearsB xs = true ∧ 1 ≤ xs.length ∧ xs.length ≤ 20 ∧ 1 ≤ n ∧ n ≤ xs.length := by
  simp only [endsB, Bool.and_eq_true, decide_eq_true_eq] at h
  have := reachB_le h.1
  exact ⟨this.1, this.2.1, this.2.2.1, this.2.2.2.1, h.2⟩
def partsX (xs : List Int) (r : Nat) : List Int := tell (xs.length - r + 1) fun k => partS xs r k
def partsR (xs : List Int) (n : Int) : List Int := if endsB xs n then partsX xs n.toNat else []
theorem partsR_length (xs : List Int) (n : Int) : (partsR xs n).length ≤ 1048576 := by
  unfold partsR
  split
  · next h =>
    have := endsB_le h
    unfold partsX; rw [tell_length]; omega
  · simp
theorem sub_bd {xs : List Int} (h : bearsB xs = true) (k j : Nat) (hj : j ≤ 20) : 0 ≤ total ((xs.drop k).take j) ∧ total ((xs.drop k).take j) ≤ 2000 := by
  have hb := total_bd (L := (xs.drop k).take j) (M := 100) (fun x hx => by
    have hm : x ∈ xs := List.mem_of_mem_drop (List.mem_of_mem_take hx)
    obtain ⟨i, hi, e⟩ := List.getElem_of_mem hm
    have := bears_at h i hi
    rw [List.getD_eq_getElem?_getD, List.getElem?_eq_getElem hi] at this
    simpa [e] using this)
  have hl : ((xs.drop k).take j).length ≤ 20 := by rw [List.length_take]; omega
  exact ⟨hb.1, by omega⟩
theorem partS_bd {xs : List Int} (h : bearsB xs = true) (k r : Nat) (hr : r ≤ 20) : 0 ≤ partS xs r k ∧ partS xs r k ≤ 2000 := sub_bd h k r hr
theorem row_bd {xs : List Int} (h : bearsB xs = true) (k r : Nat) : (∀ j, j ≤ 20 → 0 ≤ total ((partL xs r k).take j) ∧ total ((partL xs r k).take j) ≤ 1000000) ∧ (∀ j, j < 20 → 0 ≤ (partL xs r k).getD j 0 ∧ (partL xs r k).getD j 0 ≤ 1000000) := by
  have hm : ∀ x ∈ partL xs r k, 0 ≤ x ∧ x ≤ 100 := by
    intro x hx
    unfold partL at hx
    rcases List.mem_append.1 hx with hx | hx
    · have hm : x ∈ xs := List.mem_of_mem_drop (List.mem_of_mem_take hx)
      obtain ⟨i, hi, e⟩ := List.getElem_of_mem hm
      have := bears_at h i hi
      rw [List.getD_eq_getElem?_getD, List.getElem?_eq_getElem hi] at this
      simpa [e] using this
    · have := (List.mem_replicate.1 hx).2; omega
  refine ⟨fun j hj => ?_, fun j hj => ?_⟩
  · have hb := total_bd (L := (partL xs r k).take j) (M := 100) (fun x hx => hm x (List.mem_of_mem_take hx))
    have hl : ((partL xs r k).take j).length ≤ 20 := by rw [List.length_take]; omega
    exact ⟨hb.1, by omega⟩
  · by_cases hl : j < (partL xs r k).length
    · have := hm _ (List.getElem_mem hl)
      rw [List.getD_eq_getElem?_getD, List.getElem?_eq_getElem hl]
      exact ⟨this.1, by have := this.2; simp; omega⟩
    · rw [List.getD_eq_getElem?_getD, List.getElem?_eq_none (by omega)]; simp

set_option maxHeartbeats 400000 in
theorem wearEnds_any (A : Option Addr) (c : Nat) (xs : List Int) (n : Int) (B : Nat) (w : World) (hr : Rd w B A c xs) (hn : xs.length ≤ 1048576) :
    Calls Try.prog 45 #[.slice A xs.length c, .int .i64 n] w fun e w' => e = .returned (.bool (endsB xs n)) ∧ w = w' := by
  cases h : reachB xs n
  · rw [show endsB xs n = false by simp [endsB, h]]
    have H := Lib.hid h
    clear h
    go_enter Try.func45, Try.ntmps45
    go_wp2_with fail
    refine (canWear_any _ _ _ _ _ _ hr hn).mono ?_
    rintro e w' ⟨rfl, rfl⟩
    rw [H.out]
    go_wp2_with fail
    go_ret
    exact ⟨rfl, rfl⟩
  · rw [show endsB xs n = decide (n ≤ (xs.length : Int)) by simp [endsB, h]]
    have H := Lib.hid h
    clear h
    go_enter Try.func45, Try.ntmps45
    go_wp2_with fail
    refine (canWear_any _ _ _ _ _ _ hr hn).mono ?_
    rintro e w' ⟨rfl, rfl⟩
    rw [H.out]
    go_wp2_with fail
    go_ret
    exact ⟨rfl, rfl⟩
set_option maxHeartbeats 400000 in
theorem weEnds_any (A : Option Addr) (c : Nat) (xs : List Int) (n : Int) (B : Nat) (w : World) (hr : Rd w B A c xs) (hn : xs.length ≤ 1048576) :
    Calls Try.prog 43 #[.slice A xs.length c, .int .i64 n] w fun e w' => e = .returned (.bool (endsB xs n)) ∧ w = w' := by
  cases h : reachB xs n
  · rw [show endsB xs n = false by simp [endsB, h]]
    have H := Lib.hid h
    clear h
    go_enter Try.func43, Try.ntmps43
    go_wp2_with fail
    refine (weReach_any _ _ _ _ _ _ hr hn).mono ?_
    rintro e w' ⟨rfl, rfl⟩
    rw [H.out]
    go_wp2_with fail
    go_ret
    exact ⟨rfl, rfl⟩
  · rw [show endsB xs n = decide (n ≤ (xs.length : Int)) by simp [endsB, h]]
    have H := Lib.hid h
    clear h
    go_enter Try.func43, Try.ntmps43
    go_wp2_with fail
    refine (weReach_any _ _ _ _ _ _ hr hn).mono ?_
    rintro e w' ⟨rfl, rfl⟩
    rw [H.out]
    go_wp2_with fail
    go_ret
    exact ⟨rfl, rfl⟩

/-- WHAT A CALL LEAVES THAT ANSWERS A LIST -/
def ListP (w : World) (xs : List Int) (e : Ending) (w' : World) : Prop := ∃ v, e = .returned v ∧ OwnI w' w.heap.size v xs ∧ Below w.heap.size w w'
def MapP (w : World) (m : Nat) (F : Nat → List Int) (e : Ending) (w' : World) : Prop := ∃ b, e = .returned (.map (some b)) ∧ w.heap.size ≤ b ∧ IsParts w' b m F ∧ Below w.heap.size w w'

set_option maxHeartbeats 1000000 in
theorem partsOf_any (A : Option Addr) (c : Nat) (xs : List Int) (r : Nat) (B : Nat) (w : World) (hr : Rd w B A c xs) (hB : B ≤ w.heap.size) (hl : xs.length ≤ 20) (hr1 : 1 ≤ r) (hr2 : r ≤ xs.length) :
    Calls Try.prog 46 #[.slice A xs.length c, .int .i64 (r : Int)] w (MapP w (xs.length - r + 1) (fun i => partL xs r (i - 1))) := by
  have hmm := @run_makeMap Try.prog
  obtain ⟨F, hF⟩ : ∃ F : Nat → List Int, F = fun i => partL xs r (i - 1) := ⟨_, rfl⟩
  rw [← hF]
  have HF := Lib.hid hF
  clear hF
  go_enter Try.func46, Try.ntmps46
  go_wp2_with fail
  go_loopw [6] (fun f wr => ∃ m : Nat, m + r ≤ xs.length + 1 ∧ f = .int .i64 ((m : Int) + 1) ∧ IsParts wr w.heap.size m F ∧ Below w.heap.size w wr) (fun f _ => (22 - intOf f).toNat)
  case atStart => exact ⟨0, by omega, rfl, IsParts.made _ _, below_alloc _ _⟩
  case round =>
    obtain ⟨m, hm, rfl, hset, hbw⟩ := hrel
    have hz : w.heap.size ≤ wr.heap.size := hbw.size
    by_cases hlt : m + r ≤ xs.length
    · have h2 := hr.below hbw hB
      go_wp2_with fail
      refine (partFrom_any A c xs r m B _ h2 (by omega) (by omega) hlt hr1 (by omega)).mono ?_
      rintro e w2 ⟨rfl, hb2⟩
      obtain ⟨D, ho, ht, hs, ha, hh⟩ := hset.below hb2 hset.lt
      have HA := Lib.hid ha
      have HH := Lib.hid hh
      have HS := Lib.hid hs
      have HB := Lib.hid (hbw.trans (hb2.mono hz))
      have hz2 : w.heap.size ≤ w2.heap.size := Nat.le_trans hz hb2.size
      have HE := Lib.hid (show partL xs r m = F (m + 1) by rw [HF.out]; rfl)
      clear ha hh hs hset hbw hb2 h2
      rw [HE.out]
      go_wp2_with (at_mapUpdate; refine wpList_mapUpdate_own _ rfl _ _ _ 40 rfl 3 43 partKey Try.underlying40 _ w.heap.size m _ rfl ho (by unfold maxLen; omega) _ _ (.int .i64 ((m : Int) + 1)) rfl rfl (Maps.keyOf_int_mk Try.underlying3 (WalkArith.wf_i64 ⟨by omega, by omega⟩)) (codeL (F (m + 1))) [] (rowE_ints _) ?_; intro w3 ho3 hg3)
      go_roundw
      case rel =>
        refine ⟨m + 1, by omega, by go_num, ?_, HB.out.grown hg3 hz2 (fun j hj => by injection hj with hj; omega)⟩
        exact IsParts.put ht HS.out HA.out HH.out (by rw [show ((m + 1 : Nat) : Int) = (m : Int) + 1 by omega]; exact ho3)
      case measure => simp [intOf]; omega
    · obtain rfl : m = xs.length - r + 1 := by omega
      go_wp2_with fail
      go_ret
      exact ⟨_, rfl, Nat.le_refl _, hset, hbw⟩

theorem zeros_tell (n : Nat) : List.replicate n 0 = tell n (fun _ => 0) := tell_zero (fun _ _ => rfl)
set_option maxHeartbeats 2000000 in
theorem impParts_any (A : Option Addr) (c : Nat) (xs : List Int) (n : Int) (B : Nat) (w : World) (hr : Rd w B A c xs) (hB : B ≤ w.heap.size) (hn : xs.length ≤ 1048576) :
    Calls Try.prog 17 #[.slice A xs.length c, .int .i64 n] w (Lists w (partsR xs n) (endsB xs n)) := by
  cases h : endsB xs n
  · rw [show partsR xs n = [] by simp [partsR, h]]
    have H := Lib.hid h
    clear h
    go_enter Try.func17, Try.ntmps17
    go_wp2_with fail
    refine (wearEnds_any _ _ _ _ _ _ hr hn).mono ?_
    rintro e w' ⟨rfl, rfl⟩
    rw [H.out]
    go_wp2_with fail
    go_ret2
    exact ⟨_, rfl, OwnI.nil _ _, Below.refl _ _⟩
  · have hp := endsB_le h
    obtain ⟨r, rfl⟩ : ∃ r : Nat, n = (r : Int) := ⟨n.toNat, by omega⟩
    rw [show partsR xs (r : Int) = partsX xs r by simp [partsR, h]]
    have H := Lib.hid h
    have HBe := Lib.hid hp.1
    have hp2 : 1 ≤ xs.length ∧ xs.length ≤ 20 ∧ 1 ≤ r ∧ r ≤ xs.length := by omega
    obtain ⟨m, hm⟩ : ∃ m, m = xs.length - r + 1 := ⟨_, rfl⟩
    have hm1 : m + r = xs.length + 1 := by omega
    have HM := Lib.hid hm
    have hmk := make_run m (by omega)
    have HZ := Lib.hid (zeros_tell m)
    clear h hp hm
    go_enter Try.func17, Try.ntmps17
    go_wp2_with fail
    refine (wearEnds_any _ _ _ _ _ _ hr hn).mono ?_
    rintro e w' ⟨rfl, rfl⟩
    rw [H.out]
    go_wp2_with fail
    refine (partsOf_any _ _ _ _ _ _ hr hB (by omega) (by omega) (by omega)).mono ?_
    rintro e w1 ⟨b, rfl, hb0, hset, hb⟩
    rw [← HM.out] at hset
    obtain ⟨D, ho, hrest⟩ := id hset
    have HSz := Lib.hid hrest.2.1
    clear hrest
    have hzz := hb.size
    go_wp2_with (at_len; refine wpList_len_own _ rfl _ 40 rfl 3 43 Try.underlying40 _ b m D rfl ho ?_; rw [HSz.out])
    have hset1 := hset.below (below_alloc w1 (.cells (ints (List.replicate m 0)) 3)) hset.lt
    go_loopw [21] (fun i wr => ∃ k : Nat, k ≤ m ∧ i = .int .i64 k ∧ Blk wr w1.heap.size 3 (ints (tell m (fun j => if j < k then partS xs r j else 0))) ∧ IsParts wr b m (fun i => partL xs r (i - 1)) ∧ Below w1.heap.size w1 wr) (fun i _ => m - (intOf i).toNat)
    case atStart => exact ⟨0, by omega, rfl, by rw [show (fun j : Nat => if j < 0 then partS xs r j else 0) = fun _ => 0 from funext fun j => if_neg (by omega), ← HZ.out]; exact Blk.new _ _ _, hset1, below_alloc _ _⟩
    case round =>
      obtain ⟨k, hk, rfl, hblk, hset2, hbw⟩ := hrel
      by_cases hlt : k < m
      · have hlook := hset2.look (k + 1) (by omega) (by omega) (by omega)
        rw [show ((k + 1 : Nat) : Int) = (k : Int) + 1 by omega] at hlook
        have hrow := row_bd HBe.out k r
        have HR1 := Lib.hid hrow.1
        have HR2 := Lib.hid hrow.2
        have HPL := Lib.hid (partL_length (xs := xs) (r := r) (k := k) (by omega) (by omega))
        have HPT := Lib.hid (partL_total xs r k)
        have hz : w1.heap.size ≤ wr.heap.size := hbw.size
        clear hrow
        go_wp2_with fail
        refine (feet_any (partL xs r k) _ HPL.out HR1.out HR2.out).mono ?_
        rintro e w2 ⟨rfl, hb2⟩
        rw [HPT.out]
        have hblk2 := hblk.below hb2 hblk.lt
        have hset3 := hset2.below hb2 hset2.lt
        have k1 := hblk2.int_at (k := k) (by rw [tell_length]; exact hlt)
        rw [tell_getD _ _ _ hlt, if_neg (by omega)] at k1
        have f1 := hblk2.frozen k
        have SE : Hid ((tell m (fun j => if j < k then partS xs r j else 0)).set k (partS xs r k) = tell m (fun j => if j < k + 1 then partS xs r j else 0)) := Lib.hid (tell_set hlt (by rw [if_pos (by omega)]) (fun j _ hj => by by_cases h : j < k <;> simp [h, show j < k + 1 ↔ j < k by omega]))
        have HB2 := Lib.hid (hbw.trans (hb2.mono hz))
        have hne : b ≠ w1.heap.size := by have := hset.lt; omega
        clear hlook hbw hb2 hset2 hblk
        generalize partS xs r k = v at *
        go_wp2_with fail
        go_roundw
        case rel => exact ⟨k + 1, by omega, by go_num, by rw [← SE.out]; exact hblk2.int_set k v, hset3.far hne _, HB2.out.setCell (Nat.le_refl _) _⟩
        case measure => simp [intOf]; omega
      · obtain rfl : k = m := by omega
        have HL := Lib.hid (show tell k (fun j => if j < k then partS xs r j else 0) = partsX xs r by unfold partsX; rw [← HM.out]; exact tell_ext fun j hj => by rw [if_pos hj])
        have hlen : (partsX xs r).length = k := by unfold partsX; rw [← HM.out, tell_length]
        rw [HL.out] at hblk
        have ho2 := hblk.own (by rw [hlen]; omega)
        rw [hlen] at ho2
        clear hlen
        go_wp2_with fail
        go_ret2
        exact ⟨_, rfl, ho2.mono (by omega), hb.trans (hbw.mono (by omega))⟩

end Go.Proofs.Ytkfacfhneooaiaa
