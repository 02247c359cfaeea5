/- Contracts: the worst step to lose, on both sides. -/
import Derived.Test.YtkfacfhneooaiaaWearIdle
namespace Go.Proofs.Ytkfacfhneooaiaa
open Go.RowKit

def loseX (xs : List Int) (r : Nat) : Int := minL (lostL xs r)
def worstX (xs : List Int) (r : Nat) : Int := idxF (loseX xs r) (lostL xs r) 0 + 1
/-- b is the first place of the least of the first k -/
def FirstMin (f : Nat → Int) (k b : Nat) : Prop := b < k ∧ (∀ j, j < k → f b ≤ f j) ∧ ∀ j, j < b → f b < f j
theorem FirstMin.keep {f : Nat → Int} {k b : Nat} (h : FirstMin f k b) (hle : f b ≤ f k) : FirstMin f (k + 1) b :=
  ⟨by have := h.1; omega, fun j hj => by
    rcases Nat.lt_succ_iff_lt_or_eq.1 hj with h1 | rfl
    · exact h.2.1 j h1
    · exact hle, h.2.2⟩
theorem FirstMin.turn {f : Nat → Int} {k b : Nat} (h : FirstMin f k b) (hlt : f k < f b) : FirstMin f (k + 1) k :=
  ⟨by omega, fun j hj => by
    rcases Nat.lt_succ_iff_lt_or_eq.1 hj with h1 | rfl
    · have := h.2.1 j h1; omega
    · exact Int.le_refl _, fun j hj => by have := h.2.1 j hj; omega⟩
theorem FirstMin.one (f : Nat → Int) : FirstMin f 1 0 := by
  refine ⟨by omega, fun j hj => ?_, fun j hj => by omega⟩
  obtain rfl : j = 0 := by omega
  exact Int.le_refl _
theorem FirstMin.least {xs : List Int} {r b : Nat} (h : FirstMin (lostX xs r) xs.length b) : loseX xs r = lostX xs r b := by
  have hb := h.1
  have hl := lostL_length xs r
  unfold loseX minL
  refine minF_eq _ _ _ (by rw [lostL_at (by omega)]; exact h.2.1 0 (by omega)) (fun y hy => ?_) ?_
  · obtain ⟨j, hj, e⟩ := List.getElem_of_mem (List.mem_of_mem_drop hy)
    have := h.2.1 j (by omega)
    rw [← lostL_at (r := r) (show j < xs.length by omega), List.getD_eq_getElem?_getD, List.getElem?_eq_getElem hj] at this
    simpa [e] using this
  · by_cases e : b = 0
    · subst e; left; rw [lostL_at (by omega)]
    · right
      have hm : b - 1 < ((lostL xs r).drop 1).length := by rw [List.length_drop]; omega
      have := List.getElem_mem hm
      rw [List.getElem_drop] at this
      have e2 := lostL_at (r := r) (show b < xs.length by omega)
      rw [List.getD_eq_getElem?_getD, List.getElem?_eq_getElem (by omega)] at e2
      simp only [show 1 + (b - 1) = b by omega] at this
      have e3 : (lostL xs r)[b]'(by rw [hl]; exact hb) = lostX xs r b := by simpa using e2
      rw [← e3]
      simpa using this
theorem FirstMin.idx {xs : List Int} {r b : Nat} (h : FirstMin (lostX xs r) xs.length b) : worstX xs r = (b : Int) + 1 := by
  have hb := h.1
  unfold worstX
  have := idxF_eq (loseX xs r) (lostL xs r) b (by rw [lostL_length]; exact hb) (by rw [lostL_at hb, h.least]) 0 (Nat.zero_le _) (fun j _ hj => by rw [lostL_at (by omega), h.least]; have := h.2.2 j hj; omega)
  simp at this
  rw [this]

set_option maxHeartbeats 2000000 in
theorem impWorst_any (A : Option Addr) (c : Nat) (xs : List Int) (n : Int) (B : Nat) (w : World) (hr : Rd w B A c xs) (hB : B ≤ w.heap.size) (hn : xs.length ≤ 1048576) :
    Calls Try.prog 32 #[.slice A xs.length c, .int .i64 n] w (Plain (.tuple #[.int .i64 (orI (endsB xs n) (worstX xs n.toNat)), .int .i64 (orI (endsB xs n) (loseX xs n.toNat)), .bool (endsB xs n)]) w) := by
  cases h : endsB xs n
  · rw [orI_no, orI_no]
    have H := Lib.hid h
    clear h
    go_enter Try.func32, Try.ntmps32
    go_wp2_with fail
    refine (wearEnds_any _ _ _ _ _ _ hr hn).mono ?_
    rintro e w' ⟨rfl, rfl⟩
    rw [H.out]
    go_wp2_with fail
    go_ret3
    exact ⟨rfl, Below.refl _ _⟩
  · have hdum : True := trivial
    have hp := endsB_le h
    obtain ⟨r, rfl⟩ : ∃ r : Nat, n = (r : Int) := ⟨n.toNat, by omega⟩
    have H := Lib.hid h
    have HBe := Lib.hid hp.1
    have hp2 : 1 ≤ xs.length ∧ xs.length ≤ 20 ∧ 1 ≤ r ∧ r ≤ xs.length := by omega
    rw [orI_yes, orI_yes, Int.toNat_natCast]
    have hll0 := lostL_length xs r
    have hl1 : 1 ≤ (lostL xs r).length := by omega
    have hl2 : (lostL xs r).length ≤ 20 := by omega
    clear hll0
    have E1 := Lib.hid (show minL (lostL xs r) = loseX xs r from rfl)
    have E2 := Lib.hid (show idxF (loseX xs r) (lostL xs r) 0 + 1 = worstX xs r from rfl)
    have E3 := idxF_bd (loseX xs r) (lostL xs r) 0
    clear h hp hdum
    go_enter Try.func32, Try.ntmps32
    go_wp2_with fail
    refine (wearEnds_any _ _ _ _ _ _ hr hn).mono ?_
    rintro e w' ⟨rfl, rfl⟩
    rw [H.out]
    go_wp2_with fail
    refine (mostWithout_any _ _ _ _ _ _ hr hB hp2.2.1 hp2.2.2.1 hp2.2.2.2 HBe.out).mono ?_
    rintro e w2 ⟨v, rfl, hown, hb2⟩
    obtain ⟨Z, d, hv, hrd⟩ := hown.form
    subst hv
    go_wp2_with fail
    refine (min_any _ _ _ _ _ hrd (by omega) (by omega)).mono ?_
    rintro e w' ⟨rfl, rfl⟩
    rw [E1.out]
    go_wp2_with fail
    refine (index_any _ _ _ _ _ _ hrd (by omega)).mono ?_
    rintro e w' ⟨rfl, rfl⟩
    have b1 := E3.1 (Int.le_refl _)
    have b2 := E3.2
    generalize idxF (loseX xs r) (lostL xs r) 0 = q at *
    go_wp2_with fail
    go_ret3
    exact ⟨by rw [← E2.out]; rfl, hb2⟩

set_option maxHeartbeats 4000000 in
theorem specWorst_any (A : Option Addr) (c : Nat) (xs : List Int) (n : Int) (B : Nat) (w : World) (hr : Rd w B A c xs) (hB : B ≤ w.heap.size) (hn : xs.length ≤ 1048576) :
    Calls Try.prog 31 #[.slice A xs.length c, .int .i64 n] w (Plain (.tuple #[.int .i64 (orI (endsB xs n) (worstX xs n.toNat)), .int .i64 (orI (endsB xs n) (loseX xs n.toNat)), .bool (endsB xs n)]) w) := by
  cases h : endsB xs n
  · rw [orI_no, orI_no]
    have H := Lib.hid h
    clear h
    go_enter Try.func31, Try.ntmps31
    go_wp2_with fail
    refine (weEnds_any _ _ _ _ _ _ hr hn).mono ?_
    rintro e w' ⟨rfl, rfl⟩
    rw [H.out]
    go_wp2_with fail
    go_ret3
    exact ⟨rfl, Below.refl _ _⟩
  · have hdum : True := trivial
    have hp := endsB_le h
    obtain ⟨r, rfl⟩ : ∃ r : Nat, n = (r : Int) := ⟨n.toNat, by omega⟩
    have H := Lib.hid h
    have HBe := Lib.hid hp.1
    have hp2 : 1 ≤ xs.length ∧ xs.length ≤ 20 ∧ 1 ≤ r ∧ r ≤ xs.length := by omega
    rw [orI_yes, orI_yes, Int.toNat_natCast]
    clear h hp hdum
    go_enter Try.func31, Try.ntmps31
    go_wp2_with fail
    refine (weEnds_any _ _ _ _ _ _ hr hn).mono ?_
    rintro e w' ⟨rfl, rfl⟩
    rw [H.out]
    go_wp2_with fail
    go_loopw [7, 8, 9] (fun a l i wr => ∃ k : Nat, k ≤ xs.length ∧ i = .int .i64 ((k : Int) + 1) ∧ Below w.heap.size w wr ∧ (Hid (k = 0) ∧ a = .int .i64 0 ∧ l = .int .i64 0 ∨ Hid (0 < k) ∧ ∃ b : Nat, b ≤ 20 ∧ Hid (FirstMin (lostX xs r) k b) ∧ a = .int .i64 ((b : Int) + 1) ∧ l = .int .i64 (lostX xs r b))) (fun _ _ i _ => (22 - intOf i).toNat)
    case atStart => exact ⟨0, by omega, rfl, Below.refl _ _, .inl ⟨rfl, rfl, rfl⟩⟩
    case round =>
      obtain ⟨k, hk, rfl, hbw, HA⟩ := hrel
      have hz : w.heap.size ≤ wr.heap.size := hbw.size
      have HR := Lib.hid (hr.below hbw hB)
      have HLe := Lib.hid (show (xs.set k 0).length = xs.length by simp)
      have HLx := Lib.hid (show mostX (xs.set k 0) r = lostX xs r k from rfl)
      by_cases hlt : k < xs.length
      · rcases HA with ⟨h0, rfl, rfl⟩ | ⟨h0, b, hb20, HF, rfl, rfl⟩
        · have hk0 : k = 0 := h0
          have HF1 : Hid (FirstMin (lostX xs r) (k + 1) k) := Lib.hid (by rw [hk0]; exact FirstMin.one _)
          have hk20 : k ≤ 20 := by omega
          clear hk0
          go_wp2_with fail
          refine (weLose_any _ _ _ k _ _ HR.out (by omega) hn hlt).mono ?_
          rintro e w2 ⟨A2, c2, rfl, hrd2, hb2⟩
          have hz2 := hb2.size
          have HC := weMost_any A2 c2 (xs.set k 0) r _ w2 hrd2 (Nat.le_refl _) (by rw [HLe.out]; omega) (by omega) (by rw [HLe.out]; omega) (bears_set HBe.out k)
          rw [HLe.out, HLx.out] at HC
          go_wp2_with fail
          refine HC.mono ?_
          rintro e w3 ⟨rfl, hb3⟩
          clear HC hrd2
          go_wp2_with fail
          go_roundw
          case rel => exact ⟨k + 1, by omega, by go_num, (hbw.trans (hb2.mono hz)).trans (hb3.mono (by omega)), .inr ⟨Lib.hid (by omega), k, hk20, HF1, rfl, rfl⟩⟩
          case measure => simp [intOf]; omega
        · by_cases hless : lostX xs r k < lostX xs r b
          · have HF1 := Lib.hid (HF.out.turn hless)
            have hk20 : k ≤ 20 := by omega
            have hd : decide (lostX xs r k < lostX xs r b) = true := by simpa using hless
            go_wp2_with fail
            refine (weLose_any _ _ _ k _ _ HR.out (by omega) hn hlt).mono ?_
            rintro e w2 ⟨A2, c2, rfl, hrd2, hb2⟩
            have hz2 := hb2.size
            have HC := weMost_any A2 c2 (xs.set k 0) r _ w2 hrd2 (Nat.le_refl _) (by rw [HLe.out]; omega) (by omega) (by rw [HLe.out]; omega) (bears_set HBe.out k)
            rw [HLe.out, HLx.out] at HC
            go_wp2_with fail
            refine HC.mono ?_
            rintro e w3 ⟨rfl, hb3⟩
            clear HC hrd2
            go_wp2_with fail
            go_roundw
            case rel => exact ⟨k + 1, by omega, by go_num, (hbw.trans (hb2.mono hz)).trans (hb3.mono (by omega)), .inr ⟨Lib.hid (by omega), k, hk20, HF1, rfl, rfl⟩⟩
            case measure => simp [intOf]; omega
          · have HF1 := Lib.hid (HF.out.keep (by omega))
            have hd : decide (lostX xs r k < lostX xs r b) = false := by simpa using hless
            have hge : lostX xs r b ≤ lostX xs r k := by omega
            go_wp2_with fail
            refine (weLose_any _ _ _ k _ _ HR.out (by omega) hn hlt).mono ?_
            rintro e w2 ⟨A2, c2, rfl, hrd2, hb2⟩
            have hz2 := hb2.size
            have HC := weMost_any A2 c2 (xs.set k 0) r _ w2 hrd2 (Nat.le_refl _) (by rw [HLe.out]; omega) (by omega) (by rw [HLe.out]; omega) (bears_set HBe.out k)
            rw [HLe.out, HLx.out] at HC
            go_wp2_with fail
            refine HC.mono ?_
            rintro e w3 ⟨rfl, hb3⟩
            clear HC hrd2
            go_wp2_with fail
            go_roundw
            case rel => exact ⟨k + 1, by omega, by go_num, (hbw.trans (hb2.mono hz)).trans (hb3.mono (by omega)), .inr ⟨Lib.hid (by omega), b, hb20, HF1, rfl, rfl⟩⟩
            case measure => simp [intOf]; omega
      · obtain rfl : k = xs.length := by omega
        rcases HA with ⟨h0, _, _⟩ | ⟨h0, b, hb20, HF, rfl, rfl⟩
        · have : xs.length = 0 := h0
          omega
        · have E1 := Lib.hid HF.out.idx
          have E2 := Lib.hid HF.out.least
          go_wp2_with fail
          go_ret3
          exact ⟨by rw [E1.out, E2.out]; rfl, hbw⟩


end Go.Proofs.Ytkfacfhneooaiaa
