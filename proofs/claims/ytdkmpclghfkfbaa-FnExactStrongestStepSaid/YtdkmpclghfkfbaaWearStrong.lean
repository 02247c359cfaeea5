/- Contracts: the step that bears the most, on both sides. -/
import Derived.Test.YtdkmpclghfkfbaaWearGood
import Derived.Test.YtdkmpclghfkfbaaGSlices
namespace Go.Proofs.Ytdkmpclghfkfbaa
open Go.RowKit

/-- b is the first place of the greatest of the first k numbers -/
def FirstMax (xs : List Int) (k b : Nat) : Prop := (∀ j, j < k → xs.getD j 0 ≤ xs.getD b 0) ∧ ∀ j, j < b → xs.getD j 0 < xs.getD b 0
theorem FirstMax.keep {xs : List Int} {k b : Nat} (h : FirstMax xs k b) (hle : xs.getD k 0 ≤ xs.getD b 0) : FirstMax xs (k + 1) b :=
  ⟨fun j hj => by
    rcases Nat.lt_succ_iff_lt_or_eq.1 hj with h1 | rfl
    · exact h.1 j h1
    · exact hle, h.2⟩
theorem FirstMax.turn {xs : List Int} {k b : Nat} (h : FirstMax xs k b) (hlt : xs.getD b 0 < xs.getD k 0) : FirstMax xs (k + 1) k :=
  ⟨fun j hj => by
    rcases Nat.lt_succ_iff_lt_or_eq.1 hj with h1 | rfl
    · have := h.1 j h1; omega
    · exact Int.le_refl _, fun j hj => by have := h.1 j hj; omega⟩
theorem getD_mem' {xs : List Int} {k : Nat} (h : k < xs.length) : xs.getD k 0 ∈ xs := by simp [List.getD_eq_getElem?_getD, h]
theorem mem_getD {xs : List Int} {x : Int} (h : x ∈ xs) : ∃ j, j < xs.length ∧ xs.getD j 0 = x := by
  obtain ⟨j, hj, e⟩ := List.getElem_of_mem h
  exact ⟨j, hj, by simpa [List.getD_eq_getElem?_getD, hj] using e⟩
theorem drop_getD (xs : List Int) (k j : Nat) : (xs.drop k).getD j 0 = xs.getD (k + j) 0 := by simp [List.getD_eq_getElem?_getD]
theorem FirstMax.max {xs : List Int} {b : Nat} (hb : b < xs.length) (h : FirstMax xs xs.length b) : maxL xs = xs.getD b 0 := by
  unfold maxL
  refine maxF_eq _ _ _ (h.1 0 (by omega)) (fun y hy => ?_) ?_
  · obtain ⟨j, hj, rfl⟩ := mem_getD (List.mem_of_mem_drop hy)
    exact h.1 j hj
  · by_cases e : b = 0
    · subst e; exact .inl rfl
    · right
      have hl : b - 1 < (xs.drop 1).length := by simp; omega
      have := getD_mem' hl
      rw [drop_getD, show 1 + (b - 1) = b by omega] at this
      exact this
theorem FirstMax.idx {xs : List Int} {b : Nat} (hb : b < xs.length) (h : FirstMax xs xs.length b) : (b : Int) + 1 = idxF (maxL xs) xs 0 + 1 := by
  have := idxF_eq (maxL xs) xs b hb (h.max hb).symm 0 (Nat.zero_le _) (fun j _ hj => by rw [h.max hb]; have := h.2 j hj; omega)
  simp at this
  rw [this]

theorem bears_len {xs : List Int} (h : bearsB xs = true) : 1 ≤ xs.length ∧ xs.length ≤ 20 := by
  simp only [bearsB, Bool.and_eq_true] at h
  have := inB_le h.1
  omega

def strongR (xs : List Int) : Int := if bearsB xs then idxF (maxL xs) xs 0 + 1 else 0

set_option maxHeartbeats 400000 in
theorem specStrong_any (A : Option Addr) (c : Nat) (xs : List Int) (B : Nat) (w : World) (hr : Rd w B A c xs) (hn : xs.length ≤ 1048576) :
    Calls Try.prog 17 #[.slice A xs.length c] w fun e w' => e = .returned (.tuple #[.int .i64 (strongR xs), .bool (bearsB xs)]) ∧ w = w' := by
  cases h : bearsB xs
  · rw [show strongR xs = 0 by simp [strongR, h]]
    go_enter Try.func17, Try.ntmps17
    go_wp2_with fail
    refine (weGood_any _ _ _ _ _ hr hn).mono ?_
    rintro e w' ⟨rfl, rfl⟩
    rw [h]
    clear h
    go_wp2_with fail
    go_ret2
    exact ⟨rfl, rfl⟩
  · rw [show strongR xs = idxF (maxL xs) xs 0 + 1 by simp [strongR, h]]
    have hl := bears_len h
    have hl1 := hl.1
    have H := Lib.hid h
    clear h hl
    go_enter Try.func17, Try.ntmps17
    go_wp2_with fail
    refine (weGood_any _ _ _ _ _ hr hn).mono ?_
    rintro e w' ⟨rfl, rfl⟩
    rw [H.out]
    go_wp2_with fail
    go_loop [4, 5, 6, 12] (fun m _ _ i => ∃ (k b : Nat), k ≤ xs.length ∧ b < xs.length ∧ i = .int .i64 k ∧ m = .int .i64 b ∧ Hid (FirstMax xs k b)) (fun _ _ _ i => xs.length - (intOf i).toNat)
    case atStart => exact ⟨0, 0, Nat.zero_le _, by omega, rfl, rfl, fun j hj => absurd hj (by omega), fun j hj => absurd hj (by omega)⟩
    case round =>
      obtain ⟨k, b, hk, hb, rfl, rfl, HM⟩ := hrel
      by_cases hlt : k < xs.length
      · obtain ⟨g, o, rfl, hg, hcell⟩ := hr.at_ hlt
        obtain ⟨g', o', hA, hg', hcell'⟩ := hr.at_ hb
        injection hA with hA
        injection hA with e1 e2
        subst e1 e2
        have HK := Lib.hid (fun h => HM.out.keep (k := k) (b := b) h)
        have HT := Lib.hid (fun h => HM.out.turn (k := k) (b := b) h)
        generalize xs.getD k 0 = x at *
        generalize xs.getD b 0 = y at *
        by_cases he : y < x
        · have R := Lib.hid (HT.out he)
          go_wp2
          go_round
          case rel => exact ⟨k + 1, k, by omega, hlt, by go_num, rfl, R⟩
          case measure => simp [intOf]; omega
        · have R := Lib.hid (HK.out (by omega))
          go_wp2
          go_round
          case rel => exact ⟨k + 1, b, by omega, hb, by go_num, rfl, R⟩
          case measure => simp [intOf]; omega
      · obtain rfl : k = xs.length := by omega
        have R := Lib.hid (HM.out.idx hb)
        go_wp2
        go_ret2
        exact ⟨ret_ib R.out, rfl⟩

set_option maxHeartbeats 400000 in
theorem impStrong_any (A : Option Addr) (c : Nat) (xs : List Int) (B : Nat) (w : World) (hr : Rd w B A c xs) (hn : xs.length ≤ 1048576) :
    Calls Try.prog 18 #[.slice A xs.length c] w fun e w' => e = .returned (.tuple #[.int .i64 (strongR xs), .bool (bearsB xs)]) ∧ w = w' := by
  cases h : bearsB xs
  · rw [show strongR xs = 0 by simp [strongR, h]]
    go_enter Try.func18, Try.ntmps18
    go_wp2_with fail
    refine (impBears_any _ _ _ _ _ hr hn).mono ?_
    rintro e w' ⟨rfl, rfl⟩
    rw [h]
    clear h
    go_wp2_with fail
    go_ret2
    exact ⟨rfl, rfl⟩
  · rw [show strongR xs = idxF (maxL xs) xs 0 + 1 by simp [strongR, h]]
    have hl := bears_len h
    have hl1 := hl.1
    have H := Lib.hid h
    clear h hl
    have hi := idxF_bd (maxL xs) xs 0
    generalize hI : idxF (maxL xs) xs 0 = I at *
    have HI := Lib.hid hI
    clear hI
    go_enter Try.func18, Try.ntmps18
    go_wp2_with fail
    refine (impBears_any _ _ _ _ _ hr hn).mono ?_
    rintro e w' ⟨rfl, rfl⟩
    rw [H.out]
    go_wp2_with fail
    refine (max_any _ _ _ _ _ hr hl1 hn).mono ?_
    rintro e w' ⟨rfl, rfl⟩
    go_wp2_with fail
    refine (index_any _ _ _ _ _ _ hr hn).mono ?_
    rintro e w' ⟨rfl, rfl⟩
    rw [HI.out]
    have hi1 : -1 ≤ I := hi.1 (Int.le_refl _)
    have hi2 : I ≤ 1048576 := by omega
    go_wp2_with fail
    go_ret2
    exact ⟨rfl, rfl⟩

end Go.Proofs.Ytdkmpclghfkfbaa
