/- Contracts: the weakest part (the program), the most climbs, days of wear, on both sides. -/
import Derived.Test.YtkfacfhneooaiaaWearWeak
namespace Go.Proofs.Ytkfacfhneooaiaa
open Go.RowKit

set_option maxHeartbeats 1000000 in
theorem impWeak_any (A : Option Addr) (c : Nat) (xs : List Int) (n : Int) (B : Nat) (w : World) (hr : Rd w B A c xs) (hB : B ≤ w.heap.size) (hn : xs.length ≤ 1048576) :
    Calls Try.prog 22 #[.slice A xs.length c, .int .i64 n] w (Plain (.tuple #[.int .i64 (weakR xs n), .int .i64 (mostR xs n), .bool (endsB xs n)]) w) := by
  cases h : endsB xs n
  · rw [weakR_no h, mostR_no h]
    have H := Lib.hid h
    have H1 := Lib.hid (show partsR xs n = [] by simp [partsR, h])
    clear h
    go_enter Try.func22, Try.ntmps22
    go_wp2_with fail
    refine (impParts_any _ _ _ _ _ _ hr hB hn).mono ?_
    rintro e w1 ⟨v, rfl, hown, hb⟩
    rw [H.out]
    go_wp2_with fail
    go_ret3
    exact ⟨rfl, hb⟩
  · have hpl := partsX_length xs n.toNat
    have hp := endsB_le h
    obtain ⟨r, rfl⟩ : ∃ r : Nat, n = (r : Int) := ⟨n.toNat, by omega⟩
    have H := Lib.hid h
    have HBe := Lib.hid hp.1
    have hp2 : 1 ≤ xs.length ∧ xs.length ≤ 20 ∧ 1 ≤ r ∧ r ≤ xs.length := by omega
    rw [weakR_yes h, mostR_yes h]
    have H1 := Lib.hid (show partsR xs (r : Int) = partsX xs r by simp [partsR, h])
    have hpl2 : 1 ≤ (partsX xs r).length ∧ (partsX xs r).length ≤ 21 := by rw [partsX_length]; omega
    have E1 := Lib.hid (show minL (partsX xs r) = mostX xs r from rfl)
    have E2 := Lib.hid (show idxF (mostX xs r) (partsX xs r) 0 + 1 = weakX xs r from rfl)
    have E3 := idxF_bd (mostX xs r) (partsX xs r) 0
    clear h hp hpl
    go_enter Try.func22, Try.ntmps22
    go_wp2_with fail
    refine (impParts_any _ _ _ _ _ _ hr hB hn).mono ?_
    rintro e w1 ⟨v, rfl, hown, hb⟩
    rw [H.out]
    rw [H1.out] at hown
    obtain ⟨Z, d, hv, hrd⟩ := hown.form
    subst hv
    go_wp2_with fail
    refine (min_any _ _ _ _ _ hrd hpl2.1 (by omega)).mono ?_
    rintro e w' ⟨rfl, rfl⟩
    rw [E1.out]
    go_wp2_with fail
    refine (index_any _ _ _ _ _ _ hrd (by omega)).mono ?_
    rintro e w' ⟨rfl, rfl⟩
    have b1 := E3.1 (Int.le_refl _)
    have b2 := E3.2
    generalize idxF (mostX xs r) (partsX xs r) 0 = q at *
    go_wp2_with fail
    go_ret3
    exact ⟨by rw [← E2.out]; rfl, hb⟩

set_option maxHeartbeats 1000000 in
theorem impMost_any (A : Option Addr) (c : Nat) (xs : List Int) (n : Int) (B : Nat) (w : World) (hr : Rd w B A c xs) (hB : B ≤ w.heap.size) (hn : xs.length ≤ 1048576) :
    Calls Try.prog 24 #[.slice A xs.length c, .int .i64 n] w (Plain (.tuple #[.int .i64 (mostR xs n), .bool (endsB xs n)]) w) := by
  go_enter Try.func24, Try.ntmps24
  go_wp2_with fail
  refine (impWeak_any _ _ _ _ _ _ hr hB hn).mono ?_
  rintro e w1 ⟨rfl, hb⟩
  go_wp2_with fail
  go_ret2
  exact ⟨rfl, hb⟩

set_option maxHeartbeats 1000000 in
theorem specMost_any (A : Option Addr) (c : Nat) (xs : List Int) (n : Int) (B : Nat) (w : World) (hr : Rd w B A c xs) (hB : B ≤ w.heap.size) (hn : xs.length ≤ 1048576) :
    Calls Try.prog 23 #[.slice A xs.length c, .int .i64 n] w (Plain (.tuple #[.int .i64 (mostR xs n), .bool (endsB xs n)]) w) := by
  cases h : endsB xs n
  · rw [mostR_no h]
    have H := Lib.hid h
    clear h
    go_enter Try.func23, Try.ntmps23
    go_wp2_with fail
    refine (weEnds_any _ _ _ _ _ _ hr hn).mono ?_
    rintro e w' ⟨rfl, rfl⟩
    rw [H.out]
    go_wp2_with fail
    go_ret2
    exact ⟨rfl, Below.refl _ _⟩
  · have hdum : True := trivial
    have hp := endsB_le h
    obtain ⟨r, rfl⟩ : ∃ r : Nat, n = (r : Int) := ⟨n.toNat, by omega⟩
    have H := Lib.hid h
    have HBe := Lib.hid hp.1
    have hp2 : 1 ≤ xs.length ∧ xs.length ≤ 20 ∧ 1 ≤ r ∧ r ≤ xs.length := by omega
    rw [mostR_yes h]
    clear h hp hdum
    go_enter Try.func23, Try.ntmps23
    go_wp2_with fail
    refine (weEnds_any _ _ _ _ _ _ hr hn).mono ?_
    rintro e w' ⟨rfl, rfl⟩
    rw [H.out]
    go_wp2_with fail
    refine (weMost_any _ _ _ _ _ _ hr hB (by omega) (by omega) (by omega) HBe.out).mono ?_
    rintro e w1 ⟨rfl, hb⟩
    go_wp2_with fail
    go_ret2
    exact ⟨rfl, hb⟩

def daysB (xs : List Int) (n d : Int) : Bool := endsB xs n && inB d 1 1000
theorem daysB_two {xs : List Int} {n d : Int} (h : daysB xs n d = true) : endsB xs n = true ∧ 1 ≤ d ∧ d ≤ 1000 := by
  simp only [daysB, Bool.and_eq_true] at h
  have := inB_le h.2
  exact ⟨h.1, this.1, this.2⟩
theorem mostR_bd (xs : List Int) (n : Int) : 0 ≤ mostR xs n ∧ mostR xs n ≤ 2000 := by
  cases h : endsB xs n
  · rw [mostR_no h]; omega
  · have hp := endsB_le h
    have := mostX_bd hp.1 (r := n.toNat) (by omega)
    simp only [mostR, h, orI]
    exact this

set_option maxHeartbeats 1000000 in
theorem specDays_any (A : Option Addr) (c : Nat) (xs : List Int) (n d : Int) (B : Nat) (w : World) (hr : Rd w B A c xs) (hB : B ≤ w.heap.size) (hn : xs.length ≤ 1048576) :
    Calls Try.prog 25 #[.slice A xs.length c, .int .i64 n, .int .i64 d] w (Plain (.tuple #[.int .i64 (orI (daysB xs n d) (mostR xs n / d)), .int .i64 (orI (daysB xs n d) (mostR xs n % d)), .bool (daysB xs n d)]) w) := by
  cases h : endsB xs n
  · rw [show daysB xs n d = false by simp [daysB, h], orI_no, orI_no]
    have H := Lib.hid h
    clear h
    go_enter Try.func25, Try.ntmps25
    go_wp2_with fail
    refine (weEnds_any _ _ _ _ _ _ hr hn).mono ?_
    rintro e w' ⟨rfl, rfl⟩
    rw [H.out]
    go_wp2_with fail
    go_ret3
    exact ⟨rfl, Below.refl _ _⟩
  · cases h1 : inB d 1 1000
    · rw [show daysB xs n d = false by simp [daysB, h1], orI_no, orI_no]
      have H := Lib.hid h
      have H1 := Lib.hid h1
      clear h h1
      go_enter Try.func25, Try.ntmps25
      go_wp2_with fail
      refine (weEnds_any _ _ _ _ _ _ hr hn).mono ?_
      rintro e w' ⟨rfl, rfl⟩
      rw [H.out]
      go_wp2_with fail
      refine (l1In_any _ _ _ _).mono ?_
      rintro e w' ⟨rfl, rfl⟩
      rw [H1.out]
      go_wp2_with fail
      go_ret3
      exact ⟨rfl, Below.refl _ _⟩
    · rw [show daysB xs n d = true by simp [daysB, h, h1], orI_yes, orI_yes]
      have hd := inB_le h1
      have hp := endsB_le h
      obtain ⟨r, rfl⟩ : ∃ r : Nat, n = (r : Int) := ⟨n.toNat, by omega⟩
      have HBe := Lib.hid hp.1
      have hp2 : 1 ≤ xs.length ∧ xs.length ≤ 20 ∧ 1 ≤ r ∧ r ≤ xs.length := by omega
      have hbd := mostX_bd hp.1 (r := r) (by omega)
      rw [mostR_yes h]
      have H := Lib.hid h
      have H1 := Lib.hid h1
      have q3 : (d == 0) = false := by simp; omega
      have q1 : Int.tdiv (mostX xs r) d = mostX xs r / d := Int.tdiv_eq_ediv_of_nonneg (by omega)
      have q2 : Int.tmod (mostX xs r) d = mostX xs r % d := Int.tmod_eq_emod_of_nonneg (by omega)
      have q4 : 0 ≤ mostX xs r / d := Int.ediv_nonneg (by omega) (by omega)
      have q5 : mostX xs r / d ≤ mostX xs r := Int.ediv_le_self _ (by omega)
      clear h h1 hp
      go_enter Try.func25, Try.ntmps25
      go_wp2_with fail
      refine (weEnds_any _ _ _ _ _ _ hr hn).mono ?_
      rintro e w' ⟨rfl, rfl⟩
      rw [H.out]
      go_wp2_with fail
      refine (l1In_any _ _ _ _).mono ?_
      rintro e w' ⟨rfl, rfl⟩
      rw [H1.out]
      go_wp2_with fail
      refine (weMost_any _ _ _ _ _ _ hr hB (by omega) (by omega) (by omega) HBe.out).mono ?_
      rintro e w1 ⟨rfl, hb⟩
      generalize hu : mostX xs r = u at *
      have HU := Lib.hid hu
      clear hu
      go_wp2_with fail
      go_quiet (fail)
      go_wp2
      go_ret3
      exact ⟨rfl, Below.drewN' hb _⟩

set_option maxHeartbeats 1000000 in
theorem impDays_any (A : Option Addr) (c : Nat) (xs : List Int) (n d : Int) (B : Nat) (w : World) (hr : Rd w B A c xs) (hB : B ≤ w.heap.size) (hn : xs.length ≤ 1048576) :
    Calls Try.prog 26 #[.slice A xs.length c, .int .i64 n, .int .i64 d] w (Plain (.tuple #[.int .i64 (orI (daysB xs n d) (mostR xs n / d)), .int .i64 (orI (daysB xs n d) (mostR xs n % d)), .bool (daysB xs n d)]) w) := by
  have hbd := mostR_bd xs n
  cases h : endsB xs n
  · rw [show daysB xs n d = false by simp [daysB, h], orI_no, orI_no]
    have H := Lib.hid h
    clear h
    go_enter Try.func26, Try.ntmps26
    go_wp2_with fail
    refine (impMost_any _ _ _ _ _ _ hr hB hn).mono ?_
    rintro e w1 ⟨rfl, hb⟩
    rw [H.out]
    go_wp2_with fail
    go_ret3
    exact ⟨rfl, hb⟩
  · have H := Lib.hid h
    by_cases h1 : d < 1
    · rw [show daysB xs n d = false by simp [daysB, inB_no (n := d) (lo := 1) (hi := 1000) (.inl h1)], orI_no, orI_no]
      clear h
      go_enter Try.func26, Try.ntmps26
      go_wp2_with fail
      refine (impMost_any _ _ _ _ _ _ hr hB hn).mono ?_
      rintro e w1 ⟨rfl, hb⟩
      rw [H.out]
      go_wp2_with fail
      go_ret3
      exact ⟨rfl, hb⟩
    · by_cases h2 : 1000 < d
      · rw [show daysB xs n d = false by simp [daysB, inB_no (n := d) (lo := 1) (hi := 1000) (.inr h2)], orI_no, orI_no]
        clear h
        go_enter Try.func26, Try.ntmps26
        go_wp2_with fail
        refine (impMost_any _ _ _ _ _ _ hr hB hn).mono ?_
        rintro e w1 ⟨rfl, hb⟩
        rw [H.out]
        go_wp2_with fail
        go_ret3
        exact ⟨rfl, hb⟩
      · rw [show daysB xs n d = true by simp [daysB, h, inB_yes (n := d) (lo := 1) (hi := 1000) (by omega) (by omega)], orI_yes, orI_yes]
        clear h
        have q3 : (d == 0) = false := by simp; omega
        have q1 : Int.tdiv (mostR xs n) d = mostR xs n / d := Int.tdiv_eq_ediv_of_nonneg (by omega)
        have q2 : Int.tmod (mostR xs n) d = mostR xs n % d := Int.tmod_eq_emod_of_nonneg (by omega)
        have q4 : 0 ≤ mostR xs n / d := Int.ediv_nonneg (by omega) (by omega)
        have q5 : mostR xs n / d ≤ mostR xs n := Int.ediv_le_self _ (by omega)
        have HU := Lib.hid (fun w h => impMost_any A c xs n B w h)
        clear HU
        go_enter Try.func26, Try.ntmps26
        go_wp2_with fail
        refine (impMost_any _ _ _ _ _ _ hr hB hn).mono ?_
        rintro e w1 ⟨rfl, hb⟩
        rw [H.out]
        generalize hu : mostR xs n = u at *
        have HU := Lib.hid hu
        clear hu
        go_wp2_with fail
        go_quiet (fail)
        go_wp2
        go_ret3
        exact ⟨rfl, Below.drewN' hb _⟩


end Go.Proofs.Ytkfacfhneooaiaa
