/- Contracts: catching up, rails, full houses, places, on both sides. -/
import Derived.Test.YtkeejocbpiipjaaMovI
import Derived.Test.YtkeejocbpiipjaaMovS
import Derived.Test.YtkeejocbpiipjaaMovM
import Derived.WalkLawsBesides
namespace Go.Proofs.Ytkeejocbpiipjaa
open Go.RowKit

def fullV (x y n : Int) : Bool := movB x y && inB n 1 5
theorem lowN_one (a : Int) : lowN a 1 = a := by unfold lowN; rw [gI_one]; omega
theorem lowD_one (a : Int) : lowD a 1 = 1 := by unfold lowD; rw [gI_one]; omega

set_option maxHeartbeats 1000000 in
theorem specFullHouse_any (x y n : Int) (w : World) :
    Calls Try.prog 24 #[.agg #[.int .i64 x, .int .i64 y], .int .i64 n] w fun e w' => e = .returned (.tuple #[.int .i64 (frN (fullV x y n) (60 * y * n) (1)), .int .i64 (frD (fullV x y n) (60 * y * n) (1)), .bool (fullV x y n)]) ∧ Below w.heap.size w w' := by
  cases g0 : movB x y
  · have hV : fullV x y n = false := by simp [fullV, g0]
    rw [hV, frN_no, frD_no]
    clear hV
    have H0 := Lib.hid g0
    clear g0
    go_enter Try.func24, Try.ntmps24
    go_wp2_with fail
    refine (moGood_any _ _ _).mono ?_
    rintro e w1 ⟨rfl, hb⟩
    have hs : w.heap.size + 1 ≤ w1.heap.size := by have := hb.size; (try simp at this); omega
    have c0_0 : w1.cell? ⟨w.heap.size, 0, none⟩ = some (.int .i64 x) := (hb.cell (by simp; try omega)).trans (by simp)
    have c0_1 : w1.cell? ⟨w.heap.size, 1, none⟩ = some (.int .i64 y) := (hb.cell (by simp; try omega)).trans (by simp)
    have Bt : Below w.heap.size w w1 := ((Below.refl _ _).alloc (Nat.le_refl _) _).trans (hb.mono (by simp; try omega))
    clear hb
    rw [H0.out]
    go_wp2_with fail
    go_ret3
    exact ⟨rfl, Bt⟩
  · have b0 := movB_le g0
    cases g1 : inB n 1 5
    · have hV : fullV x y n = false := by simp [fullV, g1]
      rw [hV, frN_no, frD_no]
      clear hV
      have H0 := Lib.hid g0
      clear g0
      have H1 := Lib.hid g1
      clear g1
      go_enter Try.func24, Try.ntmps24
      go_wp2_with fail
      refine (moGood_any _ _ _).mono ?_
      rintro e w1 ⟨rfl, hb⟩
      have hs : w.heap.size + 1 ≤ w1.heap.size := by have := hb.size; (try simp at this); omega
      have c0_0 : w1.cell? ⟨w.heap.size, 0, none⟩ = some (.int .i64 x) := (hb.cell (by simp; try omega)).trans (by simp)
      have c0_1 : w1.cell? ⟨w.heap.size, 1, none⟩ = some (.int .i64 y) := (hb.cell (by simp; try omega)).trans (by simp)
      have Bt : Below w.heap.size w w1 := ((Below.refl _ _).alloc (Nat.le_refl _) _).trans (hb.mono (by simp; try omega))
      clear hb
      rw [H0.out]
      go_wp2_with fail
      refine (l1In_any _ _ _ _).mono ?_
      rintro e w' ⟨rfl, rfl⟩
      rw [H1.out]
      go_wp2_with fail
      go_ret3
      exact ⟨rfl, Bt⟩
    · have b1 := inB_le g1
      rw [show fullV x y n = true by simp [fullV, g0, g1], frN_yes, frD_yes]
      obtain ⟨e3, e4⟩ := mul_bd (a := 60 * y) (A := 1200) (b := n) (B := 5) (by omega) (by omega) (by omega) (by omega)
      have H0 := Lib.hid g0
      clear g0
      have H1 := Lib.hid g1
      clear g1
      go_enter Try.func24, Try.ntmps24
      go_wp2_with fail
      refine (moGood_any _ _ _).mono ?_
      rintro e w1 ⟨rfl, hb⟩
      have hs : w.heap.size + 1 ≤ w1.heap.size := by have := hb.size; (try simp at this); omega
      have c0_0 : w1.cell? ⟨w.heap.size, 0, none⟩ = some (.int .i64 x) := (hb.cell (by simp; try omega)).trans (by simp)
      have c0_1 : w1.cell? ⟨w.heap.size, 1, none⟩ = some (.int .i64 y) := (hb.cell (by simp; try omega)).trans (by simp)
      have Bt : Below w.heap.size w w1 := ((Below.refl _ _).alloc (Nat.le_refl _) _).trans (hb.mono (by simp; try omega))
      clear hb
      rw [H0.out]
      go_wp2_with fail
      refine (l1In_any _ _ _ _).mono ?_
      rintro e w' ⟨rfl, rfl⟩
      rw [H1.out]
      go_wp2_with fail
      go_ret3
      exact ⟨by rw [lowN_one, lowD_one]; rfl, Bt⟩

set_option maxHeartbeats 1000000 in
theorem implFullHouse_any (x y n : Int) (w : World) :
    Calls Try.prog 25 #[.agg #[.int .i64 x, .int .i64 y], .int .i64 n] w fun e w' => e = .returned (.tuple #[.int .i64 (frN (fullV x y n) (60 * y * n) (1)), .int .i64 (frD (fullV x y n) (60 * y * n) (1)), .bool (fullV x y n)]) ∧ Below w.heap.size w w' := by
  cases g0 : movB x y
  · have hV : fullV x y n = false := by simp [fullV, g0]
    rw [hV, frN_no, frD_no]
    clear hV
    have H0 := Lib.hid g0
    clear g0
    go_enter Try.func25, Try.ntmps25
    go_wp2_with fail
    refine (impMov_any _ _ _).mono ?_
    rintro e w1 ⟨rfl, hb⟩
    have hs : w.heap.size + 1 ≤ w1.heap.size := by have := hb.size; (try simp at this); omega
    have c0_0 : w1.cell? ⟨w.heap.size, 0, none⟩ = some (.int .i64 x) := (hb.cell (by simp; try omega)).trans (by simp)
    have c0_1 : w1.cell? ⟨w.heap.size, 1, none⟩ = some (.int .i64 y) := (hb.cell (by simp; try omega)).trans (by simp)
    have Bt : Below w.heap.size w w1 := ((Below.refl _ _).alloc (Nat.le_refl _) _).trans (hb.mono (by simp; try omega))
    clear hb
    rw [H0.out]
    go_wp2_with fail
    go_ret3
    exact ⟨rfl, Bt⟩
  · have b0 := movB_le g0
    cases g1 : inB n 1 5
    · have hV : fullV x y n = false := by simp [fullV, g1]
      rw [hV, frN_no, frD_no]
      clear hV
      have H0 := Lib.hid g0
      clear g0
      have H1 := Lib.hid g1
      clear g1
      go_enter Try.func25, Try.ntmps25
      go_wp2_with fail
      refine (impMov_any _ _ _).mono ?_
      rintro e w1 ⟨rfl, hb⟩
      have hs : w.heap.size + 1 ≤ w1.heap.size := by have := hb.size; (try simp at this); omega
      have c0_0 : w1.cell? ⟨w.heap.size, 0, none⟩ = some (.int .i64 x) := (hb.cell (by simp; try omega)).trans (by simp)
      have c0_1 : w1.cell? ⟨w.heap.size, 1, none⟩ = some (.int .i64 y) := (hb.cell (by simp; try omega)).trans (by simp)
      have Bt : Below w.heap.size w w1 := ((Below.refl _ _).alloc (Nat.le_refl _) _).trans (hb.mono (by simp; try omega))
      clear hb
      rw [H0.out]
      go_wp2_with fail
      refine (isWithin_any _ _ _ _).mono ?_
      rintro e w' ⟨rfl, rfl⟩
      rw [H1.out]
      go_wp2_with fail
      go_ret3
      exact ⟨rfl, Bt⟩
    · have b1 := inB_le g1
      rw [show fullV x y n = true by simp [fullV, g0, g1], frN_yes, frD_yes]
      obtain ⟨e3, e4⟩ := mul_bd (a := 60 * y) (A := 1200) (b := n) (B := 5) (by omega) (by omega) (by omega) (by omega)
      have H0 := Lib.hid g0
      clear g0
      have H1 := Lib.hid g1
      clear g1
      go_enter Try.func25, Try.ntmps25
      go_wp2_with fail
      refine (impMov_any _ _ _).mono ?_
      rintro e w1 ⟨rfl, hb⟩
      have hs : w.heap.size + 1 ≤ w1.heap.size := by have := hb.size; (try simp at this); omega
      have c0_0 : w1.cell? ⟨w.heap.size, 0, none⟩ = some (.int .i64 x) := (hb.cell (by simp; try omega)).trans (by simp)
      have c0_1 : w1.cell? ⟨w.heap.size, 1, none⟩ = some (.int .i64 y) := (hb.cell (by simp; try omega)).trans (by simp)
      have Bt : Below w.heap.size w w1 := ((Below.refl _ _).alloc (Nat.le_refl _) _).trans (hb.mono (by simp; try omega))
      clear hb
      rw [H0.out]
      go_wp2_with fail
      refine (isWithin_any _ _ _ _).mono ?_
      rintro e w' ⟨rfl, rfl⟩
      rw [H1.out]
      go_wp2_with fail
      refine (lowest_any (60 * y * n) 1 _ (by omega) (by omega) (by omega) (by omega)).mono ?_
      rintro e w2 ⟨rfl, kk, hw⟩
      have hb := drew_below hw
      clear hw kk
      replace c0_0 := (hb.cell (p := ⟨w.heap.size, 0, none⟩) (by show w.heap.size < w1.heap.size; omega)).trans c0_0
      replace c0_1 := (hb.cell (p := ⟨w.heap.size, 1, none⟩) (by show w.heap.size < w1.heap.size; omega)).trans c0_1
      replace Bt := Bt.trans (hb.mono (by omega))
      replace hs : w.heap.size + 1 ≤ w2.heap.size := by have := hb.size; omega
      clear hb
      go_wp2_with fail
      go_ret3
      exact ⟨rfl, Bt⟩

def railV (x y r p : Int) : Bool := tellB x y p y && (inB r y 20 && !decide (r < y + p))
theorem railV_le {x y r p : Int} (h : railV x y r p = true) : askB x y p = true ∧ 0 < p + y ∧ r ≤ 20 ∧ y + p ≤ r := by
  simp only [railV, tellB, Bool.and_eq_true, Bool.not_eq_true', decide_eq_false_iff_not, decide_eq_true_eq] at h
  have h1 := inB_le h.2.1
  have h2 := h.2.2
  exact ⟨h.1.1, by omega, by omega, by omega⟩

set_option maxHeartbeats 1000000 in
theorem specRailLead_any (x y r p : Int) (w : World) :
    Calls Try.prog 17 #[.agg #[.int .i64 x, .int .i64 y], .int .i64 r, .int .i64 p] w fun e w' => e = .returned (.tuple #[.int .i64 (frN (railV x y r p) (x * (r - y - p)) (y + p)), .int .i64 (frD (railV x y r p) (x * (r - y - p)) (y + p)), .bool (railV x y r p)]) ∧ Below w.heap.size w w' := by
  cases g0 : askB x y p
  · have hV : railV x y r p = false := by simp [railV, tellB, g0]
    rw [hV, frN_no, frD_no]
    clear hV
    have H0 := Lib.hid g0
    clear g0
    go_enter Try.func17, Try.ntmps17
    go_wp2_with fail
    refine (moAsked_any _ _ _ _).mono ?_
    rintro e w1 ⟨rfl, hb⟩
    have hs : w.heap.size + 1 ≤ w1.heap.size := by have := hb.size; (try simp at this); omega
    have c0_0 : w1.cell? ⟨w.heap.size, 0, none⟩ = some (.int .i64 x) := (hb.cell (by simp; try omega)).trans (by simp)
    have c0_1 : w1.cell? ⟨w.heap.size, 1, none⟩ = some (.int .i64 y) := (hb.cell (by simp; try omega)).trans (by simp)
    have Bt : Below w.heap.size w w1 := ((Below.refl _ _).alloc (Nat.le_refl _) _).trans (hb.mono (by simp; try omega))
    clear hb
    rw [H0.out]
    go_wp2_with fail
    go_ret3
    exact ⟨rfl, Bt⟩
  · have b0 := askB_le g0
    by_cases g1 : y + p = 0
    · have hV : railV x y r p = false := by simp [railV, tellB, show ¬ 0 < p + y by omega]
      rw [hV, frN_no, frD_no]
      clear hV
      have H0 := Lib.hid g0
      clear g0
      have z0 : y + p ≤ 0 := by omega
      clear g1
      go_enter Try.func17, Try.ntmps17
      go_wp2_with fail
      refine (moAsked_any _ _ _ _).mono ?_
      rintro e w1 ⟨rfl, hb⟩
      have hs : w.heap.size + 1 ≤ w1.heap.size := by have := hb.size; (try simp at this); omega
      have c0_0 : w1.cell? ⟨w.heap.size, 0, none⟩ = some (.int .i64 x) := (hb.cell (by simp; try omega)).trans (by simp)
      have c0_1 : w1.cell? ⟨w.heap.size, 1, none⟩ = some (.int .i64 y) := (hb.cell (by simp; try omega)).trans (by simp)
      have Bt : Below w.heap.size w w1 := ((Below.refl _ _).alloc (Nat.le_refl _) _).trans (hb.mono (by simp; try omega))
      clear hb
      rw [H0.out]
      go_wp2_with fail
      go_ret3
      exact ⟨rfl, Bt⟩
    · have z1 : 0 < y + p := by omega
      cases g2 : inB r y 20
      · have hV : railV x y r p = false := by simp [railV, g2]
        rw [hV, frN_no, frD_no]
        clear hV
        have H0 := Lib.hid g0
        clear g0
        have H2 := Lib.hid g2
        clear g2
        go_enter Try.func17, Try.ntmps17
        go_wp2_with fail
        refine (moAsked_any _ _ _ _).mono ?_
        rintro e w1 ⟨rfl, hb⟩
        have hs : w.heap.size + 1 ≤ w1.heap.size := by have := hb.size; (try simp at this); omega
        have c0_0 : w1.cell? ⟨w.heap.size, 0, none⟩ = some (.int .i64 x) := (hb.cell (by simp; try omega)).trans (by simp)
        have c0_1 : w1.cell? ⟨w.heap.size, 1, none⟩ = some (.int .i64 y) := (hb.cell (by simp; try omega)).trans (by simp)
        have Bt : Below w.heap.size w w1 := ((Below.refl _ _).alloc (Nat.le_refl _) _).trans (hb.mono (by simp; try omega))
        clear hb
        rw [H0.out]
        go_wp2_with fail
        refine (l1In_any _ _ _ _).mono ?_
        rintro e w' ⟨rfl, rfl⟩
        rw [H2.out]
        go_wp2_with fail
        go_ret3
        exact ⟨rfl, Bt⟩
      · have b2 := inB_le g2
        by_cases g3 : r < y + p
        · have hV : railV x y r p = false := by simp [railV, g3]
          rw [hV, frN_no, frD_no]
          clear hV
          have H0 := Lib.hid g0
          clear g0
          have H2 := Lib.hid g2
          clear g2
          clear g1
          go_enter Try.func17, Try.ntmps17
          go_wp2_with fail
          refine (moAsked_any _ _ _ _).mono ?_
          rintro e w1 ⟨rfl, hb⟩
          have hs : w.heap.size + 1 ≤ w1.heap.size := by have := hb.size; (try simp at this); omega
          have c0_0 : w1.cell? ⟨w.heap.size, 0, none⟩ = some (.int .i64 x) := (hb.cell (by simp; try omega)).trans (by simp)
          have c0_1 : w1.cell? ⟨w.heap.size, 1, none⟩ = some (.int .i64 y) := (hb.cell (by simp; try omega)).trans (by simp)
          have Bt : Below w.heap.size w w1 := ((Below.refl _ _).alloc (Nat.le_refl _) _).trans (hb.mono (by simp; try omega))
          clear hb
          rw [H0.out]
          go_wp2_with fail
          refine (l1In_any _ _ _ _).mono ?_
          rintro e w' ⟨rfl, rfl⟩
          rw [H2.out]
          go_wp2_with fail
          go_ret3
          exact ⟨rfl, Bt⟩
        · rw [show railV x y r p = true by simp [railV, tellB, g0, g2, g3]; omega, frN_yes, frD_yes]
          obtain ⟨e3, e4⟩ := mul_bd (a := x) (A := 500) (b := r - y - p) (B := 20) (by omega) (by omega) (by omega) (by omega)
          have H0 := Lib.hid g0
          clear g0
          have H2 := Lib.hid g2
          clear g2
          have q1 : (y + p == 0) = false := by simp; omega
          have q2 : decide (r < y + p) = false := by simp; omega
          clear g1
          go_enter Try.func17, Try.ntmps17
          go_wp2_with fail
          refine (moAsked_any _ _ _ _).mono ?_
          rintro e w1 ⟨rfl, hb⟩
          have hs : w.heap.size + 1 ≤ w1.heap.size := by have := hb.size; (try simp at this); omega
          have c0_0 : w1.cell? ⟨w.heap.size, 0, none⟩ = some (.int .i64 x) := (hb.cell (by simp; try omega)).trans (by simp)
          have c0_1 : w1.cell? ⟨w.heap.size, 1, none⟩ = some (.int .i64 y) := (hb.cell (by simp; try omega)).trans (by simp)
          have Bt : Below w.heap.size w w1 := ((Below.refl _ _).alloc (Nat.le_refl _) _).trans (hb.mono (by simp; try omega))
          clear hb
          rw [H0.out]
          go_wp2_with fail
          refine (l1In_any _ _ _ _).mono ?_
          rintro e w' ⟨rfl, rfl⟩
          rw [H2.out]
          go_wp2_with fail
          refine (moLow_any (x * (r - y - p)) (y + p) _ (by omega) (by omega) (by omega) (by omega)).mono ?_
          rintro e w2 ⟨rfl, kk, hw⟩
          have hb := drew_below hw
          clear hw kk
          replace c0_0 := (hb.cell (p := ⟨w.heap.size, 0, none⟩) (by show w.heap.size < w1.heap.size; omega)).trans c0_0
          replace c0_1 := (hb.cell (p := ⟨w.heap.size, 1, none⟩) (by show w.heap.size < w1.heap.size; omega)).trans c0_1
          replace Bt := Bt.trans (hb.mono (by omega))
          replace hs : w.heap.size + 1 ≤ w2.heap.size := by have := hb.size; omega
          clear hb
          go_wp2_with fail
          go_ret3
          exact ⟨rfl, Bt⟩

theorem tellB_two {x y p c : Int} (h : tellB x y p c = true) : askB x y p = true ∧ 0 < p + c := by simpa [tellB] using h
set_option maxHeartbeats 400000 in
theorem speed_wrap (p c : Int) (w : World) :
    Calls Try.prog 33 #[.agg #[.int .i64 p, .int .i64 c]] w fun e w' => e = .returned (.int .i64 (wrap64 (p + c))) ∧ Below w.heap.size w w' := by
  go_enter Try.func33, Try.ntmps33
  go_wp2_with fail
  go_ret
  exact ⟨rfl, below_alloc _ _⟩
set_option maxHeartbeats 1000000 in
theorem implRailLead_any (x y r p : Int) (w : World) :
    Calls Try.prog 18 #[.agg #[.int .i64 x, .int .i64 y], .int .i64 r, .int .i64 p] w fun e w' => e = .returned (.tuple #[.int .i64 (frN (railV x y r p) (x * (r - y - p)) (y + p)), .int .i64 (frD (railV x y r p) (x * (r - y - p)) (y + p)), .bool (railV x y r p)]) ∧ Below w.heap.size w w' := by
  cases g0 : tellB x y p y
  · have hV : railV x y r p = false := by simp [railV, g0]
    rw [hV, frN_no, frD_no]
    clear hV
    have H0 := Lib.hid g0
    clear g0
    go_enter Try.func18, Try.ntmps18
    go_wp2_with fail
    refine (impTimeWith_any _ _ _ _).mono ?_
    rintro e w1 ⟨rfl, hb⟩
    have hs : w.heap.size + 1 ≤ w1.heap.size := by have := hb.size; (try simp at this); omega
    have c0_0 : w1.cell? ⟨w.heap.size, 0, none⟩ = some (.int .i64 x) := (hb.cell (by simp; try omega)).trans (by simp)
    have c0_1 : w1.cell? ⟨w.heap.size, 1, none⟩ = some (.int .i64 y) := (hb.cell (by simp; try omega)).trans (by simp)
    have Bt : Below w.heap.size w w1 := ((Below.refl _ _).alloc (Nat.le_refl _) _).trans (hb.mono (by simp; try omega))
    clear hb
    go_wp2_with fail
    refine (walkerWith_any _ _ _ _).mono ?_
    rintro e w2 ⟨rfl, hb⟩
    replace c0_0 := (hb.cell (p := ⟨w.heap.size, 0, none⟩) (by show w.heap.size < w1.heap.size; omega)).trans c0_0
    replace c0_1 := (hb.cell (p := ⟨w.heap.size, 1, none⟩) (by show w.heap.size < w1.heap.size; omega)).trans c0_1
    replace Bt := Bt.trans (hb.mono (by omega))
    replace hs : w.heap.size + 1 ≤ w2.heap.size := by have := hb.size; omega
    clear hb
    go_wp2_with fail
    refine (speed_wrap _ _ _).mono ?_
    rintro e w3 ⟨rfl, hb⟩
    replace c0_0 := (hb.cell (p := ⟨w.heap.size, 0, none⟩) (by show w.heap.size < w2.heap.size; omega)).trans c0_0
    replace c0_1 := (hb.cell (p := ⟨w.heap.size, 1, none⟩) (by show w.heap.size < w2.heap.size; omega)).trans c0_1
    replace Bt := Bt.trans (hb.mono (by omega))
    replace hs : w.heap.size + 1 ≤ w3.heap.size := by have := hb.size; omega
    clear hb
    rw [H0.out]
    rw [frN_no, frD_no]
    go_wp2_with fail
    go_ret3
    exact ⟨rfl, Bt⟩
  · obtain ⟨ga, gb⟩ := tellB_two g0
    have b0 := askB_le ga
    cases g1 : inB r (p + y) 20
    · have hV : railV x y r p = false := by
        rcases inB_gt g1 with h | h
        · simp [railV, show r < y + p by omega]
        · simp [railV, inB_no (n := r) (lo := y) (hi := 20) (.inr h)]
      rw [hV, frN_no, frD_no]
      clear hV
      have H0 := Lib.hid g0
      have H1 := Lib.hid g1
      clear g0 g1 ga
      go_enter Try.func18, Try.ntmps18
      go_wp2_with fail
      refine (impTimeWith_any _ _ _ _).mono ?_
      rintro e w1 ⟨rfl, hb⟩
      have hs : w.heap.size + 1 ≤ w1.heap.size := by have := hb.size; (try simp at this); omega
      have c0_0 : w1.cell? ⟨w.heap.size, 0, none⟩ = some (.int .i64 x) := (hb.cell (by simp; try omega)).trans (by simp)
      have c0_1 : w1.cell? ⟨w.heap.size, 1, none⟩ = some (.int .i64 y) := (hb.cell (by simp; try omega)).trans (by simp)
      have Bt : Below w.heap.size w w1 := ((Below.refl _ _).alloc (Nat.le_refl _) _).trans (hb.mono (by simp; try omega))
      clear hb
      go_wp2_with fail
      refine (walkerWith_any _ _ _ _).mono ?_
      rintro e w2 ⟨rfl, hb⟩
      replace c0_0 := (hb.cell (p := ⟨w.heap.size, 0, none⟩) (by show w.heap.size < w1.heap.size; omega)).trans c0_0
      replace c0_1 := (hb.cell (p := ⟨w.heap.size, 1, none⟩) (by show w.heap.size < w1.heap.size; omega)).trans c0_1
      replace Bt := Bt.trans (hb.mono (by omega))
      replace hs : w.heap.size + 1 ≤ w2.heap.size := by have := hb.size; omega
      clear hb
      go_wp2_with fail
      refine (speed_any _ _ _ (by omega) (by omega)).mono ?_
      rintro e w3 ⟨rfl, hb⟩
      replace c0_0 := (hb.cell (p := ⟨w.heap.size, 0, none⟩) (by show w.heap.size < w2.heap.size; omega)).trans c0_0
      replace c0_1 := (hb.cell (p := ⟨w.heap.size, 1, none⟩) (by show w.heap.size < w2.heap.size; omega)).trans c0_1
      replace Bt := Bt.trans (hb.mono (by omega))
      replace hs : w.heap.size + 1 ≤ w3.heap.size := by have := hb.size; omega
      clear hb
      rw [H0.out]
      rw [frN_yes, frD_yes]
      go_wp2_with fail
      refine (isWithin_any _ _ _ _).mono ?_
      rintro e w' ⟨rfl, rfl⟩
      rw [H1.out]
      go_wp2_with fail
      go_ret3
      exact ⟨rfl, Bt⟩
    · have b1 := inB_le g1
      rw [show railV x y r p = true by simp [railV, g0, inB_yes (n := r) (lo := y) (hi := 20) (by omega) (by omega)]; omega, frN_yes, frD_yes]
      have e1 := lowN_nonneg (a := x) (b := p + y) (by omega) (by omega)
      have e2 := lowN_le (a := x) (b := p + y) (by omega)
      have e3 := lowD_pos (a := x) (b := p + y) (by omega)
      have e4 := lowD_le (a := x) (b := p + y) (by omega)
      obtain ⟨e5, e6⟩ := mul_bd (a := r - (p + y)) (A := 20) (b := lowN x (p + y)) (B := 500) (by omega) (by omega) e1 (by omega)
      have hS := Lib.hid (low_times (a := x) (b := p + y) (c := r - (p + y)) (by omega))
      have hC := Lib.hid (Int.mul_comm (r - (p + y)) (lowN x (p + y)))
      have H0 := Lib.hid g0
      have H1 := Lib.hid g1
      clear g0 g1 ga
      go_enter Try.func18, Try.ntmps18
      go_wp2_with fail
      refine (impTimeWith_any _ _ _ _).mono ?_
      rintro e w1 ⟨rfl, hb⟩
      have hs : w.heap.size + 1 ≤ w1.heap.size := by have := hb.size; (try simp at this); omega
      have c0_0 : w1.cell? ⟨w.heap.size, 0, none⟩ = some (.int .i64 x) := (hb.cell (by simp; try omega)).trans (by simp)
      have c0_1 : w1.cell? ⟨w.heap.size, 1, none⟩ = some (.int .i64 y) := (hb.cell (by simp; try omega)).trans (by simp)
      have Bt : Below w.heap.size w w1 := ((Below.refl _ _).alloc (Nat.le_refl _) _).trans (hb.mono (by simp; try omega))
      clear hb
      go_wp2_with fail
      refine (walkerWith_any _ _ _ _).mono ?_
      rintro e w2 ⟨rfl, hb⟩
      replace c0_0 := (hb.cell (p := ⟨w.heap.size, 0, none⟩) (by show w.heap.size < w1.heap.size; omega)).trans c0_0
      replace c0_1 := (hb.cell (p := ⟨w.heap.size, 1, none⟩) (by show w.heap.size < w1.heap.size; omega)).trans c0_1
      replace Bt := Bt.trans (hb.mono (by omega))
      replace hs : w.heap.size + 1 ≤ w2.heap.size := by have := hb.size; omega
      clear hb
      go_wp2_with fail
      refine (speed_any _ _ _ (by omega) (by omega)).mono ?_
      rintro e w3 ⟨rfl, hb⟩
      replace c0_0 := (hb.cell (p := ⟨w.heap.size, 0, none⟩) (by show w.heap.size < w2.heap.size; omega)).trans c0_0
      replace c0_1 := (hb.cell (p := ⟨w.heap.size, 1, none⟩) (by show w.heap.size < w2.heap.size; omega)).trans c0_1
      replace Bt := Bt.trans (hb.mono (by omega))
      replace hs : w.heap.size + 1 ≤ w3.heap.size := by have := hb.size; omega
      clear hb
      rw [H0.out]
      rw [frN_yes, frD_yes]
      go_wp2_with fail
      refine (isWithin_any _ _ _ _).mono ?_
      rintro e w' ⟨rfl, rfl⟩
      rw [H1.out]
      go_wp2_with fail
      refine (lowest_any ((r - (p + y)) * lowN x (p + y)) (lowD x (p + y)) _ (by omega) (by omega) (by omega) (by omega)).mono ?_
      rintro e w4 ⟨rfl, kk, hw⟩
      have hb := drew_below hw
      clear hw kk
      replace c0_0 := (hb.cell (p := ⟨w.heap.size, 0, none⟩) (by show w.heap.size < w3.heap.size; omega)).trans c0_0
      replace c0_1 := (hb.cell (p := ⟨w.heap.size, 1, none⟩) (by show w.heap.size < w3.heap.size; omega)).trans c0_1
      replace Bt := Bt.trans (hb.mono (by omega))
      replace hs : w.heap.size + 1 ≤ w4.heap.size := by have := hb.size; omega
      clear hb
      go_wp2_with fail
      go_ret3
      exact ⟨by rw [hC.out, hS.out.1, hS.out.2, show r - (p + y) = r - y - p by omega, Int.add_comm p y]; rfl, Bt⟩


end Go.Proofs.Ytkeejocbpiipjaa
