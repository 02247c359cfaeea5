/- Contracts: times and steps of those who walk with it and against it (the model). -/
import Derived.Test.YthcoipoihieggaaDoorMovT
namespace Go.Proofs.YthcoipoihieggaaDoor
set_option maxRecDepth 100000
open Go.RowKit


set_option maxHeartbeats 400000 in
theorem specTimeWith_any (x y p : Int) (w : World) :
    Calls Tryd.prog 5 #[.agg #[.int .i64 x, .int .i64 y], .int .i64 p] w fun e w' => e = .returned (.tuple #[.int .i64 (frN (tellB x y p y) (x) (p + y)), .int .i64 (frD (tellB x y p y) (x) (p + y)), .bool (tellB x y p y)]) ∧ Below w.heap.size w w' := by
  cases hV : askB x y p
  · rw [tellB_no hV, frN_no, frD_no]
    have H := Lib.hid hV
    clear hV
    go_enter Tryd.func5, Tryd.ntmps5
    go_wp2_with fail
    refine (moAsked_any _ _ _ _).mono ?_
    rintro e w1 ⟨rfl, hb⟩
    rw [H.out]
    go_wp2_with fail
    go_ret3
    exact ⟨rfl, (below_alloc _ _).trans (hb.mono (by simp))⟩
  · have hp := askB_le hV
    have hn : 0 ≤ x ∧ x ≤ 10000 := ⟨by omega, by omega⟩
    obtain ⟨hn0, hn1⟩ := hn
    by_cases h : 0 < p + y
    · rw [tellB_yes hV h, frN_yes, frD_yes]
      have H := Lib.hid hV
      clear hV
      go_enter Tryd.func5, Tryd.ntmps5
      go_wp2_with fail
      refine (moAsked_any _ _ _ _).mono ?_
      rintro e w1 ⟨rfl, hb⟩
      rw [H.out]
      obtain ⟨hcc, hff⟩ := bcell hb
      go_wp2_with fail
      refine (moLow_any (x) (y + p) _ hn0 (by omega) (by omega) (by omega)).mono ?_
      rintro e w2 ⟨rfl, k, rfl⟩
      go_wp2_with fail
      go_ret3
      exact ⟨by rw [Int.add_comm p y]; rfl, (below_alloc _ _).trans (Below.drewN' (hb.mono (by simp)) _)⟩
    · rw [tellB_end h, frN_no, frD_no]
      have H := Lib.hid hV
      clear hV
      obtain rfl : p = 0 := by omega
      obtain rfl : y = 0 := by omega
      go_enter Tryd.func5, Tryd.ntmps5
      go_wp2_with fail
      refine (moAsked_any _ _ _ _).mono ?_
      rintro e w1 ⟨rfl, hb⟩
      rw [H.out]
      obtain ⟨hcc, hff⟩ := bcell hb
      go_wp2_with fail
      go_ret3
      exact ⟨rfl, (below_alloc _ _).trans (hb.mono (by simp))⟩

set_option maxHeartbeats 400000 in
theorem specStepsWith_any (x y p : Int) (w : World) :
    Calls Tryd.prog 7 #[.agg #[.int .i64 x, .int .i64 y], .int .i64 p] w fun e w' => e = .returned (.tuple #[.int .i64 (frN (tellB x y p y) (x * p) (p + y)), .int .i64 (frD (tellB x y p y) (x * p) (p + y)), .bool (tellB x y p y)]) ∧ Below w.heap.size w w' := by
  cases hV : askB x y p
  · rw [tellB_no hV, frN_no, frD_no]
    have H := Lib.hid hV
    clear hV
    go_enter Tryd.func7, Tryd.ntmps7
    go_wp2_with fail
    refine (moAsked_any _ _ _ _).mono ?_
    rintro e w1 ⟨rfl, hb⟩
    rw [H.out]
    go_wp2_with fail
    go_ret3
    exact ⟨rfl, (below_alloc _ _).trans (hb.mono (by simp))⟩
  · have hp := askB_le hV
    have hn : 0 ≤ x * p ∧ x * p ≤ 10000 := mul_bd (A := 500) (B := 20) (by omega) (by omega) (by omega) (by omega)
    obtain ⟨hn0, hn1⟩ := hn
    by_cases h : 0 < p + y
    · rw [tellB_yes hV h, frN_yes, frD_yes]
      have H := Lib.hid hV
      clear hV
      go_enter Tryd.func7, Tryd.ntmps7
      go_wp2_with fail
      refine (moAsked_any _ _ _ _).mono ?_
      rintro e w1 ⟨rfl, hb⟩
      rw [H.out]
      obtain ⟨hcc, hff⟩ := bcell hb
      go_wp2_with fail
      refine (moLow_any (x * p) (y + p) _ hn0 (by omega) (by omega) (by omega)).mono ?_
      rintro e w2 ⟨rfl, k, rfl⟩
      go_wp2_with fail
      go_ret3
      exact ⟨by rw [Int.add_comm p y]; rfl, (below_alloc _ _).trans (Below.drewN' (hb.mono (by simp)) _)⟩
    · rw [tellB_end h, frN_no, frD_no]
      have H := Lib.hid hV
      clear hV
      obtain rfl : p = 0 := by omega
      obtain rfl : y = 0 := by omega
      go_enter Tryd.func7, Tryd.ntmps7
      go_wp2_with fail
      refine (moAsked_any _ _ _ _).mono ?_
      rintro e w1 ⟨rfl, hb⟩
      rw [H.out]
      obtain ⟨hcc, hff⟩ := bcell hb
      go_wp2_with fail
      go_ret3
      exact ⟨rfl, (below_alloc _ _).trans (hb.mono (by simp))⟩

set_option maxHeartbeats 400000 in
theorem specTimeAgainst_any (x y p : Int) (w : World) :
    Calls Tryd.prog 9 #[.agg #[.int .i64 x, .int .i64 y], .int .i64 p] w fun e w' => e = .returned (.tuple #[.int .i64 (frN (tellB x y p (-y)) (x) (p + (-y))), .int .i64 (frD (tellB x y p (-y)) (x) (p + (-y))), .bool (tellB x y p (-y))]) ∧ Below w.heap.size w w' := by
  cases hV : askB x y p
  · rw [tellB_no hV, frN_no, frD_no]
    have H := Lib.hid hV
    clear hV
    go_enter Tryd.func9, Tryd.ntmps9
    go_wp2_with fail
    refine (moAsked_any _ _ _ _).mono ?_
    rintro e w1 ⟨rfl, hb⟩
    rw [H.out]
    go_wp2_with fail
    go_ret3
    exact ⟨rfl, (below_alloc _ _).trans (hb.mono (by simp))⟩
  · have hp := askB_le hV
    have hn : 0 ≤ x ∧ x ≤ 10000 := ⟨by omega, by omega⟩
    obtain ⟨hn0, hn1⟩ := hn
    by_cases h : 0 < p + (-y)
    · rw [tellB_yes hV h, frN_yes, frD_yes]
      have H := Lib.hid hV
      clear hV
      go_enter Tryd.func9, Tryd.ntmps9
      go_wp2_with fail
      refine (moAsked_any _ _ _ _).mono ?_
      rintro e w1 ⟨rfl, hb⟩
      rw [H.out]
      obtain ⟨hcc, hff⟩ := bcell hb
      go_wp2_with fail
      refine (moLow_any (x) (p - y) _ hn0 (by omega) (by omega) (by omega)).mono ?_
      rintro e w2 ⟨rfl, k, rfl⟩
      go_wp2_with fail
      go_ret3
      exact ⟨by rw [← Int.sub_eq_add_neg]; rfl, (below_alloc _ _).trans (Below.drewN' (hb.mono (by simp)) _)⟩
    · rw [tellB_end h, frN_no, frD_no]
      have H := Lib.hid hV
      clear hV

      go_enter Tryd.func9, Tryd.ntmps9
      go_wp2_with fail
      refine (moAsked_any _ _ _ _).mono ?_
      rintro e w1 ⟨rfl, hb⟩
      rw [H.out]
      obtain ⟨hcc, hff⟩ := bcell hb
      go_wp2_with fail
      go_ret3
      exact ⟨rfl, (below_alloc _ _).trans (hb.mono (by simp))⟩

set_option maxHeartbeats 400000 in
theorem specStepsAgainst_any (x y p : Int) (w : World) :
    Calls Tryd.prog 11 #[.agg #[.int .i64 x, .int .i64 y], .int .i64 p] w fun e w' => e = .returned (.tuple #[.int .i64 (frN (tellB x y p (-y)) (x * p) (p + (-y))), .int .i64 (frD (tellB x y p (-y)) (x * p) (p + (-y))), .bool (tellB x y p (-y))]) ∧ Below w.heap.size w w' := by
  cases hV : askB x y p
  · rw [tellB_no hV, frN_no, frD_no]
    have H := Lib.hid hV
    clear hV
    go_enter Tryd.func11, Tryd.ntmps11
    go_wp2_with fail
    refine (moAsked_any _ _ _ _).mono ?_
    rintro e w1 ⟨rfl, hb⟩
    rw [H.out]
    go_wp2_with fail
    go_ret3
    exact ⟨rfl, (below_alloc _ _).trans (hb.mono (by simp))⟩
  · have hp := askB_le hV
    have hn : 0 ≤ x * p ∧ x * p ≤ 10000 := mul_bd (A := 500) (B := 20) (by omega) (by omega) (by omega) (by omega)
    obtain ⟨hn0, hn1⟩ := hn
    by_cases h : 0 < p + (-y)
    · rw [tellB_yes hV h, frN_yes, frD_yes]
      have H := Lib.hid hV
      clear hV
      go_enter Tryd.func11, Tryd.ntmps11
      go_wp2_with fail
      refine (moAsked_any _ _ _ _).mono ?_
      rintro e w1 ⟨rfl, hb⟩
      rw [H.out]
      obtain ⟨hcc, hff⟩ := bcell hb
      go_wp2_with fail
      refine (moLow_any (x * p) (p - y) _ hn0 (by omega) (by omega) (by omega)).mono ?_
      rintro e w2 ⟨rfl, k, rfl⟩
      go_wp2_with fail
      go_ret3
      exact ⟨by rw [← Int.sub_eq_add_neg]; rfl, (below_alloc _ _).trans (Below.drewN' (hb.mono (by simp)) _)⟩
    · rw [tellB_end h, frN_no, frD_no]
      have H := Lib.hid hV
      clear hV

      go_enter Tryd.func11, Tryd.ntmps11
      go_wp2_with fail
      refine (moAsked_any _ _ _ _).mono ?_
      rintro e w1 ⟨rfl, hb⟩
      rw [H.out]
      obtain ⟨hcc, hff⟩ := bcell hb
      go_wp2_with fail
      go_ret3
      exact ⟨rfl, (below_alloc _ _).trans (hb.mono (by simp))⟩

set_option maxHeartbeats 400000 in
theorem specRoundTrip_any (x y p : Int) (w : World) :
    Calls Tryd.prog 13 #[.agg #[.int .i64 x, .int .i64 y], .int .i64 p] w fun e w' => e = .returned (.tuple #[.int .i64 (frN (tellB x y p y) (2 * x) (p + y)), .int .i64 (frD (tellB x y p y) (2 * x) (p + y)), .bool (tellB x y p y)]) ∧ Below w.heap.size w w' := by
  cases hV : askB x y p
  · rw [tellB_no hV, frN_no, frD_no]
    have H := Lib.hid hV
    clear hV
    go_enter Tryd.func13, Tryd.ntmps13
    go_wp2_with fail
    refine (moAsked_any _ _ _ _).mono ?_
    rintro e w1 ⟨rfl, hb⟩
    rw [H.out]
    go_wp2_with fail
    go_ret3
    exact ⟨rfl, (below_alloc _ _).trans (hb.mono (by simp))⟩
  · have hp := askB_le hV
    have hn : 0 ≤ 2 * x ∧ 2 * x ≤ 10000 := ⟨by omega, by omega⟩
    obtain ⟨hn0, hn1⟩ := hn
    by_cases h : 0 < p + y
    · rw [tellB_yes hV h, frN_yes, frD_yes]
      have H := Lib.hid hV
      clear hV
      go_enter Tryd.func13, Tryd.ntmps13
      go_wp2_with fail
      refine (moAsked_any _ _ _ _).mono ?_
      rintro e w1 ⟨rfl, hb⟩
      rw [H.out]
      obtain ⟨hcc, hff⟩ := bcell hb
      go_wp2_with fail
      refine (moLow_any (2 * x) (y + p) _ hn0 (by omega) (by omega) (by omega)).mono ?_
      rintro e w2 ⟨rfl, k, rfl⟩
      go_wp2_with fail
      go_ret3
      exact ⟨by rw [Int.add_comm p y]; rfl, (below_alloc _ _).trans (Below.drewN' (hb.mono (by simp)) _)⟩
    · rw [tellB_end h, frN_no, frD_no]
      have H := Lib.hid hV
      clear hV
      obtain rfl : p = 0 := by omega
      obtain rfl : y = 0 := by omega
      go_enter Tryd.func13, Tryd.ntmps13
      go_wp2_with fail
      refine (moAsked_any _ _ _ _).mono ?_
      rintro e w1 ⟨rfl, hb⟩
      rw [H.out]
      obtain ⟨hcc, hff⟩ := bcell hb
      go_wp2_with fail
      go_ret3
      exact ⟨rfl, (below_alloc _ _).trans (hb.mono (by simp))⟩

end Go.Proofs.YthcoipoihieggaaDoor
