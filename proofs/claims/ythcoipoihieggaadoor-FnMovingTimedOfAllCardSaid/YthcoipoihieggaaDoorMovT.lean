/- Contracts: what is told of a ride (the program). -/
import Derived.Test.YthcoipoihieggaaDoorMovW
import Derived.Test.YthcoipoihieggaaDoorWK
namespace Go.Proofs.YthcoipoihieggaaDoor
set_option maxRecDepth 100000
open Go.RowKit

def tellB (x y p c : Int) : Bool := askB x y p && decide (0 < p + c)
theorem tellB_no {x y p c : Int} (h : askB x y p = false) : tellB x y p c = false := by simp [tellB, h]
theorem tellB_end {x y p c : Int} (h : ¬ 0 < p + c) : tellB x y p c = false := by simp [tellB, h]
theorem tellB_yes {x y p c : Int} (h : askB x y p = true) (h' : 0 < p + c) : tellB x y p c = true := by simp [tellB, h, h']
theorem askB_no1 {x y p : Int} (h : movB x y = false) : askB x y p = false := by simp [askB, h]
theorem askB_no2 {x y p : Int} (h : inB p 0 20 = false) : askB x y p = false := by simp [askB, h]
theorem askB_yes {x y p : Int} (h : movB x y = true) (h' : inB p 0 20 = true) : askB x y p = true := by simp [askB, h, h']

set_option maxHeartbeats 400000 in
theorem tell_no (x y p c : Int) (F : Value) (w : World) (hV : askB x y p = false) :
    Calls Tryd.prog 35 #[.agg #[.int .i64 x, .int .i64 y], .agg #[.int .i64 p, .int .i64 c], F] w fun e w' => e = .returned (.tuple #[.int .i64 0, .int .i64 0, .bool false]) ∧ Below w.heap.size w w' := by
  cases h1 : movB x y
  · have H := Lib.hid h1
    clear h1 hV
    go_enter Tryd.func35, Tryd.ntmps35
    go_wp2_with fail
    refine (impMov_any _ _ _).mono ?_
    rintro e w1 ⟨rfl, hb⟩
    rw [H.out]
    go_wp2_with fail
    go_ret3
    exact ⟨rfl, ((below_alloc _ _).alloc (by simp) _).trans (hb.mono (by simp; omega))⟩
  · have h2 : inB p 0 20 = false := by
      cases h2 : inB p 0 20
      · rfl
      · rw [askB_yes h1 h2] at hV; cases hV
    have H := Lib.hid h1
    have H2 := Lib.hid h2
    clear h1 hV h2
    go_enter Tryd.func35, Tryd.ntmps35
    go_wp2_with fail
    refine (impMov_any _ _ _).mono ?_
    rintro e w1 ⟨rfl, hb⟩
    rw [H.out]
    have k0 := (hb.cell (p := ⟨w.heap.size + 1, 0, none⟩) (by simp)).trans (by simp; rfl)
    go_wp2_with fail
    refine (isPace_any _ _).mono ?_
    rintro e w2 ⟨rfl, rfl⟩
    rw [H2.out]
    go_wp2_with fail
    go_ret3
    exact ⟨rfl, ((below_alloc _ _).alloc (by simp) _).trans (hb.mono (by simp; omega))⟩

theorem ask_two {x y p : Int} (h : askB x y p = true) : movB x y = true ∧ inB p 0 20 = true := by simpa [askB] using h

set_option maxHeartbeats 400000 in
theorem tell_end (x y p c : Int) (F : Value) (w : World) (hV : askB x y p = true) (hc : -20 ≤ c) (he : p + c ≤ 0) :
    Calls Tryd.prog 35 #[.agg #[.int .i64 x, .int .i64 y], .agg #[.int .i64 p, .int .i64 c], F] w fun e w' => e = .returned (.tuple #[.int .i64 0, .int .i64 0, .bool false]) ∧ Below w.heap.size w w' := by
  have hp := askB_le hV
  have H := Lib.hid (ask_two hV).1
  have H2 := Lib.hid (ask_two hV).2
  clear hV
  go_enter Tryd.func35, Tryd.ntmps35
  go_wp2_with fail
  refine (impMov_any _ _ _).mono ?_
  rintro e w1 ⟨rfl, hb⟩
  rw [H.out]
  obtain ⟨hcc, hff⟩ := bcell hb
  go_wp2_with fail
  refine (isPace_any _ _).mono ?_
  rintro e w2 ⟨rfl, rfl⟩
  rw [H2.out]
  go_wp2_with fail
  refine (speed_any _ _ _ (by omega) (by omega)).mono ?_
  rintro e w2 ⟨rfl, hb2⟩
  go_wp2_with fail
  go_ret3
  exact ⟨rfl, (((below_alloc _ _).alloc (by simp) _).trans (hb.mono (by simp; omega))).trans (hb2.mono (by have := hb.size; simp at this; omega))⟩

set_option maxHeartbeats 400000 in
theorem tell_time_yes (x y p c : Int) (w : World) (hV : askB x y p = true) (hc : -20 ≤ c) (hc' : c ≤ 20) (he : 0 < p + c) (hn : 0 ≤ x) (hn' : x ≤ 1000000000000)  :
    Calls Tryd.prog 35 #[.agg #[.int .i64 x, .int .i64 y], .agg #[.int .i64 p, .int .i64 c], .func (.func 37) #[] #[]] w fun e w' => e = .returned (.tuple #[.int .i64 (lowN (x) (p + c)), .int .i64 (lowD (x) (p + c)), .bool true]) ∧ Below w.heap.size w w' := by
  have hp := askB_le hV
  have H := Lib.hid (ask_two hV).1
  have H2 := Lib.hid (ask_two hV).2
  clear hV
  go_enter Tryd.func35, Tryd.ntmps35
  go_wp2_with fail
  refine (impMov_any _ _ _).mono ?_
  rintro e w1 ⟨rfl, hb⟩
  rw [H.out]
  have c0 : w1.cell? ⟨w.heap.size, 0, none⟩ = some (.int .i64 x) := (hb.cell (by simp; try omega)).trans (by simp)
  have c1 : w1.cell? ⟨w.heap.size + 1, 0, none⟩ = some (.int .i64 p) := (hb.cell (by simp; try omega)).trans (by simp)
  have c2 : w1.cell? ⟨w.heap.size + 1, 1, none⟩ = some (.int .i64 c) := (hb.cell (by simp; try omega)).trans (by simp)
  go_wp2_with fail
  refine (isPace_any _ _).mono ?_
  rintro e w2 ⟨rfl, rfl⟩
  rw [H2.out]
  go_wp2_with fail
  refine (speed_any _ _ _ (by omega) (by omega)).mono ?_
  rintro e w2 ⟨rfl, hb2⟩
  have hz1 := hb.size
  simp at hz1
  replace c0 := (hb2.cell (p := ⟨w.heap.size, 0, none⟩) (by show w.heap.size < w1.heap.size; omega)).trans c0
  replace c1 := (hb2.cell (p := ⟨w.heap.size + 1, 0, none⟩) (by show w.heap.size + 1 < w1.heap.size; omega)).trans c1
  replace c2 := (hb2.cell (p := ⟨w.heap.size + 1, 1, none⟩) (by show w.heap.size + 1 < w1.heap.size; omega)).trans c2
  go_wp2_with fail
  refine (ride_time_any p c x _ (by omega) (by omega) hn (by omega)).mono ?_
  rintro e w3 ⟨rfl, hb3⟩
  go_wp2_with fail
  refine (lowest_any _ _ _ hn hn' (by omega) (by omega)).mono ?_
  rintro e w4 ⟨rfl, k, rfl⟩
  go_wp2_with fail
  go_ret3
  exact ⟨rfl, Below.drewN' (((((below_alloc _ _).alloc (by simp) _).trans (hb.mono (by simp; omega))).trans (hb2.mono (by omega))).trans (hb3.mono (by have := hb2.size; omega))) _⟩
set_option maxHeartbeats 400000 in
theorem tell_steps_yes (x y p c : Int) (w : World) (hV : askB x y p = true) (hc : -20 ≤ c) (hc' : c ≤ 20) (he : 0 < p + c) (hn : 0 ≤ x * p) (hn' : x * p ≤ 1000000000000)  :
    Calls Tryd.prog 35 #[.agg #[.int .i64 x, .int .i64 y], .agg #[.int .i64 p, .int .i64 c], .func (.func 40) #[] #[]] w fun e w' => e = .returned (.tuple #[.int .i64 (lowN (x * p) (p + c)), .int .i64 (lowD (x * p) (p + c)), .bool true]) ∧ Below w.heap.size w w' := by
  have hp := askB_le hV
  have H := Lib.hid (ask_two hV).1
  have H2 := Lib.hid (ask_two hV).2
  clear hV
  go_enter Tryd.func35, Tryd.ntmps35
  go_wp2_with fail
  refine (impMov_any _ _ _).mono ?_
  rintro e w1 ⟨rfl, hb⟩
  rw [H.out]
  have c0 : w1.cell? ⟨w.heap.size, 0, none⟩ = some (.int .i64 x) := (hb.cell (by simp; try omega)).trans (by simp)
  have c1 : w1.cell? ⟨w.heap.size + 1, 0, none⟩ = some (.int .i64 p) := (hb.cell (by simp; try omega)).trans (by simp)
  have c2 : w1.cell? ⟨w.heap.size + 1, 1, none⟩ = some (.int .i64 c) := (hb.cell (by simp; try omega)).trans (by simp)
  go_wp2_with fail
  refine (isPace_any _ _).mono ?_
  rintro e w2 ⟨rfl, rfl⟩
  rw [H2.out]
  go_wp2_with fail
  refine (speed_any _ _ _ (by omega) (by omega)).mono ?_
  rintro e w2 ⟨rfl, hb2⟩
  have hz1 := hb.size
  simp at hz1
  replace c0 := (hb2.cell (p := ⟨w.heap.size, 0, none⟩) (by show w.heap.size < w1.heap.size; omega)).trans c0
  replace c1 := (hb2.cell (p := ⟨w.heap.size + 1, 0, none⟩) (by show w.heap.size + 1 < w1.heap.size; omega)).trans c1
  replace c2 := (hb2.cell (p := ⟨w.heap.size + 1, 1, none⟩) (by show w.heap.size + 1 < w1.heap.size; omega)).trans c2
  go_wp2_with fail
  refine (ride_steps_any p c x _ (by omega) (by omega) hn (by omega)).mono ?_
  rintro e w3 ⟨rfl, hb3⟩
  go_wp2_with fail
  refine (lowest_any _ _ _ hn hn' (by omega) (by omega)).mono ?_
  rintro e w4 ⟨rfl, k, rfl⟩
  go_wp2_with fail
  go_ret3
  exact ⟨rfl, Below.drewN' (((((below_alloc _ _).alloc (by simp) _).trans (hb.mono (by simp; omega))).trans (hb2.mono (by omega))).trans (hb3.mono (by have := hb2.size; omega))) _⟩
set_option maxHeartbeats 400000 in
theorem tell_andBack_yes (x y p c : Int) (w : World) (hV : askB x y p = true) (hc : -20 ≤ c) (hc' : c ≤ 20) (he : 0 < p + c) (hn : 0 ≤ 2 * x) (hn' : 2 * x ≤ 1000000000000)  :
    Calls Tryd.prog 35 #[.agg #[.int .i64 x, .int .i64 y], .agg #[.int .i64 p, .int .i64 c], .func (.func 42) #[] #[]] w fun e w' => e = .returned (.tuple #[.int .i64 (lowN (2 * x) (p + c)), .int .i64 (lowD (2 * x) (p + c)), .bool true]) ∧ Below w.heap.size w w' := by
  have hp := askB_le hV
  have H := Lib.hid (ask_two hV).1
  have H2 := Lib.hid (ask_two hV).2
  clear hV
  go_enter Tryd.func35, Tryd.ntmps35
  go_wp2_with fail
  refine (impMov_any _ _ _).mono ?_
  rintro e w1 ⟨rfl, hb⟩
  rw [H.out]
  have c0 : w1.cell? ⟨w.heap.size, 0, none⟩ = some (.int .i64 x) := (hb.cell (by simp; try omega)).trans (by simp)
  have c1 : w1.cell? ⟨w.heap.size + 1, 0, none⟩ = some (.int .i64 p) := (hb.cell (by simp; try omega)).trans (by simp)
  have c2 : w1.cell? ⟨w.heap.size + 1, 1, none⟩ = some (.int .i64 c) := (hb.cell (by simp; try omega)).trans (by simp)
  go_wp2_with fail
  refine (isPace_any _ _).mono ?_
  rintro e w2 ⟨rfl, rfl⟩
  rw [H2.out]
  go_wp2_with fail
  refine (speed_any _ _ _ (by omega) (by omega)).mono ?_
  rintro e w2 ⟨rfl, hb2⟩
  have hz1 := hb.size
  simp at hz1
  replace c0 := (hb2.cell (p := ⟨w.heap.size, 0, none⟩) (by show w.heap.size < w1.heap.size; omega)).trans c0
  replace c1 := (hb2.cell (p := ⟨w.heap.size + 1, 0, none⟩) (by show w.heap.size + 1 < w1.heap.size; omega)).trans c1
  replace c2 := (hb2.cell (p := ⟨w.heap.size + 1, 1, none⟩) (by show w.heap.size + 1 < w1.heap.size; omega)).trans c2
  go_wp2_with fail
  refine (ride_andBack_any p c x _ (by omega) (by omega) hn (by omega)).mono ?_
  rintro e w3 ⟨rfl, hb3⟩
  go_wp2_with fail
  refine (lowest_any _ _ _ hn hn' (by omega) (by omega)).mono ?_
  rintro e w4 ⟨rfl, k, rfl⟩
  go_wp2_with fail
  go_ret3
  exact ⟨rfl, Below.drewN' (((((below_alloc _ _).alloc (by simp) _).trans (hb.mono (by simp; omega))).trans (hb2.mono (by omega))).trans (hb3.mono (by have := hb2.size; omega))) _⟩



theorem tell_time_any (x y p c : Int) (w : World) (hx : askB x y p = true → -20 ≤ c ∧ c ≤ 20) :
    Calls Tryd.prog 35 #[.agg #[.int .i64 x, .int .i64 y], .agg #[.int .i64 p, .int .i64 c], .func (.func 37) #[] #[]] w fun e w' => e = .returned (.tuple #[.int .i64 (frN (tellB x y p c) (x) (p + c)), .int .i64 (frD (tellB x y p c) (x) (p + c)), .bool (tellB x y p c)]) ∧ Below w.heap.size w w' := by
  cases hV : askB x y p
  · rw [tellB_no hV]
    exact tell_no _ _ _ _ _ _ hV
  · have hp := askB_le hV
    have hc := hx hV
    by_cases h : 0 < p + c
    · rw [tellB_yes hV h]
      have hn : 0 ≤ x ∧ x ≤ 10000 := ⟨by omega, by omega⟩
      exact tell_time_yes _ _ _ _ _ hV hc.1 hc.2 h hn.1 (by omega)
    · rw [tellB_end h]
      exact tell_end _ _ _ _ _ _ hV hc.1 (by omega)

theorem tell_steps_any (x y p c : Int) (w : World) (hx : askB x y p = true → -20 ≤ c ∧ c ≤ 20) :
    Calls Tryd.prog 35 #[.agg #[.int .i64 x, .int .i64 y], .agg #[.int .i64 p, .int .i64 c], .func (.func 40) #[] #[]] w fun e w' => e = .returned (.tuple #[.int .i64 (frN (tellB x y p c) (x * p) (p + c)), .int .i64 (frD (tellB x y p c) (x * p) (p + c)), .bool (tellB x y p c)]) ∧ Below w.heap.size w w' := by
  cases hV : askB x y p
  · rw [tellB_no hV]
    exact tell_no _ _ _ _ _ _ hV
  · have hp := askB_le hV
    have hc := hx hV
    by_cases h : 0 < p + c
    · rw [tellB_yes hV h]
      have hn : 0 ≤ x * p ∧ x * p ≤ 10000 := mul_bd (A := 500) (B := 20) (by omega) (by omega) (by omega) (by omega)
      exact tell_steps_yes _ _ _ _ _ hV hc.1 hc.2 h hn.1 (by omega)
    · rw [tellB_end h]
      exact tell_end _ _ _ _ _ _ hV hc.1 (by omega)

theorem tell_andBack_any (x y p c : Int) (w : World) (hx : askB x y p = true → -20 ≤ c ∧ c ≤ 20) :
    Calls Tryd.prog 35 #[.agg #[.int .i64 x, .int .i64 y], .agg #[.int .i64 p, .int .i64 c], .func (.func 42) #[] #[]] w fun e w' => e = .returned (.tuple #[.int .i64 (frN (tellB x y p c) (2 * x) (p + c)), .int .i64 (frD (tellB x y p c) (2 * x) (p + c)), .bool (tellB x y p c)]) ∧ Below w.heap.size w w' := by
  cases hV : askB x y p
  · rw [tellB_no hV]
    exact tell_no _ _ _ _ _ _ hV
  · have hp := askB_le hV
    have hc := hx hV
    by_cases h : 0 < p + c
    · rw [tellB_yes hV h]
      have hn : 0 ≤ 2 * x ∧ 2 * x ≤ 10000 := ⟨by omega, by omega⟩
      exact tell_andBack_yes _ _ _ _ _ hV hc.1 hc.2 h hn.1 (by omega)
    · rw [tellB_end h]
      exact tell_end _ _ _ _ _ _ hV hc.1 (by omega)

end Go.Proofs.YthcoipoihieggaaDoor
