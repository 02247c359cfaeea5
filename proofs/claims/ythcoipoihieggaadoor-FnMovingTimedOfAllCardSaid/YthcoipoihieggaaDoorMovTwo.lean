/- Contracts: visible steps and speeds from two counts, on both sides. -/
import Derived.Test.YthcoipoihieggaaDoorMovB
import Derived.Test.YthcoipoihieggaaDoorWK
namespace Go.Proofs.YthcoipoihieggaaDoor
set_option maxRecDepth 100000
open Go.RowKit

def twoB (p s o m : Int) : Bool := inB p 1 20 && (inB o (p + 1) 20 && (inB s 1 10000 && inB m (s + 1) 10000))
def twoD (s o m p : Int) : Int := s * o - m * p
def twoV (p s o m : Int) : Bool := twoB p s o m && decide (m * p < s * o)
theorem twoB_le {p s o m : Int} (h : twoB p s o m = true) : 1 ≤ p ∧ p < o ∧ o ≤ 20 ∧ 1 ≤ s ∧ s < m ∧ m ≤ 10000 := by
  simp only [twoB, Bool.and_eq_true] at h
  have h1 := inB_le h.1
  have h2 := inB_le h.2.1
  have h3 := inB_le h.2.2.1
  have h4 := inB_le h.2.2.2
  omega
theorem twoV_no {p s o m : Int} (h : twoB p s o m = false) : twoV p s o m = false := by simp [twoV, h]
theorem twoV_end {p s o m : Int} (h : ¬ m * p < s * o) : twoV p s o m = false := by simp [twoV, h]
theorem twoV_yes {p s o m : Int} (h : twoB p s o m = true) (h' : m * p < s * o) : twoV p s o m = true := by simp [twoV, h, h']
theorem twoV_two {p s o m : Int} (h : twoV p s o m = true) : twoB p s o m = true ∧ 0 < s * o - m * p := by
  have h' : twoB p s o m = true ∧ m * p < s * o := by simpa [twoV] using h
  exact ⟨h'.1, by have := h'.2; omega⟩
/-- the number, or 0 -/
def orZ (v : Bool) (a : Int) : Int := if v then a else 0
theorem orZ_no (a : Int) : orZ false a = 0 := rfl
theorem orZ_yes (a : Int) : orZ true a = a := rfl
theorem two_bd {p s o m : Int} (h : twoB p s o m = true) : (0 ≤ s * o ∧ s * o ≤ 200000) ∧ (0 ≤ m * p ∧ m * p ≤ 200000) ∧ (0 ≤ (m - s) * p ∧ (m - s) * p ≤ 200000) ∧ (0 ≤ (m - s) * p * o ∧ (m - s) * p * o ≤ 4000000) := by
  have := twoB_le h
  have a1 := mul_bd (a := s) (A := 10000) (b := o) (B := 20) (by omega) (by omega) (by omega) (by omega)
  have a2 := mul_bd (a := m) (A := 10000) (b := p) (B := 20) (by omega) (by omega) (by omega) (by omega)
  have a3 := mul_bd (a := m - s) (A := 10000) (b := p) (B := 20) (by omega) (by omega) (by omega) (by omega)
  have a4 := mul_bd (a := (m - s) * p) (A := 200000) (b := o) (B := 20) (by omega) (by omega) (by omega) (by omega)
  exact ⟨by omega, by omega, by omega, by omega⟩

set_option maxHeartbeats 1000000 in
theorem moTwo_any (p s o m : Int) (w : World) :
    Calls Tryd.prog 52 #[.int .i64 p, .int .i64 s, .int .i64 o, .int .i64 m] w fun e w' => e = .returned (.tuple #[.int .i64 (orZ (twoV p s o m) ((m - s) * p * o)), .int .i64 (orZ (twoV p s o m) (s * o - m * p)), .bool (twoV p s o m)]) ∧ Below w.heap.size w w' := by
  cases g0 : inB p 1 20
  · have hB : twoB p s o m = false := by simp [twoB, g0]
    rw [twoV_no hB, orZ_no, orZ_no]
    clear hB
    have H0 := Lib.hid g0
    clear g0
    go_enter Tryd.func52, Tryd.ntmps52
    go_wp2_with fail
    refine (l1In_any _ _ _ _).mono ?_
    rintro e w' ⟨rfl, rfl⟩
    rw [H0.out]
    go_wp2_with fail
    go_ret3
    exact ⟨rfl, Below.refl _ _⟩
  · have b0 := inB_le g0
    cases g1 : inB o (p + 1) 20
    · have hB : twoB p s o m = false := by simp [twoB, g0, g1]
      rw [twoV_no hB, orZ_no, orZ_no]
      clear hB
      have H0 := Lib.hid g0
      clear g0
      have H1 := Lib.hid g1
      clear g1
      go_enter Tryd.func52, Tryd.ntmps52
      go_wp2_with fail
      refine (l1In_any _ _ _ _).mono ?_
      rintro e w' ⟨rfl, rfl⟩
      rw [H0.out]
      go_wp2_with fail
      refine (l1In_any _ _ _ _).mono ?_
      rintro e w' ⟨rfl, rfl⟩
      rw [H1.out]
      go_wp2_with fail
      go_ret3
      exact ⟨rfl, Below.refl _ _⟩
    · have b1 := inB_le g1
      cases g2 : inB s 1 10000
      · have hB : twoB p s o m = false := by simp [twoB, g0, g1, g2]
        rw [twoV_no hB, orZ_no, orZ_no]
        clear hB
        have H0 := Lib.hid g0
        clear g0
        have H1 := Lib.hid g1
        clear g1
        have H2 := Lib.hid g2
        clear g2
        go_enter Tryd.func52, Tryd.ntmps52
        go_wp2_with fail
        refine (l1In_any _ _ _ _).mono ?_
        rintro e w' ⟨rfl, rfl⟩
        rw [H0.out]
        go_wp2_with fail
        refine (l1In_any _ _ _ _).mono ?_
        rintro e w' ⟨rfl, rfl⟩
        rw [H1.out]
        go_wp2_with fail
        refine (l1In_any _ _ _ _).mono ?_
        rintro e w' ⟨rfl, rfl⟩
        rw [H2.out]
        go_wp2_with fail
        go_ret3
        exact ⟨rfl, Below.refl _ _⟩
      · have b2 := inB_le g2
        cases g3 : inB m (s + 1) 10000
        · have hB : twoB p s o m = false := by simp [twoB, g0, g1, g2, g3]
          rw [twoV_no hB, orZ_no, orZ_no]
          clear hB
          have H0 := Lib.hid g0
          clear g0
          have H1 := Lib.hid g1
          clear g1
          have H2 := Lib.hid g2
          clear g2
          have H3 := Lib.hid g3
          clear g3
          go_enter Tryd.func52, Tryd.ntmps52
          go_wp2_with fail
          refine (l1In_any _ _ _ _).mono ?_
          rintro e w' ⟨rfl, rfl⟩
          rw [H0.out]
          go_wp2_with fail
          refine (l1In_any _ _ _ _).mono ?_
          rintro e w' ⟨rfl, rfl⟩
          rw [H1.out]
          go_wp2_with fail
          refine (l1In_any _ _ _ _).mono ?_
          rintro e w' ⟨rfl, rfl⟩
          rw [H2.out]
          go_wp2_with fail
          refine (l1In_any _ _ _ _).mono ?_
          rintro e w' ⟨rfl, rfl⟩
          rw [H3.out]
          go_wp2_with fail
          go_ret3
          exact ⟨rfl, Below.refl _ _⟩
        · have b3 := inB_le g3
          have hB : twoB p s o m = true := by simp [twoB, g0, g1, g2, g3]
          obtain ⟨⟨d0, d1⟩, ⟨d2, d3⟩, ⟨d4, d5⟩, d6, d7⟩ := two_bd hB
          by_cases h : m * p < s * o
          · rw [twoV_yes hB h, orZ_yes, orZ_yes]
            clear hB
            have H0 := Lib.hid g0
            clear g0
            have H1 := Lib.hid g1
            clear g1
            have H2 := Lib.hid g2
            clear g2
            have H3 := Lib.hid g3
            clear g3
            go_enter Tryd.func52, Tryd.ntmps52
            go_wp2_with fail
            refine (l1In_any _ _ _ _).mono ?_
            rintro e w' ⟨rfl, rfl⟩
            rw [H0.out]
            go_wp2_with fail
            refine (l1In_any _ _ _ _).mono ?_
            rintro e w' ⟨rfl, rfl⟩
            rw [H1.out]
            go_wp2_with fail
            refine (l1In_any _ _ _ _).mono ?_
            rintro e w' ⟨rfl, rfl⟩
            rw [H2.out]
            go_wp2_with fail
            refine (l1In_any _ _ _ _).mono ?_
            rintro e w' ⟨rfl, rfl⟩
            rw [H3.out]
            go_wp2_with fail
            go_ret3
            exact ⟨rfl, Below.refl _ _⟩
          · rw [twoV_end h, orZ_no, orZ_no]
            clear hB
            have H0 := Lib.hid g0
            clear g0
            have H1 := Lib.hid g1
            clear g1
            have H2 := Lib.hid g2
            clear g2
            have H3 := Lib.hid g3
            clear g3
            go_enter Tryd.func52, Tryd.ntmps52
            go_wp2_with fail
            refine (l1In_any _ _ _ _).mono ?_
            rintro e w' ⟨rfl, rfl⟩
            rw [H0.out]
            go_wp2_with fail
            refine (l1In_any _ _ _ _).mono ?_
            rintro e w' ⟨rfl, rfl⟩
            rw [H1.out]
            go_wp2_with fail
            refine (l1In_any _ _ _ _).mono ?_
            rintro e w' ⟨rfl, rfl⟩
            rw [H2.out]
            go_wp2_with fail
            refine (l1In_any _ _ _ _).mono ?_
            rintro e w' ⟨rfl, rfl⟩
            rw [H3.out]
            go_wp2_with fail
            go_ret3
            exact ⟨rfl, Below.refl _ _⟩

set_option maxHeartbeats 1000000 in
theorem longer_any (p s o m : Int) (w : World) :
    Calls Tryd.prog 51 #[.int .i64 p, .int .i64 s, .int .i64 o, .int .i64 m] w fun e w' => e = .returned (.tuple #[.int .i64 (orZ (twoB p s o m) (s * o - m * p)), .bool (twoV p s o m)]) ∧ Below w.heap.size w w' := by
  cases g0 : inB p 1 20
  · have hB : twoB p s o m = false := by simp [twoB, g0]
    rw [twoV_no hB, hB, orZ_no]
    clear hB
    have H0 := Lib.hid g0
    clear g0
    go_enter Tryd.func51, Tryd.ntmps51
    go_wp2_with fail
    refine (isWithin_any _ _ _ _).mono ?_
    rintro e w' ⟨rfl, rfl⟩
    rw [H0.out]
    go_wp2_with fail
    go_ret2
    exact ⟨rfl, Below.refl _ _⟩
  · have b0 := inB_le g0
    cases g1 : inB o (p + 1) 20
    · have hB : twoB p s o m = false := by simp [twoB, g0, g1]
      rw [twoV_no hB, hB, orZ_no]
      clear hB
      have H0 := Lib.hid g0
      clear g0
      have H1 := Lib.hid g1
      clear g1
      go_enter Tryd.func51, Tryd.ntmps51
      go_wp2_with fail
      refine (isWithin_any _ _ _ _).mono ?_
      rintro e w' ⟨rfl, rfl⟩
      rw [H0.out]
      go_wp2_with fail
      refine (isWithin_any _ _ _ _).mono ?_
      rintro e w' ⟨rfl, rfl⟩
      rw [H1.out]
      go_wp2_with fail
      go_ret2
      exact ⟨rfl, Below.refl _ _⟩
    · have b1 := inB_le g1
      cases g2 : inB s 1 10000
      · have hB : twoB p s o m = false := by simp [twoB, g0, g1, g2]
        rw [twoV_no hB, hB, orZ_no]
        clear hB
        have H0 := Lib.hid g0
        clear g0
        have H1 := Lib.hid g1
        clear g1
        have H2 := Lib.hid g2
        clear g2
        go_enter Tryd.func51, Tryd.ntmps51
        go_wp2_with fail
        refine (isWithin_any _ _ _ _).mono ?_
        rintro e w' ⟨rfl, rfl⟩
        rw [H0.out]
        go_wp2_with fail
        refine (isWithin_any _ _ _ _).mono ?_
        rintro e w' ⟨rfl, rfl⟩
        rw [H1.out]
        go_wp2_with fail
        refine (isWithin_any _ _ _ _).mono ?_
        rintro e w' ⟨rfl, rfl⟩
        rw [H2.out]
        go_wp2_with fail
        go_ret2
        exact ⟨rfl, Below.refl _ _⟩
      · have b2 := inB_le g2
        cases g3 : inB m (s + 1) 10000
        · have hB : twoB p s o m = false := by simp [twoB, g0, g1, g2, g3]
          rw [twoV_no hB, hB, orZ_no]
          clear hB
          have H0 := Lib.hid g0
          clear g0
          have H1 := Lib.hid g1
          clear g1
          have H2 := Lib.hid g2
          clear g2
          have H3 := Lib.hid g3
          clear g3
          go_enter Tryd.func51, Tryd.ntmps51
          go_wp2_with fail
          refine (isWithin_any _ _ _ _).mono ?_
          rintro e w' ⟨rfl, rfl⟩
          rw [H0.out]
          go_wp2_with fail
          refine (isWithin_any _ _ _ _).mono ?_
          rintro e w' ⟨rfl, rfl⟩
          rw [H1.out]
          go_wp2_with fail
          refine (isWithin_any _ _ _ _).mono ?_
          rintro e w' ⟨rfl, rfl⟩
          rw [H2.out]
          go_wp2_with fail
          refine (isWithin_any _ _ _ _).mono ?_
          rintro e w' ⟨rfl, rfl⟩
          rw [H3.out]
          go_wp2_with fail
          go_ret2
          exact ⟨rfl, Below.refl _ _⟩
        · have b3 := inB_le g3
          have hB : twoB p s o m = true := by simp [twoB, g0, g1, g2, g3]
          obtain ⟨⟨d0, d1⟩, ⟨d2, d3⟩, ⟨d4, d5⟩, d6, d7⟩ := two_bd hB
          rw [hB, orZ_yes, show twoV p s o m = decide (m * p < s * o) by simp [twoV, hB]]
          clear hB
          have H0 := Lib.hid g0
          clear g0
          have H1 := Lib.hid g1
          clear g1
          have H2 := Lib.hid g2
          clear g2
          have H3 := Lib.hid g3
          clear g3
          go_enter Tryd.func51, Tryd.ntmps51
          go_wp2_with fail
          refine (isWithin_any _ _ _ _).mono ?_
          rintro e w' ⟨rfl, rfl⟩
          rw [H0.out]
          go_wp2_with fail
          refine (isWithin_any _ _ _ _).mono ?_
          rintro e w' ⟨rfl, rfl⟩
          rw [H1.out]
          go_wp2_with fail
          refine (isWithin_any _ _ _ _).mono ?_
          rintro e w' ⟨rfl, rfl⟩
          rw [H2.out]
          go_wp2_with fail
          refine (isWithin_any _ _ _ _).mono ?_
          rintro e w' ⟨rfl, rfl⟩
          rw [H3.out]
          go_wp2_with fail
          go_ret2
          exact ⟨rfl, Below.refl _ _⟩

set_option maxHeartbeats 1000000 in
theorem implSpeedFromTwo_any (p s o m : Int) (w : World) :
    Calls Tryd.prog 30 #[.int .i64 p, .int .i64 s, .int .i64 o, .int .i64 m] w fun e w' => e = .returned (.tuple #[.int .i64 (frN (twoV p s o m) ((m - s) * p * o) (s * o - m * p)), .int .i64 (frD (twoV p s o m) ((m - s) * p * o) (s * o - m * p)), .bool (twoV p s o m)]) ∧ Below w.heap.size w w' := by
  cases hV : twoV p s o m
  · rw [frN_no, frD_no]
    have H := Lib.hid hV
    clear hV
    go_enter Tryd.func30, Tryd.ntmps30
    go_wp2_with fail
    refine (longer_any _ _ _ _ _).mono ?_
    rintro e w1 ⟨rfl, hb⟩
    have hs : w.heap.size + 0 ≤ w1.heap.size := by have := hb.size; (try simp at this); omega
    have Bt : Below w.heap.size w w1 := hb
    clear hb
    rw [H.out]
    go_wp2_with fail
    go_ret3
    exact ⟨rfl, Bt⟩
  · rw [frN_yes, frD_yes]
    obtain ⟨hB, hd⟩ := twoV_two hV
    have hp := twoB_le hB
    obtain ⟨⟨d0, d1⟩, ⟨d2, d3⟩, ⟨d4, d5⟩, d6, d7⟩ := two_bd hB
    have H := Lib.hid hV
    have H1 := Lib.hid hB
    clear hV hB
    go_enter Tryd.func30, Tryd.ntmps30
    go_wp2_with fail
    refine (longer_any _ _ _ _ _).mono ?_
    rintro e w1 ⟨rfl, hb⟩
    have hs : w.heap.size + 0 ≤ w1.heap.size := by have := hb.size; (try simp at this); omega
    have Bt : Below w.heap.size w w1 := hb
    clear hb
    rw [H.out, H1.out, orZ_yes]
    go_wp2_with fail
    refine (lowest_any ((m - s) * p * o) (s * o - m * p) _ (by omega) (by omega) (by omega) (by omega)).mono ?_
    rintro e w2 ⟨rfl, kk, hw⟩
    have hb := drew_below hw
    clear hw kk
    replace Bt := Bt.trans (hb.mono (by omega))
    replace hs : w.heap.size + 0 ≤ w2.heap.size := by have := hb.size; omega
    clear hb
    go_wp2_with fail
    go_ret3
    exact ⟨rfl, Bt⟩

set_option maxHeartbeats 1000000 in
theorem specSpeedFromTwo_any (p s o m : Int) (w : World) :
    Calls Tryd.prog 31 #[.int .i64 p, .int .i64 s, .int .i64 o, .int .i64 m] w fun e w' => e = .returned (.tuple #[.int .i64 (frN (twoV p s o m) ((m - s) * p * o) (s * o - m * p)), .int .i64 (frD (twoV p s o m) ((m - s) * p * o) (s * o - m * p)), .bool (twoV p s o m)]) ∧ Below w.heap.size w w' := by
  cases hV : twoV p s o m
  · rw [frN_no, frD_no]
    have H := Lib.hid hV
    clear hV
    go_enter Tryd.func31, Tryd.ntmps31
    go_wp2_with fail
    refine (moTwo_any _ _ _ _ _).mono ?_
    rintro e w1 ⟨rfl, hb⟩
    have hs : w.heap.size + 0 ≤ w1.heap.size := by have := hb.size; (try simp at this); omega
    have Bt : Below w.heap.size w w1 := hb
    clear hb
    rw [H.out]
    rw [orZ_no, orZ_no]
    go_wp2_with fail
    go_ret3
    exact ⟨rfl, Bt⟩
  · rw [frN_yes, frD_yes]
    obtain ⟨hB, hd⟩ := twoV_two hV
    have hp := twoB_le hB
    obtain ⟨⟨d0, d1⟩, ⟨d2, d3⟩, ⟨d4, d5⟩, d6, d7⟩ := two_bd hB
    have H := Lib.hid hV
    have H1 := Lib.hid hB
    clear hV hB
    go_enter Tryd.func31, Tryd.ntmps31
    go_wp2_with fail
    refine (moTwo_any _ _ _ _ _).mono ?_
    rintro e w1 ⟨rfl, hb⟩
    have hs : w.heap.size + 0 ≤ w1.heap.size := by have := hb.size; (try simp at this); omega
    have Bt : Below w.heap.size w w1 := hb
    clear hb
    rw [H.out, orZ_yes, orZ_yes]
    go_wp2_with fail
    refine (moLow_any ((m - s) * p * o) (s * o - m * p) _ (by omega) (by omega) (by omega) (by omega)).mono ?_
    rintro e w2 ⟨rfl, kk, hw⟩
    have hb := drew_below hw
    clear hw kk
    replace Bt := Bt.trans (hb.mono (by omega))
    replace hs : w.heap.size + 0 ≤ w2.heap.size := by have := hb.size; omega
    clear hb
    go_wp2_with fail
    go_ret3
    exact ⟨rfl, Bt⟩

set_option maxHeartbeats 1000000 in
theorem implVisibleFromTwo_any (p s o m : Int) (w : World) :
    Calls Tryd.prog 28 #[.int .i64 p, .int .i64 s, .int .i64 o, .int .i64 m] w fun e w' => e = .returned (.tuple #[.int .i64 (frN (twoV p s o m) (s * m * (o - p)) (s * o - m * p)), .int .i64 (frD (twoV p s o m) (s * m * (o - p)) (s * o - m * p)), .bool (twoV p s o m)]) ∧ Below w.heap.size w w' := by
  cases hV : twoV p s o m
  · rw [frN_no, frD_no]
    have H := Lib.hid hV
    clear hV
    go_enter Tryd.func28, Tryd.ntmps28
    go_wp2_with fail
    refine (longer_any _ _ _ _ _).mono ?_
    rintro e w1 ⟨rfl, hb⟩
    have hs : w.heap.size + 0 ≤ w1.heap.size := by have := hb.size; (try simp at this); omega
    have Bt : Below w.heap.size w w1 := hb
    clear hb
    rw [H.out]
    go_wp2_with fail
    go_ret3
    exact ⟨rfl, Bt⟩
  · rw [frN_yes, frD_yes]
    obtain ⟨hB, hd⟩ := twoV_two hV
    have hp := twoB_le hB
    obtain ⟨⟨d0, d1⟩, ⟨d2, d3⟩, ⟨d4, d5⟩, d6, d7⟩ := two_bd hB
    have e1 := mul_bd (a := s) (A := 10000) (b := m) (B := 10000) (by omega) (by omega) (by omega) (by omega)
    have e2 := mul_bd (a := s * m) (A := 100000000) (b := o - p) (B := 20) (by omega) (by omega) (by omega) (by omega)
    obtain ⟨e3, e4⟩ := e1
    obtain ⟨e5, e6⟩ := e2
    have H := Lib.hid hV
    have H1 := Lib.hid hB
    clear hV hB
    go_enter Tryd.func28, Tryd.ntmps28
    go_wp2_with fail
    refine (longer_any _ _ _ _ _).mono ?_
    rintro e w1 ⟨rfl, hb⟩
    have hs : w.heap.size + 0 ≤ w1.heap.size := by have := hb.size; (try simp at this); omega
    have Bt : Below w.heap.size w w1 := hb
    clear hb
    rw [H.out, H1.out, orZ_yes]
    go_wp2_with fail
    refine (lowest_any (s * m * (o - p)) (s * o - m * p) _ (by omega) (by omega) (by omega) (by omega)).mono ?_
    rintro e w2 ⟨rfl, kk, hw⟩
    have hb := drew_below hw
    clear hw kk
    replace Bt := Bt.trans (hb.mono (by omega))
    replace hs : w.heap.size + 0 ≤ w2.heap.size := by have := hb.size; omega
    clear hb
    go_wp2_with fail
    go_ret3
    exact ⟨rfl, Bt⟩

theorem two_same {p s o m : Int} (hp : 0 < p) (hd : 0 < s * o - m * p) :
    lowN (s * m * (o - p)) (s * o - m * p) = lowN (s * (p * (s * o - m * p) + (m - s) * p * o)) (p * (s * o - m * p)) ∧ lowD (s * m * (o - p)) (s * o - m * p) = lowD (s * (p * (s * o - m * p) + (m - s) * p * o)) (p * (s * o - m * p)) := by
  refine low_same hd (Int.mul_pos hp hd) ?_
  have e : p * (s * o - m * p) + (m - s) * p * o = p * (m * (o - p)) := by
    simp only [Int.mul_sub, Int.sub_mul]
    have e1 : p * (s * o) = s * p * o := by ac_rfl
    have e2 : p * (m * o) = m * p * o := by ac_rfl
    omega
  rw [e]
  generalize s * o - m * p = D
  generalize o - p = E
  ac_rfl

set_option maxHeartbeats 1000000 in
theorem specVisibleFromTwo_any (p s o m : Int) (w : World) :
    Calls Tryd.prog 29 #[.int .i64 p, .int .i64 s, .int .i64 o, .int .i64 m] w fun e w' => e = .returned (.tuple #[.int .i64 (frN (twoV p s o m) (s * m * (o - p)) (s * o - m * p)), .int .i64 (frD (twoV p s o m) (s * m * (o - p)) (s * o - m * p)), .bool (twoV p s o m)]) ∧ Below w.heap.size w w' := by
  cases hV : twoV p s o m
  · rw [frN_no, frD_no]
    have H := Lib.hid hV
    clear hV
    go_enter Tryd.func29, Tryd.ntmps29
    go_wp2_with fail
    refine (moTwo_any _ _ _ _ _).mono ?_
    rintro e w1 ⟨rfl, hb⟩
    have hs : w.heap.size + 0 ≤ w1.heap.size := by have := hb.size; (try simp at this); omega
    have Bt : Below w.heap.size w w1 := hb
    clear hb
    rw [H.out]
    rw [orZ_no, orZ_no]
    go_wp2_with fail
    go_ret3
    exact ⟨rfl, Bt⟩
  · rw [frN_yes, frD_yes]
    obtain ⟨hB, hd⟩ := twoV_two hV
    have hp := twoB_le hB
    obtain ⟨⟨d0, d1⟩, ⟨d2, d3⟩, ⟨d4, d5⟩, d6, d7⟩ := two_bd hB
    have hS := Lib.hid (two_same (p := p) (s := s) (o := o) (m := m) (by omega) hd)
    have e1 := mul_bd (a := p) (A := 20) (b := s * o - m * p) (B := 200000) (by omega) (by omega) (by omega) (by omega)
    have e2 := mul_bd (a := s) (A := 10000) (b := p * (s * o - m * p) + (m - s) * p * o) (B := 8000000) (by omega) (by omega) (by omega) (by omega)
    have e7 := Int.mul_pos (a := p) (b := s * o - m * p) (by omega) hd
    obtain ⟨e3, e4⟩ := e1
    obtain ⟨e5, e6⟩ := e2
    have H := Lib.hid hV
    have H1 := Lib.hid hB
    clear hV hB
    go_enter Tryd.func29, Tryd.ntmps29
    go_wp2_with fail
    refine (moTwo_any _ _ _ _ _).mono ?_
    rintro e w1 ⟨rfl, hb⟩
    have hs : w.heap.size + 0 ≤ w1.heap.size := by have := hb.size; (try simp at this); omega
    have Bt : Below w.heap.size w w1 := hb
    clear hb
    rw [H.out, orZ_yes, orZ_yes]
    go_wp2_with fail
    refine (moLow_any (s * (p * (s * o - m * p) + (m - s) * p * o)) (p * (s * o - m * p)) _ (by omega) (by omega) (by omega) (by omega)).mono ?_
    rintro e w2 ⟨rfl, kk, hw⟩
    have hb := drew_below hw
    clear hw kk
    replace Bt := Bt.trans (hb.mono (by omega))
    replace hs : w.heap.size + 0 ≤ w2.heap.size := by have := hb.size; omega
    clear hb
    go_wp2_with fail
    go_ret3
    exact ⟨by rw [hS.out.1, hS.out.2]; rfl, Bt⟩


end Go.Proofs.YthcoipoihieggaaDoor
