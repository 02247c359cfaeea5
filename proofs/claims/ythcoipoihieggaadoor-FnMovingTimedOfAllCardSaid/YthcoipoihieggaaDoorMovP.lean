/- Contracts: visible steps from both ways, paces for steps, on both sides. -/
import Derived.Test.YthcoipoihieggaaDoorMovB
import Derived.Test.YthcoipoihieggaaDoorWK
namespace Go.Proofs.YthcoipoihieggaaDoor
set_option maxRecDepth 100000
open Go.RowKit

def bothV (p a b : Int) : Bool := inB p 1 20 && (inB a 1 10000 && inB b a 10000)

set_option maxHeartbeats 1000000 in
theorem specVisibleFromBoth_any (p a b : Int) (w : World) :
    Calls Tryd.prog 32 #[.int .i64 p, .int .i64 a, .int .i64 b] w fun e w' => e = .returned (.tuple #[.int .i64 (frN (bothV p a b) (2 * a * b) (a + b)), .int .i64 (frD (bothV p a b) (2 * a * b) (a + b)), .bool (bothV p a b)]) ∧ Below w.heap.size w w' := by
  cases g0 : inB p 1 20
  · have hV : bothV p a b = false := by simp [bothV, g0]
    rw [hV, frN_no, frD_no]
    clear hV
    have H0 := Lib.hid g0
    clear g0
    go_enter Tryd.func32, Tryd.ntmps32
    go_wp2_with fail
    refine (l1In_any _ _ _ _).mono ?_
    rintro e w' ⟨rfl, rfl⟩
    rw [H0.out]
    go_wp2_with fail
    go_ret3
    exact ⟨rfl, Below.refl _ _⟩
  · have b0 := inB_le g0
    cases g1 : inB a 1 10000
    · have hV : bothV p a b = false := by simp [bothV, g1]
      rw [hV, frN_no, frD_no]
      clear hV
      have H0 := Lib.hid g0
      clear g0
      have H1 := Lib.hid g1
      clear g1
      go_enter Tryd.func32, Tryd.ntmps32
      go_wp2_with fail
      refine (l1In_any _ _ _ _).mono ?_
      rintro e w' ⟨rfl, rfl⟩
      rw [H0.out]
      go_wp2_with fail
      refine (l1In_any _ _ _ _).mono ?_
      rintro e w' ⟨rfl, rfl⟩
      rw [H1.out]
      go_wp2_with fail
      go_ret3
      exact ⟨rfl, Below.refl _ _⟩
    · have b1 := inB_le g1
      cases g2 : inB b a 10000
      · have hV : bothV p a b = false := by simp [bothV, g2]
        rw [hV, frN_no, frD_no]
        clear hV
        have H0 := Lib.hid g0
        clear g0
        have H1 := Lib.hid g1
        clear g1
        have H2 := Lib.hid g2
        clear g2
        go_enter Tryd.func32, Tryd.ntmps32
        go_wp2_with fail
        refine (l1In_any _ _ _ _).mono ?_
        rintro e w' ⟨rfl, rfl⟩
        rw [H0.out]
        go_wp2_with fail
        refine (l1In_any _ _ _ _).mono ?_
        rintro e w' ⟨rfl, rfl⟩
        rw [H1.out]
        go_wp2_with fail
        refine (l1In_any _ _ _ _).mono ?_
        rintro e w' ⟨rfl, rfl⟩
        rw [H2.out]
        go_wp2_with fail
        go_ret3
        exact ⟨rfl, Below.refl _ _⟩
      · have b2 := inB_le g2
        rw [show bothV p a b = true by simp [bothV, g0, g1, g2], frN_yes, frD_yes]
        have e1 := mul_bd (a := 2 * a) (A := 20000) (b := b) (B := 10000) (by omega) (by omega) (by omega) (by omega)
        obtain ⟨e3, e4⟩ := e1
        have H0 := Lib.hid g0
        clear g0
        have H1 := Lib.hid g1
        clear g1
        have H2 := Lib.hid g2
        clear g2
        go_enter Tryd.func32, Tryd.ntmps32
        go_wp2_with fail
        refine (l1In_any _ _ _ _).mono ?_
        rintro e w' ⟨rfl, rfl⟩
        rw [H0.out]
        go_wp2_with fail
        refine (l1In_any _ _ _ _).mono ?_
        rintro e w' ⟨rfl, rfl⟩
        rw [H1.out]
        go_wp2_with fail
        refine (l1In_any _ _ _ _).mono ?_
        rintro e w' ⟨rfl, rfl⟩
        rw [H2.out]
        go_wp2_with fail
        refine (moLow_any (2 * a * b) (a + b) _ (by omega) (by omega) (by omega) (by omega)).mono ?_
        rintro e w1 ⟨rfl, kk, hw⟩
        have hb := drew_below hw
        clear hw kk
        have hs : w.heap.size + 0 ≤ w1.heap.size := by have := hb.size; (try simp at this); omega
        have Bt : Below w.heap.size w w1 := hb
        clear hb
        go_wp2_with fail
        go_ret3
        exact ⟨rfl, Bt⟩

set_option maxHeartbeats 1000000 in
theorem implVisibleFromBoth_any (p a b : Int) (w : World) :
    Calls Tryd.prog 25 #[.int .i64 p, .int .i64 a, .int .i64 b] w fun e w' => e = .returned (.tuple #[.int .i64 (frN (bothV p a b) (2 * a * b) (a + b)), .int .i64 (frD (bothV p a b) (2 * a * b) (a + b)), .bool (bothV p a b)]) ∧ Below w.heap.size w w' := by
  cases g0 : inB p 1 20
  · have hV : bothV p a b = false := by simp [bothV, g0]
    rw [hV, frN_no, frD_no]
    clear hV
    have H0 := Lib.hid g0
    clear g0
    go_enter Tryd.func25, Tryd.ntmps25
    go_wp2_with fail
    refine (isWithin_any _ _ _ _).mono ?_
    rintro e w' ⟨rfl, rfl⟩
    rw [H0.out]
    go_wp2_with fail
    go_ret3
    exact ⟨rfl, Below.refl _ _⟩
  · have b0 := inB_le g0
    cases g1 : inB a 1 10000
    · have hV : bothV p a b = false := by simp [bothV, g1]
      rw [hV, frN_no, frD_no]
      clear hV
      have H0 := Lib.hid g0
      clear g0
      have H1 := Lib.hid g1
      clear g1
      go_enter Tryd.func25, Tryd.ntmps25
      go_wp2_with fail
      refine (isWithin_any _ _ _ _).mono ?_
      rintro e w' ⟨rfl, rfl⟩
      rw [H0.out]
      go_wp2_with fail
      refine (isWithin_any _ _ _ _).mono ?_
      rintro e w' ⟨rfl, rfl⟩
      rw [H1.out]
      go_wp2_with fail
      go_ret3
      exact ⟨rfl, Below.refl _ _⟩
    · have b1 := inB_le g1
      cases g2 : inB b a 10000
      · have hV : bothV p a b = false := by simp [bothV, g2]
        rw [hV, frN_no, frD_no]
        clear hV
        have H0 := Lib.hid g0
        clear g0
        have H1 := Lib.hid g1
        clear g1
        have H2 := Lib.hid g2
        clear g2
        go_enter Tryd.func25, Tryd.ntmps25
        go_wp2_with fail
        refine (isWithin_any _ _ _ _).mono ?_
        rintro e w' ⟨rfl, rfl⟩
        rw [H0.out]
        go_wp2_with fail
        refine (isWithin_any _ _ _ _).mono ?_
        rintro e w' ⟨rfl, rfl⟩
        rw [H1.out]
        go_wp2_with fail
        refine (isWithin_any _ _ _ _).mono ?_
        rintro e w' ⟨rfl, rfl⟩
        rw [H2.out]
        go_wp2_with fail
        go_ret3
        exact ⟨rfl, Below.refl _ _⟩
      · have b2 := inB_le g2
        rw [show bothV p a b = true by simp [bothV, g0, g1, g2], frN_yes, frD_yes]
        have e1 := mul_bd (a := 2 * a) (A := 20000) (b := b) (B := 10000) (by omega) (by omega) (by omega) (by omega)
        obtain ⟨e3, e4⟩ := e1
        have H0 := Lib.hid g0
        clear g0
        have H1 := Lib.hid g1
        clear g1
        have H2 := Lib.hid g2
        clear g2
        go_enter Tryd.func25, Tryd.ntmps25
        go_wp2_with fail
        refine (isWithin_any _ _ _ _).mono ?_
        rintro e w' ⟨rfl, rfl⟩
        rw [H0.out]
        go_wp2_with fail
        refine (isWithin_any _ _ _ _).mono ?_
        rintro e w' ⟨rfl, rfl⟩
        rw [H1.out]
        go_wp2_with fail
        refine (isWithin_any _ _ _ _).mono ?_
        rintro e w' ⟨rfl, rfl⟩
        rw [H2.out]
        go_wp2_with fail
        refine (lowest_any (2 * a * b) (a + b) _ (by omega) (by omega) (by omega) (by omega)).mono ?_
        rintro e w1 ⟨rfl, kk, hw⟩
        have hb := drew_below hw
        clear hw kk
        have hs : w.heap.size + 0 ≤ w1.heap.size := by have := hb.size; (try simp at this); omega
        have Bt : Below w.heap.size w w1 := hb
        clear hb
        go_wp2_with fail
        go_ret3
        exact ⟨rfl, Bt⟩

def paceV (x y s : Int) : Bool := movB x y && (inB s 0 (x - 1) && !decide (y = 0))

set_option maxHeartbeats 1000000 in
theorem specPaceForSteps_any (x y s : Int) (w : World) :
    Calls Tryd.prog 33 #[.agg #[.int .i64 x, .int .i64 y], .int .i64 s] w fun e w' => e = .returned (.tuple #[.int .i64 (frN (paceV x y s) (s * y) (x - s)), .int .i64 (frD (paceV x y s) (s * y) (x - s)), .bool (paceV x y s)]) ∧ Below w.heap.size w w' := by
  cases g0 : movB x y
  · have hV : paceV x y s = false := by simp [paceV, g0]
    rw [hV, frN_no, frD_no]
    clear hV
    have H0 := Lib.hid g0
    clear g0
    go_enter Tryd.func33, Tryd.ntmps33
    go_wp2_with fail
    refine (moGood_any _ _ _).mono ?_
    rintro e w1 ⟨rfl, hb⟩
    have hs : w.heap.size + 1 ≤ w1.heap.size := by have := hb.size; (try simp at this); omega
    have c0_0 : w1.cell? ⟨w.heap.size, 0, none⟩ = some (.int .i64 x) := (hb.cell (by simp; try omega)).trans (by simp)
    have c0_1 : w1.cell? ⟨w.heap.size, 1, none⟩ = some (.int .i64 y) := (hb.cell (by simp; try omega)).trans (by simp)
    have Bt : Below w.heap.size w w1 := ((Below.refl _ _).alloc (Nat.le_refl _) _).trans (hb.mono (by simp; try omega))
    clear hb
    rw [H0.out]
    go_wp2_with fail
    go_ret3
    exact ⟨rfl, Bt⟩
  · have b0 := movB_le g0
    cases g1 : inB s 0 (x - 1)
    · have hV : paceV x y s = false := by simp [paceV, g1]
      rw [hV, frN_no, frD_no]
      clear hV
      have H0 := Lib.hid g0
      clear g0
      have H1 := Lib.hid g1
      clear g1
      go_enter Tryd.func33, Tryd.ntmps33
      go_wp2_with fail
      refine (moGood_any _ _ _).mono ?_
      rintro e w1 ⟨rfl, hb⟩
      have hs : w.heap.size + 1 ≤ w1.heap.size := by have := hb.size; (try simp at this); omega
      have c0_0 : w1.cell? ⟨w.heap.size, 0, none⟩ = some (.int .i64 x) := (hb.cell (by simp; try omega)).trans (by simp)
      have c0_1 : w1.cell? ⟨w.heap.size, 1, none⟩ = some (.int .i64 y) := (hb.cell (by simp; try omega)).trans (by simp)
      have Bt : Below w.heap.size w w1 := ((Below.refl _ _).alloc (Nat.le_refl _) _).trans (hb.mono (by simp; try omega))
      clear hb
      rw [H0.out]
      go_wp2_with fail
      refine (l1In_any _ _ _ _).mono ?_
      rintro e w' ⟨rfl, rfl⟩
      rw [H1.out]
      go_wp2_with fail
      go_ret3
      exact ⟨rfl, Bt⟩
    · have b1 := inB_le g1
      by_cases g2 : y = 0
      · have hV : paceV x y s = false := by simp [paceV, g2]
        rw [hV, frN_no, frD_no]
        clear hV
        have H0 := Lib.hid g0
        clear g0
        have H1 := Lib.hid g1
        clear g1
        have hy0 : y ≤ 0 := by omega
        clear g2
        go_enter Tryd.func33, Tryd.ntmps33
        go_wp2_with fail
        refine (moGood_any _ _ _).mono ?_
        rintro e w1 ⟨rfl, hb⟩
        have hs : w.heap.size + 1 ≤ w1.heap.size := by have := hb.size; (try simp at this); omega
        have c0_0 : w1.cell? ⟨w.heap.size, 0, none⟩ = some (.int .i64 x) := (hb.cell (by simp; try omega)).trans (by simp)
        have c0_1 : w1.cell? ⟨w.heap.size, 1, none⟩ = some (.int .i64 y) := (hb.cell (by simp; try omega)).trans (by simp)
        have Bt : Below w.heap.size w w1 := ((Below.refl _ _).alloc (Nat.le_refl _) _).trans (hb.mono (by simp; try omega))
        clear hb
        rw [H0.out]
        go_wp2_with fail
        refine (l1In_any _ _ _ _).mono ?_
        rintro e w' ⟨rfl, rfl⟩
        rw [H1.out]
        go_wp2_with fail
        go_ret3
        exact ⟨rfl, Bt⟩
      · rw [show paceV x y s = true by simp [paceV, g0, g1, g2], frN_yes, frD_yes]
        have e1 := mul_bd (a := s) (A := 500) (b := y) (B := 20) (by omega) (by omega) (by omega) (by omega)
        obtain ⟨e3, e4⟩ := e1
        have H0 := Lib.hid g0
        clear g0
        have H1 := Lib.hid g1
        clear g1
        go_enter Tryd.func33, Tryd.ntmps33
        go_wp2_with fail
        refine (moGood_any _ _ _).mono ?_
        rintro e w1 ⟨rfl, hb⟩
        have hs : w.heap.size + 1 ≤ w1.heap.size := by have := hb.size; (try simp at this); omega
        have c0_0 : w1.cell? ⟨w.heap.size, 0, none⟩ = some (.int .i64 x) := (hb.cell (by simp; try omega)).trans (by simp)
        have c0_1 : w1.cell? ⟨w.heap.size, 1, none⟩ = some (.int .i64 y) := (hb.cell (by simp; try omega)).trans (by simp)
        have Bt : Below w.heap.size w w1 := ((Below.refl _ _).alloc (Nat.le_refl _) _).trans (hb.mono (by simp; try omega))
        clear hb
        rw [H0.out]
        go_wp2_with fail
        refine (l1In_any _ _ _ _).mono ?_
        rintro e w' ⟨rfl, rfl⟩
        rw [H1.out]
        go_wp2_with fail
        refine (moLow_any (s * y) (x - s) _ (by omega) (by omega) (by omega) (by omega)).mono ?_
        rintro e w2 ⟨rfl, kk, hw⟩
        have hb := drew_below hw
        clear hw kk
        replace c0_0 := (hb.cell (p := ⟨w.heap.size, 0, none⟩) (by show w.heap.size < w1.heap.size; omega)).trans c0_0
        replace c0_1 := (hb.cell (p := ⟨w.heap.size, 1, none⟩) (by show w.heap.size < w1.heap.size; omega)).trans c0_1
        replace Bt := Bt.trans (hb.mono (by omega))
        replace hs : w.heap.size + 1 ≤ w2.heap.size := by have := hb.size; omega
        clear hb
        go_wp2_with fail
        go_ret3
        exact ⟨rfl, Bt⟩

set_option maxHeartbeats 1000000 in
theorem implPaceForSteps_any (x y s : Int) (w : World) :
    Calls Tryd.prog 23 #[.agg #[.int .i64 x, .int .i64 y], .int .i64 s] w fun e w' => e = .returned (.tuple #[.int .i64 (frN (paceV x y s) (s * y) (x - s)), .int .i64 (frD (paceV x y s) (s * y) (x - s)), .bool (paceV x y s)]) ∧ Below w.heap.size w w' := by
  cases g0 : movB x y
  · have hV : paceV x y s = false := by simp [paceV, g0]
    rw [hV, frN_no, frD_no]
    clear hV
    have H0 := Lib.hid g0
    clear g0
    go_enter Tryd.func23, Tryd.ntmps23
    go_wp2_with fail
    refine (impMov_any _ _ _).mono ?_
    rintro e w1 ⟨rfl, hb⟩
    have hs : w.heap.size + 1 ≤ w1.heap.size := by have := hb.size; (try simp at this); omega
    have c0_0 : w1.cell? ⟨w.heap.size, 0, none⟩ = some (.int .i64 x) := (hb.cell (by simp; try omega)).trans (by simp)
    have c0_1 : w1.cell? ⟨w.heap.size, 1, none⟩ = some (.int .i64 y) := (hb.cell (by simp; try omega)).trans (by simp)
    have Bt : Below w.heap.size w w1 := ((Below.refl _ _).alloc (Nat.le_refl _) _).trans (hb.mono (by simp; try omega))
    clear hb
    rw [H0.out]
    go_wp2_with fail
    go_ret3
    exact ⟨rfl, Bt⟩
  · have b0 := movB_le g0
    by_cases g1 : y = 0
    · have hV : paceV x y s = false := by simp [paceV, g1]
      rw [hV, frN_no, frD_no]
      clear hV
      have H0 := Lib.hid g0
      clear g0
      have hy0 : y ≤ 0 := by omega
      clear g1
      go_enter Tryd.func23, Tryd.ntmps23
      go_wp2_with fail
      refine (impMov_any _ _ _).mono ?_
      rintro e w1 ⟨rfl, hb⟩
      have hs : w.heap.size + 1 ≤ w1.heap.size := by have := hb.size; (try simp at this); omega
      have c0_0 : w1.cell? ⟨w.heap.size, 0, none⟩ = some (.int .i64 x) := (hb.cell (by simp; try omega)).trans (by simp)
      have c0_1 : w1.cell? ⟨w.heap.size, 1, none⟩ = some (.int .i64 y) := (hb.cell (by simp; try omega)).trans (by simp)
      have Bt : Below w.heap.size w w1 := ((Below.refl _ _).alloc (Nat.le_refl _) _).trans (hb.mono (by simp; try omega))
      clear hb
      rw [H0.out]
      go_wp2_with fail
      go_ret3
      exact ⟨rfl, Bt⟩
    · cases g2 : inB s 0 (x - 1)
      · have hV : paceV x y s = false := by simp [paceV, g2]
        rw [hV, frN_no, frD_no]
        clear hV
        have H0 := Lib.hid g0
        clear g0
        have H2 := Lib.hid g2
        clear g2
        go_enter Tryd.func23, Tryd.ntmps23
        go_wp2_with fail
        refine (impMov_any _ _ _).mono ?_
        rintro e w1 ⟨rfl, hb⟩
        have hs : w.heap.size + 1 ≤ w1.heap.size := by have := hb.size; (try simp at this); omega
        have c0_0 : w1.cell? ⟨w.heap.size, 0, none⟩ = some (.int .i64 x) := (hb.cell (by simp; try omega)).trans (by simp)
        have c0_1 : w1.cell? ⟨w.heap.size, 1, none⟩ = some (.int .i64 y) := (hb.cell (by simp; try omega)).trans (by simp)
        have Bt : Below w.heap.size w w1 := ((Below.refl _ _).alloc (Nat.le_refl _) _).trans (hb.mono (by simp; try omega))
        clear hb
        rw [H0.out]
        go_wp2_with fail
        refine (isWithin_any _ _ _ _).mono ?_
        rintro e w' ⟨rfl, rfl⟩
        rw [H2.out]
        go_wp2_with fail
        go_ret3
        exact ⟨rfl, Bt⟩
      · have b2 := inB_le g2
        rw [show paceV x y s = true by simp [paceV, g0, g1, g2], frN_yes, frD_yes]
        have e1 := mul_bd (a := s) (A := 500) (b := y) (B := 20) (by omega) (by omega) (by omega) (by omega)
        obtain ⟨e3, e4⟩ := e1
        have H0 := Lib.hid g0
        clear g0
        have H2 := Lib.hid g2
        clear g2
        go_enter Tryd.func23, Tryd.ntmps23
        go_wp2_with fail
        refine (impMov_any _ _ _).mono ?_
        rintro e w1 ⟨rfl, hb⟩
        have hs : w.heap.size + 1 ≤ w1.heap.size := by have := hb.size; (try simp at this); omega
        have c0_0 : w1.cell? ⟨w.heap.size, 0, none⟩ = some (.int .i64 x) := (hb.cell (by simp; try omega)).trans (by simp)
        have c0_1 : w1.cell? ⟨w.heap.size, 1, none⟩ = some (.int .i64 y) := (hb.cell (by simp; try omega)).trans (by simp)
        have Bt : Below w.heap.size w w1 := ((Below.refl _ _).alloc (Nat.le_refl _) _).trans (hb.mono (by simp; try omega))
        clear hb
        rw [H0.out]
        go_wp2_with fail
        refine (isWithin_any _ _ _ _).mono ?_
        rintro e w' ⟨rfl, rfl⟩
        rw [H2.out]
        go_wp2_with fail
        refine (lowest_any (s * y) (x - s) _ (by omega) (by omega) (by omega) (by omega)).mono ?_
        rintro e w2 ⟨rfl, kk, hw⟩
        have hb := drew_below hw
        clear hw kk
        replace c0_0 := (hb.cell (p := ⟨w.heap.size, 0, none⟩) (by show w.heap.size < w1.heap.size; omega)).trans c0_0
        replace c0_1 := (hb.cell (p := ⟨w.heap.size, 1, none⟩) (by show w.heap.size < w1.heap.size; omega)).trans c0_1
        replace Bt := Bt.trans (hb.mono (by omega))
        replace hs : w.heap.size + 1 ≤ w2.heap.size := by have := hb.size; omega
        clear hb
        go_wp2_with fail
        go_ret3
        exact ⟨rfl, Bt⟩


end Go.Proofs.YthcoipoihieggaaDoor
