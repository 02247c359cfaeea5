/- Contracts: spirals: what is one; the model. -/
import Derived.Test.YtomjebelgnecfaaGSpec
import Derived.Test.YtomjebelgnecfaaGGcd
import Derived.Test.YtomjebelgnecfaaGLeast
import Derived.Test.YtomjebelgnecfaaGStruct
import Derived.Test.YtomjebelgnecfaaWK
import Derived.Test.YtomjebelgnecfaaMovB
namespace Go.Proofs.Ytomjebelgnecfaa
open Go.RowKit

def orP (v : Bool) (a : Int) : Int := if v then a else 0
theorem orP_no (a : Int) : orP false a = 0 := rfl
theorem orP_yes (a : Int) : orP true a = a := rfl
def spiB (a b c : Int) : Bool := inB a 1 400 && (inB b 3 60 && inB c 1 300)
theorem spiB_le {a b c : Int} (h : spiB a b c = true) : 1 ≤ a ∧ a ≤ 400 ∧ 3 ≤ b ∧ b ≤ 60 ∧ 1 ≤ c ∧ c ≤ 300 := by
  simp only [spiB, Bool.and_eq_true] at h
  have h1 := inB_le h.1
  have h2 := inB_le h.2.1
  have h3 := inB_le h.2.2
  omega
def stepB (a b c n : Int) : Bool := spiB a b c && inB n 1 a
theorem stepB_le {a b c n : Int} (h : stepB a b c n = true) : (1 ≤ a ∧ a ≤ 400 ∧ 3 ≤ b ∧ b ≤ 60 ∧ 1 ≤ c ∧ c ≤ 300) ∧ 1 ≤ n ∧ n ≤ a := by
  simp only [stepB, Bool.and_eq_true] at h
  exact ⟨spiB_le h.1, inB_le h.2⟩
theorem stepB_spi {a b c n : Int} (h : stepB a b c n = true) : spiB a b c = true := by
  simp only [stepB, Bool.and_eq_true] at h; exact h.1
def everyB (a b c n : Int) : Bool := spiB a b c && inB n 1 400
theorem everyB_le {a b c n : Int} (h : everyB a b c n = true) : (1 ≤ a ∧ a ≤ 400 ∧ 3 ≤ b ∧ b ≤ 60 ∧ 1 ≤ c ∧ c ≤ 300) ∧ 1 ≤ n ∧ n ≤ 400 := by
  simp only [everyB, Bool.and_eq_true] at h
  exact ⟨spiB_le h.1, inB_le h.2⟩
/-- the distance of two numbers' -/
def absI (n : Int) : Int := if -n < n then n else -n
theorem absI_eq (n : Int) : absI n = (n.natAbs : Int) := by unfold absI; split <;> omega
def mostI (a b : Int) : Int := if b < a then a else b

theorem l1Most_any (a b : Int) (w : World) :
    Calls Try.prog 57 #[.int .i64 a, .int .i64 b] w fun e w' => e = .returned (.int .i64 (mostI a b)) ∧ w = w' := by
  by_cases h : b < a
  · rw [show mostI a b = a from if_pos h]
    go_enter Try.func57, Try.ntmps57
    go_wp2
    go_ret
    exact ⟨rfl, rfl⟩
  · rw [show mostI a b = b from if_neg h]
    go_enter Try.func57, Try.ntmps57
    go_wp2
    go_ret
    exact ⟨rfl, rfl⟩

theorem l1Abs_any (n : Int) (w : World) (h0 : -1000000000 ≤ n) (h1 : n ≤ 1000000000) :
    Calls Try.prog 46 #[.int .i64 n] w fun e w' => e = .returned (.int .i64 (absI n)) ∧ w = w' := by
  have HA := Lib.hid (show mostI n (-n) = absI n from rfl)
  go_enter Try.func46, Try.ntmps46
  go_wp2_with fail
  refine (l1Most_any _ _ _).mono ?_
  rintro e w' ⟨rfl, rfl⟩
  rw [HA.out]
  go_wp2_with fail
  go_ret
  exact ⟨rfl, rfl⟩


set_option maxHeartbeats 400000 in
theorem spGood_any (a b c : Int) (w : World) :
    Calls Try.prog 36 #[.agg #[.int .i64 a, .int .i64 b, .int .i64 c]] w fun e w' => e = .returned (.bool (spiB a b c)) ∧ Below w.heap.size w w' := by
  cases g0 : inB a 1 400
  · have hV : spiB a b c = false := by simp [spiB, g0]
    rw [hV]
    clear hV
    have H0 := Lib.hid g0
    clear g0
    go_enter Try.func36, Try.ntmps36
    go_wp2_with fail
    refine (l1In_any _ _ _ _).mono ?_
    rintro e w' ⟨rfl, rfl⟩
    rw [H0.out]
    go_wp2_with fail
    go_ret
    exact ⟨rfl, (Below.refl _ _).alloc (Nat.le_refl _) _⟩
  · cases g1 : inB b 3 60
    · have hV : spiB a b c = false := by simp [spiB, g1]
      rw [hV]
      clear hV
      have H0 := Lib.hid g0
      clear g0
      have H1 := Lib.hid g1
      clear g1
      go_enter Try.func36, Try.ntmps36
      go_wp2_with fail
      refine (l1In_any _ _ _ _).mono ?_
      rintro e w' ⟨rfl, rfl⟩
      rw [H0.out]
      go_wp2_with fail
      refine (l1In_any _ _ _ _).mono ?_
      rintro e w' ⟨rfl, rfl⟩
      rw [H1.out]
      go_wp2_with fail
      go_ret
      exact ⟨rfl, (Below.refl _ _).alloc (Nat.le_refl _) _⟩
    · cases g2 : inB c 1 300
      · have hV : spiB a b c = false := by simp [spiB, g2]
        rw [hV]
        clear hV
        have H0 := Lib.hid g0
        clear g0
        have H1 := Lib.hid g1
        clear g1
        have H2 := Lib.hid g2
        clear g2
        go_enter Try.func36, Try.ntmps36
        go_wp2_with fail
        refine (l1In_any _ _ _ _).mono ?_
        rintro e w' ⟨rfl, rfl⟩
        rw [H0.out]
        go_wp2_with fail
        refine (l1In_any _ _ _ _).mono ?_
        rintro e w' ⟨rfl, rfl⟩
        rw [H1.out]
        go_wp2_with fail
        refine (l1In_any _ _ _ _).mono ?_
        rintro e w' ⟨rfl, rfl⟩
        rw [H2.out]
        go_wp2_with fail
        go_ret
        exact ⟨rfl, (Below.refl _ _).alloc (Nat.le_refl _) _⟩
      · rw [show spiB a b c = true by simp [spiB, g0, g1, g2]]
        have H0 := Lib.hid g0
        clear g0
        have H1 := Lib.hid g1
        clear g1
        have H2 := Lib.hid g2
        clear g2
        go_enter Try.func36, Try.ntmps36
        go_wp2_with fail
        refine (l1In_any _ _ _ _).mono ?_
        rintro e w' ⟨rfl, rfl⟩
        rw [H0.out]
        go_wp2_with fail
        refine (l1In_any _ _ _ _).mono ?_
        rintro e w' ⟨rfl, rfl⟩
        rw [H1.out]
        go_wp2_with fail
        refine (l1In_any _ _ _ _).mono ?_
        rintro e w' ⟨rfl, rfl⟩
        rw [H2.out]
        go_wp2_with fail
        go_ret
        exact ⟨rfl, (Below.refl _ _).alloc (Nat.le_refl _) _⟩


set_option maxHeartbeats 400000 in
theorem spStep_any (a b c n : Int) (w : World) :
    Calls Try.prog 28 #[.agg #[.int .i64 a, .int .i64 b, .int .i64 c], .int .i64 n] w fun e w' => e = .returned (.bool (stepB a b c n)) ∧ Below w.heap.size w w' := by
  cases g0 : spiB a b c
  · have hV : stepB a b c n = false := by simp [stepB, g0]
    rw [hV]
    clear hV
    have H0 := Lib.hid g0
    clear g0
    go_enter Try.func28, Try.ntmps28
    go_wp2_with fail
    refine (spGood_any _ _ _ _).mono ?_
    rintro e w1 ⟨rfl, hb⟩
    have hs : w.heap.size + 1 ≤ w1.heap.size := by have := hb.size; (try simp at this); omega
    have c0_0 : w1.cell? ⟨w.heap.size, 0, none⟩ = some (.int .i64 a) := (hb.cell (by simp; try omega)).trans (by simp)
    have c0_1 : w1.cell? ⟨w.heap.size, 1, none⟩ = some (.int .i64 b) := (hb.cell (by simp; try omega)).trans (by simp)
    have c0_2 : w1.cell? ⟨w.heap.size, 2, none⟩ = some (.int .i64 c) := (hb.cell (by simp; try omega)).trans (by simp)
    have Bt : Below w.heap.size w w1 := ((Below.refl _ _).alloc (Nat.le_refl _) _).trans (hb.mono (by simp; try omega))
    clear hb
    rw [H0.out]
    go_wp2_with fail
    go_ret
    exact ⟨rfl, Bt⟩
  · have b0 := spiB_le g0
    cases g1 : inB n 1 a
    · have hV : stepB a b c n = false := by simp [stepB, g1]
      rw [hV]
      clear hV
      have H0 := Lib.hid g0
      clear g0
      have H1 := Lib.hid g1
      clear g1
      go_enter Try.func28, Try.ntmps28
      go_wp2_with fail
      refine (spGood_any _ _ _ _).mono ?_
      rintro e w1 ⟨rfl, hb⟩
      have hs : w.heap.size + 1 ≤ w1.heap.size := by have := hb.size; (try simp at this); omega
      have c0_0 : w1.cell? ⟨w.heap.size, 0, none⟩ = some (.int .i64 a) := (hb.cell (by simp; try omega)).trans (by simp)
      have c0_1 : w1.cell? ⟨w.heap.size, 1, none⟩ = some (.int .i64 b) := (hb.cell (by simp; try omega)).trans (by simp)
      have c0_2 : w1.cell? ⟨w.heap.size, 2, none⟩ = some (.int .i64 c) := (hb.cell (by simp; try omega)).trans (by simp)
      have Bt : Below w.heap.size w w1 := ((Below.refl _ _).alloc (Nat.le_refl _) _).trans (hb.mono (by simp; try omega))
      clear hb
      rw [H0.out]
      go_wp2_with fail
      refine (l1In_any _ _ _ _).mono ?_
      rintro e w' ⟨rfl, rfl⟩
      rw [H1.out]
      go_wp2_with fail
      go_ret
      exact ⟨rfl, Bt⟩
    · rw [show stepB a b c n = true by simp [stepB, g0, g1]]
      have H0 := Lib.hid g0
      clear g0
      have H1 := Lib.hid g1
      clear g1
      go_enter Try.func28, Try.ntmps28
      go_wp2_with fail
      refine (spGood_any _ _ _ _).mono ?_
      rintro e w1 ⟨rfl, hb⟩
      have hs : w.heap.size + 1 ≤ w1.heap.size := by have := hb.size; (try simp at this); omega
      have c0_0 : w1.cell? ⟨w.heap.size, 0, none⟩ = some (.int .i64 a) := (hb.cell (by simp; try omega)).trans (by simp)
      have c0_1 : w1.cell? ⟨w.heap.size, 1, none⟩ = some (.int .i64 b) := (hb.cell (by simp; try omega)).trans (by simp)
      have c0_2 : w1.cell? ⟨w.heap.size, 2, none⟩ = some (.int .i64 c) := (hb.cell (by simp; try omega)).trans (by simp)
      have Bt : Below w.heap.size w w1 := ((Below.refl _ _).alloc (Nat.le_refl _) _).trans (hb.mono (by simp; try omega))
      clear hb
      rw [H0.out]
      go_wp2_with fail
      refine (l1In_any _ _ _ _).mono ?_
      rintro e w' ⟨rfl, rfl⟩
      rw [H1.out]
      go_wp2_with fail
      go_ret
      exact ⟨rfl, Bt⟩

set_option maxHeartbeats 400000 in
theorem spEvery_any (a b c n : Int) (w : World) :
    Calls Try.prog 42 #[.agg #[.int .i64 a, .int .i64 b, .int .i64 c], .int .i64 n] w fun e w' => e = .returned (.bool (everyB a b c n)) ∧ Below w.heap.size w w' := by
  cases g0 : spiB a b c
  · have hV : everyB a b c n = false := by simp [everyB, g0]
    rw [hV]
    clear hV
    have H0 := Lib.hid g0
    clear g0
    go_enter Try.func42, Try.ntmps42
    go_wp2_with fail
    refine (spGood_any _ _ _ _).mono ?_
    rintro e w1 ⟨rfl, hb⟩
    have hs : w.heap.size + 1 ≤ w1.heap.size := by have := hb.size; (try simp at this); omega
    have c0_0 : w1.cell? ⟨w.heap.size, 0, none⟩ = some (.int .i64 a) := (hb.cell (by simp; try omega)).trans (by simp)
    have c0_1 : w1.cell? ⟨w.heap.size, 1, none⟩ = some (.int .i64 b) := (hb.cell (by simp; try omega)).trans (by simp)
    have c0_2 : w1.cell? ⟨w.heap.size, 2, none⟩ = some (.int .i64 c) := (hb.cell (by simp; try omega)).trans (by simp)
    have Bt : Below w.heap.size w w1 := ((Below.refl _ _).alloc (Nat.le_refl _) _).trans (hb.mono (by simp; try omega))
    clear hb
    rw [H0.out]
    go_wp2_with fail
    go_ret
    exact ⟨rfl, Bt⟩
  · have b0 := spiB_le g0
    cases g1 : inB n 1 400
    · have hV : everyB a b c n = false := by simp [everyB, g1]
      rw [hV]
      clear hV
      have H0 := Lib.hid g0
      clear g0
      have H1 := Lib.hid g1
      clear g1
      go_enter Try.func42, Try.ntmps42
      go_wp2_with fail
      refine (spGood_any _ _ _ _).mono ?_
      rintro e w1 ⟨rfl, hb⟩
      have hs : w.heap.size + 1 ≤ w1.heap.size := by have := hb.size; (try simp at this); omega
      have c0_0 : w1.cell? ⟨w.heap.size, 0, none⟩ = some (.int .i64 a) := (hb.cell (by simp; try omega)).trans (by simp)
      have c0_1 : w1.cell? ⟨w.heap.size, 1, none⟩ = some (.int .i64 b) := (hb.cell (by simp; try omega)).trans (by simp)
      have c0_2 : w1.cell? ⟨w.heap.size, 2, none⟩ = some (.int .i64 c) := (hb.cell (by simp; try omega)).trans (by simp)
      have Bt : Below w.heap.size w w1 := ((Below.refl _ _).alloc (Nat.le_refl _) _).trans (hb.mono (by simp; try omega))
      clear hb
      rw [H0.out]
      go_wp2_with fail
      refine (l1In_any _ _ _ _).mono ?_
      rintro e w' ⟨rfl, rfl⟩
      rw [H1.out]
      go_wp2_with fail
      go_ret
      exact ⟨rfl, Bt⟩
    · rw [show everyB a b c n = true by simp [everyB, g0, g1]]
      have H0 := Lib.hid g0
      clear g0
      have H1 := Lib.hid g1
      clear g1
      go_enter Try.func42, Try.ntmps42
      go_wp2_with fail
      refine (spGood_any _ _ _ _).mono ?_
      rintro e w1 ⟨rfl, hb⟩
      have hs : w.heap.size + 1 ≤ w1.heap.size := by have := hb.size; (try simp at this); omega
      have c0_0 : w1.cell? ⟨w.heap.size, 0, none⟩ = some (.int .i64 a) := (hb.cell (by simp; try omega)).trans (by simp)
      have c0_1 : w1.cell? ⟨w.heap.size, 1, none⟩ = some (.int .i64 b) := (hb.cell (by simp; try omega)).trans (by simp)
      have c0_2 : w1.cell? ⟨w.heap.size, 2, none⟩ = some (.int .i64 c) := (hb.cell (by simp; try omega)).trans (by simp)
      have Bt : Below w.heap.size w w1 := ((Below.refl _ _).alloc (Nat.le_refl _) _).trans (hb.mono (by simp; try omega))
      clear hb
      rw [H0.out]
      go_wp2_with fail
      refine (l1In_any _ _ _ _).mono ?_
      rintro e w' ⟨rfl, rfl⟩
      rw [H1.out]
      go_wp2_with fail
      go_ret
      exact ⟨rfl, Bt⟩

set_option maxHeartbeats 400000 in
theorem isSpiralStep_any (n : Int) (w : World) :
    Calls Try.prog 43 #[.int .i64 n] w fun e w' => e = .returned (.bool (inB n 1 400)) ∧ w = w' := by
  go_enter Try.func43, Try.ntmps43
  go_wp2_with fail
  refine (isWithin_any _ _ _ _).mono ?_
  rintro e w' ⟨rfl, rfl⟩
  go_wp2_with fail
  go_ret
  exact ⟨rfl, rfl⟩

set_option maxHeartbeats 400000 in
theorem isRound_any (n : Int) (w : World) :
    Calls Try.prog 53 #[.int .i64 n] w fun e w' => e = .returned (.bool (inB n 3 60)) ∧ w = w' := by
  go_enter Try.func53, Try.ntmps53
  go_wp2_with fail
  refine (isWithin_any _ _ _ _).mono ?_
  rintro e w' ⟨rfl, rfl⟩
  go_wp2_with fail
  go_ret
  exact ⟨rfl, rfl⟩

set_option maxHeartbeats 400000 in
theorem isSpiralRise_any (n : Int) (w : World) :
    Calls Try.prog 54 #[.int .i64 n] w fun e w' => e = .returned (.bool (inB n 1 300)) ∧ w = w' := by
  go_enter Try.func54, Try.ntmps54
  go_wp2_with fail
  refine (isWithin_any _ _ _ _).mono ?_
  rintro e w' ⟨rfl, rfl⟩
  go_wp2_with fail
  go_ret
  exact ⟨rfl, rfl⟩

set_option maxHeartbeats 400000 in
theorem isShine_any (n : Int) (w : World) :
    Calls Try.prog 47 #[.int .i64 n] w fun e w' => e = .returned (.bool (inB n 0 400)) ∧ w = w' := by
  go_enter Try.func47, Try.ntmps47
  go_wp2_with fail
  refine (isWithin_any _ _ _ _).mono ?_
  rintro e w' ⟨rfl, rfl⟩
  go_wp2_with fail
  go_ret
  exact ⟨rfl, rfl⟩

set_option maxHeartbeats 400000 in
theorem impSpi_any (a b c : Int) (w : World) :
    Calls Try.prog 38 #[.agg #[.int .i64 a, .int .i64 b, .int .i64 c]] w fun e w' => e = .returned (.bool (spiB a b c)) ∧ Below w.heap.size w w' := by
  cases g0 : inB a 1 400
  · have hV : spiB a b c = false := by simp [spiB, g0]
    rw [hV]
    clear hV
    have H0 := Lib.hid g0
    clear g0
    go_enter Try.func38, Try.ntmps38
    go_wp2_with fail
    refine (isSpiralStep_any _ _).mono ?_
    rintro e w' ⟨rfl, rfl⟩
    rw [H0.out]
    go_wp2_with fail
    go_ret
    exact ⟨rfl, (Below.refl _ _).alloc (Nat.le_refl _) _⟩
  · cases g1 : inB b 3 60
    · have hV : spiB a b c = false := by simp [spiB, g1]
      rw [hV]
      clear hV
      have H0 := Lib.hid g0
      clear g0
      have H1 := Lib.hid g1
      clear g1
      go_enter Try.func38, Try.ntmps38
      go_wp2_with fail
      refine (isSpiralStep_any _ _).mono ?_
      rintro e w' ⟨rfl, rfl⟩
      rw [H0.out]
      go_wp2_with fail
      refine (isRound_any _ _).mono ?_
      rintro e w' ⟨rfl, rfl⟩
      rw [H1.out]
      go_wp2_with fail
      go_ret
      exact ⟨rfl, (Below.refl _ _).alloc (Nat.le_refl _) _⟩
    · cases g2 : inB c 1 300
      · have hV : spiB a b c = false := by simp [spiB, g2]
        rw [hV]
        clear hV
        have H0 := Lib.hid g0
        clear g0
        have H1 := Lib.hid g1
        clear g1
        have H2 := Lib.hid g2
        clear g2
        go_enter Try.func38, Try.ntmps38
        go_wp2_with fail
        refine (isSpiralStep_any _ _).mono ?_
        rintro e w' ⟨rfl, rfl⟩
        rw [H0.out]
        go_wp2_with fail
        refine (isRound_any _ _).mono ?_
        rintro e w' ⟨rfl, rfl⟩
        rw [H1.out]
        go_wp2_with fail
        refine (isSpiralRise_any _ _).mono ?_
        rintro e w' ⟨rfl, rfl⟩
        rw [H2.out]
        go_wp2_with fail
        go_ret
        exact ⟨rfl, (Below.refl _ _).alloc (Nat.le_refl _) _⟩
      · rw [show spiB a b c = true by simp [spiB, g0, g1, g2]]
        have H0 := Lib.hid g0
        clear g0
        have H1 := Lib.hid g1
        clear g1
        have H2 := Lib.hid g2
        clear g2
        go_enter Try.func38, Try.ntmps38
        go_wp2_with fail
        refine (isSpiralStep_any _ _).mono ?_
        rintro e w' ⟨rfl, rfl⟩
        rw [H0.out]
        go_wp2_with fail
        refine (isRound_any _ _).mono ?_
        rintro e w' ⟨rfl, rfl⟩
        rw [H1.out]
        go_wp2_with fail
        refine (isSpiralRise_any _ _).mono ?_
        rintro e w' ⟨rfl, rfl⟩
        rw [H2.out]
        go_wp2_with fail
        go_ret
        exact ⟨rfl, (Below.refl _ _).alloc (Nat.le_refl _) _⟩

set_option maxHeartbeats 400000 in
theorem hasStep_any (a b c n : Int) (w : World) :
    Calls Try.prog 29 #[.agg #[.int .i64 a, .int .i64 b, .int .i64 c], .int .i64 n] w fun e w' => e = .returned (.bool (stepB a b c n)) ∧ Below w.heap.size w w' := by
  cases g0 : spiB a b c
  · have hV : stepB a b c n = false := by simp [stepB, g0]
    rw [hV]
    clear hV
    have H0 := Lib.hid g0
    clear g0
    go_enter Try.func29, Try.ntmps29
    go_wp2_with fail
    refine (impSpi_any _ _ _ _).mono ?_
    rintro e w1 ⟨rfl, hb⟩
    have hs : w.heap.size + 1 ≤ w1.heap.size := by have := hb.size; (try simp at this); omega
    have c0_0 : w1.cell? ⟨w.heap.size, 0, none⟩ = some (.int .i64 a) := (hb.cell (by simp; try omega)).trans (by simp)
    have c0_1 : w1.cell? ⟨w.heap.size, 1, none⟩ = some (.int .i64 b) := (hb.cell (by simp; try omega)).trans (by simp)
    have c0_2 : w1.cell? ⟨w.heap.size, 2, none⟩ = some (.int .i64 c) := (hb.cell (by simp; try omega)).trans (by simp)
    have Bt : Below w.heap.size w w1 := ((Below.refl _ _).alloc (Nat.le_refl _) _).trans (hb.mono (by simp; try omega))
    clear hb
    rw [H0.out]
    go_wp2_with fail
    go_ret
    exact ⟨rfl, Bt⟩
  · have b0 := spiB_le g0
    cases g1 : inB n 1 a
    · have hV : stepB a b c n = false := by simp [stepB, g1]
      rw [hV]
      clear hV
      have H0 := Lib.hid g0
      clear g0
      have H1 := Lib.hid g1
      clear g1
      go_enter Try.func29, Try.ntmps29
      go_wp2_with fail
      refine (impSpi_any _ _ _ _).mono ?_
      rintro e w1 ⟨rfl, hb⟩
      have hs : w.heap.size + 1 ≤ w1.heap.size := by have := hb.size; (try simp at this); omega
      have c0_0 : w1.cell? ⟨w.heap.size, 0, none⟩ = some (.int .i64 a) := (hb.cell (by simp; try omega)).trans (by simp)
      have c0_1 : w1.cell? ⟨w.heap.size, 1, none⟩ = some (.int .i64 b) := (hb.cell (by simp; try omega)).trans (by simp)
      have c0_2 : w1.cell? ⟨w.heap.size, 2, none⟩ = some (.int .i64 c) := (hb.cell (by simp; try omega)).trans (by simp)
      have Bt : Below w.heap.size w w1 := ((Below.refl _ _).alloc (Nat.le_refl _) _).trans (hb.mono (by simp; try omega))
      clear hb
      rw [H0.out]
      go_wp2_with fail
      refine (isWithin_any _ _ _ _).mono ?_
      rintro e w' ⟨rfl, rfl⟩
      rw [H1.out]
      go_wp2_with fail
      go_ret
      exact ⟨rfl, Bt⟩
    · rw [show stepB a b c n = true by simp [stepB, g0, g1]]
      have H0 := Lib.hid g0
      clear g0
      have H1 := Lib.hid g1
      clear g1
      go_enter Try.func29, Try.ntmps29
      go_wp2_with fail
      refine (impSpi_any _ _ _ _).mono ?_
      rintro e w1 ⟨rfl, hb⟩
      have hs : w.heap.size + 1 ≤ w1.heap.size := by have := hb.size; (try simp at this); omega
      have c0_0 : w1.cell? ⟨w.heap.size, 0, none⟩ = some (.int .i64 a) := (hb.cell (by simp; try omega)).trans (by simp)
      have c0_1 : w1.cell? ⟨w.heap.size, 1, none⟩ = some (.int .i64 b) := (hb.cell (by simp; try omega)).trans (by simp)
      have c0_2 : w1.cell? ⟨w.heap.size, 2, none⟩ = some (.int .i64 c) := (hb.cell (by simp; try omega)).trans (by simp)
      have Bt : Below w.heap.size w w1 := ((Below.refl _ _).alloc (Nat.le_refl _) _).trans (hb.mono (by simp; try omega))
      clear hb
      rw [H0.out]
      go_wp2_with fail
      refine (isWithin_any _ _ _ _).mono ?_
      rintro e w' ⟨rfl, rfl⟩
      rw [H1.out]
      go_wp2_with fail
      go_ret
      exact ⟨rfl, Bt⟩


end Go.Proofs.Ytomjebelgnecfaa
