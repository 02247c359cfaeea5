/- Contracts: spirals: what is one; the model. -/
import Derived.Test.YtenhlppijpmdgaaDoorGSpec
import Derived.Test.YtenhlppijpmdgaaDoorGGcd
import Derived.Test.YtenhlppijpmdgaaDoorGLeast
import Derived.Test.YtenhlppijpmdgaaDoorGStruct
import Derived.Test.YtenhlppijpmdgaaDoorWK
import Derived.Test.YtenhlppijpmdgaaDoorMovB
namespace Go.Proofs.YtenhlppijpmdgaaDoor
open Go.RowKit

def orP (v : Bool) (a : Int) : Int := if v then a else 0
theorem orP_no (a : Int) : orP false a = 0 := rfl
theorem orP_yes (a : Int) : orP true a = a := rfl
def spiB (a b c : Int) : Bool := inB a 1 400 && (inB b 3 60 && inB c 1 300)
theorem spiB_le {a b c : Int} (h : spiB a b c = true) : 1 ≤ a ∧ a ≤ 400 ∧ 3 ≤ b ∧ b ≤ 60 ∧ 1 ≤ c ∧ c ≤ 300 := by
  simp only [spiB, Bool.and_eq_true] at h
  have h1 := inB_le h.1
  have h2 := inB_le h.2.1
  have h3 := inB_le h.2.2
  omega
def stepB (a b c n : Int) : Bool := spiB a b c && inB n 1 a
theorem stepB_le {a b c n : Int} (h : stepB a b c n = true) : (1 ≤ a ∧ a ≤ 400 ∧ 3 ≤ b ∧ b ≤ 60 ∧ 1 ≤ c ∧ c ≤ 300) ∧ 1 ≤ n ∧ n ≤ a := by
  simp only [stepB, Bool.and_eq_true] at h
  exact ⟨spiB_le h.1, inB_le h.2⟩
theorem stepB_spi {a b c n : Int} (h : stepB a b c n = true) : spiB a b c = true := by
  simp only [stepB, Bool.and_eq_true] at h; exact h.1
def everyB (a b c n : Int) : Bool := spiB a b c && inB n 1 400
theorem everyB_le {a b c n : Int} (h : everyB a b c n = true) : (1 ≤ a ∧ a ≤ 400 ∧ 3 ≤ b ∧ b ≤ 60 ∧ 1 ≤ c ∧ c ≤ 300) ∧ 1 ≤ n ∧ n ≤ 400 := by
  simp only [everyB, Bool.and_eq_true] at h
  exact ⟨spiB_le h.1, inB_le h.2⟩
/-- the distance of two numbers' -/
def absI (n : Int) : Int := if -n < n then n else -n
theorem absI_eq (n : Int) : absI n = (n.natAbs : Int) := by unfold absI; split <;> omega
def mostI (a b : Int) : Int := if b < a then a else b




set_option maxHeartbeats 400000 in
theorem spGood_any (a b c : Int) (w : World) :
    Calls Tryd.prog 22 #[.agg #[.int .i64 a, .int .i64 b, .int .i64 c]] w fun e w' => e = .returned (.bool (spiB a b c)) ∧ Below w.heap.size w w' := by
  cases g0 : inB a 1 400
  · have hV : spiB a b c = false := by simp [spiB, g0]
    rw [hV]
    clear hV
    have H0 := Lib.hid g0
    clear g0
    go_enter Tryd.func22, Tryd.ntmps22
    go_wp2_with fail
    refine (l1In_any _ _ _ _).mono ?_
    rintro e w' ⟨rfl, rfl⟩
    rw [H0.out]
    go_wp2_with fail
    go_ret
    exact ⟨rfl, (Below.refl _ _).alloc (Nat.le_refl _) _⟩
  · cases g1 : inB b 3 60
    · have hV : spiB a b c = false := by simp [spiB, g1]
      rw [hV]
      clear hV
      have H0 := Lib.hid g0
      clear g0
      have H1 := Lib.hid g1
      clear g1
      go_enter Tryd.func22, Tryd.ntmps22
      go_wp2_with fail
      refine (l1In_any _ _ _ _).mono ?_
      rintro e w' ⟨rfl, rfl⟩
      rw [H0.out]
      go_wp2_with fail
      refine (l1In_any _ _ _ _).mono ?_
      rintro e w' ⟨rfl, rfl⟩
      rw [H1.out]
      go_wp2_with fail
      go_ret
      exact ⟨rfl, (Below.refl _ _).alloc (Nat.le_refl _) _⟩
    · cases g2 : inB c 1 300
      · have hV : spiB a b c = false := by simp [spiB, g2]
        rw [hV]
        clear hV
        have H0 := Lib.hid g0
        clear g0
        have H1 := Lib.hid g1
        clear g1
        have H2 := Lib.hid g2
        clear g2
        go_enter Tryd.func22, Tryd.ntmps22
        go_wp2_with fail
        refine (l1In_any _ _ _ _).mono ?_
        rintro e w' ⟨rfl, rfl⟩
        rw [H0.out]
        go_wp2_with fail
        refine (l1In_any _ _ _ _).mono ?_
        rintro e w' ⟨rfl, rfl⟩
        rw [H1.out]
        go_wp2_with fail
        refine (l1In_any _ _ _ _).mono ?_
        rintro e w' ⟨rfl, rfl⟩
        rw [H2.out]
        go_wp2_with fail
        go_ret
        exact ⟨rfl, (Below.refl _ _).alloc (Nat.le_refl _) _⟩
      · rw [show spiB a b c = true by simp [spiB, g0, g1, g2]]
        have H0 := Lib.hid g0
        clear g0
        have H1 := Lib.hid g1
        clear g1
        have H2 := Lib.hid g2
        clear g2
        go_enter Tryd.func22, Tryd.ntmps22
        go_wp2_with fail
        refine (l1In_any _ _ _ _).mono ?_
        rintro e w' ⟨rfl, rfl⟩
        rw [H0.out]
        go_wp2_with fail
        refine (l1In_any _ _ _ _).mono ?_
        rintro e w' ⟨rfl, rfl⟩
        rw [H1.out]
        go_wp2_with fail
        refine (l1In_any _ _ _ _).mono ?_
        rintro e w' ⟨rfl, rfl⟩
        rw [H2.out]
        go_wp2_with fail
        go_ret
        exact ⟨rfl, (Below.refl _ _).alloc (Nat.le_refl _) _⟩




set_option maxHeartbeats 400000 in
theorem isSpiralStep_any (n : Int) (w : World) :
    Calls Tryd.prog 41 #[.int .i64 n] w fun e w' => e = .returned (.bool (inB n 1 400)) ∧ w = w' := by
  go_enter Tryd.func41, Tryd.ntmps41
  go_wp2_with fail
  refine (isWithin_any _ _ _ _).mono ?_
  rintro e w' ⟨rfl, rfl⟩
  go_wp2_with fail
  go_ret
  exact ⟨rfl, rfl⟩

set_option maxHeartbeats 400000 in
theorem isRound_any (n : Int) (w : World) :
    Calls Tryd.prog 42 #[.int .i64 n] w fun e w' => e = .returned (.bool (inB n 3 60)) ∧ w = w' := by
  go_enter Tryd.func42, Tryd.ntmps42
  go_wp2_with fail
  refine (isWithin_any _ _ _ _).mono ?_
  rintro e w' ⟨rfl, rfl⟩
  go_wp2_with fail
  go_ret
  exact ⟨rfl, rfl⟩

set_option maxHeartbeats 400000 in
theorem isSpiralRise_any (n : Int) (w : World) :
    Calls Tryd.prog 43 #[.int .i64 n] w fun e w' => e = .returned (.bool (inB n 1 300)) ∧ w = w' := by
  go_enter Tryd.func43, Tryd.ntmps43
  go_wp2_with fail
  refine (isWithin_any _ _ _ _).mono ?_
  rintro e w' ⟨rfl, rfl⟩
  go_wp2_with fail
  go_ret
  exact ⟨rfl, rfl⟩


set_option maxHeartbeats 400000 in
theorem impSpi_any (a b c : Int) (w : World) :
    Calls Tryd.prog 24 #[.agg #[.int .i64 a, .int .i64 b, .int .i64 c]] w fun e w' => e = .returned (.bool (spiB a b c)) ∧ Below w.heap.size w w' := by
  cases g0 : inB a 1 400
  · have hV : spiB a b c = false := by simp [spiB, g0]
    rw [hV]
    clear hV
    have H0 := Lib.hid g0
    clear g0
    go_enter Tryd.func24, Tryd.ntmps24
    go_wp2_with fail
    refine (isSpiralStep_any _ _).mono ?_
    rintro e w' ⟨rfl, rfl⟩
    rw [H0.out]
    go_wp2_with fail
    go_ret
    exact ⟨rfl, (Below.refl _ _).alloc (Nat.le_refl _) _⟩
  · cases g1 : inB b 3 60
    · have hV : spiB a b c = false := by simp [spiB, g1]
      rw [hV]
      clear hV
      have H0 := Lib.hid g0
      clear g0
      have H1 := Lib.hid g1
      clear g1
      go_enter Tryd.func24, Tryd.ntmps24
      go_wp2_with fail
      refine (isSpiralStep_any _ _).mono ?_
      rintro e w' ⟨rfl, rfl⟩
      rw [H0.out]
      go_wp2_with fail
      refine (isRound_any _ _).mono ?_
      rintro e w' ⟨rfl, rfl⟩
      rw [H1.out]
      go_wp2_with fail
      go_ret
      exact ⟨rfl, (Below.refl _ _).alloc (Nat.le_refl _) _⟩
    · cases g2 : inB c 1 300
      · have hV : spiB a b c = false := by simp [spiB, g2]
        rw [hV]
        clear hV
        have H0 := Lib.hid g0
        clear g0
        have H1 := Lib.hid g1
        clear g1
        have H2 := Lib.hid g2
        clear g2
        go_enter Tryd.func24, Tryd.ntmps24
        go_wp2_with fail
        refine (isSpiralStep_any _ _).mono ?_
        rintro e w' ⟨rfl, rfl⟩
        rw [H0.out]
        go_wp2_with fail
        refine (isRound_any _ _).mono ?_
        rintro e w' ⟨rfl, rfl⟩
        rw [H1.out]
        go_wp2_with fail
        refine (isSpiralRise_any _ _).mono ?_
        rintro e w' ⟨rfl, rfl⟩
        rw [H2.out]
        go_wp2_with fail
        go_ret
        exact ⟨rfl, (Below.refl _ _).alloc (Nat.le_refl _) _⟩
      · rw [show spiB a b c = true by simp [spiB, g0, g1, g2]]
        have H0 := Lib.hid g0
        clear g0
        have H1 := Lib.hid g1
        clear g1
        have H2 := Lib.hid g2
        clear g2
        go_enter Tryd.func24, Tryd.ntmps24
        go_wp2_with fail
        refine (isSpiralStep_any _ _).mono ?_
        rintro e w' ⟨rfl, rfl⟩
        rw [H0.out]
        go_wp2_with fail
        refine (isRound_any _ _).mono ?_
        rintro e w' ⟨rfl, rfl⟩
        rw [H1.out]
        go_wp2_with fail
        refine (isSpiralRise_any _ _).mono ?_
        rintro e w' ⟨rfl, rfl⟩
        rw [H2.out]
        go_wp2_with fail
        go_ret
        exact ⟨rfl, (Below.refl _ _).alloc (Nat.le_refl _) _⟩



end Go.Proofs.YtenhlppijpmdgaaDoor
