/- Contracts: flights, on both sides: what is one. -/
import Derived.Test.YtfojcefbgdaelaaDoorMovB
import Derived.Test.YtfojcefbgdaelaaDoorWK
namespace Go.Proofs.YtfojcefbgdaelaaDoor
open Go.RowKit

def orI (v : Bool) (a : Int) : Int := if v then a else 0
theorem orI_no (a : Int) : orI false a = 0 := rfl
theorem orI_yes (a : Int) : orI true a = a := rfl
def fliB (a b c : Int) : Bool := inB a 1 100 && (inB b 1 250 && inB c 1 500)
theorem fliB_le {a b c : Int} (h : fliB a b c = true) : 1 ≤ a ∧ a ≤ 100 ∧ 1 ≤ b ∧ b ≤ 250 ∧ 1 ≤ c ∧ c ≤ 500 := by
  simp only [fliB, Bool.and_eq_true] at h
  have h1 := inB_le h.1
  have h2 := inB_le h.2.1
  have h3 := inB_le h.2.2
  omega
def highB (n : Int) : Bool := inB n 1 6000

set_option maxHeartbeats 400000 in
theorem isRisers_any (n : Int) (w : World) :
    Calls Tryd.prog 83 #[.int .i64 n] w fun e w' => e = .returned (.bool (inB n 1 100)) ∧ w = w' := by
  go_enter Tryd.func83, Tryd.ntmps83
  go_wp2_with fail
  refine (isWithin_any _ _ _ _).mono ?_
  rintro e w' ⟨rfl, rfl⟩
  go_wp2_with fail
  go_ret
  exact ⟨rfl, rfl⟩

set_option maxHeartbeats 400000 in
theorem isRise_any (n : Int) (w : World) :
    Calls Tryd.prog 84 #[.int .i64 n] w fun e w' => e = .returned (.bool (inB n 1 250)) ∧ w = w' := by
  go_enter Tryd.func84, Tryd.ntmps84
  go_wp2_with fail
  refine (isWithin_any _ _ _ _).mono ?_
  rintro e w' ⟨rfl, rfl⟩
  go_wp2_with fail
  go_ret
  exact ⟨rfl, rfl⟩

set_option maxHeartbeats 400000 in
theorem isTread_any (n : Int) (w : World) :
    Calls Tryd.prog 85 #[.int .i64 n] w fun e w' => e = .returned (.bool (inB n 1 500)) ∧ w = w' := by
  go_enter Tryd.func85, Tryd.ntmps85
  go_wp2_with fail
  refine (isWithin_any _ _ _ _).mono ?_
  rintro e w' ⟨rfl, rfl⟩
  go_wp2_with fail
  go_ret
  exact ⟨rfl, rfl⟩





set_option maxHeartbeats 400000 in
theorem riGood_any (a b c : Int) (w : World) :
    Calls Tryd.prog 57 #[.agg #[.int .i64 a, .int .i64 b, .int .i64 c]] w fun e w' => e = .returned (.bool (fliB a b c)) ∧ Below w.heap.size w w' := by
  cases g0 : inB a 1 100
  · have hV : fliB a b c = false := by simp [fliB, g0]
    rw [hV]
    clear hV
    have H0 := Lib.hid g0
    clear g0
    go_enter Tryd.func57, Tryd.ntmps57
    go_wp2_with fail
    refine (l1In_any _ _ _ _).mono ?_
    rintro e w' ⟨rfl, rfl⟩
    rw [H0.out]
    go_wp2_with fail
    go_ret
    exact ⟨rfl, (Below.refl _ _).alloc (Nat.le_refl _) _⟩
  · cases g1 : inB b 1 250
    · have hV : fliB a b c = false := by simp [fliB, g1]
      rw [hV]
      clear hV
      have H0 := Lib.hid g0
      clear g0
      have H1 := Lib.hid g1
      clear g1
      go_enter Tryd.func57, Tryd.ntmps57
      go_wp2_with fail
      refine (l1In_any _ _ _ _).mono ?_
      rintro e w' ⟨rfl, rfl⟩
      rw [H0.out]
      go_wp2_with fail
      refine (l1In_any _ _ _ _).mono ?_
      rintro e w' ⟨rfl, rfl⟩
      rw [H1.out]
      go_wp2_with fail
      go_ret
      exact ⟨rfl, (Below.refl _ _).alloc (Nat.le_refl _) _⟩
    · cases g2 : inB c 1 500
      · have hV : fliB a b c = false := by simp [fliB, g2]
        rw [hV]
        clear hV
        have H0 := Lib.hid g0
        clear g0
        have H1 := Lib.hid g1
        clear g1
        have H2 := Lib.hid g2
        clear g2
        go_enter Tryd.func57, Tryd.ntmps57
        go_wp2_with fail
        refine (l1In_any _ _ _ _).mono ?_
        rintro e w' ⟨rfl, rfl⟩
        rw [H0.out]
        go_wp2_with fail
        refine (l1In_any _ _ _ _).mono ?_
        rintro e w' ⟨rfl, rfl⟩
        rw [H1.out]
        go_wp2_with fail
        refine (l1In_any _ _ _ _).mono ?_
        rintro e w' ⟨rfl, rfl⟩
        rw [H2.out]
        go_wp2_with fail
        go_ret
        exact ⟨rfl, (Below.refl _ _).alloc (Nat.le_refl _) _⟩
      · rw [show fliB a b c = true by simp [fliB, g0, g1, g2]]
        have H0 := Lib.hid g0
        clear g0
        have H1 := Lib.hid g1
        clear g1
        have H2 := Lib.hid g2
        clear g2
        go_enter Tryd.func57, Tryd.ntmps57
        go_wp2_with fail
        refine (l1In_any _ _ _ _).mono ?_
        rintro e w' ⟨rfl, rfl⟩
        rw [H0.out]
        go_wp2_with fail
        refine (l1In_any _ _ _ _).mono ?_
        rintro e w' ⟨rfl, rfl⟩
        rw [H1.out]
        go_wp2_with fail
        refine (l1In_any _ _ _ _).mono ?_
        rintro e w' ⟨rfl, rfl⟩
        rw [H2.out]
        go_wp2_with fail
        go_ret
        exact ⟨rfl, (Below.refl _ _).alloc (Nat.le_refl _) _⟩

set_option maxHeartbeats 400000 in
theorem impFlight_any (a b c : Int) (w : World) :
    Calls Tryd.prog 59 #[.agg #[.int .i64 a, .int .i64 b, .int .i64 c]] w fun e w' => e = .returned (.bool (fliB a b c)) ∧ Below w.heap.size w w' := by
  cases g0 : inB a 1 100
  · have hV : fliB a b c = false := by simp [fliB, g0]
    rw [hV]
    clear hV
    have H0 := Lib.hid g0
    clear g0
    go_enter Tryd.func59, Tryd.ntmps59
    go_wp2_with fail
    refine (isRisers_any _ _).mono ?_
    rintro e w' ⟨rfl, rfl⟩
    rw [H0.out]
    go_wp2_with fail
    go_ret
    exact ⟨rfl, (Below.refl _ _).alloc (Nat.le_refl _) _⟩
  · cases g1 : inB b 1 250
    · have hV : fliB a b c = false := by simp [fliB, g1]
      rw [hV]
      clear hV
      have H0 := Lib.hid g0
      clear g0
      have H1 := Lib.hid g1
      clear g1
      go_enter Tryd.func59, Tryd.ntmps59
      go_wp2_with fail
      refine (isRisers_any _ _).mono ?_
      rintro e w' ⟨rfl, rfl⟩
      rw [H0.out]
      go_wp2_with fail
      refine (isRise_any _ _).mono ?_
      rintro e w' ⟨rfl, rfl⟩
      rw [H1.out]
      go_wp2_with fail
      go_ret
      exact ⟨rfl, (Below.refl _ _).alloc (Nat.le_refl _) _⟩
    · cases g2 : inB c 1 500
      · have hV : fliB a b c = false := by simp [fliB, g2]
        rw [hV]
        clear hV
        have H0 := Lib.hid g0
        clear g0
        have H1 := Lib.hid g1
        clear g1
        have H2 := Lib.hid g2
        clear g2
        go_enter Tryd.func59, Tryd.ntmps59
        go_wp2_with fail
        refine (isRisers_any _ _).mono ?_
        rintro e w' ⟨rfl, rfl⟩
        rw [H0.out]
        go_wp2_with fail
        refine (isRise_any _ _).mono ?_
        rintro e w' ⟨rfl, rfl⟩
        rw [H1.out]
        go_wp2_with fail
        refine (isTread_any _ _).mono ?_
        rintro e w' ⟨rfl, rfl⟩
        rw [H2.out]
        go_wp2_with fail
        go_ret
        exact ⟨rfl, (Below.refl _ _).alloc (Nat.le_refl _) _⟩
      · rw [show fliB a b c = true by simp [fliB, g0, g1, g2]]
        have H0 := Lib.hid g0
        clear g0
        have H1 := Lib.hid g1
        clear g1
        have H2 := Lib.hid g2
        clear g2
        go_enter Tryd.func59, Tryd.ntmps59
        go_wp2_with fail
        refine (isRisers_any _ _).mono ?_
        rintro e w' ⟨rfl, rfl⟩
        rw [H0.out]
        go_wp2_with fail
        refine (isRise_any _ _).mono ?_
        rintro e w' ⟨rfl, rfl⟩
        rw [H1.out]
        go_wp2_with fail
        refine (isTread_any _ _).mono ?_
        rintro e w' ⟨rfl, rfl⟩
        rw [H2.out]
        go_wp2_with fail
        go_ret
        exact ⟨rfl, (Below.refl _ _).alloc (Nat.le_refl _) _⟩



end Go.Proofs.YtfojcefbgdaelaaDoor
