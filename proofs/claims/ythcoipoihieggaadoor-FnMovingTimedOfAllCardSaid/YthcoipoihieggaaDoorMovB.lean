/- Contracts: moving stairs that are valid, lowest terms, on both sides. -/
import Derived.Test.YthcoipoihieggaaDoorGSpec
import Derived.Test.YthcoipoihieggaaDoorGStruct
import Derived.Test.YthcoipoihieggaaDoorGGcd
import Derived.Deep.RegionHeld3
namespace Go.Proofs.YthcoipoihieggaaDoor
set_option maxRecDepth 100000
open Go.RowKit

def movB (x y : Int) : Bool := inB x 1 500 && inB y 0 20
theorem movB_le {x y : Int} (h : movB x y = true) : 1 ≤ x ∧ x ≤ 500 ∧ 0 ≤ y ∧ y ≤ 20 := by
  simp only [movB, Bool.and_eq_true] at h
  have h1 := inB_le h.1
  have h2 := inB_le h.2
  omega
def askB (x y p : Int) : Bool := movB x y && inB p 0 20
theorem askB_le {x y p : Int} (h : askB x y p = true) : 1 ≤ x ∧ x ≤ 500 ∧ 0 ≤ y ∧ y ≤ 20 ∧ 0 ≤ p ∧ p ≤ 20 := by
  simp only [askB, Bool.and_eq_true] at h
  have h1 := movB_le h.1
  have h2 := inB_le h.2
  omega

set_option maxHeartbeats 400000 in
theorem moLow_any (n d : Int) (w : World) (hn : 0 ≤ n) (hn' : n ≤ 1000000000000) (hd : 1 ≤ d) (hd' : d ≤ 1000000000000) :
    Calls Tryd.prog 39 #[.int .i64 n, .int .i64 d] w fun e w' => e = .returned (.tuple #[.int .i64 (lowN n d), .int .i64 (lowD n d)]) ∧ ∃ k, w' = w.drewN k := by
  go_enter Tryd.func39, Tryd.ntmps39
  go_wp2
  go_loopw [6, 7] (fun u v wr => ∃ a b : Int, 0 ≤ a ∧ a ≤ 1000000000000 ∧ 0 ≤ b ∧ b ≤ 1000000000000 ∧ u = .int .i64 a ∧ v = .int .i64 b ∧ (∃ k, wr = w.drewN k) ∧ Hid (gI a b = gI n d)) (fun _ v _ => (intOf v).toNat)
  case atStart => exact ⟨n, d, hn, hn', by omega, hd', rfl, rfl, ⟨0, rfl⟩, Lib.hid rfl⟩
  case round =>
    obtain ⟨a, b, ha, ha', hb, hb', rfl, rfl, ⟨k, rfl⟩, H⟩ := hrel
    by_cases h0 : 0 < b
    · have H2 : Hid (gI b (a % b) = gI n d) := Lib.hid ((gI_step ha hb).trans H.out)
      have m1 : 0 ≤ a % b := Int.emod_nonneg _ (by omega)
      have m2 : a % b < b := Int.emod_lt_of_pos _ h0
      have ht : a.tmod b = a % b := Int.tmod_eq_emod_of_nonneg ha
      go_wp2
      go_quiet (fail)
      go_wp2
      go_roundw
      case rel => exact ⟨b, a % b, hb, hb', m1, by omega, rfl, rfl, ⟨_, World.drewN_drewN _ _ _⟩, H2⟩
      case measure => simp [intOf]; omega
    · obtain rfl : b = 0 := by omega
      have G := H.out
      rw [gI_zero ha] at G
      have hp := gI_pos (a := n) (b := d) (by omega)
      subst G
      go_wp2
      go_quiet (fail)
      go_wp2
      go_ret2
      exact ⟨rfl, _, World.drewN_drewN _ _ _⟩

set_option maxHeartbeats 400000 in
theorem isWithin_any (n lo hi : Int) (w : World) :
    Calls Tryd.prog 46 #[.int .i64 n, .int .i64 lo, .int .i64 hi] w fun e w' => e = .returned (.bool (inB n lo hi)) ∧ w = w' := by
  by_cases h1 : lo ≤ n
  · by_cases h2 : n ≤ hi
    · rw [inB_yes h1 h2]
      go_enter Tryd.func46, Tryd.ntmps46
      go_wp2
      go_ret
      exact ⟨rfl, rfl⟩
    · rw [inB_no (.inr (by omega))]
      go_enter Tryd.func46, Tryd.ntmps46
      go_wp2
      go_ret
      exact ⟨rfl, rfl⟩
  · rw [inB_no (.inl (by omega))]
    go_enter Tryd.func46, Tryd.ntmps46
    go_wp2
    go_ret
    exact ⟨rfl, rfl⟩

theorem isPace_any (p : Int) (w : World) :
    Calls Tryd.prog 48 #[.int .i64 p] w fun e w' => e = .returned (.bool (inB p 0 20)) ∧ w = w' := by
  go_enter Tryd.func48, Tryd.ntmps48
  go_wp2_with fail
  refine (isWithin_any _ _ _ _).mono ?_
  rintro e w' ⟨rfl, rfl⟩
  go_wp2_with fail
  go_ret
  exact ⟨rfl, rfl⟩

set_option maxHeartbeats 400000 in
theorem moGood_any (x y : Int) (w : World) :
    Calls Tryd.prog 43 #[.agg #[.int .i64 x, .int .i64 y]] w fun e w' => e = .returned (.bool (movB x y)) ∧ Below w.heap.size w w' := by
  cases h1 : inB x 1 500
  · rw [show movB x y = false by simp [movB, h1]]
    have H := Lib.hid h1
    clear h1
    go_enter Tryd.func43, Tryd.ntmps43
    go_wp2_with fail
    refine (l1In_any _ _ _ _).mono ?_
    rintro e w' ⟨rfl, rfl⟩
    rw [H.out]
    go_wp2_with fail
    go_ret
    exact ⟨rfl, below_alloc _ _⟩
  · rw [show movB x y = inB y 0 20 by simp [movB, h1]]
    have H := Lib.hid h1
    clear h1
    go_enter Tryd.func43, Tryd.ntmps43
    go_wp2_with fail
    refine (l1In_any _ _ _ _).mono ?_
    rintro e w' ⟨rfl, rfl⟩
    rw [H.out]
    go_wp2_with fail
    refine (l1In_any _ _ _ _).mono ?_
    rintro e w' ⟨rfl, rfl⟩
    go_wp2_with fail
    go_ret
    exact ⟨rfl, below_alloc _ _⟩

set_option maxHeartbeats 400000 in
theorem impMov_any (x y : Int) (w : World) :
    Calls Tryd.prog 19 #[.agg #[.int .i64 x, .int .i64 y]] w fun e w' => e = .returned (.bool (movB x y)) ∧ Below w.heap.size w w' := by
  cases h1 : inB x 1 500
  · rw [show movB x y = false by simp [movB, h1]]
    have H := Lib.hid h1
    clear h1
    go_enter Tryd.func19, Tryd.ntmps19
    go_wp2_with fail
    refine (isWithin_any _ _ _ _).mono ?_
    rintro e w' ⟨rfl, rfl⟩
    rw [H.out]
    go_wp2_with fail
    go_ret
    exact ⟨rfl, below_alloc _ _⟩
  · rw [show movB x y = inB y 0 20 by simp [movB, h1]]
    have H := Lib.hid h1
    clear h1
    go_enter Tryd.func19, Tryd.ntmps19
    go_wp2_with fail
    refine (isWithin_any _ _ _ _).mono ?_
    rintro e w' ⟨rfl, rfl⟩
    rw [H.out]
    go_wp2_with fail
    refine (isWithin_any _ _ _ _).mono ?_
    rintro e w' ⟨rfl, rfl⟩
    go_wp2_with fail
    go_ret
    exact ⟨rfl, below_alloc _ _⟩

set_option maxHeartbeats 400000 in
theorem moAsked_any (x y p : Int) (w : World) :
    Calls Tryd.prog 38 #[.agg #[.int .i64 x, .int .i64 y], .int .i64 p] w fun e w' => e = .returned (.bool (askB x y p)) ∧ Below w.heap.size w w' := by
  cases h1 : movB x y
  · rw [show askB x y p = false by simp [askB, h1]]
    have H := Lib.hid h1
    clear h1
    go_enter Tryd.func38, Tryd.ntmps38
    go_wp2_with fail
    refine (moGood_any _ _ _).mono ?_
    rintro e w1 ⟨rfl, hb⟩
    rw [H.out]
    go_wp2_with fail
    go_ret
    exact ⟨rfl, (below_alloc _ _).trans (hb.mono (by simp))⟩
  · rw [show askB x y p = inB p 0 20 by simp [askB, h1]]
    have H := Lib.hid h1
    clear h1
    go_enter Tryd.func38, Tryd.ntmps38
    go_wp2_with fail
    refine (moGood_any _ _ _).mono ?_
    rintro e w1 ⟨rfl, hb⟩
    rw [H.out]
    go_wp2_with fail
    refine (l1In_any _ _ _ _).mono ?_
    rintro e w' ⟨rfl, rfl⟩
    go_wp2_with fail
    go_ret
    exact ⟨rfl, (below_alloc _ _).trans (hb.mono (by simp))⟩
theorem specMov_any (x y : Int) (w : World) :
    Calls Tryd.prog 20 #[.agg #[.int .i64 x, .int .i64 y]] w fun e w' => e = .returned (.bool (movB x y)) ∧ Below w.heap.size w w' := by
  go_enter Tryd.func20, Tryd.ntmps20
  go_wp2_with fail
  refine (moGood_any _ _ _).mono ?_
  rintro e w1 ⟨rfl, hb⟩
  go_wp2_with fail
  go_ret
  exact ⟨rfl, (below_alloc _ _).trans (hb.mono (by simp))⟩

set_option maxHeartbeats 400000 in
theorem greatest_any (n d : Int) (w : World) (hn : 0 ≤ n) (hn' : n ≤ 1000000000000) (hd : 1 ≤ d) (hd' : d ≤ 1000000000000) :
    Calls Tryd.prog 56 #[.int .i64 n, .int .i64 d] w fun e w' => e = .returned (.int .i64 (gI n d)) ∧ ∃ k, w' = w.drewN k := by
  go_enter Tryd.func56, Tryd.ntmps56
  go_wp2
  go_loopw [0, 1] (fun u v wr => ∃ a b : Int, 0 ≤ a ∧ a ≤ 1000000000000 ∧ 0 ≤ b ∧ b ≤ 1000000000000 ∧ u = .int .i64 a ∧ v = .int .i64 b ∧ (∃ k, wr = w.drewN k) ∧ Hid (gI a b = gI n d)) (fun _ v _ => (intOf v).toNat)
  case atStart => exact ⟨n, d, hn, hn', by omega, hd', rfl, rfl, ⟨0, rfl⟩, Lib.hid rfl⟩
  case round =>
    obtain ⟨a, b, ha, ha', hb, hb', rfl, rfl, ⟨k, rfl⟩, H⟩ := hrel
    by_cases h0 : 0 < b
    · have H2 : Hid (gI b (a % b) = gI n d) := Lib.hid ((gI_step ha hb).trans H.out)
      have m1 : 0 ≤ a % b := Int.emod_nonneg _ (by omega)
      have m2 : a % b < b := Int.emod_lt_of_pos _ h0
      have ht : a.tmod b = a % b := Int.tmod_eq_emod_of_nonneg ha
      have hz : ¬ b = 0 := by omega
      go_wp2
      go_quiet (fail)
      go_wp2
      go_roundw
      case rel => exact ⟨b, a % b, hb, hb', m1, by omega, rfl, rfl, ⟨_, World.drewN_drewN _ _ _⟩, H2⟩
      case measure => simp [intOf]; omega
    · obtain rfl : b = 0 := by omega
      have G := H.out
      rw [gI_zero ha] at G
      subst G
      go_wp2
      go_ret
      exact ⟨rfl, _, rfl⟩
set_option maxHeartbeats 400000 in
theorem lowest_any (n d : Int) (w : World) (hn : 0 ≤ n) (hn' : n ≤ 1000000000000) (hd : 1 ≤ d) (hd' : d ≤ 1000000000000) :
    Calls Tryd.prog 47 #[.int .i64 n, .int .i64 d] w fun e w' => e = .returned (.tuple #[.int .i64 (lowN n d), .int .i64 (lowD n d), .bool true]) ∧ ∃ k, w' = w.drewN k := by
  have hp := gI_pos (a := n) (b := d) (by omega)
  have E1 := Lib.hid (show n / gI n d = lowN n d from rfl)
  have E2 := Lib.hid (show d / gI n d = lowD n d from rfl)
  go_enter Tryd.func47, Tryd.ntmps47
  go_wp2_with fail
  refine (greatest_any _ _ _ hn hn' hd hd').mono ?_
  rintro e w1 ⟨rfl, k, rfl⟩
  go_wp2_with fail
  generalize gI n d = g at *
  go_quiet (fail)
  go_wp2
  go_ret3
  exact ⟨by rw [E1.out, E2.out]; rfl, _, World.drewN_drewN _ _ _⟩

end Go.Proofs.YthcoipoihieggaaDoor
