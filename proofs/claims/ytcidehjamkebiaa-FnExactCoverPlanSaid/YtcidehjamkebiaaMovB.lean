/- Contracts: moving stairs that are valid, lowest terms, on both sides. -/
import Derived.Test.YtcidehjamkebiaaGSpec
import Derived.Test.YtcidehjamkebiaaGStruct
import Derived.Test.YtcidehjamkebiaaGGcd
import Derived.Deep.RegionHeld3
namespace Go.Proofs.Ytcidehjamkebiaa
open Go.RowKit

def movB (x y : Int) : Bool := inB x 1 500 && inB y 0 20
theorem movB_le {x y : Int} (h : movB x y = true) : 1 ≤ x ∧ x ≤ 500 ∧ 0 ≤ y ∧ y ≤ 20 := by
  simp only [movB, Bool.and_eq_true] at h
  have h1 := inB_le h.1
  have h2 := inB_le h.2
  omega
def askB (x y p : Int) : Bool := movB x y && inB p 0 20
theorem askB_le {x y p : Int} (h : askB x y p = true) : 1 ≤ x ∧ x ≤ 500 ∧ 0 ≤ y ∧ y ≤ 20 ∧ 0 ≤ p ∧ p ≤ 20 := by
  simp only [askB, Bool.and_eq_true] at h
  have h1 := movB_le h.1
  have h2 := inB_le h.2
  omega


set_option maxHeartbeats 400000 in
theorem isWithin_any (n lo hi : Int) (w : World) :
    Calls Try.prog 41 #[.int .i64 n, .int .i64 lo, .int .i64 hi] w fun e w' => e = .returned (.bool (inB n lo hi)) ∧ w = w' := by
  by_cases h1 : lo ≤ n
  · by_cases h2 : n ≤ hi
    · rw [inB_yes h1 h2]
      go_enter Try.func41, Try.ntmps41
      go_wp2
      go_ret
      exact ⟨rfl, rfl⟩
    · rw [inB_no (.inr (by omega))]
      go_enter Try.func41, Try.ntmps41
      go_wp2
      go_ret
      exact ⟨rfl, rfl⟩
  · rw [inB_no (.inl (by omega))]
    go_enter Try.func41, Try.ntmps41
    go_wp2
    go_ret
    exact ⟨rfl, rfl⟩





set_option maxHeartbeats 400000 in
theorem greatest_any (n d : Int) (w : World) (hn : 0 ≤ n) (hn' : n ≤ 1000000000000) (hd : 1 ≤ d) (hd' : d ≤ 1000000000000) :
    Calls Try.prog 60 #[.int .i64 n, .int .i64 d] w fun e w' => e = .returned (.int .i64 (gI n d)) ∧ ∃ k, w' = w.drewN k := by
  go_enter Try.func60, Try.ntmps60
  go_wp2
  go_loopw [0, 1] (fun u v wr => ∃ a b : Int, 0 ≤ a ∧ a ≤ 1000000000000 ∧ 0 ≤ b ∧ b ≤ 1000000000000 ∧ u = .int .i64 a ∧ v = .int .i64 b ∧ (∃ k, wr = w.drewN k) ∧ Hid (gI a b = gI n d)) (fun _ v _ => (intOf v).toNat)
  case atStart => exact ⟨n, d, hn, hn', by omega, hd', rfl, rfl, ⟨0, rfl⟩, Lib.hid rfl⟩
  case round =>
    obtain ⟨a, b, ha, ha', hb, hb', rfl, rfl, ⟨k, rfl⟩, H⟩ := hrel
    by_cases h0 : 0 < b
    · have H2 : Hid (gI b (a % b) = gI n d) := Lib.hid ((gI_step ha hb).trans H.out)
      have m1 : 0 ≤ a % b := Int.emod_nonneg _ (by omega)
      have m2 : a % b < b := Int.emod_lt_of_pos _ h0
      have ht : a.tmod b = a % b := Int.tmod_eq_emod_of_nonneg ha
      have hz : ¬ b = 0 := by omega
      go_wp2
      go_quiet (fail)
      go_wp2
      go_roundw
      case rel => exact ⟨b, a % b, hb, hb', m1, by omega, rfl, rfl, ⟨_, World.drewN_drewN _ _ _⟩, H2⟩
      case measure => simp [intOf]; omega
    · obtain rfl : b = 0 := by omega
      have G := H.out
      rw [gI_zero ha] at G
      subst G
      go_wp2
      go_ret
      exact ⟨rfl, _, rfl⟩

end Go.Proofs.Ytcidehjamkebiaa
