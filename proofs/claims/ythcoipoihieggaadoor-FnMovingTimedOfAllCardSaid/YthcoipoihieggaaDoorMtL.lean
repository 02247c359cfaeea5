/- Contracts: the laws' own helpers over fractions and lists (lLow, lIs, lHas, lRises, lSame), where they answer true. -/
import Derived.Test.YthcoipoihieggaaDoorMtP
import Derived.Test.YthcoipoihieggaaDoorGSpec
import Derived.Deep.RegionHeld3
namespace Go.Proofs.YthcoipoihieggaaDoor
set_option maxRecDepth 100000
open Go.RowKit

theorem lowB_parts {n d : Int} (h : lowB n d = true) : 0 ≤ n ∧ 1 ≤ d ∧ gI n d = 1 := by simpa [lowB] using h

set_option maxHeartbeats 1000000 in
theorem lLow_yes (n d : Int) (w : World) (hl : lowB n d = true) (hn' : n ≤ 1000000000000) (hd' : d ≤ 1000000000000) :
    Calls Tryd.prog 34 #[.int .i64 n, .int .i64 d] w fun e w' => e = .returned (.bool true) ∧ ∃ k, w' = w.drewN k := by
  obtain ⟨hn, hd, hg⟩ := lowB_parts hl
  have HG := Lib.hid hg
  clear hg hl
  go_enter Tryd.func34, Tryd.ntmps34
  go_wp2
  go_loopw [5, 6] (fun u v wr => ∃ a b : Int, 0 ≤ a ∧ a ≤ 1000000000000 ∧ 0 ≤ b ∧ b ≤ 1000000000000 ∧ u = .int .i64 a ∧ v = .int .i64 b ∧ (∃ k, wr = w.drewN k) ∧ Hid (gI a b = gI n d)) (fun _ v _ => (intOf v).toNat)
  case atStart => exact ⟨n, d, hn, hn', by omega, hd', rfl, rfl, ⟨0, rfl⟩, Lib.hid rfl⟩
  case round =>
    obtain ⟨a, b, ha, ha', hb, hb', rfl, rfl, ⟨k, rfl⟩, H⟩ := hrel
    by_cases h0 : 0 < b
    · have H2 : Hid (gI b (a % b) = gI n d) := Lib.hid ((gI_step ha hb).trans H.out)
      have m1 : 0 ≤ a % b := Int.emod_nonneg _ (by omega)
      have m2 : a % b < b := Int.emod_lt_of_pos _ h0
      have ht : a.tmod b = a % b := Int.tmod_eq_emod_of_nonneg ha
      go_wp2
      go_quiet (fail)
      go_wp2
      go_roundw
      case rel => exact ⟨b, a % b, hb, hb', m1, by omega, rfl, rfl, ⟨_, World.drewN_drewN _ _ _⟩, H2⟩
      case measure => simp [intOf]; omega
    · obtain rfl : b = 0 := by omega
      have G := H.out
      rw [gI_zero ha, HG.out] at G
      subst G
      go_wp2
      go_ret
      exact ⟨rfl, _, rfl⟩

set_option maxHeartbeats 1000000 in
theorem lIs_yes (n d u v : Int) (w : World) (hl : lowB n d = true) (he : n * v = u * d) (hn : n ≤ 2147483647) (hd : d ≤ 2147483647) (hv : 0 ≤ v ∧ v ≤ 2147483647) :
    Calls Tryd.prog 21 #[.int .i64 n, .int .i64 d, .int .i64 u, .int .i64 v] w fun e w' => e = .returned (.bool true) ∧ Below w.heap.size w w' := by
  obtain ⟨h0, h1, _⟩ := lowB_parts hl
  have b1 := mul_bd (a := n) (A := 2147483647) (b := v) (B := 2147483647) (by omega) (by omega) (by omega) (by omega)
  have b2 : 0 ≤ u * d ∧ u * d ≤ 2147483647 * 2147483647 := by rw [← he]; exact b1
  have HC := Lib.hid (fun w => lLow_yes n d w hl (by omega) (by omega))
  clear hl
  go_enter Tryd.func21, Tryd.ntmps21
  go_wp2_with fail
  refine (HC.out _).mono ?_
  rintro e w1 ⟨rfl, k, rfl⟩
  go_wp2_with fail
  go_ret
  exact ⟨rfl, Below.drewN' (Below.refl _ _) _⟩

theorem hasB_dec (xs : List Int) (x : Int) : hasB xs x = decide (x ∈ xs) := by
  unfold hasB
  cases h : xs.contains x
  · exact (decide_eq_false fun hm => by rw [List.contains_iff_mem.2 hm] at h; cases h).symm
  · exact (decide_eq_true (List.contains_iff_mem.1 h)).symm
set_option maxHeartbeats 1000000 in
theorem lHas_any (A : Option Addr) (c : Nat) (xs : List Int) (x : Int) (B : Nat) (w : World) (hr : Rd w B A c xs) (hn : xs.length ≤ 1048576) :
    Calls Tryd.prog 22 #[.slice A xs.length c, .int .i64 x] w fun e w' => e = .returned (.bool (hasB xs x)) ∧ w = w' := by
  go_enter Tryd.func22, Tryd.ntmps22
  go_wp2
  go_loop [9] (fun i => ∃ (k : Nat), k ≤ xs.length ∧ i = .int .i64 k ∧ Hid (∀ j, j < k → ¬ xs.getD j 0 = x)) (fun i => xs.length - (intOf i).toNat)
  case atStart => exact ⟨0, Nat.zero_le _, rfl, fun j hj => absurd hj (by omega)⟩
  case round =>
    obtain ⟨k, hk, rfl, H⟩ := hrel
    by_cases hlt : k < xs.length
    · obtain ⟨b, o, rfl, hb, hcell⟩ := hr.at_ hlt
      have H1 := Lib.hid (fun h : xs.getD k 0 = x => hasB_at hlt h)
      generalize hY : xs.getD k 0 = y at *
      have HY := Lib.hid hY
      clear hY
      by_cases he : y = x
      · have H2 := Lib.hid (H1.out he)
        subst he
        go_wp2
        go_ret
        exact ⟨ret_bool H2.out, rfl⟩
      · have H2 : Hid (∀ j, j < k + 1 → ¬ xs.getD j 0 = x) := fun j hj => by
          rcases Nat.lt_succ_iff_lt_or_eq.1 hj with h | rfl
          · exact H.out j h
          · rw [HY.out]; exact he
        go_wp2
        go_round
        case rel => exact ⟨k + 1, by omega, by go_num, H2⟩
        case measure => simp [intOf]; omega
    · have H2 := Lib.hid (hasB_none fun j hj => H.out j (by omega))
      go_wp2
      go_ret
      exact ⟨ret_bool H2.out, rfl⟩

theorem rising_at {xs : List Int} (h : Rising xs) {k : Nat} (h1 : 1 ≤ k) (hk : k < xs.length) : xs.getD (k - 1) 0 < xs.getD k 0 := by
  have h2 : k - 1 < xs.length := by omega
  have := List.pairwise_iff_getElem.1 h (k - 1) k h2 hk (by omega)
  simpa [List.getD_eq_getElem?_getD, h2, hk] using this

set_option maxHeartbeats 1000000 in
theorem lRises_yes (A : Option Addr) (c : Nat) (xs : List Int) (B : Nat) (w : World) (hr : Rd w B A c xs) (hn : xs.length ≤ 1048576) (hs : Rising xs) :
    Calls Tryd.prog 27 #[.slice A xs.length c] w fun e w' => e = .returned (.bool true) ∧ Below w.heap.size w w' := by
  have HS := Lib.hid hs
  clear hs
  go_enter Tryd.func27, Tryd.ntmps27
  go_wp2
  go_loopw [3] (fun i wr => ∃ k : Nat, 1 ≤ k ∧ k ≤ xs.length + 1 ∧ i = .int .i64 k ∧ (∃ n, wr = w.drewN n)) (fun i _ => xs.length + 1 - (intOf i).toNat)
  case atStart => exact ⟨1, by omega, by omega, rfl, ⟨0, rfl⟩⟩
  case round =>
    obtain ⟨k, hk1, hk, rfl, ⟨n, rfl⟩⟩ := hrel
    by_cases hlt : k < xs.length
    · have hrs := rising_at HS.out hk1 hlt
      obtain ⟨b, o, rfl, hb, hcell⟩ := hr.at_ hlt
      obtain ⟨b', o', he, hb', hcell'⟩ := hr.at_ (k := k - 1) (by omega)
      obtain ⟨rfl, rfl⟩ : b = b' ∧ o = o' := by injection he with e; injection e with e1 e2; exact ⟨e1, e2⟩
      obtain ⟨m, rfl⟩ : ∃ m : Nat, k = m + 1 := ⟨k - 1, by omega⟩
      simp only [Nat.add_sub_cancel] at hcell' hrs
      have ek : (((m + 1 : Nat) : Int) - 1) = ((m : Nat) : Int) := by omega
      have ek2 : (((m : Nat) : Int) + 1 - 1) = ((m : Nat) : Int) := by omega
      generalize xs.getD m 0 = u at *
      generalize xs.getD (m + 1) 0 = v at *
      go_wp2_with fail
      go_quiet (fail)
      go_wp2_with fail
      go_roundw
      case rel => exact ⟨m + 1 + 1, by omega, by omega, by go_num, ⟨_, rfl⟩⟩
      case measure => simp [intOf]; omega
    · go_wp2_with fail
      go_ret
      exact ⟨rfl, Below.drewN' (Below.refl _ _) _⟩

set_option maxHeartbeats 1000000 in
theorem lSame_yes (A A' : Option Addr) (c c' : Nat) (xs : List Int) (B B' : Nat) (w : World) (hr : Rd w B A c xs) (hr' : Rd w B' A' c' xs) (hn : xs.length ≤ 1048576) :
    Calls Tryd.prog 18 #[.slice A xs.length c, .slice A' xs.length c'] w fun e w' => e = .returned (.bool true) ∧ Below w.heap.size w w' := by
  go_enter Tryd.func18, Tryd.ntmps18
  go_wp2
  go_loopw [13] (fun i wr => ∃ k : Nat, k ≤ xs.length ∧ i = .int .i64 k ∧ (∃ n, wr = w.drewN n)) (fun i _ => xs.length - (intOf i).toNat)
  case atStart => exact ⟨0, Nat.zero_le _, rfl, ⟨0, rfl⟩⟩
  case round =>
    obtain ⟨k, hk, rfl, ⟨n, rfl⟩⟩ := hrel
    by_cases hlt : k < xs.length
    · obtain ⟨b, o, rfl, hb, hcell⟩ := hr.at_ hlt
      obtain ⟨b', o', rfl, hb', hcell'⟩ := hr'.at_ hlt
      generalize xs.getD k 0 = u at *
      go_wp2_with fail
      go_quiet (fail)
      go_wp2_with fail
      go_roundw
      case rel => exact ⟨k + 1, by omega, by go_num, ⟨_, rfl⟩⟩
      case measure => simp [intOf]; omega
    · go_wp2_with fail
      go_ret
      exact ⟨rfl, Below.drewN' (Below.refl _ _) _⟩

end Go.Proofs.YthcoipoihieggaaDoor
