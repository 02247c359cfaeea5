/- Contracts: parts, the weakest part, the most climbs and days of wear, on both sides. -/
import Derived.Test.YtkfacfhneooaiaaWearMost
import Derived.Deep.QuietTactic
import Derived.BigQuiet
namespace Go.Proofs.Ytkfacfhneooaiaa
open Go.RowKit

set_option maxHeartbeats 1000000 in
theorem weMost_any (A : Option Addr) (c : Nat) (xs : List Int) (r : Nat) (B : Nat) (w : World) (hr : Rd w B A c xs) (hB : B ≤ w.heap.size) (hl : xs.length ≤ 20) (hr1 : 1 ≤ r) (hr2 : r ≤ xs.length) (hbe : bearsB xs = true) :
    Calls Try.prog 48 #[.slice A xs.length c, .int .i64 (r : Int)] w fun e w' => e = .returned (.int .i64 (mostX xs r)) ∧ Below w.heap.size w w' := by
  have HBe := Lib.hid hbe
  have hpl := partsX_length xs r
  have HM := Lib.hid (show mostX xs r = minF ((partsX xs r).getD 0 0) (partsX xs r) from minL_all.symm)
  clear hbe
  go_enter Try.func48, Try.ntmps48
  go_wp2_with fail
  refine (weParts_any _ _ _ _ _ _ hr hB hl hr1 hr2 HBe.out).mono ?_
  rintro e w1 ⟨v, rfl, hown, hb⟩
  obtain ⟨Z, d, hv, hrd⟩ := hown.form
  subst hv
  clear hown
  generalize hps : partsX xs r = ps at *
  have HPS := Lib.hid hps
  have hpl1 : 1 ≤ ps.length := by omega
  have hpl2 : ps.length ≤ 21 := by omega
  clear hps hpl
  obtain ⟨b, o, rfl, hbb, k0⟩ := hrd.at_ (k := 0) (by omega)
  rw [Nat.add_zero] at k0
  have HRD := Lib.hid hrd
  generalize ps.getD 0 0 = p0 at *
  go_wp2_with fail
  go_loop [6, 17] (fun s i => ∃ (k : Nat) (u : Int), k ≤ ps.length ∧ i = .int .i64 k ∧ s = .int .i64 u ∧ Hid (mostX xs r = minF u (ps.drop k))) (fun _ i => (22 - intOf i).toNat)
  case atStart => exact ⟨0, p0, by omega, rfl, rfl, by rw [List.drop_zero]; exact HM⟩
  case round =>
    obtain ⟨k, u, hk, rfl, rfl, H⟩ := hrel
    by_cases hlt : k < ps.length
    · obtain ⟨b', o', e, hb', hcell⟩ := HRD.out.at_ hlt
      obtain ⟨rfl, rfl⟩ : b' = b ∧ o' = o := by injection e with e; injection e with e1 e2; exact ⟨e1.symm, e2.symm⟩
      have HG := Lib.hid (minF_go u ps k hlt)
      generalize ps.getD k 0 = x at *
      clear e
      go_wp2_with fail
      refine (l1Least_any _ _ _).mono ?_
      rintro e w' ⟨rfl, rfl⟩
      go_wp2_with fail
      go_round
      case rel => exact ⟨k + 1, leastI u x, by omega, by go_num, rfl, Lib.hid (by rw [H.out, HG.out, leastI_min])⟩
      case measure => simp [intOf]; omega
    · have HE := Lib.hid (show mostX xs r = u by rw [H.out, minF_end _ _ _ hlt])
      go_wp2_with fail
      go_ret
      exact ⟨by rw [HE.out]; rfl, hb⟩

set_option maxHeartbeats 1000000 in
theorem specParts_any (A : Option Addr) (c : Nat) (xs : List Int) (n : Int) (B : Nat) (w : World) (hr : Rd w B A c xs) (hB : B ≤ w.heap.size) (hn : xs.length ≤ 1048576) :
    Calls Try.prog 15 #[.slice A xs.length c, .int .i64 n] w (Lists w (partsR xs n) (endsB xs n)) := by
  cases h : endsB xs n
  · rw [show partsR xs n = [] by simp [partsR, h]]
    have H := Lib.hid h
    clear h
    go_enter Try.func15, Try.ntmps15
    go_wp2_with fail
    refine (weEnds_any _ _ _ _ _ _ hr hn).mono ?_
    rintro e w' ⟨rfl, rfl⟩
    rw [H.out]
    go_wp2_with fail
    go_ret2
    exact ⟨_, rfl, OwnI.nil _ _, Below.refl _ _⟩
  · have hp := endsB_le h
    obtain ⟨r, rfl⟩ : ∃ r : Nat, n = (r : Int) := ⟨n.toNat, by omega⟩
    have H := Lib.hid h
    have HBe := Lib.hid hp.1
    have hp2 : 1 ≤ xs.length ∧ xs.length ≤ 20 ∧ 1 ≤ r ∧ r ≤ xs.length := by omega
    rw [show partsR xs (r : Int) = partsX xs r by simp [partsR, h]]
    clear h hp
    go_enter Try.func15, Try.ntmps15
    go_wp2_with fail
    refine (weEnds_any _ _ _ _ _ _ hr hn).mono ?_
    rintro e w' ⟨rfl, rfl⟩
    rw [H.out]
    go_wp2_with fail
    refine (weParts_any _ _ _ _ _ _ hr hB (by omega) (by omega) (by omega) HBe.out).mono ?_
    rintro e w1 ⟨v, rfl, hown, hb⟩
    obtain ⟨Z, d, hv, hrd⟩ := hown.form
    subst hv
    go_wp2_with fail
    go_ret2
    exact ⟨_, rfl, hown, hb⟩

def weakR (xs : List Int) (n : Int) : Int := orI (endsB xs n) (weakX xs n.toNat)
def mostR (xs : List Int) (n : Int) : Int := orI (endsB xs n) (mostX xs n.toNat)
theorem weakR_no {xs : List Int} {n : Int} (h : endsB xs n = false) : weakR xs n = 0 := by simp [weakR, h, orI]
theorem mostR_no {xs : List Int} {n : Int} (h : endsB xs n = false) : mostR xs n = 0 := by simp [mostR, h, orI]
theorem weakR_yes {xs : List Int} {r : Nat} (h : endsB xs (r : Int) = true) : weakR xs (r : Int) = weakX xs r := by simp [weakR, h, orI]
theorem mostR_yes {xs : List Int} {r : Nat} (h : endsB xs (r : Int) = true) : mostR xs (r : Int) = mostX xs r := by simp [mostR, h, orI]
theorem weakX_first {xs : List Int} {r k : Nat} (hk : k < (partsX xs r).length) (h1 : (partsX xs r).getD k 0 = mostX xs r) (h2 : ∀ j, j < k → (partsX xs r).getD j 0 ≠ mostX xs r) : weakX xs r = (k : Int) + 1 := by
  unfold weakX
  have := idxF_eq (mostX xs r) (partsX xs r) k hk h1 0 (Nat.zero_le _) (fun j _ hj => h2 j hj)
  simp at this
  rw [this]

set_option maxHeartbeats 1000000 in
theorem specWeak_any (A : Option Addr) (c : Nat) (xs : List Int) (n : Int) (B : Nat) (w : World) (hr : Rd w B A c xs) (hB : B ≤ w.heap.size) (hn : xs.length ≤ 1048576) :
    Calls Try.prog 21 #[.slice A xs.length c, .int .i64 n] w (Plain (.tuple #[.int .i64 (weakR xs n), .int .i64 (mostR xs n), .bool (endsB xs n)]) w) := by
  cases h : endsB xs n
  · rw [weakR_no h, mostR_no h]
    have H := Lib.hid h
    clear h
    go_enter Try.func21, Try.ntmps21
    go_wp2_with fail
    refine (weEnds_any _ _ _ _ _ _ hr hn).mono ?_
    rintro e w' ⟨rfl, rfl⟩
    rw [H.out]
    go_wp2_with fail
    go_ret3
    exact ⟨rfl, Below.refl _ _⟩
  · have hp := endsB_le h
    obtain ⟨r, rfl⟩ : ∃ r : Nat, n = (r : Int) := ⟨n.toNat, by omega⟩
    have H := Lib.hid h
    have HBe := Lib.hid hp.1
    have hp2 : 1 ≤ xs.length ∧ xs.length ≤ 20 ∧ 1 ≤ r ∧ r ≤ xs.length := by omega
    rw [weakR_yes h, mostR_yes h]
    have HMin : Hid (∃ k, k < (partsX xs r).length ∧ (partsX xs r).getD k 0 = mostX xs r) := minL_at (xs := partsX xs r) (by rw [partsX_length]; omega)
    have hpl := partsX_length xs r
    have HF := Lib.hid (fun k h1 h2 h3 => weakX_first (xs := xs) (r := r) (k := k) h1 h2 h3)
    have HC1 := Lib.hid (fun w h => weMost_any (some ⟨0, 0, none⟩) c xs r B w h)
    clear HC1
    clear h hp
    go_enter Try.func21, Try.ntmps21
    go_wp2_with fail
    refine (weEnds_any _ _ _ _ _ _ hr hn).mono ?_
    rintro e w' ⟨rfl, rfl⟩
    rw [H.out]
    go_wp2_with fail
    refine (weMost_any _ _ _ _ _ _ hr hB (by omega) (by omega) (by omega) HBe.out).mono ?_
    rintro e w1 ⟨rfl, hb⟩
    have hz1 := hb.size
    generalize hu : mostX xs r = u at *
    have HU := Lib.hid hu
    clear hu
    go_wp2_with fail
    refine (weParts_any _ _ _ _ _ _ (hr.below hb hB) (by omega) (by omega) (by omega) (by omega) HBe.out).mono ?_
    rintro e w2 ⟨v, rfl, hown, hb2⟩
    obtain ⟨Z, d, hv, hrd⟩ := hown.form
    subst hv
    have HRD := Lib.hid hrd
    clear hown hrd
    generalize hps : partsX xs r = ps at *
    have HPS := Lib.hid hps
    clear hps
    go_wp2_with fail
    go_loop [21] (fun i => ∃ k : Nat, k ≤ ps.length ∧ i = .int .i64 k ∧ Hid (∀ j, j < k → ps.getD j 0 ≠ u)) (fun i => (22 - intOf i).toNat)
    case atStart => exact ⟨0, by omega, rfl, fun j hj => by omega⟩
    case round =>
      obtain ⟨k, hk, rfl, HQ⟩ := hrel
      by_cases hlt : k < ps.length
      · obtain ⟨b', o', rfl, hb', hcell⟩ := HRD.out.at_ hlt
        by_cases he : ps.getD k 0 = u
        · have HW := Lib.hid (HF.out k hlt he HQ.out)
          rw [he] at hcell
          clear he
          go_wp2_with fail
          go_ret3
          exact ⟨by rw [HW.out]; rfl, hb.trans (hb2.mono hz1)⟩
        · have HQ2 : Hid (∀ j, j < k + 1 → ps.getD j 0 ≠ u) := fun j hj => by
            rcases Nat.lt_succ_iff_lt_or_eq.1 hj with h | rfl
            · exact HQ.out j h
            · exact he
          have hx : (ps.getD k 0 == u) = false := by simpa using he
          generalize ps.getD k 0 = x at hcell hx he
          clear he
          go_wp2_with fail
          go_round
          case rel => exact ⟨k + 1, by omega, by go_num, HQ2⟩
          case measure => simp [intOf]; omega
      · obtain ⟨j, hj, e⟩ := HMin.out
        exact absurd e (HQ.out j (by omega))


end Go.Proofs.Ytkfacfhneooaiaa
