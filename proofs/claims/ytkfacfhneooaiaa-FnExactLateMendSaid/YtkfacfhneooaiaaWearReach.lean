/- Contracts: the least reach for so many climbs, on both sides. -/
import Derived.Test.YtkfacfhneooaiaaWearDays
namespace Go.Proofs.Ytkfacfhneooaiaa
open Go.RowKit

def askedB (xs : List Int) (n : Int) : Bool := bearsB xs && inB n 0 1000
theorem askedB_two {xs : List Int} {n : Int} (h : askedB xs n = true) : bearsB xs = true ∧ 1 ≤ xs.length ∧ xs.length ≤ 20 ∧ 0 ≤ n ∧ n ≤ 1000 := by
  simp only [askedB, Bool.and_eq_true] at h
  have h2 := inB_le h.2
  have h3 := h.1
  simp only [bearsB, Bool.and_eq_true] at h3
  have h4 := inB_le h3.1
  exact ⟨h.1, by omega, by omega, h2.1, h2.2⟩
/-- the first reach from p on that is enough, or one more than there are steps -/
def reachF (xs : List Int) (n : Int) : Nat → Nat → Nat
  | 0, p => p
  | k + 1, p => if p ≤ xs.length ∧ mostX xs p < n then reachF xs n k (p + 1) else p
def reachX (xs : List Int) (n : Int) : Int := (reachF xs n xs.length 1 : Nat)
theorem reachF_eq {xs : List Int} {n : Int} : ∀ (k p s : Nat), p ≤ s → s ≤ p + k → (∀ q, p ≤ q → q < s → q ≤ xs.length ∧ mostX xs q < n) → ¬ (s ≤ xs.length ∧ mostX xs s < n) → reachF xs n k p = s
  | 0, p, s, h1, h2, _, _ => by
    obtain rfl : p = s := by omega
    rfl
  | k + 1, p, s, h1, h2, h3, h4 => by
    unfold reachF
    by_cases e : p = s
    · subst e; rw [if_neg h4]
    · rw [if_pos (h3 p (Nat.le_refl _) (by omega))]
      exact reachF_eq k (p + 1) s (by omega) (by omega) (fun q a b => h3 q (by omega) b) h4
theorem reachX_eq {xs : List Int} {n : Int} {s : Nat} (h1 : 1 ≤ s) (h2 : s ≤ xs.length + 1) (h3 : ∀ q, 1 ≤ q → q < s → q ≤ xs.length ∧ mostX xs q < n) (h4 : ¬ (s ≤ xs.length ∧ mostX xs s < n)) : reachX xs n = (s : Int) := by
  unfold reachX; rw [reachF_eq xs.length 1 s h1 (by omega) h3 h4]
theorem ends_of {xs : List Int} {s : Nat} (h : bearsB xs = true) (h1 : 1 ≤ s) (h2 : s ≤ xs.length) (h3 : xs.length ≤ 20) : endsB xs (s : Int) = true := by
  simp [endsB, reachB, h, inB_yes (n := (s : Int)) (lo := 1) (hi := 20) (by omega) (by omega), h2]

theorem isAsked_any (n : Int) (w : World) :
    Calls Try.prog 55 #[.int .i64 n] w fun e w' => e = .returned (.bool (inB n 0 1000)) ∧ w = w' := by
  by_cases h1 : 0 ≤ n
  · by_cases h2 : n ≤ 1000
    · rw [inB_yes h1 h2]
      go_enter Try.func55, Try.ntmps55
      go_wp2
      go_ret
      exact ⟨rfl, rfl⟩
    · rw [inB_no (.inr (by omega))]
      go_enter Try.func55, Try.ntmps55
      go_wp2
      go_ret
      exact ⟨rfl, rfl⟩
  · rw [inB_no (.inl (by omega))]
    go_enter Try.func55, Try.ntmps55
    go_wp2
    go_ret
    exact ⟨rfl, rfl⟩
theorem weClimbs_any (n : Int) (w : World) :
    Calls Try.prog 53 #[.int .i64 n] w fun e w' => e = .returned (.bool (inB n 0 1000)) ∧ w = w' := by
  go_enter Try.func53, Try.ntmps53
  go_wp2_with fail
  refine (l1In_any _ _ _ _).mono ?_
  rintro e w' ⟨rfl, rfl⟩
  go_wp2_with fail
  go_ret
  exact ⟨rfl, rfl⟩

set_option maxHeartbeats 1000000 in
theorem impReach_any (A : Option Addr) (c : Nat) (xs : List Int) (n : Int) (B : Nat) (w : World) (hr : Rd w B A c xs) (hB : B ≤ w.heap.size) (hn : xs.length ≤ 1048576) :
    Calls Try.prog 28 #[.slice A xs.length c, .int .i64 n] w (Plain (.tuple #[.int .i64 (orI (askedB xs n) (reachX xs n)), .bool (askedB xs n)]) w) := by
  cases h : bearsB xs
  · rw [show askedB xs n = false by simp [askedB, h], orI_no]
    have H := Lib.hid h
    clear h
    go_enter Try.func28, Try.ntmps28
    go_wp2_with fail
    refine (impBears_any _ _ _ _ _ hr hn).mono ?_
    rintro e w' ⟨rfl, rfl⟩
    rw [H.out]
    go_wp2_with fail
    go_ret2
    exact ⟨rfl, Below.refl _ _⟩
  · cases h1 : inB n 0 1000
    · rw [show askedB xs n = false by simp [askedB, h1], orI_no]
      have H := Lib.hid h
      have H1 := Lib.hid h1
      clear h h1
      go_enter Try.func28, Try.ntmps28
      go_wp2_with fail
      refine (impBears_any _ _ _ _ _ hr hn).mono ?_
      rintro e w' ⟨rfl, rfl⟩
      rw [H.out]
      go_wp2_with fail
      refine (isAsked_any _ _).mono ?_
      rintro e w' ⟨rfl, rfl⟩
      rw [H1.out]
      go_wp2_with fail
      go_ret2
      exact ⟨rfl, Below.refl _ _⟩
    · have hv : askedB xs n = true := by simp [askedB, h, h1]
      have hp := askedB_two hv
      rw [hv, orI_yes]
      have H := Lib.hid h
      have H1 := Lib.hid h1
      have hp2 : 1 ≤ xs.length ∧ xs.length ≤ 20 ∧ 0 ≤ n ∧ n ≤ 1000 := hp.2
      clear h h1 hv hp
      go_enter Try.func28, Try.ntmps28
      go_wp2_with fail
      refine (impBears_any _ _ _ _ _ hr hn).mono ?_
      rintro e w' ⟨rfl, rfl⟩
      rw [H.out]
      go_wp2_with fail
      refine (isAsked_any _ _).mono ?_
      rintro e w' ⟨rfl, rfl⟩
      rw [H1.out]
      go_wp2_with fail
      go_loopw [6] (fun i wr => ∃ s : Nat, 1 ≤ s ∧ s ≤ xs.length + 1 ∧ i = .int .i64 s ∧ Hid (∀ q, 1 ≤ q → q < s → q ≤ xs.length ∧ mostX xs q < n) ∧ Below w.heap.size w wr) (fun i _ => (22 - intOf i).toNat)
      case atStart => exact ⟨1, by omega, by omega, rfl, fun q h1 h2 => by omega, Below.refl _ _⟩
      case round =>
        obtain ⟨s, hs1, hs2, rfl, HQ, hbw⟩ := hrel
        have hz : w.heap.size ≤ wr.heap.size := hbw.size
        by_cases hlt : s ≤ xs.length
        · have HE := Lib.hid (ends_of H.out hs1 hlt hp2.2.1)
          have HM := Lib.hid (mostR_yes HE.out)
          by_cases hm : mostX xs s < n
          · have HQ2 : Hid (∀ q, 1 ≤ q → q < s + 1 → q ≤ xs.length ∧ mostX xs q < n) := fun q a b => by
              rcases Nat.lt_succ_iff_lt_or_eq.1 b with h | rfl
              · exact HQ.out q a h
              · exact ⟨hlt, hm⟩
            go_wp2_with fail
            refine (impMost_any _ _ _ _ _ _ (hr.below hbw hB) (by omega) hn).mono ?_
            rintro e w2 ⟨rfl, hb2⟩
            rw [HM.out, HE.out]
            generalize mostX xs s = u at hm ⊢
            go_wp2_with fail
            go_roundw
            case rel => exact ⟨s + 1, by omega, by omega, by go_num, HQ2, hbw.trans (hb2.mono hz)⟩
            case measure => simp [intOf]; omega
          · have HX := Lib.hid (reachX_eq hs1 hs2 HQ.out (fun h => hm h.2))
            have hm2 : n ≤ mostX xs s := by omega
            go_wp2_with fail
            refine (impMost_any _ _ _ _ _ _ (hr.below hbw hB) (by omega) hn).mono ?_
            rintro e w2 ⟨rfl, hb2⟩
            rw [HM.out, HE.out]
            generalize mostX xs s = u at hm hm2 ⊢
            go_wp2_with fail
            go_ret2
            exact ⟨by rw [HX.out]; rfl, hbw.trans (hb2.mono hz)⟩
        · have HX := Lib.hid (reachX_eq hs1 hs2 HQ.out (fun h => hlt h.1))
          obtain rfl : s = xs.length + 1 := by omega
          go_wp2_with fail
          go_ret2
          exact ⟨by rw [HX.out]; rfl, hbw⟩

set_option maxHeartbeats 1000000 in
theorem specReach_any (A : Option Addr) (c : Nat) (xs : List Int) (n : Int) (B : Nat) (w : World) (hr : Rd w B A c xs) (hB : B ≤ w.heap.size) (hn : xs.length ≤ 1048576) :
    Calls Try.prog 27 #[.slice A xs.length c, .int .i64 n] w (Plain (.tuple #[.int .i64 (orI (askedB xs n) (reachX xs n)), .bool (askedB xs n)]) w) := by
  cases h : bearsB xs
  · rw [show askedB xs n = false by simp [askedB, h], orI_no]
    have H := Lib.hid h
    clear h
    go_enter Try.func27, Try.ntmps27
    go_wp2_with fail
    refine (weGood_any _ _ _ _ _ hr hn).mono ?_
    rintro e w' ⟨rfl, rfl⟩
    rw [H.out]
    go_wp2_with fail
    go_ret2
    exact ⟨rfl, Below.refl _ _⟩
  · cases h1 : inB n 0 1000
    · rw [show askedB xs n = false by simp [askedB, h1], orI_no]
      have H := Lib.hid h
      have H1 := Lib.hid h1
      clear h h1
      go_enter Try.func27, Try.ntmps27
      go_wp2_with fail
      refine (weGood_any _ _ _ _ _ hr hn).mono ?_
      rintro e w' ⟨rfl, rfl⟩
      rw [H.out]
      go_wp2_with fail
      refine (weClimbs_any _ _).mono ?_
      rintro e w' ⟨rfl, rfl⟩
      rw [H1.out]
      go_wp2_with fail
      go_ret2
      exact ⟨rfl, Below.refl _ _⟩
    · have hv : askedB xs n = true := by simp [askedB, h, h1]
      have hp := askedB_two hv
      rw [hv, orI_yes]
      have H := Lib.hid h
      have H1 := Lib.hid h1
      have hp2 : 1 ≤ xs.length ∧ xs.length ≤ 20 ∧ 0 ≤ n ∧ n ≤ 1000 := hp.2
      clear h h1 hv hp
      go_enter Try.func27, Try.ntmps27
      go_wp2_with fail
      refine (weGood_any _ _ _ _ _ hr hn).mono ?_
      rintro e w' ⟨rfl, rfl⟩
      rw [H.out]
      go_wp2_with fail
      refine (weClimbs_any _ _).mono ?_
      rintro e w' ⟨rfl, rfl⟩
      rw [H1.out]
      go_wp2_with fail
      go_loopw [6] (fun i wr => ∃ s : Nat, 1 ≤ s ∧ s ≤ xs.length + 1 ∧ i = .int .i64 s ∧ Hid (∀ q, 1 ≤ q → q < s → q ≤ xs.length ∧ mostX xs q < n) ∧ Below w.heap.size w wr) (fun i _ => (22 - intOf i).toNat)
      case atStart => exact ⟨1, by omega, by omega, rfl, fun q h1 h2 => by omega, Below.refl _ _⟩
      case round =>
        obtain ⟨s, hs1, hs2, rfl, HQ, hbw⟩ := hrel
        have hz : w.heap.size ≤ wr.heap.size := hbw.size
        by_cases hlt : s ≤ xs.length
        · by_cases hm : mostX xs s < n
          · have HQ2 : Hid (∀ q, 1 ≤ q → q < s + 1 → q ≤ xs.length ∧ mostX xs q < n) := fun q a b => by
              rcases Nat.lt_succ_iff_lt_or_eq.1 b with h | rfl
              · exact HQ.out q a h
              · exact ⟨hlt, hm⟩
            go_wp2_with fail
            refine (weMost_any _ _ _ _ _ _ (hr.below hbw hB) (by omega) hp2.2.1 hs1 hlt H.out).mono ?_
            rintro e w2 ⟨rfl, hb2⟩
            generalize mostX xs s = u at hm ⊢
            go_wp2_with fail
            go_roundw
            case rel => exact ⟨s + 1, by omega, by omega, by go_num, HQ2, hbw.trans (hb2.mono hz)⟩
            case measure => simp [intOf]; omega
          · have HX := Lib.hid (reachX_eq hs1 hs2 HQ.out (fun h => hm h.2))
            have hm2 : n ≤ mostX xs s := by omega
            go_wp2_with fail
            refine (weMost_any _ _ _ _ _ _ (hr.below hbw hB) (by omega) hp2.2.1 hs1 hlt H.out).mono ?_
            rintro e w2 ⟨rfl, hb2⟩
            have hd : decide (mostX xs s < n) = false := by simp; omega
            generalize mostX xs s = u at hm hm2 hd ⊢
            go_wp2_with fail
            go_ret2
            exact ⟨by rw [HX.out]; rfl, hbw.trans (hb2.mono hz)⟩
        · have HX := Lib.hid (reachX_eq hs1 hs2 HQ.out (fun h => hlt h.1))
          obtain rfl : s = xs.length + 1 := by omega
          go_wp2_with fail
          go_ret2
          exact ⟨by rw [HX.out]; rfl, hbw⟩

end Go.Proofs.Ytkfacfhneooaiaa
