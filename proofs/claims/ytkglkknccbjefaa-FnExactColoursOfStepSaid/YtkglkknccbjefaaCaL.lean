/- Contracts: carpets: the steps that suit, joins, starts of patterns and their period; both sides. -/
import Derived.Test.YtkglkknccbjefaaCaB
import Derived.Test.YtkglkknccbjefaaGMake
import Derived.Test.YtkglkknccbjefaaGApp
import Derived.Laws.EntriesVeiled
import Derived.Shelf.Abstract
import Derived.Deep.RegionWith
import Derived.BigQuiet
namespace Go.Proofs.Ytkglkknccbjefaa
open Go.RowKit

/-- the steps 1..n that suit -/
def selL (p : Int → Bool) : Nat → List Int
  | 0 => []
  | k + 1 => if p ((k : Int) + 1) then selL p k ++ [(k : Int) + 1] else selL p k
theorem selL_yes {p : Int → Bool} {k : Nat} (h : p ((k : Int) + 1) = true) : selL p (k + 1) = selL p k ++ [(k : Int) + 1] := by rw [selL, if_pos h]
theorem selL_no {p : Int → Bool} {k : Nat} (h : p ((k : Int) + 1) = false) : selL p (k + 1) = selL p k := by rw [selL, if_neg (by simp [h])]
theorem selL_length (p : Int → Bool) : ∀ k : Nat, (selL p k).length ≤ k
  | 0 => Nat.le_refl _
  | k + 1 => by
    have := selL_length p k
    unfold selL
    split <;> simp <;> omega
theorem selL_skip {p : Int → Bool} {i : Nat} : ∀ {j : Nat}, i ≤ j → (∀ k : Int, (i : Int) < k → k ≤ j → p k = false) → selL p j = selL p i
  | 0, h, _ => by rw [show i = 0 by omega]
  | j + 1, h, hn => by
    by_cases e : i = j + 1
    · rw [e]
    · rw [selL_no (hn ((j : Int) + 1) (by omega) (by omega))]
      exact selL_skip (by omega) (fun k hk hk' => hn k hk (by omega))
def orL (b : Bool) (xs : List Int) : List Int := if b then xs else []
theorem orL_no (xs : List Int) : orL false xs = [] := rfl
theorem orL_yes (xs : List Int) : orL true xs = xs := rfl
theorem orL_length (b : Bool) {xs : List Int} {n : Nat} (h : xs.length ≤ n) : (orL b xs).length ≤ n := by cases b <;> simp [orL]; exact h
def planB (xs : List Int) : Bool := inB xs.length 1 100 && allB 0 7 xs
theorem planB_le {xs : List Int} (h : planB xs = true) : 1 ≤ xs.length ∧ xs.length ≤ 100 := by
  simp only [planB, Bool.and_eq_true] at h
  have := inB_le h.1
  omega
/-- a step has another roll than the one below -/
def joinP (xs : List Int) (k : Int) : Bool := decide (1 < k) && !decide (xs.getD (k - 1).toNat 0 = xs.getD (k - 2).toNat 0)
theorem joinP_one (xs : List Int) : joinP xs 1 = false := by simp [joinP]
theorem joinP_at {xs : List Int} {m : Nat} : joinP xs ((m : Int) + 2) = !decide (xs.getD (m + 1) 0 = xs.getD m 0) := by
  unfold joinP
  rw [show ((m : Int) + 2 - 1).toNat = m + 1 by omega, show ((m : Int) + 2 - 2).toNat = m by omega, decide_eq_true (show (1 : Int) < (m : Int) + 2 by omega), Bool.true_and]
/-- the period of a pattern -/
theorem per_dvd {m p : Int} (hp : 0 < p) (j : Int) : p ∣ j * m ↔ lowD m p ∣ j := by
  have h1 := gI_dvd_l m p
  have h2 := gI_dvd_r m p
  have hg := gI_pos (a := m) hp
  have hc : gI (lowN m p) (lowD m p) = 1 := by
    have := gI_mul (k := gI m p) (a := lowN m p) (b := lowD m p) hg
    rw [h1, h2] at this
    have e : gI m p * gI (lowN m p) (lowD m p) = gI m p * 1 := by rw [← this, Int.mul_one]
    exact Int.eq_of_mul_eq_mul_left (by omega) e
  constructor
  · intro h
    rw [← h1] at h
    have h2' : gI m p * lowD m p ∣ gI m p * (j * lowN m p) := by
      rw [h2, show gI m p * (j * lowN m p) = j * (gI m p * lowN m p) by ac_rfl]; exact h
    have h3 : lowD m p ∣ j * lowN m p := Int.dvd_of_mul_dvd_mul_left (by omega) h2'
    rw [← Int.natAbs_dvd_natAbs] at h3 ⊢
    rw [Int.natAbs_mul] at h3
    refine Nat.Coprime.dvd_of_dvd_mul_right ?_ h3
    show Nat.gcd _ _ = 1
    unfold gI at hc
    rw [Int.gcd_comm] at hc
    have : Int.gcd (lowD m p) (lowN m p) = 1 := by omega
    exact this
  · rintro ⟨q, rfl⟩
    refine ⟨q * lowN m p, ?_⟩
    have e1 : lowD m p * q * m = lowD m p * q * (gI m p * lowN m p) := by rw [h1]
    have e2 : p * (q * lowN m p) = gI m p * lowD m p * (q * lowN m p) := by rw [h2]
    rw [e1, e2]; ac_rfl
theorem per_zero {m p : Int} (hp : 0 < p) {j : Int} : (j * m) % p = 0 ↔ lowD m p ∣ j := by
  rw [← per_dvd hp]
  exact ⟨Int.dvd_of_emod_eq_zero, Int.emod_eq_zero_of_dvd⟩




set_option maxHeartbeats 1000000 in
theorem stepsUpTo_any (n : Nat) (gf : Nat) (lb : Array Value) (p : Int → Bool) (w : World) (hn : n ≤ 1000)
    (eg : ∀ args u, (callFunc gf args).run Try.prog u = .ok (.enter gf args) u)
    (hs : ∀ (k : Nat) (W : World), k < n → Below w.heap.size w W → Calls Try.prog gf (#[.int .i64 ((k : Int) + 1)] ++ lb) W fun e W' => e = .returned (.bool (p ((k : Int) + 1))) ∧ Below W.heap.size W W') :
    Calls Try.prog 28 #[.int .i64 (n : Int), .func (.func gf) #[] lb] w fun e w' => ∃ v, e = .returned v ∧ OwnI w' w.heap.size v (selL p n) ∧ Below w.heap.size w w' := by
  have HS := Lib.hid hs
  clear hs
  go_enter Try.func28, Try.ntmps28
  go_wp2_with fail
  go_loopw [5, 6] (fun v i wr => ∃ k : Nat, k ≤ n ∧ i = .int .i64 ((k : Int) + 1) ∧ OwnI wr w.heap.size v (selL p k) ∧ Below w.heap.size w wr) (fun _ i _ => n + 1 - (intOf i).toNat)
  case atStart => exact ⟨0, Nat.zero_le _, rfl, OwnI.nil _ _, Below.refl _ _⟩
  case round =>
    obtain ⟨k, hk, rfl, hown, hbw⟩ := hrel
    have hz : w.heap.size ≤ wr.heap.size := hbw.size
    by_cases hlt : k < n
    · have HC := Lib.hid (HS.out k wr hlt hbw)
      have hkl := selL_length p k
      have HY1 := Lib.hid (fun h => selL_yes (p := p) (k := k) h)
      have HN1 := Lib.hid (fun h => selL_no (p := p) (k := k) h)
      obtain ⟨y, hy⟩ : ∃ y : Int, y = (k : Int) + 1 := ⟨_, rfl⟩
      rw [← hy] at HC HY1 HN1 ⊢
      have hy1 : y ≤ n := by omega
      have hy0 : 1 ≤ y := by omega
      have HY := Lib.hid hy
      clear hy
      cases hp : p y
      · have HT := Lib.hid (HN1.out hp)
        have HP := Lib.hid hp
        clear hp
        go_wp2_with fail
        refine HC.out.mono ?_
        rintro e W2 ⟨rfl, hb⟩
        rw [HP.out]
        go_wp2_with fail
        go_roundw
        case rel => exact ⟨k + 1, by omega, congrArg (Value.int .i64) (by have := HY.out; omega), by rw [HT.out]; exact hown.below hb (Nat.le_refl _), hbw.trans (hb.mono hz)⟩
        case measure => have := HY.out; simp [intOf]; omega
      · have HT := Lib.hid (HY1.out hp)
        have HP := Lib.hid hp
        clear hp
        go_wp2_with fail
        refine HC.out.mono ?_
        rintro e W2 ⟨rfl, hb⟩
        rw [HP.out]
        have hz2 := hb.size
        have hO2 := hown.below hb (Nat.le_refl _)
        have HB := Lib.hid (hbw.trans (hb.mono hz))
        generalize hL : selL p k = zs at *
        have HL := Lib.hid hL
        clear hL hown hb hbw
        go_wp2_with (at_builtin; refine wpList_pushI _ rfl _ _ rfl w.heap.size _ zs rfl (hO2.alloc _) W2.heap.size y rfl (by simp) (by omega) (by simp; omega) ?_; intro A1 c1 w3 hown1 hg1)
        go_roundw
        case rel => exact ⟨k + 1, by omega, congrArg (Value.int .i64) (by have := HY.out; omega), by rw [HT.out]; exact hown1, (HB.out.alloc (by omega) _).trans hg1⟩
        case measure => have := HY.out; simp [intOf]; omega
    · obtain rfl : k = n := by omega
      have hno : ¬ (k : Int) + 1 ≤ (k : Int) := by omega
      go_wp2_with fail
      go_ret
      exact ⟨_, rfl, hown, hbw⟩



end Go.Proofs.Ytkglkknccbjefaa
