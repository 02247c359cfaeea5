/- Contracts: carpets: the steps that suit, joins, starts of patterns and their period; both sides. -/
import Derived.Test.YtcidehjamkebiaaCaB
import Derived.Test.YtcidehjamkebiaaGMake
import Derived.Test.YtcidehjamkebiaaGApp
import Derived.Laws.EntriesVeiled
import Derived.Shelf.Abstract
import Derived.Deep.RegionWith
import Derived.BigQuiet
namespace Go.Proofs.Ytcidehjamkebiaa
open Go.RowKit

/-- the steps 1..n that suit -/
def selL (p : Int → Bool) : Nat → List Int
  | 0 => []
  | k + 1 => if p ((k : Int) + 1) then selL p k ++ [(k : Int) + 1] else selL p k
theorem selL_yes {p : Int → Bool} {k : Nat} (h : p ((k : Int) + 1) = true) : selL p (k + 1) = selL p k ++ [(k : Int) + 1] := by rw [selL, if_pos h]
theorem selL_no {p : Int → Bool} {k : Nat} (h : p ((k : Int) + 1) = false) : selL p (k + 1) = selL p k := by rw [selL, if_neg (by simp [h])]
theorem selL_length (p : Int → Bool) : ∀ k : Nat, (selL p k).length ≤ k
  | 0 => Nat.le_refl _
  | k + 1 => by
    have := selL_length p k
    unfold selL
    split <;> simp <;> omega
theorem selL_skip {p : Int → Bool} {i : Nat} : ∀ {j : Nat}, i ≤ j → (∀ k : Int, (i : Int) < k → k ≤ j → p k = false) → selL p j = selL p i
  | 0, h, _ => by rw [show i = 0 by omega]
  | j + 1, h, hn => by
    by_cases e : i = j + 1
    · rw [e]
    · rw [selL_no (hn ((j : Int) + 1) (by omega) (by omega))]
      exact selL_skip (by omega) (fun k hk hk' => hn k hk (by omega))
def orL (b : Bool) (xs : List Int) : List Int := if b then xs else []
theorem orL_no (xs : List Int) : orL false xs = [] := rfl
theorem orL_yes (xs : List Int) : orL true xs = xs := rfl
theorem orL_length (b : Bool) {xs : List Int} {n : Nat} (h : xs.length ≤ n) : (orL b xs).length ≤ n := by cases b <;> simp [orL]; exact h
def planB (xs : List Int) : Bool := inB xs.length 1 100 && allB 0 7 xs
theorem planB_le {xs : List Int} (h : planB xs = true) : 1 ≤ xs.length ∧ xs.length ≤ 100 := by
  simp only [planB, Bool.and_eq_true] at h
  have := inB_le h.1
  omega
/-- a step has another roll than the one below -/
def joinP (xs : List Int) (k : Int) : Bool := decide (1 < k) && !decide (xs.getD (k - 1).toNat 0 = xs.getD (k - 2).toNat 0)
theorem joinP_one (xs : List Int) : joinP xs 1 = false := by simp [joinP]
theorem joinP_at {xs : List Int} {m : Nat} : joinP xs ((m : Int) + 2) = !decide (xs.getD (m + 1) 0 = xs.getD m 0) := by
  unfold joinP
  rw [show ((m : Int) + 2 - 1).toNat = m + 1 by omega, show ((m : Int) + 2 - 2).toNat = m by omega, decide_eq_true (show (1 : Int) < (m : Int) + 2 by omega), Bool.true_and]
/-- the period of a pattern -/
theorem per_dvd {m p : Int} (hp : 0 < p) (j : Int) : p ∣ j * m ↔ lowD m p ∣ j := by
  have h1 := gI_dvd_l m p
  have h2 := gI_dvd_r m p
  have hg := gI_pos (a := m) hp
  have hc : gI (lowN m p) (lowD m p) = 1 := by
    have := gI_mul (k := gI m p) (a := lowN m p) (b := lowD m p) hg
    rw [h1, h2] at this
    have e : gI m p * gI (lowN m p) (lowD m p) = gI m p * 1 := by rw [← this, Int.mul_one]
    exact Int.eq_of_mul_eq_mul_left (by omega) e
  constructor
  · intro h
    rw [← h1] at h
    have h2' : gI m p * lowD m p ∣ gI m p * (j * lowN m p) := by
      rw [h2, show gI m p * (j * lowN m p) = j * (gI m p * lowN m p) by ac_rfl]; exact h
    have h3 : lowD m p ∣ j * lowN m p := Int.dvd_of_mul_dvd_mul_left (by omega) h2'
    rw [← Int.natAbs_dvd_natAbs] at h3 ⊢
    rw [Int.natAbs_mul] at h3
    refine Nat.Coprime.dvd_of_dvd_mul_right ?_ h3
    show Nat.gcd _ _ = 1
    unfold gI at hc
    rw [Int.gcd_comm] at hc
    have : Int.gcd (lowD m p) (lowN m p) = 1 := by omega
    exact this
  · rintro ⟨q, rfl⟩
    refine ⟨q * lowN m p, ?_⟩
    have e1 : lowD m p * q * m = lowD m p * q * (gI m p * lowN m p) := by rw [h1]
    have e2 : p * (q * lowN m p) = gI m p * lowD m p * (q * lowN m p) := by rw [h2]
    rw [e1, e2]; ac_rfl
theorem per_zero {m p : Int} (hp : 0 < p) {j : Int} : (j * m) % p = 0 ↔ lowD m p ∣ j := by
  rw [← per_dvd hp]
  exact ⟨Int.dvd_of_emod_eq_zero, Int.emod_eq_zero_of_dvd⟩

set_option maxHeartbeats 400000 in
theorem cpPeriod_any (m p : Int) (w : World) (hm : 1 ≤ m) (hm' : m ≤ 100) (hp : 1 ≤ p) (hp' : p ≤ 2000) :
    Calls Try.prog 59 #[.int .i64 m, .int .i64 p] w fun e w' => e = .returned (.int .i64 (lowD m p)) ∧ w = w' := by
  have d1 := lowD_pos (a := m) (b := p) (by omega)
  have d2 := lowD_le (a := m) (b := p) (by omega)
  have hz : ¬ p = 0 := by omega
  have HZ : Hid (∀ j : Int, (j * m) % p = 0 ↔ lowD m p ∣ j) := Lib.hid fun j => per_zero (by omega)
  obtain ⟨d, hd⟩ : ∃ d, d = lowD m p := ⟨_, rfl⟩
  rw [← hd] at d1 d2 HZ ⊢
  clear hd
  go_enter Try.func59, Try.ntmps59
  go_wp2_with fail
  go_loop [5] (fun i => ∃ k : Int, 1 ≤ k ∧ k ≤ d ∧ i = .int .i64 k) (fun i => (d - intOf i).toNat)
  case atStart => exact ⟨1, by omega, by omega, rfl⟩
  case round =>
    obtain ⟨k, hk1, hk2, rfl⟩ := hrel
    obtain ⟨e0, e1⟩ := mul_bd (a := k) (A := 2000) (b := m) (B := 100) (by omega) (by omega) (by omega) (by omega)
    have hzk := HZ.out k
    obtain ⟨e, he⟩ : ∃ e, e = k * m := ⟨_, rfl⟩
    have hwk : IntKind.i64.wrap (k * m) = e := by rw [← he] at e0 e1 ⊢; exact IntWalk.i64_in _ (by omega)
    rw [← he] at e0 e1 hzk
    have ht : e.tmod p = e % p := Int.tmod_eq_emod_of_nonneg (by omega)
    clear he
    by_cases hkd : k = d
    · have h0 : e % p = 0 := hzk.2 (by rw [hkd]; exact Int.dvd_refl _)
      have HK := Lib.hid hkd
      clear hzk hkd
      go_wp2_with fail
      go_ret
      exact ⟨by rw [← HK.out]; rfl, rfl⟩
    · have h0 : ¬ e % p = 0 := fun h => by
        have h2 := Int.le_of_dvd (by omega) (hzk.1 h)
        omega
      clear hzk
      go_wp2_with fail
      go_round
      case rel => exact ⟨k + 1, by omega, by omega, by go_num⟩
      case measure => simp [intOf]; omega

set_option maxHeartbeats 1000000 in
theorem specPatternPeriod_any (m p : Int) (w : World) :
    Calls Try.prog 36 #[.int .i64 m, .int .i64 p] w fun e w' => e = .returned (.tuple #[.int .i64 (orI (patB m p) (lowD m p)), .bool (patB m p)]) ∧ Below w.heap.size w w' := by
  cases g0 : patB m p
  · have hV : patB m p = false := g0
    simp only [orI_no]
    clear hV
    have H0 := Lib.hid g0
    clear g0
    go_enter Try.func36, Try.ntmps36
    go_wp2_with fail
    refine (cpPattern_any _ _ _).mono ?_
    rintro e w' ⟨rfl, rfl⟩
    rw [H0.out]
    go_wp2_with fail
    go_ret2
    exact ⟨rfl, Below.refl _ _⟩
  · obtain ⟨⟨l0, m0⟩, l1, m1⟩ : (1 ≤ m ∧ m ≤ 100) ∧ 1 ≤ p ∧ p ≤ 2000 := by
      have h := g0
      simp only [patB, Bool.and_eq_true] at h
      exact ⟨inB_le h.1, inB_le h.2⟩
    rw [orI_yes]
    have H0 := Lib.hid g0
    clear g0
    go_enter Try.func36, Try.ntmps36
    go_wp2_with fail
    refine (cpPattern_any _ _ _).mono ?_
    rintro e w' ⟨rfl, rfl⟩
    rw [H0.out]
    go_wp2_with fail
    refine (cpPeriod_any m p _ (by omega) (by omega) (by omega) (by omega)).mono ?_
    rintro e w' ⟨rfl, rfl⟩
    go_wp2_with fail
    go_ret2
    exact ⟨rfl, Below.refl _ _⟩

set_option maxHeartbeats 1000000 in
theorem implPatternPeriod_any (m p : Int) (w : World) :
    Calls Try.prog 37 #[.int .i64 m, .int .i64 p] w fun e w' => e = .returned (.tuple #[.int .i64 (orI (patB m p) (lowD m p)), .bool (patB m p)]) ∧ Below w.heap.size w w' := by
  cases g0 : inB m 1 100
  · have hV : patB m p = false := by simp [patB, g0]
    simp only [hV, orI_no]
    clear hV
    have H0 := Lib.hid g0
    clear g0
    go_enter Try.func37, Try.ntmps37
    go_wp2_with fail
    refine (isNeed_any _ _).mono ?_
    rintro e w' ⟨rfl, rfl⟩
    rw [H0.out]
    go_wp2_with fail
    go_ret2
    exact ⟨rfl, Below.refl _ _⟩
  · cases g1 : inB p 1 2000
    · have hV : patB m p = false := by simp [patB, g1]
      simp only [hV, orI_no]
      clear hV
      have H0 := Lib.hid g0
      clear g0
      have H1 := Lib.hid g1
      clear g1
      go_enter Try.func37, Try.ntmps37
      go_wp2_with fail
      refine (isNeed_any _ _).mono ?_
      rintro e w' ⟨rfl, rfl⟩
      rw [H0.out]
      go_wp2_with fail
      refine (isLength_any _ _).mono ?_
      rintro e w' ⟨rfl, rfl⟩
      rw [H1.out]
      go_wp2_with fail
      go_ret2
      exact ⟨rfl, Below.refl _ _⟩
    · obtain ⟨l0, m0⟩ := inB_le g0
      obtain ⟨l1, m1⟩ := inB_le g1
      rw [show patB m p = true by simp [patB, g0, g1]]
      rw [orI_yes]
      have HD := Lib.hid (show lowD m p = p / gI m p from rfl)
      have hg := gI_pos (a := m) (b := p) (by omega)
      have hg2 : gI m p ≤ p := by
        have := Int.le_of_dvd (by omega : 0 < p) (Int.gcd_dvd_right m p)
        exact this
      have q0 : 0 ≤ p / gI m p := Int.ediv_nonneg (by omega) (by omega)
      have q1 : p / gI m p ≤ p := Int.ediv_le_self _ (by omega)
      obtain ⟨y, hy⟩ : ∃ y, y = gI m p := ⟨_, rfl⟩
      rw [← hy] at hg hg2 q0 q1 HD
      have HY := Lib.hid hy
      clear hy
      have ht : p.tdiv y = p / y := Int.tdiv_eq_ediv_of_nonneg (by omega)
      have hz : ¬ y = 0 := by omega
      have H0 := Lib.hid g0
      clear g0
      have H1 := Lib.hid g1
      clear g1
      go_enter Try.func37, Try.ntmps37
      go_wp2_with fail
      refine (isNeed_any _ _).mono ?_
      rintro e w' ⟨rfl, rfl⟩
      rw [H0.out]
      go_wp2_with fail
      refine (isLength_any _ _).mono ?_
      rintro e w' ⟨rfl, rfl⟩
      rw [H1.out]
      go_wp2_with fail
      refine (greatest_any m p _ (by omega) (by omega) (by omega) (by omega)).mono ?_
      rintro e w1 ⟨rfl, kk, hw⟩
      have hb := drew_below hw
      clear hw kk
      have hs : w.heap.size + 0 ≤ w1.heap.size := by have := hb.size; (try simp at this); omega
      have Bt : Below w.heap.size w w1 := hb
      clear hb
      rw [← HY.out]
      go_wp2_with fail
      go_ret2
      exact ⟨by rw [HD.out]; rfl, Bt⟩

set_option maxHeartbeats 1000000 in
theorem stepsUpTo_any (n : Nat) (gf : Nat) (lb : Array Value) (p : Int → Bool) (w : World) (hn : n ≤ 1000)
    (eg : ∀ args u, (callFunc gf args).run Try.prog u = .ok (.enter gf args) u)
    (hs : ∀ (k : Nat) (W : World), k < n → Below w.heap.size w W → Calls Try.prog gf (#[.int .i64 ((k : Int) + 1)] ++ lb) W fun e W' => e = .returned (.bool (p ((k : Int) + 1))) ∧ Below W.heap.size W W') :
    Calls Try.prog 55 #[.int .i64 (n : Int), .func (.func gf) #[] lb] w fun e w' => ∃ v, e = .returned v ∧ OwnI w' w.heap.size v (selL p n) ∧ Below w.heap.size w w' := by
  have HS := Lib.hid hs
  clear hs
  go_enter Try.func55, Try.ntmps55
  go_wp2_with fail
  go_loopw [5, 6] (fun v i wr => ∃ k : Nat, k ≤ n ∧ i = .int .i64 ((k : Int) + 1) ∧ OwnI wr w.heap.size v (selL p k) ∧ Below w.heap.size w wr) (fun _ i _ => n + 1 - (intOf i).toNat)
  case atStart => exact ⟨0, Nat.zero_le _, rfl, OwnI.nil _ _, Below.refl _ _⟩
  case round =>
    obtain ⟨k, hk, rfl, hown, hbw⟩ := hrel
    have hz : w.heap.size ≤ wr.heap.size := hbw.size
    by_cases hlt : k < n
    · have HC := Lib.hid (HS.out k wr hlt hbw)
      have hkl := selL_length p k
      have HY1 := Lib.hid (fun h => selL_yes (p := p) (k := k) h)
      have HN1 := Lib.hid (fun h => selL_no (p := p) (k := k) h)
      obtain ⟨y, hy⟩ : ∃ y : Int, y = (k : Int) + 1 := ⟨_, rfl⟩
      rw [← hy] at HC HY1 HN1 ⊢
      have hy1 : y ≤ n := by omega
      have hy0 : 1 ≤ y := by omega
      have HY := Lib.hid hy
      clear hy
      cases hp : p y
      · have HT := Lib.hid (HN1.out hp)
        have HP := Lib.hid hp
        clear hp
        go_wp2_with fail
        refine HC.out.mono ?_
        rintro e W2 ⟨rfl, hb⟩
        rw [HP.out]
        go_wp2_with fail
        go_roundw
        case rel => exact ⟨k + 1, by omega, congrArg (Value.int .i64) (by have := HY.out; omega), by rw [HT.out]; exact hown.below hb (Nat.le_refl _), hbw.trans (hb.mono hz)⟩
        case measure => have := HY.out; simp [intOf]; omega
      · have HT := Lib.hid (HY1.out hp)
        have HP := Lib.hid hp
        clear hp
        go_wp2_with fail
        refine HC.out.mono ?_
        rintro e W2 ⟨rfl, hb⟩
        rw [HP.out]
        have hz2 := hb.size
        have hO2 := hown.below hb (Nat.le_refl _)
        have HB := Lib.hid (hbw.trans (hb.mono hz))
        generalize hL : selL p k = zs at *
        have HL := Lib.hid hL
        clear hL hown hb hbw
        go_wp2_with (at_builtin; refine wpList_pushI _ rfl _ _ rfl w.heap.size _ zs rfl (hO2.alloc _) W2.heap.size y rfl (by simp) (by omega) (by simp; omega) ?_; intro A1 c1 w3 hown1 hg1)
        go_roundw
        case rel => exact ⟨k + 1, by omega, congrArg (Value.int .i64) (by have := HY.out; omega), by rw [HT.out]; exact hown1, (HB.out.alloc (by omega) _).trans hg1⟩
        case measure => have := HY.out; simp [intOf]; omega
    · obtain rfl : k = n := by omega
      have hno : ¬ (k : Int) + 1 ≤ (k : Int) := by omega
      go_wp2_with fail
      go_ret
      exact ⟨_, rfl, hown, hbw⟩

set_option maxHeartbeats 1000000 in
theorem joinC_any (A : Option Addr) (c : Nat) (xs : List Int) (k g1 B : Nat) (w : World) (hr : Rd w B A c xs) (hn : xs.length ≤ 1000) (hk : k < xs.length) (h1 : Blk w g1 22 #[.slice A xs.length c]) :
    Calls Try.prog 56 #[.int .i64 ((k : Int) + 1), .pointer (some ⟨g1, 0, none⟩)] w fun e w' => e = .returned (.bool (joinP xs ((k : Int) + 1))) ∧ Below w.heap.size w w' := by
  have d1 : w.cell? ⟨g1, 0, none⟩ = some (.slice A xs.length c) := h1.cell 0
  cases k with
  | zero =>
    have hd : decide ((1 : Int) < ((0 : Nat) : Int) + 1) = false := by decide
    have HJ := Lib.hid (joinP_one xs)
    rw [show ((0 : Nat) : Int) + 1 = 1 from rfl]
    go_enter Try.func56, Try.ntmps56
    go_wp2_with fail
    go_quiet (fail)
    go_wp2_with fail
    go_ret
    exact ⟨ret_bool HJ.out.symm, drew_below rfl⟩
  | succ m =>
    have HJ := Lib.hid (joinP_at (xs := xs) (m := m))
    obtain ⟨b, o, rfl, hb0, hc1⟩ := hr.at_ (k := m + 1) hk
    obtain ⟨b', o', e, _, hc2⟩ := hr.at_ (k := m) (by omega)
    cases e
    obtain ⟨y, hy⟩ : ∃ y : Int, y = ((m + 1 : Nat) : Int) + 1 := ⟨_, rfl⟩
    have hye : (m : Int) + 2 = y := by omega
    rw [hye] at HJ
    rw [← hy]
    obtain ⟨j, hj⟩ : ∃ j, j = m + 1 := ⟨_, rfl⟩
    rw [← hj] at hc1 hk HJ
    have hw1 : IntKind.i64.wrap (y - 1) = (j : Int) := by rw [show y - 1 = (j : Int) by omega]; exact IntWalk.i64_in _ (by omega)
    have hw2 : IntKind.i64.wrap (y - 2) = (m : Int) := by rw [show y - 2 = (m : Int) by omega]; exact IntWalk.i64_in _ (by omega)
    have hx1 : y - 1 = (j : Int) := by omega
    have hx2 : y - 2 = (m : Int) := by omega
    have hd : decide (1 < y) = true := decide_eq_true (by omega)
    have hm : m < xs.length := by omega
    generalize xs.getD j 0 = x1 at *
    generalize xs.getD m 0 = x2 at *
    have HX := Lib.hid hx1
    clear hye hy hj hx1 hx2 HX
    by_cases hx : x1 = x2
    · subst hx
      go_enter Try.func56, Try.ntmps56
      go_wp2_with fail
      go_quiet (fail)
      go_wp2_with fail
      go_ret
      exact ⟨ret_bool (by rw [HJ.out]; simp), drew_below rfl⟩
    · go_enter Try.func56, Try.ntmps56
      go_wp2_with fail
      go_quiet (fail)
      go_wp2_with fail
      go_ret
      exact ⟨ret_bool (by rw [HJ.out]; simp [hx]), drew_below rfl⟩


end Go.Proofs.Ytcidehjamkebiaa
