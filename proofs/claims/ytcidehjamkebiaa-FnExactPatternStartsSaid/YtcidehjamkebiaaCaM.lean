/- Contracts: carpets: joins of plans, starts of patterns, whole starts; both sides. -/
import Derived.Test.YtcidehjamkebiaaCaL
import Derived.Test.YtcidehjamkebiaaGMake
namespace Go.Proofs.Ytcidehjamkebiaa
open Go.RowKit

set_option maxHeartbeats 1000000 in
theorem specJoins_any (A : Option Addr) (c : Nat) (xs : List Int) (B : Nat) (w : World) (hr : Rd w B A c xs) (hB : B ≤ w.heap.size) (hn : xs.length ≤ 1048576) :
    Calls Try.prog 28 #[.slice A xs.length c] w (Lists w (orL (planB xs) (selL (joinP xs) xs.length)) (planB xs)) := by
  cases g0 : inB xs.length 1 100
  · rw [show planB xs = false by simp [planB, g0], orL_no]
    have H0 := Lib.hid g0
    clear g0
    go_enter Try.func28, Try.ntmps28
    go_wp2_with fail
    refine (l1In_any _ _ _ _).mono ?_
    rintro e w' ⟨rfl, rfl⟩
    rw [H0.out]
    go_wp2_with fail
    go_ret2
    exact ⟨_, rfl, OwnI.nil _ _, Below.refl _ _⟩
  · cases g1 : allB 0 7 xs
    · rw [show planB xs = false by simp [planB, g0, g1], orL_no]
      have H0 := Lib.hid g0
      have H1 := Lib.hid g1
      clear g0 g1
      go_enter Try.func28, Try.ntmps28
      go_wp2_with fail
      refine (l1In_any _ _ _ _).mono ?_
      rintro e w' ⟨rfl, rfl⟩
      rw [H0.out]
      go_wp2_with fail
      refine (l1All_any _ _ _ _ _ _ _ hr hn).mono ?_
      rintro e w' ⟨rfl, rfl⟩
      rw [H1.out]
      go_wp2_with fail
      go_ret2
      exact ⟨_, rfl, OwnI.nil _ _, Below.refl _ _⟩
    · have hl := inB_le g0
      rw [show planB xs = true by simp [planB, g0, g1], orL_yes]
      have H0 := Lib.hid g0
      have H1 := Lib.hid g1
      clear g0 g1
      go_enter Try.func28, Try.ntmps28
      go_wp2_with fail
      refine (l1In_any _ _ _ _).mono ?_
      rintro e w' ⟨rfl, rfl⟩
      rw [H0.out]
      go_wp2_with fail
      refine (l1All_any _ _ _ _ _ _ _ hr hn).mono ?_
      rintro e w' ⟨rfl, rfl⟩
      rw [H1.out]
      go_wp2_with fail
      go_loopw [4, 5] (fun v i wr => ∃ k : Nat, 1 ≤ k ∧ k ≤ xs.length ∧ i = .int .i64 (k : Int) ∧ OwnI wr w.heap.size v (selL (joinP xs) k) ∧ Below w.heap.size w wr) (fun _ i _ => xs.length - (intOf i).toNat)
      case atStart => exact ⟨1, by omega, by omega, rfl, by rw [show selL (joinP xs) 1 = [] by simp [selL, joinP]]; exact OwnI.nil _ _, Below.refl _ _⟩
      case round =>
        obtain ⟨k, hk1, hk, rfl, hown, hbw⟩ := hrel
        have hz : w.heap.size ≤ wr.heap.size := hbw.size
        by_cases hlt : k < xs.length
        · obtain ⟨m, rfl⟩ : ∃ m, k = m + 1 := ⟨k - 1, by omega⟩
          obtain ⟨b, o, rfl, hb0, hc1⟩ := (hr.below hbw hB).at_ (k := m + 1) hlt
          obtain ⟨b', o', e, _, hc2⟩ := (hr.below hbw hB).at_ (k := m) (by omega)
          cases e
          have HJ : Hid (joinP xs (((m + 1 : Nat) : Int) + 1) = !decide (xs.getD (m + 1) 0 = xs.getD m 0)) := Lib.hid (by rw [show (((m + 1 : Nat) : Int) + 1) = (m : Int) + 2 by omega]; exact joinP_at)
          have HYS := Lib.hid (fun h => selL_yes (p := joinP xs) (k := m + 1) h)
          have HNO := Lib.hid (fun h => selL_no (p := joinP xs) (k := m + 1) h)
          have hkl := selL_length (joinP xs) (m + 1)
          obtain ⟨j, hj⟩ : ∃ j, j = m + 1 := ⟨_, rfl⟩
          rw [← hj] at hc1 hlt HJ HYS HNO hkl hown hk ⊢
          have hw2 : IntKind.i64.wrap ((j : Int) - 1) = (m : Int) := by rw [show (j : Int) - 1 = (m : Int) by omega]; exact IntWalk.i64_in _ (by omega)
          have hm : m < xs.length := by omega
          generalize xs.getD j 0 = x1 at *
          generalize xs.getD m 0 = x2 at *
          have HJE := Lib.hid hj
          clear hj
          by_cases hx : x1 = x2
          · have HT := Lib.hid (HNO.out (by rw [HJ.out]; simp [hx]))
            subst hx
            go_wp2_with fail
            go_quiet (fail)
            go_wp2_with fail
            go_roundw
            case rel => exact ⟨j + 1, by omega, by omega, by go_num, by rw [HT.out]; exact hown, Below.drewN' hbw _⟩
            case measure => simp [intOf]; omega
          · have HT := Lib.hid (HYS.out (by rw [HJ.out]; simp [hx]))
            generalize hL : selL (joinP xs) j = zs at *
            have HL := Lib.hid hL
            have HB := Lib.hid hbw
            clear hL
            go_wp2_with fail
            go_quiet (fail)
            go_wp2_with (at_builtin; refine wpList_pushI _ rfl _ _ rfl w.heap.size _ zs rfl ((show OwnI (wr.drewN _) _ _ _ from hown).alloc _) wr.heap.size ((j : Int) + 1) rfl (by first | (simp; done) | exact (Blk.new' rfl).cell 0) (by omega) (by simp; omega) ?_; intro A1 c1 w3 hown1 hg1)
            go_roundw
            case rel => exact ⟨j + 1, by omega, by omega, by go_num, by rw [HT.out]; exact hown1, ((Below.drewN' HB.out _).alloc (by simp; omega) _).trans hg1⟩
            case measure => simp [intOf]; omega
        · obtain rfl : k = xs.length := by omega
          go_wp2_with fail
          go_ret2
          exact ⟨_, rfl, hown, hbw⟩

set_option maxHeartbeats 1000000 in
theorem implJoins_any (A : Option Addr) (c : Nat) (xs : List Int) (B : Nat) (w : World) (hr : Rd w B A c xs) (hB : B ≤ w.heap.size) (hn : xs.length ≤ 1048576) :
    Calls Try.prog 29 #[.slice A xs.length c] w (Lists w (orL (planB xs) (selL (joinP xs) xs.length)) (planB xs)) := by
  have hb0 : Below w.heap.size w (w.alloc (.cells #[.slice A xs.length c] 22)) := (Below.refl _ _).alloc (Nat.le_refl _) _
  have hr0 := hr.below hb0 hB
  cases g0 : inB xs.length 1 100
  · rw [show planB xs = false by simp [planB, g0], orL_no]
    have H0 := Lib.hid g0
    clear g0
    go_enter Try.func29, Try.ntmps29
    go_wp2_with fail
    refine (isCover_any _ _).mono ?_
    rintro e w' ⟨rfl, rfl⟩
    rw [H0.out]
    go_wp2_with fail
    go_ret2
    exact ⟨_, rfl, OwnI.nil _ _, hb0⟩
  · cases g1 : allB 0 7 xs
    · rw [show planB xs = false by simp [planB, g0, g1], orL_no]
      have H0 := Lib.hid g0
      have H1 := Lib.hid g1
      clear g0 g1
      go_enter Try.func29, Try.ntmps29
      go_wp2_with fail
      refine (isCover_any _ _).mono ?_
      rintro e w' ⟨rfl, rfl⟩
      rw [H0.out]
      go_wp2_with fail
      refine (allWithin_any _ _ _ _ _ _ _ hr0 hn).mono ?_
      rintro e w' ⟨rfl, rfl⟩
      rw [H1.out]
      go_wp2_with fail
      go_ret2
      exact ⟨_, rfl, OwnI.nil _ _, hb0⟩
    · have hl := inB_le g0
      rw [show planB xs = true by simp [planB, g0, g1], orL_yes]
      have H0 := Lib.hid g0
      have H1 := Lib.hid g1
      clear g0 g1
      go_enter Try.func29, Try.ntmps29
      go_wp2_with fail
      refine (isCover_any _ _).mono ?_
      rintro e w' ⟨rfl, rfl⟩
      rw [H0.out]
      go_wp2_with fail
      refine (allWithin_any _ _ _ _ _ _ _ hr0 hn).mono ?_
      rintro e w' ⟨rfl, rfl⟩
      rw [H1.out]
      go_wp2_with fail
      refine (stepsUpTo_any xs.length 56 #[.pointer (some ⟨w.heap.size, 0, none⟩)] (joinP xs) _ (by omega) (enters_of Try.func56 (by kernel_rfl) rfl) ?_).mono ?_
      · intro k W hk hbW
        simp only [World.size_alloc] at hbW
        exact joinC_any A c xs k _ B W (hr.below (hb0.trans (hbW.mono (by omega))) hB) (by omega) hk ((Blk.new' rfl).below hbW (by omega))
      rintro e w9 ⟨v9, rfl, hO, hb⟩
      simp only [World.size_alloc] at hO hb
      go_wp2_with fail
      go_ret2
      exact ⟨_, rfl, hO.mono (by omega), hb0.trans (hb.mono (by omega))⟩

/-- where a pattern stands on each step -/
def psF (m p : Int) (k : Nat) : Int := ((k : Int) * m) % p
def psB (s m p : Int) : Bool := inB s 1 100 && (inB m 1 100 && inB p 1 2000)
def psR (s m p : Int) : List Int := tell s.toNat (psF m p)
theorem psR_length {s m p : Int} : (orL (psB s m p) (psR s m p)).length ≤ 1048576 := by
  cases h : psB s m p
  · simp [orL]
  · simp only [psB, Bool.and_eq_true] at h
    have := inB_le h.1
    rw [orL_yes, psR, tell_length]; omega
theorem tell_snoc (n : Nat) (f : Nat → Int) : tell (n + 1) f = tell n f ++ [f n] := by simp [tell, List.range_succ]
def wsP (m p : Int) (y : Int) : Bool := decide (((y - 1) * m) % p = 0)
def wsR (s m p : Int) : List Int := selL (wsP m p) s.toNat
theorem wsR_length {s m p : Int} : (orL (psB s m p) (wsR s m p)).length ≤ 1048576 := by
  cases h : psB s m p
  · simp [orL]
  · simp only [psB, Bool.and_eq_true] at h
    have := inB_le h.1
    have h2 := selL_length (wsP m p) s.toNat
    rw [orL_yes, wsR]; omega
theorem psB_sp {s m p : Int} (h : stepsB s m = false) : psB s m p = false := by
  simp only [stepsB] at h
  simp only [psB, ← Bool.and_assoc, h, Bool.false_and]
theorem psB_no {s m p : Int} (h : patB m p = false) : psB s m p = false := by
  simp only [patB] at h
  simp only [psB, h, Bool.and_false]
theorem psB_yes {s m p : Int} (h : stepsB s m = true) (h2 : patB m p = true) : psB s m p = true ∧ (1 ≤ s ∧ s ≤ 100) ∧ (1 ≤ m ∧ m ≤ 100) ∧ 1 ≤ p ∧ p ≤ 2000 := by
  simp only [stepsB, patB, Bool.and_eq_true] at h h2
  exact ⟨by simp only [psB, h.1, h2.1, h2.2]; rfl, inB_le h.1, inB_le h.2, inB_le h2.2⟩

set_option maxHeartbeats 1000000 in
theorem specPatternStarts_any (s m p : Int) (w : World) :
    Calls Try.prog 34 #[.int .i64 s, .int .i64 m, .int .i64 p] w (Lists w (orL (psB s m p) (psR s m p)) (psB s m p)) := by
  cases g0 : stepsB s m
  · rw [psB_sp g0, orL_no]
    have H0 := Lib.hid g0
    clear g0
    go_enter Try.func34, Try.ntmps34
    go_wp2_with fail
    refine (cpSteps_any _ _ _).mono ?_
    rintro e w' ⟨rfl, rfl⟩
    rw [H0.out]
    go_wp2_with fail
    go_ret2
    exact ⟨_, rfl, OwnI.nil _ _, Below.refl _ _⟩
  · cases g1 : patB m p
    · rw [psB_no g1, orL_no]
      have H0 := Lib.hid g0
      have H1 := Lib.hid g1
      clear g0 g1
      go_enter Try.func34, Try.ntmps34
      go_wp2_with fail
      refine (cpSteps_any _ _ _).mono ?_
      rintro e w' ⟨rfl, rfl⟩
      rw [H0.out]
      go_wp2_with fail
      refine (cpPattern_any _ _ _).mono ?_
      rintro e w' ⟨rfl, rfl⟩
      rw [H1.out]
      go_wp2_with fail
      go_ret2
      exact ⟨_, rfl, OwnI.nil _ _, Below.refl _ _⟩
    · obtain ⟨hV, hs, hm, hp⟩ := psB_yes g0 g1
      rw [hV, orL_yes]
      obtain ⟨n, rfl⟩ := Int.eq_ofNat_of_zero_le (show 0 ≤ s by omega)
      have H0 := Lib.hid g0
      have H1 := Lib.hid g1
      have hz0 : ¬ p = 0 := by omega
      clear g0 g1 hV
      have HR := Lib.hid (show psR (n : Int) m p = tell n (psF m p) from rfl)
      go_enter Try.func34, Try.ntmps34
      go_wp2_with fail
      refine (cpSteps_any _ _ _).mono ?_
      rintro e w' ⟨rfl, rfl⟩
      rw [H0.out]
      go_wp2_with fail
      refine (cpPattern_any _ _ _).mono ?_
      rintro e w' ⟨rfl, rfl⟩
      rw [H1.out]
      go_wp2_with fail
      go_loopw [8, 9] (fun v i wr => ∃ k : Nat, k ≤ n ∧ i = .int .i64 (k : Int) ∧ OwnI wr w.heap.size v (tell k (psF m p)) ∧ Below w.heap.size w wr) (fun _ i _ => n - (intOf i).toNat)
      case atStart => exact ⟨0, by omega, rfl, OwnI.nil _ _, Below.refl _ _⟩
      case round =>
        obtain ⟨k, hk, rfl, hown, hbw⟩ := hrel
        have hz : w.heap.size ≤ wr.heap.size := hbw.size
        by_cases hlt : k < n
        · obtain ⟨e0, e1⟩ := mul_bd (a := (k : Int)) (A := 100) (b := m) (B := 100) (by omega) (by omega) (by omega) (by omega)
          have HT := Lib.hid (tell_snoc k (psF m p))
          have HF := Lib.hid (show psF m p k = ((k : Int) * m) % p from rfl)
          obtain ⟨e, he⟩ : ∃ e, e = (k : Int) * m := ⟨_, rfl⟩
          have hwk : IntKind.i64.wrap ((k : Int) * m) = e := by rw [← he] at e0 e1 ⊢; exact IntWalk.i64_in _ (by omega)
          rw [← he] at e0 e1 HF
          have ht : e.tmod p = e % p := Int.tmod_eq_emod_of_nonneg (by omega)
          have r0 : 0 ≤ e % p := Int.emod_nonneg _ (by omega)
          have r1 : e % p < p := Int.emod_lt_of_pos _ (by omega)
          have hwr : IntKind.i64.wrap (e % p) = e % p := IntWalk.i64_in _ (by omega)
          have hkl := tell_length k (psF m p)
          clear he
          generalize e % p = r at *
          generalize hL : tell k (psF m p) = zs at *
          have hzl : zs.length ≤ 1048576 := by omega
          have HL := Lib.hid hL
          clear hL hkl
          go_wp2_with (at_builtin; refine wpList_pushI _ rfl _ _ rfl w.heap.size _ zs rfl (hown.alloc _) wr.heap.size r rfl (by simp) hzl (by simp; omega) ?_; intro A1 c1 w3 hown1 hg1)
          go_roundw
          case rel => exact ⟨k + 1, by omega, by go_num, by rw [HT.out, HF.out]; exact hown1, (hbw.alloc hz _).trans hg1⟩
          case measure => simp [intOf]; omega
        · obtain rfl : k = n := by omega
          go_wp2_with fail
          go_ret2
          exact ⟨_, rfl, by rw [HR.out]; exact hown, hbw⟩

set_option maxHeartbeats 1000000 in
theorem specWholeStarts_any (s m p : Int) (w : World) :
    Calls Try.prog 38 #[.int .i64 s, .int .i64 m, .int .i64 p] w (Lists w (orL (psB s m p) (wsR s m p)) (psB s m p)) := by
  cases g0 : stepsB s m
  · rw [psB_sp g0, orL_no]
    have H0 := Lib.hid g0
    clear g0
    go_enter Try.func38, Try.ntmps38
    go_wp2_with fail
    refine (cpSteps_any _ _ _).mono ?_
    rintro e w' ⟨rfl, rfl⟩
    rw [H0.out]
    go_wp2_with fail
    go_ret2
    exact ⟨_, rfl, OwnI.nil _ _, Below.refl _ _⟩
  · cases g1 : patB m p
    · rw [psB_no g1, orL_no]
      have H0 := Lib.hid g0
      have H1 := Lib.hid g1
      clear g0 g1
      go_enter Try.func38, Try.ntmps38
      go_wp2_with fail
      refine (cpSteps_any _ _ _).mono ?_
      rintro e w' ⟨rfl, rfl⟩
      rw [H0.out]
      go_wp2_with fail
      refine (cpPattern_any _ _ _).mono ?_
      rintro e w' ⟨rfl, rfl⟩
      rw [H1.out]
      go_wp2_with fail
      go_ret2
      exact ⟨_, rfl, OwnI.nil _ _, Below.refl _ _⟩
    · obtain ⟨hV, hs, hm, hp⟩ := psB_yes g0 g1
      rw [hV, orL_yes]
      obtain ⟨n, rfl⟩ := Int.eq_ofNat_of_zero_le (show 0 ≤ s by omega)
      have H0 := Lib.hid g0
      have H1 := Lib.hid g1
      have hz0 : ¬ p = 0 := by omega
      clear g0 g1 hV
      have HR := Lib.hid (show wsR (n : Int) m p = selL (wsP m p) n from rfl)
      have d1 := lowD_pos (a := m) (b := p) (by omega)
      have d2 := lowD_le (a := m) (b := p) (by omega)
      have HZ : Hid (∀ j : Int, (j * m) % p = 0 ↔ lowD m p ∣ j) := Lib.hid fun j => per_zero (by omega)
      have HD : Hid (∀ W : World, Calls Try.prog 59 #[.int .i64 m, .int .i64 p] W fun e w' => e = .returned (.int .i64 (lowD m p)) ∧ W = w') := Lib.hid fun W => cpPeriod_any m p W hm.1 hm.2 hp.1 hp.2
      obtain ⟨d, hd⟩ : ∃ d, d = lowD m p := ⟨_, rfl⟩
      rw [← hd] at d1 d2 HZ HD
      clear hd
      obtain ⟨dn, rfl⟩ := Int.eq_ofNat_of_zero_le (show 0 ≤ d by omega)
      go_enter Try.func38, Try.ntmps38
      go_wp2_with fail
      refine (cpSteps_any _ _ _).mono ?_
      rintro e w' ⟨rfl, rfl⟩
      rw [H0.out]
      go_wp2_with fail
      refine (cpPattern_any _ _ _).mono ?_
      rintro e w' ⟨rfl, rfl⟩
      rw [H1.out]
      go_wp2_with fail
      go_loopw [8, 9] (fun v i wr => ∃ k : Nat, k ≤ 3000 ∧ i = .int .i64 (k : Int) ∧ Hid ((dn : Int) ∣ (k : Int)) ∧ OwnI wr w.heap.size v (selL (wsP m p) (min k n)) ∧ Below w.heap.size w wr) (fun _ i _ => n - (intOf i).toNat)
      case atStart => exact ⟨0, by omega, rfl, Lib.hid (Int.dvd_zero _), by rw [Nat.zero_min]; exact OwnI.nil _ _, Below.refl _ _⟩
      case round =>
        obtain ⟨k, hk, rfl, HK, hown, hbw⟩ := hrel
        have hz : w.heap.size ≤ wr.heap.size := hbw.size
        by_cases hlt : k < n
        · have HY : Hid (selL (wsP m p) (min (k + dn) n) = selL (wsP m p) (min k n) ++ [(k : Int) + 1]) := Lib.hid (by
            rw [Nat.min_eq_left (by omega : k ≤ n)]
            rw [selL_skip (i := k + 1) (by omega) (fun y h1 h2 => ?_)]
            · refine selL_yes ?_
              rw [wsP, show (k : Int) + 1 - 1 = k by omega]
              exact decide_eq_true ((HZ.out _).2 HK.out)
            · refine decide_eq_false fun h => ?_
              have h3 := (HZ.out _).1 h
              have h4 : (dn : Int) ∣ y - 1 - k := Int.dvd_sub h3 HK.out
              have h5 := Int.le_of_dvd (by omega) h4
              omega)
          have HK2 : Hid ((dn : Int) ∣ ((k + dn : Nat) : Int)) := Lib.hid (by
            rw [Int.natCast_add]
            exact Int.dvd_add HK.out (Int.dvd_refl _))
          have hkl := selL_length (wsP m p) (min k n)
          generalize hL : selL (wsP m p) (min k n) = zs at *
          have hzl : zs.length ≤ 1048576 := by omega
          have HL := Lib.hid hL
          clear hL hkl
          go_wp2_with (at_builtin; refine wpList_pushI _ rfl _ _ rfl w.heap.size _ zs rfl (hown.alloc _) wr.heap.size ((k : Int) + 1) rfl (by simp) hzl (by simp; omega) ?_; intro A1 c1 w3 hown1 hg1)
          have hb3 := (hbw.alloc hz (.cells #[.int .i64 ((k : Int) + 1)] 3)).trans hg1
          refine (HD.out _).mono ?_
          rintro e w' ⟨rfl, rfl⟩
          go_wp2_with fail
          go_roundw
          case rel => exact ⟨k + dn, by omega, by go_num, HK2, by rw [HY.out]; exact hown1, hb3⟩
          case measure => simp [intOf]; omega
        · have HE := Lib.hid (show min k n = n by omega)
          go_wp2_with fail
          go_ret2
          exact ⟨_, rfl, by rw [HR.out, ← HE.out]; exact hown, hbw⟩

def psG (m p : Int) (k j : Nat) : Int := if j < k then psF m p j else 0
set_option maxHeartbeats 1000000 in
theorem implPatternStarts_any (s m p : Int) (w : World) :
    Calls Try.prog 35 #[.int .i64 s, .int .i64 m, .int .i64 p] w (Lists w (orL (psB s m p) (psR s m p)) (psB s m p)) := by
  cases g0 : inB s 1 100
  · rw [show psB s m p = false by simp [psB, g0], orL_no]
    have H0 := Lib.hid g0
    clear g0
    go_enter Try.func35, Try.ntmps35
    go_wp2_with fail
    refine (isCover_any _ _).mono ?_
    rintro e w' ⟨rfl, rfl⟩
    rw [H0.out]
    go_wp2_with fail
    go_ret2
    exact ⟨_, rfl, OwnI.nil _ _, Below.refl _ _⟩
  · have _h := True.intro
    cases g1 : inB m 1 100
    · rw [show psB s m p = false by simp [psB, g0, g1], orL_no]
      have H0 := Lib.hid g0
      clear g0
      have H1 := Lib.hid g1
      clear g1
      go_enter Try.func35, Try.ntmps35
      go_wp2_with fail
      refine (isCover_any _ _).mono ?_
      rintro e w' ⟨rfl, rfl⟩
      rw [H0.out]
      go_wp2_with fail
      refine (isNeed_any _ _).mono ?_
      rintro e w' ⟨rfl, rfl⟩
      rw [H1.out]
      go_wp2_with fail
      go_ret2
      exact ⟨_, rfl, OwnI.nil _ _, Below.refl _ _⟩
    · have _h := True.intro
      cases g2 : inB p 1 2000
      · rw [show psB s m p = false by simp [psB, g0, g1, g2], orL_no]
        have H0 := Lib.hid g0
        clear g0
        have H1 := Lib.hid g1
        clear g1
        have H2 := Lib.hid g2
        clear g2
        go_enter Try.func35, Try.ntmps35
        go_wp2_with fail
        refine (isCover_any _ _).mono ?_
        rintro e w' ⟨rfl, rfl⟩
        rw [H0.out]
        go_wp2_with fail
        refine (isNeed_any _ _).mono ?_
        rintro e w' ⟨rfl, rfl⟩
        rw [H1.out]
        go_wp2_with fail
        refine (isLength_any _ _).mono ?_
        rintro e w' ⟨rfl, rfl⟩
        rw [H2.out]
        go_wp2_with fail
        go_ret2
        exact ⟨_, rfl, OwnI.nil _ _, Below.refl _ _⟩
      · have _h := True.intro
        rw [show psB s m p = true by simp [psB, g0, g1, g2], orL_yes]
        have hs := inB_le g0
        have hm := inB_le g1
        have hp := inB_le g2
        obtain ⟨n, rfl⟩ := Int.eq_ofNat_of_zero_le (show 0 ≤ s by omega)
        have H0 := Lib.hid g0
        have H1 := Lib.hid g1
        have H2 := Lib.hid g2
        clear g0 g1 g2
        have hz0 : ¬ p = 0 := by omega
        have hn100 : n ≤ 100 := by omega
        have hmk := make_run n (by omega)
        have HR := Lib.hid (show psR (n : Int) m p = tell n (psF m p) from rfl)
        have XF : Blk (w.alloc (.cells (ints (List.replicate n 0)) 3)) w.heap.size 3 (ints (tell n (psG m p 0))) := by
          rw [tell_zero (f := psG m p 0) (fun k _ => by simp [psG])]
          exact Blk.new _ _ _
        have B0 : Below w.heap.size w (w.alloc (.cells (ints (List.replicate n 0)) 3)) := below_alloc _ _
        go_enter Try.func35, Try.ntmps35
        go_wp2_with fail
        refine (isCover_any _ _).mono ?_
        rintro e w' ⟨rfl, rfl⟩
        rw [H0.out]
        go_wp2_with fail
        refine (isNeed_any _ _).mono ?_
        rintro e w' ⟨rfl, rfl⟩
        rw [H1.out]
        go_wp2_with fail
        refine (isLength_any _ _).mono ?_
        rintro e w' ⟨rfl, rfl⟩
        rw [H2.out]
        go_wp2_with fail
        go_loopw [27] (fun i wr => ∃ k : Nat, k ≤ n ∧ i = .int .i64 (k : Int) ∧ Blk wr w.heap.size 3 (ints (tell n (psG m p k))) ∧ Below w.heap.size w wr) (fun i _ => n - (intOf i).toNat)
        case atStart => exact ⟨0, by omega, rfl, XF, B0⟩
        case round =>
          clear XF B0 hmk
          obtain ⟨k, hk, rfl, hF, hbw⟩ := hrel
          have hFl := hF.lt
          by_cases hlt : k < n
          · obtain ⟨e0, e1⟩ := mul_bd (a := (k : Int)) (A := 100) (b := m) (B := 100) (by omega) (by omega) (by omega) (by omega)
            have HT : Hid ((tell n (psG m p k)).set k (psF m p k) = tell n (psG m p (k + 1))) := Lib.hid (tell_set hlt (by simp [psG]) (fun j _ hj => by
              have e : (j < k + 1) ↔ (j < k) := by omega
              simp only [psG, e]))
            have HF := Lib.hid (show psF m p k = ((k : Int) * m) % p from rfl)
            have hc1 := hF.int_at (k := k) (by rw [tell_length]; exact hlt)
            have hc2 := hF.frozen k
            obtain ⟨e, he⟩ : ∃ e, e = (k : Int) * m := ⟨_, rfl⟩
            have hwk : IntKind.i64.wrap ((k : Int) * m) = e := by rw [← he] at e0 e1 ⊢; exact IntWalk.i64_in _ (by omega)
            rw [← he] at e0 e1 HF
            have ht : e.tmod p = e % p := Int.tmod_eq_emod_of_nonneg (by omega)
            have r0 : 0 ≤ e % p := Int.emod_nonneg _ (by omega)
            have r1 : e % p < p := Int.emod_lt_of_pos _ (by omega)
            have hwr : IntKind.i64.wrap (e % p) = e % p := IntWalk.i64_in _ (by omega)
            clear he
            generalize e % p = r at *
            rw [HF.out] at HT
            go_wp2_with fail
            go_roundw
            case rel => exact ⟨k + 1, by omega, by go_num, by rw [← HT.out]; exact hF.int_set k _, hbw.setCell (by simp) _⟩
            case measure => simp [intOf]; omega
          · obtain rfl : k = n := by omega
            have hO : OwnI wr w.heap.size (.slice (some ⟨w.heap.size, 0, none⟩) k k) (psR (k : Int) m p) := by
              have e : tell k (psG m p k) = tell k (psF m p) := tell_ext fun j hj => by simp [psG, hj]
              rw [e, ← HR.out] at hF
              have hlen : (psR (k : Int) m p).length = k := by rw [HR.out, tell_length]
              have := hF.own (by rw [hlen]; omega)
              rwa [hlen] at this
            go_wp2_with fail
            go_ret2
            exact ⟨_, rfl, hO, hbw⟩

set_option maxHeartbeats 1000000 in
theorem wholeC_any (A : Option Addr) (c n : Nat) (m p : Int) (k g1 B : Nat) (w : World) (hr : Rd w B A c (tell n (psF m p))) (hn : n ≤ 1000) (hk : k < n) (h1 : Blk w g1 22 #[.slice A n c]) :
    Calls Try.prog 61 #[.int .i64 ((k : Int) + 1), .pointer (some ⟨g1, 0, none⟩)] w fun e w' => e = .returned (.bool (wsP m p ((k : Int) + 1))) ∧ Below w.heap.size w w' := by
  have d1 : w.cell? ⟨g1, 0, none⟩ = some (.slice A n c) := h1.cell 0
  obtain ⟨b, o, rfl, hb0, hc1⟩ := hr.at_ (k := k) (by rw [tell_length]; exact hk)
  rw [tell_getD _ _ _ hk] at hc1
  have HW : Hid (wsP m p ((k : Int) + 1) = decide (psF m p k = 0)) := Lib.hid (by rw [wsP, psF, show (k : Int) + 1 - 1 = k by omega])
  obtain ⟨y, hy⟩ : ∃ y : Int, y = (k : Int) + 1 := ⟨_, rfl⟩
  rw [← hy] at HW ⊢
  have hw1 : IntKind.i64.wrap (y - 1) = (k : Int) := by rw [show y - 1 = (k : Int) by omega]; exact IntWalk.i64_in _ (by omega)
  clear hy
  generalize psF m p k = x at *
  go_enter Try.func61, Try.ntmps61
  go_wp2_with fail
  go_ret
  exact ⟨ret_bool HW.out.symm, Below.refl _ _⟩

set_option maxHeartbeats 1000000 in
theorem implWholeStarts_any (s m p : Int) (w : World) :
    Calls Try.prog 39 #[.int .i64 s, .int .i64 m, .int .i64 p] w (Lists w (orL (psB s m p) (wsR s m p)) (psB s m p)) := by
  cases g : psB s m p
  · rw [orL_no]
    have G := Lib.hid g
    clear g
    go_enter Try.func39, Try.ntmps39
    go_wp2_with fail
    refine (implPatternStarts_any s m p w).mono ?_
    rintro e w1 ⟨v, rfl, hO, hb⟩
    rw [G.out] at hO ⊢
    rw [orL_no] at hO
    obtain ⟨A, c, rfl, hrd⟩ := hO.form
    go_wp2_with fail
    refine (stepsUpTo_any 0 61 #[.pointer (some ⟨w1.heap.size, 0, none⟩)] (fun _ => false) _ (by omega) (enters_of Try.func61 (by kernel_rfl) rfl) ?_).mono ?_
    · intro k W hk; omega
    rintro e w9 ⟨v9, rfl, hO9, hb9⟩
    simp only [World.size_alloc] at hO9 hb9
    go_wp2_with fail
    go_ret2
    refine ⟨_, rfl, hO9.mono (by have := hb.size; omega), ?_⟩
    exact ((hb.alloc hb.size _).trans (hb9.mono (by have := hb.size; omega)))
  · rw [orL_yes]
    have hV := g
    simp only [psB, Bool.and_eq_true] at hV
    have hs := inB_le hV.1
    clear hV
    have G := Lib.hid g
    clear g
    obtain ⟨n, rfl⟩ := Int.eq_ofNat_of_zero_le (show 0 ≤ s by omega)
    go_enter Try.func39, Try.ntmps39
    go_wp2_with fail
    refine (implPatternStarts_any n m p w).mono ?_
    rintro e w1 ⟨v, rfl, hO, hb⟩
    rw [G.out] at hO ⊢
    rw [orL_yes, show psR (n : Int) m p = tell n (psF m p) from rfl] at hO
    obtain ⟨A, c, rfl, hrd⟩ := hO.form
    rw [tell_length]
    have hbs := hb.size
    go_wp2_with fail
    refine (stepsUpTo_any n 61 #[.pointer (some ⟨w1.heap.size, 0, none⟩)] (wsP m p) _ (by omega) (enters_of Try.func61 (by kernel_rfl) rfl) ?_).mono ?_
    · intro k W hk hbW
      simp only [World.size_alloc] at hbW
      have hbx : Below w1.heap.size w1 (w1.alloc (.cells #[.slice A n c] 22)) := (Below.refl _ _).alloc (Nat.le_refl _) _
      exact wholeC_any A c n m p k w1.heap.size w1.heap.size W (hrd.below (hbx.trans (hbW.mono (by omega))) (Nat.le_refl _)) (by omega) hk ((Blk.new' rfl).below hbW (by omega))
    rintro e w9 ⟨v9, rfl, hO9, hb9⟩
    simp only [World.size_alloc] at hO9 hb9
    go_wp2_with fail
    go_ret2
    refine ⟨_, rfl, hO9.mono (by omega), ?_⟩
    exact ((hb.alloc hb.size _).trans (hb9.mono (by omega)))


end Go.Proofs.Ytcidehjamkebiaa
