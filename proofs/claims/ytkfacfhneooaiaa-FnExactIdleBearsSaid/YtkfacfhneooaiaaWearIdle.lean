/- Contracts: idle steps and the worst step to lose, on both sides. -/
import Derived.Test.YtkfacfhneooaiaaWearLose
namespace Go.Proofs.Ytkfacfhneooaiaa
open Go.RowKit

/-- the first k steps that can be lost with no climb less -/
def idleL (xs : List Int) (r : Nat) : Nat → List Int
  | 0 => []
  | k + 1 => if lostX xs r k = mostX xs r then idleL xs r k ++ [(k : Int) + 1] else idleL xs r k
theorem idleL_yes {xs : List Int} {r k : Nat} (h : lostX xs r k = mostX xs r) : idleL xs r (k + 1) = idleL xs r k ++ [(k : Int) + 1] := by rw [idleL, if_pos h]
theorem idleL_no {xs : List Int} {r k : Nat} (h : ¬ lostX xs r k = mostX xs r) : idleL xs r (k + 1) = idleL xs r k := by rw [idleL, if_neg h]
theorem idleL_length (xs : List Int) (r : Nat) : ∀ k, (idleL xs r k).length ≤ k
  | 0 => Nat.le_refl _
  | k + 1 => by
    have := idleL_length xs r k
    unfold idleL
    split
    · simp; omega
    · omega
def idleR (xs : List Int) (n : Int) : List Int := if endsB xs n then idleL xs n.toNat xs.length else []
theorem idleR_length (xs : List Int) (n : Int) : (idleR xs n).length ≤ 1048576 := by
  unfold idleR
  split
  · next h =>
    have := endsB_le h
    have := idleL_length xs n.toNat xs.length
    omega
  · simp
theorem lostL_at {xs : List Int} {r k : Nat} (h : k < xs.length) : (lostL xs r).getD k 0 = lostX xs r k := by unfold lostL; rw [tell_getD _ _ _ h]

set_option maxHeartbeats 2000000 in
theorem impIdle_any (A : Option Addr) (c : Nat) (xs : List Int) (n : Int) (B : Nat) (w : World) (hr : Rd w B A c xs) (hB : B ≤ w.heap.size) (hn : xs.length ≤ 1048576) :
    Calls Try.prog 30 #[.slice A xs.length c, .int .i64 n] w (Lists w (idleR xs n) (endsB xs n)) := by
  cases h : endsB xs n
  · rw [show idleR xs n = [] by simp [idleR, h]]
    have H := Lib.hid h
    clear h
    go_enter Try.func30, Try.ntmps30
    go_wp2_with fail
    refine (impMost_any _ _ _ _ _ _ hr hB hn).mono ?_
    rintro e w1 ⟨rfl, hb⟩
    rw [H.out]
    go_wp2_with fail
    go_ret2
    exact ⟨_, rfl, OwnI.nil _ _, hb⟩
  · have hdum : True := trivial
    have hp := endsB_le h
    obtain ⟨r, rfl⟩ : ∃ r : Nat, n = (r : Int) := ⟨n.toNat, by omega⟩
    have H := Lib.hid h
    have HBe := Lib.hid hp.1
    have hp2 : 1 ≤ xs.length ∧ xs.length ≤ 20 ∧ 1 ≤ r ∧ r ≤ xs.length := by omega
    rw [show idleR xs (r : Int) = idleL xs r xs.length by simp [idleR, h]]
    have HMo := Lib.hid (mostR_yes h)
    have hll := lostL_length xs r
    clear h hp hdum
    go_enter Try.func30, Try.ntmps30
    go_wp2_with fail
    refine (impMost_any _ _ _ _ _ _ hr hB hn).mono ?_
    rintro e w1 ⟨rfl, hb⟩
    rw [H.out, HMo.out]
    have hz1 := hb.size
    generalize hu : mostX xs r = u at *
    have HU := Lib.hid hu
    clear hu
    go_wp2_with fail
    refine (mostWithout_any _ _ _ _ _ _ (hr.below hb hB) (by omega) hp2.2.1 hp2.2.2.1 hp2.2.2.2 HBe.out).mono ?_
    rintro e w2 ⟨v, rfl, hown, hb2⟩
    obtain ⟨Z, d, hv, hrd⟩ := hown.form
    subst hv
    have HRD := Lib.hid hrd
    have hz2 := hb2.size
    have HW2 := Lib.hid (hb.trans (hb2.mono hz1))
    rw [hll]
    clear hown hrd hll
    go_wp2_with fail
    go_loopw [8, 23] (fun v i wr => ∃ k : Nat, k ≤ xs.length ∧ i = .int .i64 k ∧ OwnI wr w2.heap.size v (idleL xs r k) ∧ Below w2.heap.size w2 wr) (fun _ i _ => (21 - intOf i).toNat)
    case atStart => exact ⟨0, by omega, rfl, OwnI.nil _ _, Below.refl _ _⟩
    case round =>
      obtain ⟨k, hk, rfl, hown, hbw⟩ := hrel
      have hz : w2.heap.size ≤ wr.heap.size := hbw.size
      by_cases hlt : k < xs.length
      · obtain ⟨b', o', rfl, hb', hcell⟩ := (HRD.out.below hbw (Nat.le_refl _)).at_ (k := k) (by rw [lostL_length]; exact hlt)
        rw [lostL_at hlt] at hcell
        by_cases he : lostX xs r k = u
        · have HT := Lib.hid (idleL_yes (he.trans HU.out.symm))
          have hlen := idleL_length xs r k
          rw [he] at hcell
          generalize hL : idleL xs r k = zs at *
          clear hL he
          go_wp2_with (at_builtin; refine wpList_pushI _ rfl _ _ rfl w2.heap.size _ zs rfl (hown.alloc _) wr.heap.size ((k : Int) + 1) rfl (by simp) (by omega) (by simp; omega) ?_; intro A1 c1 w3 hown1 hg1)
          go_roundw
          case rel => exact ⟨k + 1, by omega, by go_num, by rw [HT.out]; exact hown1, (hbw.alloc hz _).trans hg1⟩
          case measure => simp [intOf]; omega
        · have HT := Lib.hid (idleL_no (xs := xs) (r := r) (k := k) (fun h => he (h.trans HU.out)))
          have hx : (lostX xs r k == u) = false := by simpa using he
          generalize lostX xs r k = x at hcell hx he
          clear he
          go_wp2_with fail
          go_roundw
          case rel => exact ⟨k + 1, by omega, by go_num, by rw [HT.out]; exact hown, hbw⟩
          case measure => simp [intOf]; omega
      · obtain rfl : k = xs.length := by omega
        go_wp2_with fail
        go_ret2
        exact ⟨_, rfl, hown.mono (by omega), HW2.out.trans (hbw.mono (by omega))⟩

set_option maxHeartbeats 2000000 in
theorem specIdle_any (A : Option Addr) (c : Nat) (xs : List Int) (n : Int) (B : Nat) (w : World) (hr : Rd w B A c xs) (hB : B ≤ w.heap.size) (hn : xs.length ≤ 1048576) :
    Calls Try.prog 29 #[.slice A xs.length c, .int .i64 n] w (Lists w (idleR xs n) (endsB xs n)) := by
  cases h : endsB xs n
  · rw [show idleR xs n = [] by simp [idleR, h]]
    have H := Lib.hid h
    clear h
    go_enter Try.func29, Try.ntmps29
    go_wp2_with fail
    refine (weEnds_any _ _ _ _ _ _ hr hn).mono ?_
    rintro e w' ⟨rfl, rfl⟩
    rw [H.out]
    go_wp2_with fail
    go_ret2
    exact ⟨_, rfl, OwnI.nil _ _, Below.refl _ _⟩
  · have hdum : True := trivial
    have hp := endsB_le h
    obtain ⟨r, rfl⟩ : ∃ r : Nat, n = (r : Int) := ⟨n.toNat, by omega⟩
    have H := Lib.hid h
    have HBe := Lib.hid hp.1
    have hp2 : 1 ≤ xs.length ∧ xs.length ≤ 20 ∧ 1 ≤ r ∧ r ≤ xs.length := by omega
    rw [show idleR xs (r : Int) = idleL xs r xs.length by simp [idleR, h]]
    clear h hp hdum
    go_enter Try.func29, Try.ntmps29
    go_wp2_with fail
    refine (weEnds_any _ _ _ _ _ _ hr hn).mono ?_
    rintro e w' ⟨rfl, rfl⟩
    rw [H.out]
    go_wp2_with fail
    go_loopw [6, 7] (fun v i wr => ∃ k : Nat, k ≤ xs.length ∧ i = .int .i64 ((k : Int) + 1) ∧ OwnI wr w.heap.size v (idleL xs r k) ∧ Below w.heap.size w wr) (fun _ i _ => (22 - intOf i).toNat)
    case atStart => exact ⟨0, by omega, rfl, OwnI.nil _ _, Below.refl _ _⟩
    case round =>
      obtain ⟨k, hk, rfl, hown, hbw⟩ := hrel
      have hz : w.heap.size ≤ wr.heap.size := hbw.size
      by_cases hlt : k < xs.length
      · have HLe := Lib.hid (show (xs.set k 0).length = xs.length by simp)
        have HR := Lib.hid (hr.below hbw hB)
        have HLx := Lib.hid (show mostX (xs.set k 0) r = lostX xs r k from rfl)
        go_wp2_with fail
        refine (weLose_any _ _ _ k _ _ HR.out (by omega) hn hlt).mono ?_
        rintro e w2 ⟨A2, c2, rfl, hrd2, hb2⟩
        have hz2 := hb2.size
        have HC := weMost_any A2 c2 (xs.set k 0) r _ w2 hrd2 (Nat.le_refl _) (by rw [HLe.out]; omega) (by omega) (by rw [HLe.out]; omega) (bears_set HBe.out k)
        rw [HLe.out, HLx.out] at HC
        go_wp2_with fail
        refine HC.mono ?_
        rintro e w3 ⟨rfl, hb3⟩
        have hz3 := hb3.size
        clear HC
        go_wp2_with fail
        refine (weMost_any _ _ _ _ _ _ ((HR.out.below hb2 (by omega)).below hb3 (by omega)) (by omega) (by omega) (by omega) (by omega) HBe.out).mono ?_
        rintro e w4 ⟨rfl, hb4⟩
        have hz4 := hb4.size
        have HB4 := Lib.hid (((hbw.trans (hb2.mono hz)).trans (hb3.mono (by omega))).trans (hb4.mono (by omega)))
        have hown4 := ((hown.below hb2 (Nat.le_refl _)).below hb3 (Nat.le_refl _)).below hb4 (Nat.le_refl _)
        clear hb2 hb3 hb4 hbw hown hrd2
        by_cases he : lostX xs r k = mostX xs r
        · have HT := Lib.hid (idleL_yes he)
          have hlen := idleL_length xs r k
          have hx : (lostX xs r k == mostX xs r) = true := by simpa using he
          generalize hL : idleL xs r k = zs at *
          generalize lostX xs r k = x at hx ⊢
          generalize mostX xs r = u at hx ⊢
          clear hL he
          go_wp2_with (at_builtin; refine wpList_pushI _ rfl _ _ rfl w.heap.size _ zs rfl (hown4.alloc _) w4.heap.size ((k : Int) + 1) rfl (by simp) (by omega) (by simp; omega) ?_; intro A1 c1 w5 hown1 hg1)
          go_roundw
          case rel => exact ⟨k + 1, by omega, by go_num, by rw [HT.out]; exact hown1, (HB4.out.alloc (by omega) _).trans hg1⟩
          case measure => simp [intOf]; omega
        · have HT := Lib.hid (idleL_no (xs := xs) (r := r) (k := k) he)
          have hx : (lostX xs r k == mostX xs r) = false := by simpa using he
          generalize lostX xs r k = x at hx ⊢
          generalize mostX xs r = u at hx ⊢
          clear he
          go_wp2_with fail
          go_roundw
          case rel => exact ⟨k + 1, by omega, by go_num, by rw [HT.out]; exact hown4, HB4.out⟩
          case measure => simp [intOf]; omega
      · obtain rfl : k = xs.length := by omega
        go_wp2_with fail
        go_ret2
        exact ⟨_, rfl, hown, hbw⟩


end Go.Proofs.Ytkfacfhneooaiaa
