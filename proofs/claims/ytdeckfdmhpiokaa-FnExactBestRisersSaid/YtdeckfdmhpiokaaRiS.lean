/- Contracts: flights: the best number of risers, on the side of the model. -/
import Derived.Test.YtdeckfdmhpiokaaRiBst
namespace Go.Proofs.Ytdeckfdmhpiokaa
open Go.RowKit

def bigI (a b : Int) : Int := if b < a then a else b
theorem bigI_1 {a b : Int} (h : b < a) : bigI a b = a := if_pos h
theorem bigI_2 {a b : Int} (h : ¬ b < a) : bigI a b = b := if_neg h
set_option maxHeartbeats 400000 in
theorem l1Most_any (a b : Int) (w : World) :
    Calls Try.prog 58 #[.int .i64 a, .int .i64 b] w fun e w' => e = .returned (.int .i64 (bigI a b)) ∧ w = w' := by
  by_cases h : b < a
  · rw [bigI_1 h]
    go_enter Try.func58, Try.ntmps58
    go_wp2
    go_ret
    exact ⟨rfl, rfl⟩
  · rw [bigI_2 h]
    go_enter Try.func58, Try.ntmps58
    go_wp2
    go_ret
    exact ⟨rfl, rfl⟩

set_option maxHeartbeats 400000 in
theorem l1Abs_any (x : Int) (w : World) (h0 : -1000000 ≤ x) (h1 : x ≤ 1000000) :
    Calls Try.prog 40 #[.int .i64 x] w fun e w' => e = .returned (.int .i64 (bigI x (-x))) ∧ w = w' := by
  go_enter Try.func40, Try.ntmps40
  go_wp2_with fail
  refine (l1Most_any _ _ _).mono ?_
  rintro e w' ⟨rfl, rfl⟩
  go_wp2_with fail
  go_ret
  exact ⟨rfl, rfl⟩

theorem big_far (h s t r : Int) : bigI (2 * (h / r) + t - s) (-(2 * (h / r) + t - s)) = farI h s t r := by unfold bigI farI; split <;> split <;> omega
/-- how far the best so far is -/
def fbR (h s t : Int) (r : Nat) : Int := if bsR h s t r = 0 then 0 else farI h s t (bsR h s t r)
theorem bsR_no {h s t : Int} {r : Nat} (g : wrOk h 1 250 r = false) : bsR h s t (r + 1) = bsR h s t r ∧ fbR h s t (r + 1) = fbR h s t r := by
  have e : bsR h s t (r + 1) = bsR h s t r := by rw [bsR, if_neg (by simp [g])]
  exact ⟨e, by unfold fbR; rw [e]⟩
theorem bsR_new {h s t : Int} {r : Nat} (hr : 1 ≤ r) (g : wrOk h 1 250 r = true) (q : bsR h s t r = 0 ∨ farI h s t r < fbR h s t r) : bsR h s t (r + 1) = r ∧ fbR h s t (r + 1) = farI h s t r := by
  have e : bsR h s t (r + 1) = r := by
    rw [bsR, if_pos g, if_pos]
    by_cases z : bsR h s t r = 0
    · exact .inl z
    · rcases q with q | q
      · exact .inl q
      · unfold fbR at q; rw [if_neg z] at q; exact .inr q
  exact ⟨e, by unfold fbR; rw [e, if_neg (by omega)]⟩
theorem bsR_old {h s t : Int} {r : Nat} (g : wrOk h 1 250 r = true) (z : ¬ bsR h s t r = 0) (q : ¬ farI h s t r < fbR h s t r) : bsR h s t (r + 1) = bsR h s t r ∧ fbR h s t (r + 1) = fbR h s t r := by
  have e : bsR h s t (r + 1) = bsR h s t r := by
    unfold fbR at q; rw [if_neg z] at q
    rw [bsR, if_pos g, if_neg]
    rintro (x | x)
    · exact z x
    · exact q x
  exact ⟨e, by unfold fbR; rw [e]⟩
theorem bsR_in (h s t : Int) : ∀ r : Nat, 0 ≤ bsR h s t r ∧ bsR h s t r ≤ r
  | 0 => by simp [bsR]
  | r + 1 => by
    have := bsR_in h s t r
    unfold bsR
    split
    · split <;> omega
    · omega

set_option maxHeartbeats 2000000 in
theorem specBest_any (h s t : Int) (w : World) :
    Calls Try.prog 20 #[.int .i64 h, .int .i64 s, .int .i64 t] w fun e w' => e = .returned (.tuple #[.int .i64 (orI (bsB h s t) (bsR h s t 101)), .bool (bsB h s t)]) ∧ Below w.heap.size w w' := by
  cases g0 : inB h 1 6000
  · have hV : bsB h s t = false := by simp [bsB, g0]
    rw [hV, orI_no]
    clear hV
    have H0 := Lib.hid g0
    clear g0
    go_enter Try.func20, Try.ntmps20
    go_wp2_with fail
    refine (riHigh_any _ _).mono ?_
    rintro e w' ⟨rfl, rfl⟩
    rw [H0.out]
    go_wp2_with fail
    go_ret2
    exact ⟨rfl, Below.refl _ _⟩
  · have b0 := inB_le g0
    cases g1 : inB s 1 2000
    · have hV : bsB h s t = false := by simp [bsB, g1]
      rw [hV, orI_no]
      clear hV
      have H0 := Lib.hid g0
      clear g0
      have H1 := Lib.hid g1
      clear g1
      go_enter Try.func20, Try.ntmps20
      go_wp2_with fail
      refine (riHigh_any _ _).mono ?_
      rintro e w' ⟨rfl, rfl⟩
      rw [H0.out]
      go_wp2_with fail
      refine (l1In_any _ _ _ _).mono ?_
      rintro e w' ⟨rfl, rfl⟩
      rw [H1.out]
      go_wp2_with fail
      go_ret2
      exact ⟨rfl, Below.refl _ _⟩
    · have b1 := inB_le g1
      cases g2 : inB t 1 500
      · have hV : bsB h s t = false := by simp [bsB, g2]
        rw [hV, orI_no]
        clear hV
        have H0 := Lib.hid g0
        clear g0
        have H1 := Lib.hid g1
        clear g1
        have H2 := Lib.hid g2
        clear g2
        go_enter Try.func20, Try.ntmps20
        go_wp2_with fail
        refine (riHigh_any _ _).mono ?_
        rintro e w' ⟨rfl, rfl⟩
        rw [H0.out]
        go_wp2_with fail
        refine (l1In_any _ _ _ _).mono ?_
        rintro e w' ⟨rfl, rfl⟩
        rw [H1.out]
        go_wp2_with fail
        refine (l1In_any _ _ _ _).mono ?_
        rintro e w' ⟨rfl, rfl⟩
        rw [H2.out]
        go_wp2_with fail
        go_ret2
        exact ⟨rfl, Below.refl _ _⟩
      · have b2 := inB_le g2
        have hV : bsB h s t = !decide (bsR h s t 101 = 0) := by simp [bsB, g0, g1, g2]
        have HV := Lib.hid hV
        clear hV
        have H0 := Lib.hid g0
        clear g0
        have H1 := Lib.hid g1
        clear g1
        have H2 := Lib.hid g2
        clear g2
        go_enter Try.func20, Try.ntmps20
        go_wp2_with fail
        refine (riHigh_any _ _).mono ?_
        rintro e w' ⟨rfl, rfl⟩
        rw [H0.out]
        go_wp2_with fail
        refine (l1In_any _ _ _ _).mono ?_
        rintro e w' ⟨rfl, rfl⟩
        rw [H1.out]
        go_wp2_with fail
        refine (l1In_any _ _ _ _).mono ?_
        rintro e w' ⟨rfl, rfl⟩
        rw [H2.out]
        go_wp2_with fail
        go_loopw [8, 9, 10] (fun v f i wr => ∃ r : Nat, 1 ≤ r ∧ r ≤ 101 ∧ i = .int .i64 r ∧ v = .int .i64 (bsR h s t r) ∧ f = .int .i64 (fbR h s t r) ∧ wr = w) (fun _ _ i _ => (101 - intOf i).toNat)
        case atStart => exact ⟨1, by omega, by omega, rfl, by simp [bsR, wrOk], by simp [fbR, bsR, wrOk], rfl⟩
        case round =>
          obtain ⟨r, hr, hk, rfl, rfl, rfl, rfl⟩ := hrel
          by_cases hlt : r < 101
          · have tm : h.tmod r = h % r := Int.tmod_eq_emod_of_nonneg (by omega)
            have td : h.tdiv r = h / r := Int.tdiv_eq_ediv_of_nonneg (by omega)
            have z0 : ¬ (r : Int) = 0 := by omega
            have q0 : 0 ≤ h / r ∧ h / r ≤ h := ⟨Int.ediv_nonneg (by omega) (by omega), Int.ediv_le_self _ (by omega)⟩
            have q1 : 0 ≤ h % r := Int.emod_nonneg _ z0
            have q2 : h % r < r := Int.emod_lt_of_pos _ (by omega)
            have bu := bsR_in h s t r
            by_cases e : h % (r : Int) = 0
            · have q3 : 1 ≤ h / r := by
                have := Int.mul_ediv_add_emod h r
                by_cases y : h / (r : Int) = 0
                · rw [y] at this; omega
                · omega
              by_cases g : 250 < h / (r : Int)
              · have HT := Lib.hid (bsR_no (h := h) (s := s) (t := t) (r := r) (by have : ¬ h / (r : Int) ≤ 250 := by omega
                                                                                   simp [wrOk, inB, this]))
                go_wp2_with fail
                go_roundw
                case rel => exact ⟨r + 1, by omega, by omega, by go_num, by rw [HT.out.1], by rw [HT.out.2], trivial⟩
                case measure => simp [intOf]; omega
              · have gw : wrOk h 1 250 r = true := by simp [wrOk, hr, e, inB, q3]; omega
                have HA := Lib.hid (big_far h s t r)
                by_cases z : bsR h s t r = 0
                · have HT := Lib.hid (bsR_new hr gw (.inl z))
                  clear gw
                  go_wp2_with fail
                  refine (l1Abs_any _ _ (by omega) (by omega)).mono ?_
                  rintro e w' ⟨rfl, rfl⟩
                  rw [HA.out]
                  generalize farI h s t r = d at *
                  generalize bsR h s t r = u at *
                  generalize fbR h s t r = x at *
                  go_wp2_with fail
                  all_goals try (exfalso; rename_i hx; revert hx; (try simp [z]); omega)
                  go_roundw
                  case rel => exact ⟨r + 1, by omega, by omega, by go_num, by rw [HT.out.1], by rw [HT.out.2], trivial⟩
                  case measure => simp [intOf]; omega
                · by_cases q : farI h s t r < fbR h s t r
                  · have HT := Lib.hid (bsR_new hr gw (.inr q))
                    clear gw
                    go_wp2_with fail
                    refine (l1Abs_any _ _ (by omega) (by omega)).mono ?_
                    rintro e w' ⟨rfl, rfl⟩
                    rw [HA.out]
                    generalize farI h s t r = d at *
                    generalize bsR h s t r = u at *
                    generalize fbR h s t r = x at *
                    go_wp2_with fail
                    all_goals try (exfalso; rename_i hx; revert hx; (try simp [z]); omega)
                    go_roundw
                    case rel => exact ⟨r + 1, by omega, by omega, by go_num, by rw [HT.out.1], by rw [HT.out.2], trivial⟩
                    case measure => simp [intOf]; omega
                  · have HT := Lib.hid (bsR_old gw z q)
                    clear gw
                    go_wp2_with fail
                    refine (l1Abs_any _ _ (by omega) (by omega)).mono ?_
                    rintro e w' ⟨rfl, rfl⟩
                    rw [HA.out]
                    generalize farI h s t r = d at *
                    generalize bsR h s t r = u at *
                    generalize fbR h s t r = x at *
                    go_wp2_with fail
                    all_goals try (exfalso; rename_i hx; revert hx; (try simp [z]); omega)
                    go_roundw
                    case rel => exact ⟨r + 1, by omega, by omega, by go_num, by rw [HT.out.1], by rw [HT.out.2], trivial⟩
                    case measure => simp [intOf]; omega
            · have HT := Lib.hid (bsR_no (h := h) (s := s) (t := t) (r := r) (by simp [wrOk, e]))
              go_wp2_with fail
              go_roundw
              case rel => exact ⟨r + 1, by omega, by omega, by go_num, by rw [HT.out.1], by rw [HT.out.2], trivial⟩
              case measure => simp [intOf]; omega
          · obtain rfl : r = 101 := by omega
            by_cases z : bsR h s t 101 = 0
            · have E1 := Lib.hid (show orI (bsB h s t) (bsR h s t 101) = 0 by rw [HV.out, decide_eq_true z]; rfl)
              have E2 := Lib.hid (show bsB h s t = false by rw [HV.out, decide_eq_true z]; rfl)
              clear HV
              go_wp2
              go_ret2
              exact ⟨by rw [E1.out, E2.out]; rfl, Below.refl _ _⟩
            · have E1 := Lib.hid (show orI (bsB h s t) (bsR h s t 101) = bsR h s t 101 by rw [HV.out, decide_eq_false z]; rfl)
              have E2 := Lib.hid (show bsB h s t = true by rw [HV.out, decide_eq_false z]; rfl)
              clear HV
              go_wp2
              go_ret2
              exact ⟨by rw [E1.out, E2.out]; rfl, Below.refl _ _⟩


end Go.Proofs.Ytdeckfdmhpiokaa
