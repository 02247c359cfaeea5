/- Contracts: flights: numbers of whole risers, on both sides. -/
import Derived.Test.YtdeckfdmhpiokaaRiE
namespace Go.Proofs.Ytdeckfdmhpiokaa
open Go.RowKit

/-- a number of risers that parts a height evenly, with a rise within bounds -/
def wrOk (h l m : Int) (r : Nat) : Bool := decide (1 ≤ r) && (decide (h % (r : Int) = 0) && inB (h / (r : Int)) l m)
def wrL (h l m : Int) : Nat → List Int
  | 0 => []
  | r + 1 => if wrOk h l m r then wrL h l m r ++ [(r : Int)] else wrL h l m r
theorem wrL_yes {h l m : Int} {r : Nat} (g : wrOk h l m r = true) : wrL h l m (r + 1) = wrL h l m r ++ [(r : Int)] := by rw [wrL, if_pos g]
theorem wrL_no {h l m : Int} {r : Nat} (g : wrOk h l m r = false) : wrL h l m (r + 1) = wrL h l m r := by rw [wrL, if_neg (by simp [g])]
theorem wrL_length (h l m : Int) : ∀ r : Nat, (wrL h l m r).length ≤ r
  | 0 => Nat.le_refl _
  | r + 1 => by
    have := wrL_length h l m r
    unfold wrL
    split <;> simp <;> omega
def wrB (h l m : Int) : Bool := inB h 1 6000 && (inB l 1 250 && inB m 1 250)
def wrR (h l m : Int) : List Int := if wrB h l m then wrL h l m 101 else []
theorem wrR_length (h l m : Int) : (wrR h l m).length ≤ 1048576 := by
  unfold wrR
  split
  · have := wrL_length h l m 101; omega
  · simp

set_option maxHeartbeats 2000000 in
theorem specWholeRisers_any (h l m : Int) (w : World) :
    Calls Try.prog 15 #[.int .i64 h, .int .i64 l, .int .i64 m] w (Lists w (wrR h l m) (wrB h l m)) := by
  cases g0 : inB h 1 6000
  · have hV : wrB h l m = false := by simp [wrB, g0]
    rw [show wrR h l m = [] by simp [wrR, hV], hV]
    clear hV
    have H0 := Lib.hid g0
    clear g0
    go_enter Try.func15, Try.ntmps15
    go_wp2_with fail
    refine (riHigh_any _ _).mono ?_
    rintro e w' ⟨rfl, rfl⟩
    rw [H0.out]
    go_wp2_with fail
    go_ret2
    exact ⟨_, rfl, OwnI.nil _ _, Below.refl _ _⟩
  · have b0 := inB_le g0
    cases g1 : inB l 1 250
    · have hV : wrB h l m = false := by simp [wrB, g1]
      rw [show wrR h l m = [] by simp [wrR, hV], hV]
      clear hV
      have H0 := Lib.hid g0
      clear g0
      have H1 := Lib.hid g1
      clear g1
      go_enter Try.func15, Try.ntmps15
      go_wp2_with fail
      refine (riHigh_any _ _).mono ?_
      rintro e w' ⟨rfl, rfl⟩
      rw [H0.out]
      go_wp2_with fail
      refine (l1In_any _ _ _ _).mono ?_
      rintro e w' ⟨rfl, rfl⟩
      rw [H1.out]
      go_wp2_with fail
      go_ret2
      exact ⟨_, rfl, OwnI.nil _ _, Below.refl _ _⟩
    · have b1 := inB_le g1
      cases g2 : inB m 1 250
      · have hV : wrB h l m = false := by simp [wrB, g2]
        rw [show wrR h l m = [] by simp [wrR, hV], hV]
        clear hV
        have H0 := Lib.hid g0
        clear g0
        have H1 := Lib.hid g1
        clear g1
        have H2 := Lib.hid g2
        clear g2
        go_enter Try.func15, Try.ntmps15
        go_wp2_with fail
        refine (riHigh_any _ _).mono ?_
        rintro e w' ⟨rfl, rfl⟩
        rw [H0.out]
        go_wp2_with fail
        refine (l1In_any _ _ _ _).mono ?_
        rintro e w' ⟨rfl, rfl⟩
        rw [H1.out]
        go_wp2_with fail
        refine (l1In_any _ _ _ _).mono ?_
        rintro e w' ⟨rfl, rfl⟩
        rw [H2.out]
        go_wp2_with fail
        go_ret2
        exact ⟨_, rfl, OwnI.nil _ _, Below.refl _ _⟩
      · have b2 := inB_le g2
        have hW : wrB h l m = true := by simp [wrB, g0, g1, g2]
        rw [show wrR h l m = wrL h l m 101 by simp [wrR, hW], hW]
        clear hW
        have H0 := Lib.hid g0
        clear g0
        have H1 := Lib.hid g1
        clear g1
        have H2 := Lib.hid g2
        clear g2
        go_enter Try.func15, Try.ntmps15
        go_wp2_with fail
        refine (riHigh_any _ _).mono ?_
        rintro e w' ⟨rfl, rfl⟩
        rw [H0.out]
        go_wp2_with fail
        refine (l1In_any _ _ _ _).mono ?_
        rintro e w' ⟨rfl, rfl⟩
        rw [H1.out]
        go_wp2_with fail
        refine (l1In_any _ _ _ _).mono ?_
        rintro e w' ⟨rfl, rfl⟩
        rw [H2.out]
        go_wp2_with fail
        go_loopw [8, 9] (fun v i wr => ∃ r : Nat, 1 ≤ r ∧ r ≤ 101 ∧ i = .int .i64 r ∧ OwnI wr w.heap.size v (wrL h l m r) ∧ Below w.heap.size w wr) (fun _ i _ => (101 - intOf i).toNat)
        case atStart => exact ⟨1, by omega, by omega, rfl, OwnI.nil _ _, Below.refl _ _⟩
        case round =>
          obtain ⟨r, hr, hk, rfl, hown, hbw⟩ := hrel
          have hz : w.heap.size ≤ wr.heap.size := hbw.size
          by_cases hlt : r < 101
          · have hl := wrL_length h l m r
            have tm : h.tmod r = h % r := Int.tmod_eq_emod_of_nonneg (by omega)
            have td : h.tdiv r = h / r := Int.tdiv_eq_ediv_of_nonneg (by omega)
            have z0 : ¬ (r : Int) = 0 := by omega
            have q0 : 0 ≤ h / r ∧ h / r ≤ h := ⟨Int.ediv_nonneg (by omega) (by omega), Int.ediv_le_self _ (by omega)⟩
            have q1 : 0 ≤ h % r := Int.emod_nonneg _ z0
            have q2 : h % r < r := Int.emod_lt_of_pos _ (by omega)
            by_cases e : h % (r : Int) = 0
            · cases g : inB (h / (r : Int)) l m
              · have HT := Lib.hid (wrL_no (h := h) (l := l) (m := m) (r := r) (by simp [wrOk, g]))
                have G3 := Lib.hid g
                clear g
                go_wp2_with fail
                refine (l1In_any _ _ _ _).mono ?_
                rintro e w' ⟨rfl, rfl⟩
                rw [G3.out]
                go_wp2_with fail
                go_roundw
                case rel => exact ⟨r + 1, by omega, by omega, by go_num, by rw [HT.out]; exact hown, hbw⟩
                case measure => simp [intOf]; omega
              · have HT := Lib.hid (wrL_yes (h := h) (l := l) (m := m) (r := r) (by simp [wrOk, g, e, hr]))
                have G3 := Lib.hid g
                have HB := Lib.hid hbw
                generalize hL : wrL h l m r = zs at *
                clear hL hbw g
                go_wp2_with fail
                refine (l1In_any _ _ _ _).mono ?_
                rintro e w' ⟨rfl, rfl⟩
                rw [G3.out]
                go_wp2_with (at_builtin; refine wpList_pushI _ rfl _ _ rfl w.heap.size _ zs rfl (hown.alloc _) wr.heap.size (r : Int) rfl (by simp) (by omega) (by simp; omega) ?_; intro A1 c1 w2 hown1 hg1)
                go_roundw
                case rel => exact ⟨r + 1, by omega, by omega, by go_num, by rw [HT.out]; exact hown1, (HB.out.alloc (by omega) _).trans hg1⟩
                case measure => simp [intOf]; omega
            · have HT := Lib.hid (wrL_no (h := h) (l := l) (m := m) (r := r) (by simp [wrOk, e]))
              go_wp2_with fail
              go_roundw
              case rel => exact ⟨r + 1, by omega, by omega, by go_num, by rw [HT.out]; exact hown, hbw⟩
              case measure => simp [intOf]; omega
          · obtain rfl : r = 101 := by omega
            go_wp2
            go_ret2
            exact ⟨_, rfl, hown, hbw⟩

set_option maxHeartbeats 2000000 in
theorem implWholeRisers_any (h l m : Int) (w : World) :
    Calls Try.prog 16 #[.int .i64 h, .int .i64 l, .int .i64 m] w (Lists w (wrR h l m) (wrB h l m)) := by
  cases g0 : inB h 1 6000
  · have hV : wrB h l m = false := by simp [wrB, g0]
    rw [show wrR h l m = [] by simp [wrR, hV], hV]
    clear hV
    have H0 := Lib.hid g0
    clear g0
    go_enter Try.func16, Try.ntmps16
    go_wp2_with fail
    refine (isHigh_any _ _).mono ?_
    rintro e w' ⟨rfl, rfl⟩
    rw [H0.out]
    go_wp2_with fail
    go_ret2
    exact ⟨_, rfl, OwnI.nil _ _, Below.refl _ _⟩
  · have b0 := inB_le g0
    cases g1 : inB l 1 250
    · have hV : wrB h l m = false := by simp [wrB, g1]
      rw [show wrR h l m = [] by simp [wrR, hV], hV]
      clear hV
      have H0 := Lib.hid g0
      clear g0
      have H1 := Lib.hid g1
      clear g1
      go_enter Try.func16, Try.ntmps16
      go_wp2_with fail
      refine (isHigh_any _ _).mono ?_
      rintro e w' ⟨rfl, rfl⟩
      rw [H0.out]
      go_wp2_with fail
      refine (isRise_any _ _).mono ?_
      rintro e w' ⟨rfl, rfl⟩
      rw [H1.out]
      go_wp2_with fail
      go_ret2
      exact ⟨_, rfl, OwnI.nil _ _, Below.refl _ _⟩
    · have b1 := inB_le g1
      cases g2 : inB m 1 250
      · have hV : wrB h l m = false := by simp [wrB, g2]
        rw [show wrR h l m = [] by simp [wrR, hV], hV]
        clear hV
        have H0 := Lib.hid g0
        clear g0
        have H1 := Lib.hid g1
        clear g1
        have H2 := Lib.hid g2
        clear g2
        go_enter Try.func16, Try.ntmps16
        go_wp2_with fail
        refine (isHigh_any _ _).mono ?_
        rintro e w' ⟨rfl, rfl⟩
        rw [H0.out]
        go_wp2_with fail
        refine (isRise_any _ _).mono ?_
        rintro e w' ⟨rfl, rfl⟩
        rw [H1.out]
        go_wp2_with fail
        refine (isRise_any _ _).mono ?_
        rintro e w' ⟨rfl, rfl⟩
        rw [H2.out]
        go_wp2_with fail
        go_ret2
        exact ⟨_, rfl, OwnI.nil _ _, Below.refl _ _⟩
      · have b2 := inB_le g2
        have hW : wrB h l m = true := by simp [wrB, g0, g1, g2]
        rw [show wrR h l m = wrL h l m 101 by simp [wrR, hW], hW]
        clear hW
        have H0 := Lib.hid g0
        clear g0
        have H1 := Lib.hid g1
        clear g1
        have H2 := Lib.hid g2
        clear g2
        go_enter Try.func16, Try.ntmps16
        go_wp2_with fail
        refine (isHigh_any _ _).mono ?_
        rintro e w' ⟨rfl, rfl⟩
        rw [H0.out]
        go_wp2_with fail
        refine (isRise_any _ _).mono ?_
        rintro e w' ⟨rfl, rfl⟩
        rw [H1.out]
        go_wp2_with fail
        refine (isRise_any _ _).mono ?_
        rintro e w' ⟨rfl, rfl⟩
        rw [H2.out]
        go_wp2_with fail
        go_loopw [8, 9] (fun v i wr => ∃ r : Nat, 1 ≤ r ∧ r ≤ 101 ∧ i = .int .i64 r ∧ OwnI wr w.heap.size v (wrL h l m r) ∧ Below w.heap.size w wr) (fun _ i _ => (101 - intOf i).toNat)
        case atStart => exact ⟨1, by omega, by omega, rfl, OwnI.nil _ _, Below.refl _ _⟩
        case round =>
          obtain ⟨r, hr, hk, rfl, hown, hbw⟩ := hrel
          have hz : w.heap.size ≤ wr.heap.size := hbw.size
          by_cases hlt : r < 101
          · have hl := wrL_length h l m r
            have tm : h.tmod r = h % r := Int.tmod_eq_emod_of_nonneg (by omega)
            have td : h.tdiv r = h / r := Int.tdiv_eq_ediv_of_nonneg (by omega)
            have z0 : ¬ (r : Int) = 0 := by omega
            have q0 : 0 ≤ h / r ∧ h / r ≤ h := ⟨Int.ediv_nonneg (by omega) (by omega), Int.ediv_le_self _ (by omega)⟩
            have q1 : 0 ≤ h % r := Int.emod_nonneg _ z0
            have q2 : h % r < r := Int.emod_lt_of_pos _ (by omega)
            cases g : inB (h / (r : Int)) l m
            · have HT := Lib.hid (wrL_no (h := h) (l := l) (m := m) (r := r) (by simp [wrOk, g]))
              have G3 := Lib.hid g
              clear g
              go_wp2_with fail
              refine (isWithin_any _ _ _ _).mono ?_
              rintro e w' ⟨rfl, rfl⟩
              rw [G3.out]
              go_wp2_with fail
              go_roundw
              case rel => exact ⟨r + 1, by omega, by omega, by go_num, by rw [HT.out]; exact hown, hbw⟩
              case measure => simp [intOf]; omega
            · have HP := Lib.hid (fun w => parts_any h r w (by omega) (by omega))
              by_cases e : h % (r : Int) = 0
              · have HT := Lib.hid (wrL_yes (h := h) (l := l) (m := m) (r := r) (by simp [wrOk, g, e, hr]))
                rw [decide_eq_true e] at HP
                have G3 := Lib.hid g
                have HB := Lib.hid hbw
                generalize hL : wrL h l m r = zs at *
                clear hL hbw g
                go_wp2_with fail
                refine (isWithin_any _ _ _ _).mono ?_
                rintro e w' ⟨rfl, rfl⟩
                rw [G3.out]
                go_wp2_with fail
                refine (HP.out _).mono ?_
                rintro e w1 ⟨rfl, hb⟩
                have hz2 := hb.size
                replace hown := hown.below hb (Nat.le_refl _)
                replace HB := Lib.hid (HB.out.trans (hb.mono hz))
                go_wp2_with (at_builtin; refine wpList_pushI _ rfl _ _ rfl w.heap.size _ zs rfl (hown.alloc _) w1.heap.size (r : Int) rfl (by simp) (by omega) (by simp; omega) ?_; intro A1 c1 w2 hown1 hg1)
                go_roundw
                case rel => exact ⟨r + 1, by omega, by omega, by go_num, by rw [HT.out]; exact hown1, (HB.out.alloc (by omega) _).trans hg1⟩
                case measure => simp [intOf]; omega
              · have HT := Lib.hid (wrL_no (h := h) (l := l) (m := m) (r := r) (by simp [wrOk, e]))
                rw [decide_eq_false e] at HP
                have G3 := Lib.hid g
                clear g
                go_wp2_with fail
                refine (isWithin_any _ _ _ _).mono ?_
                rintro e w' ⟨rfl, rfl⟩
                rw [G3.out]
                go_wp2_with fail
                refine (HP.out _).mono ?_
                rintro e w1 ⟨rfl, hb⟩
                go_wp2_with fail
                go_roundw
                case rel => exact ⟨r + 1, by omega, by omega, by go_num, by rw [HT.out]; exact hown.below hb (Nat.le_refl _), hbw.trans (hb.mono hz)⟩
                case measure => simp [intOf]; omega
          · obtain rfl : r = 101 := by omega
            go_wp2
            go_ret2
            exact ⟨_, rfl, hown, hbw⟩


end Go.Proofs.Ytdeckfdmhpiokaa
