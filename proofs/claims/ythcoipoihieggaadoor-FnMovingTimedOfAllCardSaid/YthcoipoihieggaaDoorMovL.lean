/- Contracts: the paces at which times are whole, on both sides. -/
import Derived.Test.YthcoipoihieggaaDoorMovI
import Derived.Test.YthcoipoihieggaaDoorMovB
import Derived.Test.YthcoipoihieggaaDoorWK
namespace Go.Proofs.YthcoipoihieggaaDoor
set_option maxRecDepth 100000
open Go.RowKit

def wholeB (x y : Int) (k : Nat) : Bool := decide (0 < y + (k : Int)) && decide (x % (y + (k : Int)) = 0)
def wholeL (x y : Int) : Nat → List Int
  | 0 => []
  | k + 1 => if wholeB x y k then wholeL x y k ++ [(k : Int)] else wholeL x y k
theorem wholeL_yes {x y : Int} {k : Nat} (h : wholeB x y k = true) : wholeL x y (k + 1) = wholeL x y k ++ [(k : Int)] := by rw [wholeL, if_pos h]
theorem wholeL_no {x y : Int} {k : Nat} (h : wholeB x y k = false) : wholeL x y (k + 1) = wholeL x y k := by rw [wholeL, if_neg (by simp [h])]
theorem wholeL_length (x y : Int) : ∀ k : Nat, (wholeL x y k).length ≤ k
  | 0 => Nat.le_refl _
  | k + 1 => by
    have := wholeL_length x y k
    unfold wholeL
    split <;> simp <;> omega
def wholeR (x y : Int) : List Int := if movB x y then wholeL x y 21 else []
theorem wholeR_length (x y : Int) : (wholeR x y).length ≤ 1048576 := by
  unfold wholeR
  split
  · have := wholeL_length x y 21; omega
  · simp
theorem lowD_one_iff {x d : Int} (hd : 0 < d) : lowD x d = 1 ↔ x % d = 0 := by
  have h1 := gI_dvd_l x d
  have h2 := gI_dvd_r x d
  constructor
  · intro h
    rw [h, Int.mul_one] at h2
    rw [h2] at h1
    rw [← h1]; exact Int.mul_emod_right _ _
  · intro h
    have hg : gI x d = d := by
      unfold gI
      have : Int.gcd x d = d.natAbs := Int.gcd_eq_natAbs_right (Int.dvd_of_emod_eq_zero h)
      omega
    have hp := gI_pos (a := x) hd
    unfold lowD
    rw [hg]
    exact Int.ediv_self (by omega)

set_option maxHeartbeats 2000000 in
theorem specWhole_any (x y : Int) (w : World) :
    Calls Tryd.prog 15 #[.agg #[.int .i64 x, .int .i64 y]] w (Lists w (wholeR x y) (movB x y)) := by
  cases h : movB x y
  · rw [show wholeR x y = [] by simp [wholeR, h]]
    have H := Lib.hid h
    clear h
    go_enter Tryd.func15, Tryd.ntmps15
    go_wp2_with fail
    refine (moGood_any _ _ _).mono ?_
    rintro e w1 ⟨rfl, hb⟩
    rw [H.out]
    go_wp2_with fail
    go_ret2
    exact ⟨_, rfl, OwnI.nil _ _, (below_alloc _ _).trans (hb.mono (by simp))⟩
  · rw [show wholeR x y = wholeL x y 21 by simp [wholeR, h]]
    have hp := movB_le h
    have H := Lib.hid h
    clear h
    go_enter Tryd.func15, Tryd.ntmps15
    go_wp2_with fail
    refine (moGood_any _ _ _).mono ?_
    rintro e w1 ⟨rfl, hb⟩
    rw [H.out]
    have Bt : Below w.heap.size w w1 := (below_alloc _ _).trans (hb.mono (by simp))
    have c0 : w1.cell? ⟨w.heap.size, 0, none⟩ = some (.int .i64 x) := (hb.cell (by simp)).trans (by simp)
    have c1 : w1.cell? ⟨w.heap.size, 1, none⟩ = some (.int .i64 y) := (hb.cell (by simp)).trans (by simp)
    have hs : w.heap.size + 1 ≤ w1.heap.size := by have := hb.size; simp at this; omega
    clear hb
    go_wp2_with fail
    go_loopw [4, 5] (fun v i wr => ∃ (k : Nat), k ≤ 21 ∧ i = .int .i64 k ∧ OwnI wr w1.heap.size v (wholeL x y k) ∧ Below w1.heap.size w1 wr) (fun _ i _ => (21 - intOf i).toNat)
    case atStart => exact ⟨0, by omega, rfl, OwnI.nil _ _, Below.refl _ _⟩
    case round =>
      obtain ⟨k, hk, rfl, hown, hbw⟩ := hrel
      have d0 := keepC hbw c0
      have d1 := keepC hbw c1
      have hz : w1.heap.size ≤ wr.heap.size := hbw.size
      by_cases hlt : k < 21
      · have hl := wholeL_length x y k
        by_cases hg : 0 < y + (k : Int)
        · have m1 : 0 ≤ x % (y + (k : Int)) := Int.emod_nonneg _ (by omega)
          by_cases hm : x % (y + (k : Int)) = 0
          · have HT := Lib.hid (wholeL_yes (x := x) (y := y) (k := k) (by simp [wholeB, hg, hm]))
            have HB := Lib.hid hbw
            generalize hL : wholeL x y k = zs at *
            clear hL hbw
            go_wp2_with (at_builtin; refine wpList_pushI _ rfl _ _ rfl w1.heap.size _ zs rfl (hown.alloc _) wr.heap.size (k : Int) rfl (by simp) (by omega) (by simp; omega) ?_; intro A1 c1 w2 hown1 hg1)
            go_roundw
            case rel => exact ⟨k + 1, by omega, by go_num, by rw [HT.out]; exact hown1, (HB.out.alloc (by omega) _).trans hg1⟩
            case measure => simp [intOf]; omega
          · have HT := Lib.hid (wholeL_no (x := x) (y := y) (k := k) (by simp [wholeB, hm]))
            go_wp2
            go_roundw
            case rel => exact ⟨k + 1, by omega, by go_num, by rw [HT.out]; exact hown, hbw⟩
            case measure => simp [intOf]; omega
        · have HT := Lib.hid (wholeL_no (x := x) (y := y) (k := k) (by simp [wholeB, hg]))
          go_wp2
          go_roundw
          case rel => exact ⟨k + 1, by omega, by go_num, by rw [HT.out]; exact hown, hbw⟩
          case measure => simp [intOf]; omega

      · obtain rfl : k = 21 := by omega
        go_wp2
        go_ret2
        exact ⟨_, rfl, hown.mono (by omega), Bt.trans (hbw.mono (by omega))⟩

set_option maxHeartbeats 2000000 in
theorem impWhole_any (x y : Int) (w : World) :
    Calls Tryd.prog 14 #[.agg #[.int .i64 x, .int .i64 y]] w (Lists w (wholeR x y) (movB x y)) := by
  cases h : movB x y
  · rw [show wholeR x y = [] by simp [wholeR, h]]
    have H := Lib.hid h
    clear h
    go_enter Tryd.func14, Tryd.ntmps14
    go_wp2_with fail
    refine (impMov_any _ _ _).mono ?_
    rintro e w1 ⟨rfl, hb⟩
    rw [H.out]
    go_wp2_with fail
    go_ret2
    exact ⟨_, rfl, OwnI.nil _ _, (below_alloc _ _).trans (hb.mono (by simp))⟩
  · rw [show wholeR x y = wholeL x y 21 by simp [wholeR, h]]
    have hp := movB_le h
    have H := Lib.hid h
    clear h
    go_enter Tryd.func14, Tryd.ntmps14
    go_wp2_with fail
    refine (impMov_any _ _ _).mono ?_
    rintro e w1 ⟨rfl, hb⟩
    rw [H.out]
    have Bt : Below w.heap.size w w1 := (below_alloc _ _).trans (hb.mono (by simp))
    have c0 : w1.cell? ⟨w.heap.size, 0, none⟩ = some (.int .i64 x) := (hb.cell (by simp)).trans (by simp)
    have c1 : w1.cell? ⟨w.heap.size, 1, none⟩ = some (.int .i64 y) := (hb.cell (by simp)).trans (by simp)
    have hs : w.heap.size + 1 ≤ w1.heap.size := by have := hb.size; simp at this; omega
    clear hb
    go_wp2_with fail
    go_loopw [4, 12] (fun v i wr => ∃ (k : Nat), k ≤ 21 ∧ i = .int .i64 k ∧ OwnI wr w1.heap.size v (wholeL x y k) ∧ Below w1.heap.size w1 wr) (fun _ i _ => (21 - intOf i).toNat)
    case atStart => exact ⟨0, by omega, rfl, OwnI.nil _ _, Below.refl _ _⟩
    case round =>
      obtain ⟨k, hk, rfl, hown, hbw⟩ := hrel
      have d0 := keepC hbw c0
      have d1 := keepC hbw c1
      have hz : w1.heap.size ≤ wr.heap.size := hbw.size
      by_cases hlt : k < 21
      · have hl := wholeL_length x y k
        have hA : askB x y k = true := askB_yes H.out (inB_yes (by omega) (by omega))
        by_cases hg : 0 < y + (k : Int)
        · have HV := Lib.hid (tellB_yes (x := x) (y := y) (p := (k : Int)) (c := y) hA (by omega))
          have hi := lowD_one_iff (x := x) (d := (k : Int) + y) (by omega)
          by_cases hm : x % (y + (k : Int)) = 0
          · have HT := Lib.hid (wholeL_yes (x := x) (y := y) (k := k) (by simp [wholeB, hg, hm]))
            have HD := Lib.hid (hi.2 (by rw [Int.add_comm]; exact hm))
            have HB := Lib.hid hbw
            generalize hL : wholeL x y k = zs at *
            clear hL hbw hi hm hA
            go_wp2_with fail
            refine (impTimeWith_any _ _ _ _).mono ?_
            rintro e w2 ⟨rfl, hb⟩
            rw [HV.out, frN_yes, frD_yes, HD.out]
            have hz2 := hb.size
            replace hown := hown.below hb (Nat.le_refl _)
            replace HB := Lib.hid (HB.out.trans (hb.mono hz))
            go_wp2_with (at_builtin; refine wpList_pushI _ rfl _ _ rfl w1.heap.size _ zs rfl (hown.alloc _) w2.heap.size (k : Int) rfl (by simp) (by omega) (by simp; omega) ?_; intro A1 c1 w3 hown1 hg1)
            go_roundw
            case rel => exact ⟨k + 1, by omega, by go_num, by rw [HT.out]; exact hown1, (HB.out.alloc (by omega) _).trans hg1⟩
            case measure => simp [intOf]; omega
          · have HT := Lib.hid (wholeL_no (x := x) (y := y) (k := k) (by simp [wholeB, hm]))
            have hd : ¬ lowD x ((k : Int) + y) = 1 := fun h => hm (by rw [Int.add_comm]; exact hi.1 h)
            clear hi hm hA
            go_wp2_with fail
            refine (impTimeWith_any _ _ _ _).mono ?_
            rintro e w2 ⟨rfl, hb⟩
            rw [HV.out, frN_yes, frD_yes]
            go_wp2_with fail
            go_roundw
            case rel => exact ⟨k + 1, by omega, by go_num, by rw [HT.out]; exact hown.below hb (Nat.le_refl _), hbw.trans (hb.mono hz)⟩
            case measure => simp [intOf]; omega
        · have HT := Lib.hid (wholeL_no (x := x) (y := y) (k := k) (by simp [wholeB, hg]))
          have HV := Lib.hid (tellB_end (x := x) (y := y) (p := (k : Int)) (c := y) (by omega))
          clear hA
          go_wp2_with fail
          refine (impTimeWith_any _ _ _ _).mono ?_
          rintro e w2 ⟨rfl, hb⟩
          rw [HV.out, frN_no, frD_no]
          go_wp2_with fail
          go_roundw
          case rel => exact ⟨k + 1, by omega, by go_num, by rw [HT.out]; exact hown.below hb (Nat.le_refl _), hbw.trans (hb.mono hz)⟩
          case measure => simp [intOf]; omega

      · obtain rfl : k = 21 := by omega
        go_wp2
        go_ret2
        exact ⟨_, rfl, hown.mono (by omega), Bt.trans (hbw.mono (by omega))⟩


end Go.Proofs.YthcoipoihieggaaDoor
