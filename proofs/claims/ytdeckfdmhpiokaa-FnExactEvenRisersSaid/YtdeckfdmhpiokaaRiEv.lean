/- Contracts: flights: even risers, on both sides. -/
import Derived.Test.YtdeckfdmhpiokaaRiE
import Derived.Test.YtdeckfdmhpiokaaGOwnX
import Derived.Test.YtdeckfdmhpiokaaGLeast
import Derived.Test.YtdeckfdmhpiokaaGApp
import Derived.Deep.RegionLaw
namespace Go.Proofs.Ytdeckfdmhpiokaa
open Go.RowKit

def evB (h r : Int) : Bool := inB h 1 6000 && inB r 1 (leastI 100 h)
def evR (h r : Int) : List Int := if evB h r then tell r.toNat (evF h r) else []
theorem evR_length (h r : Int) : (evR h r).length ≤ 1048576 := by
  unfold evR
  split
  · next g =>
    simp only [evB, Bool.and_eq_true] at g
    have := inB_le g.2
    have : leastI 100 h ≤ 100 := by unfold leastI; split <;> omega
    rw [tell_length]; omega
  · simp
theorem evB_iff (h r : Int) : evB h r = (inB h 1 6000 && (inB r 1 100 && !decide (h < r))) := by
  rw [Bool.eq_iff_iff]
  simp only [evB, inB, leastI, Bool.and_eq_true, Bool.not_eq_true', decide_eq_true_eq, decide_eq_false_iff_not]
  by_cases q : 100 < h
  · simp only [if_pos q, decide_eq_true_eq]; omega
  · simp only [if_neg q, decide_eq_true_eq]; omega
theorem rd_one {w : World} {g : Nat} {y : Int} (h : w.cell? ⟨g, 0, none⟩ = some (.int .i64 y)) : Rd w (g + 1) (some ⟨g, 0, none⟩) 1 [y] :=
  ⟨Nat.le_refl _, fun k hk => ⟨g, 0, rfl, Nat.lt_succ_self _, by
    cases k with
    | zero => exact h
    | succ k => simp at hk⟩⟩
theorem tell_snoc (f : Nat → Int) (k : Nat) : tell (k + 1) f = tell k f ++ [f k] := by simp [tell, List.range_succ]

set_option maxHeartbeats 2000000 in
theorem specEven_any (h r : Int) (w : World) :
    Calls Try.prog 22 #[.int .i64 h, .int .i64 r] w (Lists w (evR h r) (evB h r)) := by
  cases g0 : inB h 1 6000
  · have hV : evB h r = false := by simp [evB, g0]
    rw [show evR h r = [] by simp [evR, hV], hV]
    clear hV
    have H0 := Lib.hid g0
    clear g0
    go_enter Try.func22, Try.ntmps22
    go_wp2_with fail
    refine (riHigh_any _ _).mono ?_
    rintro e w' ⟨rfl, rfl⟩
    rw [H0.out]
    go_wp2_with fail
    go_ret2
    exact ⟨_, rfl, OwnI.nil _ _, Below.refl _ _⟩
  · have b0 := inB_le g0
    cases g1 : inB r 1 (leastI 100 h)
    · have hV : evB h r = false := by simp [evB, g1]
      rw [show evR h r = [] by simp [evR, hV], hV]
      clear hV
      have H0 := Lib.hid g0
      clear g0
      have H1 := Lib.hid g1
      clear g1
      go_enter Try.func22, Try.ntmps22
      go_wp2_with fail
      refine (riHigh_any _ _).mono ?_
      rintro e w' ⟨rfl, rfl⟩
      rw [H0.out]
      go_wp2_with fail
      refine (l1Least_any _ _ _).mono ?_
      rintro e w' ⟨rfl, rfl⟩
      go_wp2_with fail
      refine (l1In_any _ _ _ _).mono ?_
      rintro e w' ⟨rfl, rfl⟩
      rw [H1.out]
      go_wp2_with fail
      go_ret2
      exact ⟨_, rfl, OwnI.nil _ _, Below.refl _ _⟩
    · have b1 := inB_le g1
      have hl1 : leastI 100 h ≤ 100 ∧ leastI 100 h ≤ h := by unfold leastI; split <;> omega
      obtain ⟨n, rfl⟩ : ∃ n : Nat, r = n := ⟨r.toNat, by omega⟩
      have hV : evB h n = true := by simp [evB, g0, g1]
      rw [show evR h n = tell n (evF h n) by simp [evR, hV], hV]
      clear hV
      have H0 := Lib.hid g0
      clear g0
      have H1 := Lib.hid g1
      clear g1
      go_enter Try.func22, Try.ntmps22
      go_wp2_with fail
      refine (riHigh_any _ _).mono ?_
      rintro e w' ⟨rfl, rfl⟩
      rw [H0.out]
      go_wp2_with fail
      refine (l1Least_any _ _ _).mono ?_
      rintro e w' ⟨rfl, rfl⟩
      go_wp2_with fail
      refine (l1In_any _ _ _ _).mono ?_
      rintro e w' ⟨rfl, rfl⟩
      rw [H1.out]
      go_wp2_with fail
      go_loopw [6, 7] (fun v i wr => ∃ k : Nat, k ≤ n ∧ i = .int .i64 ((k : Int) + 1) ∧ OwnI wr w.heap.size v (tell k (evF h n)) ∧ Below w.heap.size w wr) (fun _ i _ => (n + 1 - intOf i).toNat)
      case atStart => exact ⟨0, by omega, rfl, OwnI.nil _ _, Below.refl _ _⟩
      case round =>
        obtain ⟨k, hk, rfl, hown, hbw⟩ := hrel
        have hz : w.heap.size ≤ wr.heap.size := hbw.size
        by_cases hlt : k < n
        · have a := evC_bd b0 (show (1 : Int) ≤ n by omega) (k := k) (by omega)
          have b := evC_bd b0 (show (1 : Int) ≤ n by omega) (k := k + 1) (by omega)
          have ef := evF_bd b0 (show (1 : Int) ≤ n by omega) (k := k) (by omega)
          have HT := Lib.hid (tell_snoc (evF h n) k)
          have HF := Lib.hid (show evF h n k = evC h n (k + 1) - evC h n k from rfl)
          have HN := Lib.hid (show (tell k (evF h n)).length ≤ 100 by rw [tell_length]; omega)
          rw [show ((k + 1 : Nat) : Int) = (k : Int) + 1 by push_cast; rfl] at b
          have t1 : (((k : Int) + 1) * h).tdiv (n : Int) = evC h n (k + 1) := by rw [Int.mul_comm, Int.tdiv_eq_ediv_of_nonneg b.2.2.1]; unfold evC; push_cast; rfl
          have t2 : ((k : Int) * h).tdiv (n : Int) = evC h n k := by rw [Int.mul_comm, Int.tdiv_eq_ediv_of_nonneg a.2.2.1]; rfl
          have m1 : 0 ≤ ((k : Int) + 1) * h ∧ ((k : Int) + 1) * h ≤ 600000 := by rw [Int.mul_comm]; omega
          have m2 : 0 ≤ (k : Int) * h ∧ (k : Int) * h ≤ 600000 := by rw [Int.mul_comm]; omega
          have w0 : (k : Int) + 1 - 1 = k := by omega
          have w1 : IntKind.i64.wrap (((k : Int) + 1) * h) = ((k : Int) + 1) * h := IntWalk.i64_in _ (by omega)
          have w2 : IntKind.i64.wrap ((k : Int) * h) = (k : Int) * h := IntWalk.i64_in _ (by omega)
          have w3 : IntKind.i64.wrap (k : Int) = (k : Int) := IntWalk.i64_in _ (by omega)
          have w4 : IntKind.i64.wrap (evC h n (k + 1)) = evC h n (k + 1) := IntWalk.i64_in _ (by omega)
          have w5 : IntKind.i64.wrap (evC h n k) = evC h n k := IntWalk.i64_in _ (by omega)
          have w6 : IntKind.i64.wrap (evC h n (k + 1) - evC h n k) = evC h n (k + 1) - evC h n k := IntWalk.i64_in _ (by rw [← HF.out]; omega)
          have w7 : ¬ (n : Int) = 0 := by omega
          have w8 : ¬ n = 0 := by omega
          have HB := Lib.hid hbw
          clear a b ef hbw
          generalize evC h n (k + 1) = y at *
          generalize evC h n k = x at *
          generalize hL : tell k (evF h n) = zs at *
          clear hL
          go_wp2_with fail
          go_region_law ((refine step_append_rd _ (by rfl) _ _ (by rfl) w.heap.size (wr.heap.size + 1) _ _ [y - x] (by rfl) (((hown.alloc (.cells #[.int .i64 (y - x)] 3)).below (Below.refl _ _).drew (Nat.le_refl _))) (some ⟨wr.heap.size, 0, none⟩) 1 (by rfl) (rd_one (by simp)) (by have := HN.out; simp; omega) (by show w.heap.size ≤ (wr.alloc _).heap.size; simp; omega) ?_; intro v9 w9 hown9 hb9 _ _; have hb9' : Below w.heap.size (wr.alloc (.cells #[.int .i64 (y - x)] 3)) w9 := below_undrew hb9))
          all_goals
            go_wp2_with fail
            go_roundw
            case rel => exact ⟨k + 1, by omega, by go_num, by rw [HT.out, HF.out]; exact hown9, (HB.out.alloc (by omega) _).trans hb9'⟩
            case measure => simp [intOf]; omega
        · obtain rfl : k = n := by omega
          go_wp2
          go_ret2
          exact ⟨_, rfl, hown, hbw⟩

set_option maxHeartbeats 2000000 in
theorem implEven_any (h r : Int) (w : World) :
    Calls Try.prog 23 #[.int .i64 h, .int .i64 r] w (ListsX 54 w (evR h r) (evB h r)) := by
  cases g0 : inB h 1 6000
  · have hV : evB h r = false := by simp [evB_iff, g0]
    rw [show evR h r = [] by simp [evR, hV], hV]
    clear hV
    have H0 := Lib.hid g0
    clear g0
    go_enter Try.func23, Try.ntmps23
    go_wp2_with fail
    refine (isHigh_any _ _).mono ?_
    rintro e w' ⟨rfl, rfl⟩
    rw [H0.out]
    go_wp2_with fail
    go_ret2
    exact ⟨_, rfl, .inl (OwnI.nil _ _), Below.refl _ _⟩
  · have b0 := inB_le g0
    cases g1 : inB r 1 100
    · have hV : evB h r = false := by simp [evB_iff, g1]
      rw [show evR h r = [] by simp [evR, hV], hV]
      clear hV
      have H0 := Lib.hid g0
      clear g0
      have H1 := Lib.hid g1
      clear g1
      go_enter Try.func23, Try.ntmps23
      go_wp2_with fail
      refine (isHigh_any _ _).mono ?_
      rintro e w' ⟨rfl, rfl⟩
      rw [H0.out]
      go_wp2_with fail
      refine (isRisers_any _ _).mono ?_
      rintro e w' ⟨rfl, rfl⟩
      rw [H1.out]
      go_wp2_with fail
      go_ret2
      exact ⟨_, rfl, .inl (OwnI.nil _ _), Below.refl _ _⟩
    · have b1 := inB_le g1
      by_cases g2 : h < r
      · have hV : evB h r = false := by simp [evB_iff, g2]
        rw [show evR h r = [] by simp [evR, hV], hV]
        clear hV
        have H0 := Lib.hid g0
        clear g0
        have H1 := Lib.hid g1
        clear g1
        go_enter Try.func23, Try.ntmps23
        go_wp2_with fail
        refine (isHigh_any _ _).mono ?_
        rintro e w' ⟨rfl, rfl⟩
        rw [H0.out]
        go_wp2_with fail
        refine (isRisers_any _ _).mono ?_
        rintro e w' ⟨rfl, rfl⟩
        rw [H1.out]
        go_wp2_with fail
        go_ret2
        exact ⟨_, rfl, .inl (OwnI.nil _ _), Below.refl _ _⟩
      · obtain ⟨n, rfl⟩ : ∃ n : Nat, r = n := ⟨r.toNat, by omega⟩
        have hV : evB h n = true := by simp [evB_iff, g0, g1]; omega
        rw [show evR h n = tell n (evF h n) by simp [evR, hV], hV]
        clear hV
        have H0 := Lib.hid g0
        clear g0
        have H1 := Lib.hid g1
        clear g1
        have HR := Lib.hid (fun w => even_any h n w b0 (by omega))
        have HT := Lib.hid (rowT_take (evF h n) (k := n) (by omega))
        have HL := rowT_length (evF h n) n
        have q1 : (n : Int) ≤ 100 := by omega
        have Z1 := rowHid HL
        have HPO := Lib.hid (show (ints (rowT (evF h n) n)).all (·.oneCell') = true by simp [ints, Value.oneCell'])
        have ZS := Lib.hid (show (ints zrow).size = (ints (rowT (evF h n) n)).size by rw [ints_size, ints_size, zrow_length, HL])
        generalize rowT (evF h n) n = rr at *
        go_enter Try.func23, Try.ntmps23
        go_wp2_with fail
        refine (isHigh_any _ _).mono ?_
        rintro e w' ⟨rfl, rfl⟩
        rw [H0.out]
        go_wp2_with fail
        refine (isRisers_any _ _).mono ?_
        rintro e w' ⟨rfl, rfl⟩
        rw [H1.out]
        go_wp2_with fail
        refine (HR.out _).mono ?_
        rintro e w1 ⟨rfl, hb⟩
        go_wp2_with (first | (rw [row_new]) | (refine wpList_store_row rfl 54 (.tmp 6) (.tmp 22) rfl w1.heap.size (ints rr) rfl rfl 54 _ (Blk.new _ _ _) Z1.out ZS.out HPO.out ?_))
        go_ret2
        refine ⟨_, rfl, .inr ⟨w1.heap.size, n, rr.drop n, by rw [tell_length]; rfl, hb.size, ?_, by rw [tell_length]; exact Nat.le_refl _⟩, below_setRow (hb.alloc hb.size _) hb.size _⟩
        rw [← HT.out, List.take_append_drop]
        exact setRow_heap _ _ _ _ _ _ (Blk.new _ _ _)


end Go.Proofs.Ytdeckfdmhpiokaa
