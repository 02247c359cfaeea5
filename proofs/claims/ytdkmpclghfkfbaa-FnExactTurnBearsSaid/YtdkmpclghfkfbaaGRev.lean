/- Contract: slices.Reverse over a row of the call's own. -/
import Derived.Test.YtdkmpclghfkfbaaGSpec
import Derived.RegionTactic
import Derived.BigRegion
import Derived.ChangeAlike
namespace Go.Proofs.Ytdkmpclghfkfbaa
open Go.RowKit

/-- the row behind k exchanges -/
def revK (xs : List Int) (k : Nat) : List Int := (List.range xs.length).map fun j => if j < k ∨ xs.length - k ≤ j then xs.getD (xs.length - 1 - j) 0 else xs.getD j 0
theorem revK_length (xs : List Int) (k : Nat) : (revK xs k).length = xs.length := by simp [revK]
theorem revK_get (xs : List Int) (k j : Nat) (h : j < xs.length) : (revK xs k).getD j 0 = if j < k ∨ xs.length - k ≤ j then xs.getD (xs.length - 1 - j) 0 else xs.getD j 0 := by
  simp [revK, List.getD_eq_getElem?_getD, h]
theorem list_ext_getD {xs ys : List Int} (hl : xs.length = ys.length) (h : ∀ j, j < xs.length → xs.getD j 0 = ys.getD j 0) : xs = ys := by
  apply List.ext_getElem hl
  intro i h1 h2
  have := h i h1
  simpa [List.getD_eq_getElem?_getD, h1, h2] using this
theorem revK_zero (xs : List Int) : revK xs 0 = xs := by
  refine list_ext_getD (revK_length _ _) fun j hj => ?_
  rw [revK_length] at hj
  rw [revK_get _ _ _ hj, if_neg (by omega)]
theorem getD_reverse (xs : List Int) (j : Nat) (h : j < xs.length) : xs.reverse.getD j 0 = xs.getD (xs.length - 1 - j) 0 := by
  rw [List.getD_eq_getElem?_getD, List.getD_eq_getElem?_getD, List.getElem?_reverse h]
theorem revK_end (xs : List Int) (k : Nat) (h : xs.length ≤ 2 * k + 1) : revK xs k = xs.reverse := by
  refine list_ext_getD (by simp [revK_length]) fun j hj => ?_
  rw [revK_length] at hj
  rw [revK_get _ _ _ hj, getD_reverse _ _ hj]
  by_cases h1 : j < k ∨ xs.length - k ≤ j
  · rw [if_pos h1]
  · rw [if_neg h1, show xs.length - 1 - j = j by omega]
theorem getD_set (xs : List Int) (i j : Nat) (y : Int) (h : j < xs.length) : (xs.set i y).getD j 0 = if i = j then y else xs.getD j 0 := by
  rw [List.getD_eq_getElem?_getD, List.getElem?_set, List.getD_eq_getElem?_getD]
  by_cases e : i = j
  · subst e; simp [h]
  · simp [e]
theorem revK_set (xs : List Int) (k : Nat) (h : 2 * k + 1 < xs.length) :
    ((revK xs k).set k (xs.getD (xs.length - 1 - k) 0)).set (xs.length - 1 - k) (xs.getD k 0) = revK xs (k + 1) := by
  refine list_ext_getD (by simp [revK_length]) fun j hj => ?_
  simp [revK_length] at hj
  rw [getD_set _ _ _ _ (by simp [revK_length]; omega), getD_set _ _ _ _ (by rw [revK_length]; omega), revK_get _ _ _ hj, revK_get _ _ _ hj]
  by_cases e1 : xs.length - 1 - k = j
  · rw [if_pos e1, if_pos (by omega), show xs.length - 1 - j = k by omega]
  · rw [if_neg e1]
    by_cases e2 : k = j
    · rw [if_pos e2, if_pos (by omega), e2]
    · rw [if_neg e2]
      by_cases e3 : j < k ∨ xs.length - k ≤ j
      · rw [if_pos e3, if_pos (by omega)]
      · rw [if_neg e3, if_neg (by omega)]

theorem OwnI.drewN {w : World} {B : Nat} {v : Value} {xs : List Int} (h : OwnI w B v xs) (n : Nat) : OwnI (w.drewN n) B v xs := h
theorem OwnI.undrew {w : World} {B : Nat} {v : Value} {xs : List Int} (h : OwnI w B v xs) : OwnI w.drew B v xs := h

theorem grow_trans {a b c : World} {r : Option Nat} (h : a.grownBy b r) (k : b.grownBy c r) : a.grownBy c r :=
  ⟨k.os.trans h.os, k.tape.trans h.tape, k.output.trans h.output, Nat.le_trans h.size k.size, fun i hi hne => (k.block i (Nat.lt_of_lt_of_le hi h.size) hne).trans (h.block i hi hne)⟩
theorem grow_drew {a w : World} {r : Option Nat} (h : a.grownBy w r) : a.grownBy w.drew r := ⟨h.os, h.tape, h.output, h.size, h.block⟩

set_option maxHeartbeats 2000000 in
theorem reverse_any (A : Option Addr) (c : Nat) (xs : List Int) (B : Nat) (w : World) (ho : OwnI w B (.slice A xs.length c) xs) (hn : xs.length ≤ 1048576) :
    Calls Try.prog 40 #[.slice A xs.length c] w fun e w' => e = .returned (.tuple #[]) ∧ OwnI w' B (.slice A xs.length c) xs.reverse ∧ w.grownBy w' (Value.slice A xs.length c).ownBlock := by
  rcases ho.2 with ⟨h0, h1⟩ | ⟨g, cap, cur, h0, hg, hh, _⟩
  · injection h0 with e1 e2 e3
    subst e1 e3
    have : xs = [] := List.eq_nil_of_length_eq_zero e2
    subst this
    go_enter Try.func40, Try.ntmps40
    go_wp2
    go_loop [2, 3] (fun i j => i = .int .i64 0 ∧ j = .int .i64 (-1)) (fun _ _ => 0)
    case atStart => exact ⟨rfl, rfl⟩
    case round =>
      obtain ⟨rfl, rfl⟩ := hrel
      go_wp2
      refine bodyPost_end (results_none rfl _ _ _) rfl ?_
      exact ⟨rfl, OwnI.nil _ _, World.grownBy.refl _ _⟩
  · injection h0 with e1 e2 e3
    subst e1 e3
    clear e2 hh
    go_enter Try.func40, Try.ntmps40
    go_wp2
    go_loopw [2, 3] (fun i j wr => ∃ (k : Nat), 2 * k ≤ xs.length + 1 ∧ i = .int .i64 k ∧ j = .int .i64 ((xs.length : Int) - 1 - k) ∧ OwnI wr B (.slice (some ⟨g, 0, none⟩) xs.length c) (revK xs k) ∧ w.grownBy wr (some g)) (fun i _ _ => xs.length - (intOf i).toNat)
    case atStart => exact ⟨0, by omega, rfl, by go_num, by rw [revK_zero]; exact ho, World.grownBy.refl _ _⟩
    case round =>
      obtain ⟨k, hk, rfl, rfl, hown, hgr⟩ := hrel
      have hl := revK_length xs k
      by_cases hlt : 2 * k + 1 < xs.length
      · have c1 := hown.cell hl.symm (j := k) (by omega)
        have c2 := hown.cell hl.symm (j := xs.length - 1 - k) (by omega)
        have f1 := hown.frozen hl.symm k
        have f2 := hown.frozen hl.symm (xs.length - 1 - k)
        rw [revK_get _ _ _ (by omega), if_neg (by omega)] at c1
        rw [revK_get _ _ _ (by omega), if_neg (by omega)] at c2
        obtain ⟨o1, g1⟩ := hown.set hl.symm k (xs.getD (xs.length - 1 - k) 0)
        obtain ⟨o2, g2⟩ := o1.set (by rw [List.length_set]; exact hl.symm) (xs.length - 1 - k) (xs.getD k 0)
        rw [revK_set _ _ hlt] at o2
        have g3 : w.grownBy ((wr.setCell ⟨g, k, none⟩ (.int .i64 (xs.getD (xs.length - 1 - k) 0))).setCell ⟨g, xs.length - 1 - k, none⟩ (.int .i64 (xs.getD k 0))) (some g) := grow_trans (grow_trans hgr g1) g2
        obtain ⟨m, hm⟩ : ∃ m, m = xs.length - 1 - k := ⟨_, rfl⟩
        have hme : (xs.length : Int) - 1 - k = m := by omega
        rw [hme]
        have hne : ¬ k = m := by omega
        rw [← hm] at c2 f2 o2 g3
        generalize xs.getD k 0 = x at *
        generalize xs.getD m 0 = y at *
        have q1 : k < m := by omega
        have q2 : m < xs.length := by omega
        have HL := Lib.hid hl
        have HM := Lib.hid hm
        have HE := Lib.hid hme
        clear hl hm hme o1 g1 g2 hown hgr
        go_wp2
        go_region
        go_wp2
        go_roundw
        case rel => exact ⟨k + 1, by omega, by go_num, congrArg (Value.int .i64) (by have := HE.out; omega), o2, grow_drew g3⟩
        case measure => simp [intOf]; omega
      · have R := Lib.hid (revK_end xs k (by omega))
        have HL := Lib.hid hl
        clear hl
        go_wp2
        refine bodyPost_end (results_none rfl _ _ _) rfl ?_
        exact ⟨rfl, by rw [← R.out]; exact hown, hgr⟩

end Go.Proofs.Ytdkmpclghfkfbaa
