/- Contracts: slices.Grow of nil, slices.Concat of two lists. -/
import Derived.Test.YtiacfaeanlkalaaGApp
import Derived.Test.YtiacfaeanlkalaaGMake
import Derived.Lib.AppendZerosOnto
import Derived.Lib.SliceRun
set_option linter.unusedSimpArgs false
namespace Go.Proofs.Ytiacfaeanlkalaa
set_option maxRecDepth 100000
open Go.RowKit

set_option maxHeartbeats 1000000 in
theorem grow_nil (n : Nat) (w : World) (h1 : 1 ≤ n) (h2 : n ≤ 100000) :
    Calls Try.prog 66 #[.slice none 0 0, .int .i64 (n : Int)] w fun e w' => ∃ pv, e = .returned pv ∧ OwnI w' w.heap.size pv [] ∧ Below w.heap.size w w' := by
  obtain ⟨i0, hi, hz, hs, hby⟩ := info_parts int_info
  have hrun := fun ty => Lib.run_append_grow_zeros w 22 3 ty 3 i0 (.int .i64 0) .i64 .i64 Try.underlying22 Try.underlying3 hi hz none 0 0 [] (run_firstCells_none w.drew i0.size 0 0 0) n (by omega) (by omega) (by omega) (by omega) (by rw [hby]; omega) (growslice_fits (by omega) (by rw [hby]; omega))
  have hGn := grownCap_ge w (0 + n) 0 3
  have hGm := grownCap_le_maxLen w (0 + n) 0 3 (by unfold maxLen; omega)
  have hown := fun cs (h : cs.size = grownCap w (0 + n) 0 3 * 1) => World.ownsRow_made (base := w.heap.size) (e := 3) w.drew cs (grownCap w (0 + n) 0 3) (Nat.le_refl _) hGm h
  generalize grownCap w (0 + n) 0 3 = G at *
  simp only [Nat.zero_add] at hrun hGn
  have hsz : (#[] ++ Builtin.zeroCells (Value.int .i64 0).cells n ++ Builtin.zeroCells (Value.int .i64 0).cells (G - n)).size = G * 1 := by
    simp [Builtin.zeroCells, Value.cells]
    omega
  generalize (#[] ++ Builtin.zeroCells (Value.int .i64 0).cells n ++ Builtin.zeroCells (Value.int .i64 0).cells (G - n)) = CS at *
  have hO := Lib.hid (hown _ hsz)
  have hB := Lib.hid (below_undrew (a := w) (below_alloc w.drew (.cells CS 3)))
  have n1 : ¬ (n : Int) < 0 := by omega
  have n2 : (n : Int) > 0 := by omega
  have n3 : wrap64 (n : Int) = n := by unfold wrap64; omega
  have n4 : ((G : Nat) : Int) ≤ 9223372036854775807 := by unfold maxLen at hGm; omega
  clear hown hsz hi hz hs hby
  go_enter Try.func66, Try.ntmps66
  go_wp2_with (at_builtin; refine Lib.wpList_append_run _ rfl _ _ _ _ rfl _ _ rfl rfl _ _ (hrun _) ?_)
  all_goals go_ret
  all_goals exact ⟨_, rfl, hO.out, hB.out⟩

/-- the length of the first k of two lists -/
def len2 (a b : Nat) : Nat → Nat
  | 0 => 0
  | 1 => a
  | _ => a + b
/-- the first k of two lists, joined -/
def cat2 (xs ys : List Int) : Nat → List Int
  | 0 => []
  | 1 => xs
  | _ => xs ++ ys

set_option maxHeartbeats 4000000 in
theorem concat2_any (g B : Nat) (A1 A2 : Option Addr) (c1 c2 n1 n2 : Nat) (xs ys : List Int) (w : World) (hl1 : n1 = xs.length) (hl2 : n2 = ys.length)
    (hg : Blk w g 22 #[.slice A1 n1 c1, .slice A2 n2 c2]) (h1 : Rd w B A1 c1 xs) (h2 : Rd w B A2 c2 ys) (hB : B ≤ w.heap.size) (hn1 : 1 ≤ n1 + n2) (hn : n1 + n2 ≤ 100000) :
    Calls Try.prog 58 #[.slice (some ⟨g, 0, none⟩) 2 2] w fun e w' => ∃ pv, e = .returned pv ∧ OwnI w' w.heap.size pv (xs ++ ys) ∧ Below w.heap.size w w' := by
  have HK := Lib.hid (fun (k : Nat) (h : k < 2) => show ∃ A n c zs, (∀ u, Below w.heap.size w u → u.cell? ⟨g, k, none⟩ = some (.slice A n c)) ∧ n = zs.length ∧ Rd w B A c zs ∧ len2 n1 n2 (k + 1) = len2 n1 n2 k + n ∧ cat2 xs ys (k + 1) = cat2 xs ys k ++ zs ∧ (cat2 xs ys k).length = len2 n1 n2 k ∧ len2 n1 n2 k + n ≤ 100000 by
    obtain rfl | rfl : k = 0 ∨ k = 1 := by omega
    · exact ⟨A1, n1, c1, xs, fun u hb => (hg.below hb hg.lt).cell 0, hl1, h1, by simp [len2], by simp [cat2], by simp [cat2, len2], by simp [len2]; omega⟩
    · exact ⟨A2, n2, c2, ys, fun u hb => (hg.below hb hg.lt).cell 1, hl2, h2, by simp [len2], by simp [cat2], by simp [cat2, len2, hl1], by simp [len2]; omega⟩)
  clear hl1 hl2 hg h1 h2
  go_enter Try.func58, Try.ntmps58
  go_wp2_with fail
  go_loop [3, 11] (fun m i => ∃ k : Nat, k ≤ 2 ∧ i = .int .i64 (k : Int) ∧ m = .int .i64 ((len2 n1 n2 k : Nat) : Int)) (fun _ i => 2 - (intOf i).toNat)
  case atStart => exact ⟨0, by omega, rfl, rfl⟩
  case round =>
    obtain ⟨k, hk, rfl, rfl⟩ := hrel
    by_cases hlt : k < 2
    · obtain ⟨A, n, c, zs, hcell, x1, x2, hst, x3, x4, hbd⟩ := HK.out k hlt
      clear x1 x2 x3 x4
      have hc := hcell w (Below.refl _ _)
      have HST := Lib.hid hst
      clear hst hcell
      generalize len2 n1 n2 k = m at *
      have z6 : wrap64 ((m : Int) + (n : Int)) = ((m + n : Nat) : Int) := by unfold wrap64; omega
      have z8 : ¬ ((m + n : Nat) : Int) < 0 := by omega
      have k1 : (k : Int) < 2 := by omega
      have k0 : (0 : Int) ≤ (k : Int) := by omega
      go_wp2_with fail
      go_round
      case rel => exact ⟨k + 1, by omega, by go_num, by rw [HST.out]; first | rfl | simp⟩
      case measure => simp [intOf]; omega
    · obtain rfl : k = 2 := by omega
      have e2 : len2 n1 n2 2 = n1 + n2 := rfl
      rw [e2]
      clear hlt hk
      go_wp2_with fail
      refine (grow_nil (n1 + n2) w (by omega) (by omega)).mono ?_
      rintro e w1 ⟨pv, rfl, hown, hb1⟩
      go_wp2_with fail
      go_loopw [6, 27] (fun m i wr => ∃ k : Nat, k ≤ 2 ∧ i = .int .i64 (k : Int) ∧ OwnI wr w.heap.size m (cat2 xs ys k) ∧ Below w.heap.size w wr) (fun _ i _ => 2 - (intOf i).toNat)
      case atStart => exact ⟨0, by omega, rfl, hown, hb1⟩
      case round =>
        obtain ⟨k, hk, rfl, ho, hb⟩ := hrel
        by_cases hlt : k < 2
        · obtain ⟨A, n, c, zs, hcell, hnz, hrz, hst, hct, hcl, hbd⟩ := HK.out k hlt
          have hc := hcell wr hb
          have HZ := Lib.hid hnz
          have HCT := Lib.hid hct
          have HL := Lib.hid (show (cat2 xs ys k).length + zs.length ≤ 4194304 by rw [hcl, ← hnz]; omega)
          have hrw := hrz.below hb hB
          clear hnz hct hcell hst hcl hrz
          have k1 : (k : Int) < 2 := by omega
          have k0 : (0 : Int) ≤ (k : Int) := by omega
          generalize cat2 xs ys k = L at *
          go_wp2_with (at_builtin; refine wpList_append_rd' _ rfl _ _ rfl w.heap.size B _ L zs rfl ho A n c rfl HZ.out hrw HL.out hb.size ?_; intro v1 w3 hown1 hb3)
          go_roundw
          case rel => exact ⟨k + 1, by omega, by go_num, by rw [HCT.out]; exact hown1, hb.trans hb3⟩
          case measure => simp [intOf]; omega
        · obtain rfl : k = 2 := by omega
          go_wp2_with fail
          go_ret
          exact ⟨_, rfl, ho, hb⟩

end Go.Proofs.Ytiacfaeanlkalaa
