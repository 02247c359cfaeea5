/- Contracts: the text of a moving stair, on both sides. -/
import Derived.Test.YtfojcefbgdaelaaDoorTxNum
import Derived.Test.YtfojcefbgdaelaaDoorMovB
import Derived.Test.YtfojcefbgdaelaaDoorShelf
namespace Go.Proofs.YtfojcefbgdaelaaDoor
open Go.RowKit
set_option maxRecDepth 100000

def moS (x y : Int) : ByteArray := numS x ++ ⟨#[118]⟩ ++ numS y
set_option maxHeartbeats 1000000 in
theorem moText_any (x y : Int) (w : World) (hx : 0 ≤ x ∧ x ≤ 1000) (hy : 0 ≤ y ∧ y ≤ 1000) :
    Calls Tryd.prog 52 #[.agg #[.int .i64 x, .int .i64 y]] w fun e w' => e = .returned (.string (moS x y)) ∧ Below w.heap.size w w' := by
  have H1 := Lib.hid (fun w => l1Num_any 1001 x w (by omega) (by omega) (by omega))
  have H2 := Lib.hid (fun w => l1Num_any 1001 y w (by omega) (by omega) (by omega))
  have s1 := numS_size (n := x) (by omega)
  have s2 := numS_size (n := y) (by omega)
  unfold moS
  generalize numS x = s at *
  generalize numS y = t at *
  go_enter Tryd.func52, Tryd.ntmps52
  go_wp2_with fail
  go_region_with (first
    | (go_at_call_of 80 (Value.int .i64 x); refine (H1.out _).mono ?_; rintro e w1 ⟨rfl, hb1⟩; have d1 : w1.cell? ⟨w.heap.size, 1, none⟩ = some (.int .i64 y) := (hb1.cell (by simp)).trans (by simp))
    | (go_at_call_of 80 (Value.int .i64 y); refine (H2.out _).mono ?_; rintro e w2 ⟨rfl, hb2⟩))
  all_goals go_wp2_with fail
  all_goals go_ret
  all_goals exact ⟨rfl, (((Below.refl w.heap.size w).alloc (Nat.le_refl _) _).drew.trans (hb1.mono (by simp))).trans (hb2.mono (by have := hb1.size; simp at this; omega))⟩
set_option maxHeartbeats 1000000 in
theorem specMovingText_any (x y : Int) (w : World) :
    Calls Tryd.prog 13 #[.agg #[.int .i64 x, .int .i64 y]] w fun e w' => e = .returned (.tuple #[.string (orS (movB x y) (moS x y)), .bool (movB x y)]) ∧ Below w.heap.size w w' := by
  cases g0 : movB x y
  · rw [orS_no]
    have H0 := Lib.hid g0
    clear g0
    go_enter Tryd.func13, Tryd.ntmps13
    go_wp2_with fail
    refine (moGood_any _ _ _).mono ?_
    rintro e w1 ⟨rfl, hb⟩
    rw [H0.out]
    have Bt : Below w.heap.size w w1 := (below_alloc _ _).trans (hb.mono (by simp))
    clear hb
    go_wp2_with fail
    go_ret2
    exact ⟨rfl, Bt⟩
  · rw [orS_yes]
    have b0 := movB_le g0
    have H0 := Lib.hid g0
    clear g0
    have HM := Lib.hid (fun w => moText_any x y w (by omega) (by omega))
    generalize moS x y = s at *
    go_enter Tryd.func13, Tryd.ntmps13
    go_wp2_with fail
    refine (moGood_any _ _ _).mono ?_
    rintro e w1 ⟨rfl, hb⟩
    rw [H0.out]
    have hs : w.heap.size + 1 ≤ w1.heap.size := by have := hb.size; simp at this; omega
    have c0 : w1.cell? ⟨w.heap.size, 0, none⟩ = some (.int .i64 x) := (hb.cell (by simp)).trans (by simp)
    have c1 : w1.cell? ⟨w.heap.size, 1, none⟩ = some (.int .i64 y) := (hb.cell (by simp)).trans (by simp)
    have Bt : Below w.heap.size w w1 := (below_alloc _ _).trans (hb.mono (by simp))
    clear hb
    go_wp2_with fail
    refine (HM.out _).mono ?_
    rintro e w2 ⟨rfl, hb⟩
    go_wp2_with fail
    go_ret2
    exact ⟨rfl, Bt.trans (hb.mono (by omega))⟩
set_option maxHeartbeats 1000000 in
theorem implMovingText_any (x y : Int) (w : World) (ht : TabI w) :
    Calls Tryd.prog 15 #[.agg #[.int .i64 x, .int .i64 y]] w fun e w' => e = .returned (.tuple #[.string (orS (movB x y) (moS x y)), .bool (movB x y)]) ∧ Below w.heap.size w w' := by
  cases g0 : movB x y
  · rw [orS_no]
    have H0 := Lib.hid g0
    clear g0
    go_enter Tryd.func15, Tryd.ntmps15
    go_wp2_with fail
    refine (impMov_any _ _ _).mono ?_
    rintro e w1 ⟨rfl, hb⟩
    rw [H0.out]
    have Bt : Below w.heap.size w w1 := (below_alloc _ _).trans (hb.mono (by simp))
    clear hb
    go_wp2_with fail
    go_ret2
    exact ⟨rfl, Bt⟩
  · rw [orS_yes]
    have b0 := movB_le g0
    have H0 := Lib.hid g0
    clear g0
    have H1 := Lib.hid (fun u hu => itoa_any x u (by omega) (by omega) (ht.below hu))
    have H2 := Lib.hid (fun u hu => itoa_any y u (by omega) (by omega) (ht.below hu))
    have s1 := numS_size (n := x) (by omega)
    have s2 := numS_size (n := y) (by omega)
    unfold moS
    generalize numS x = s at *
    generalize numS y = t at *
    go_enter Tryd.func15, Tryd.ntmps15
    go_wp2_with fail
    refine (impMov_any _ _ _).mono ?_
    rintro e w1 ⟨rfl, hb⟩
    rw [H0.out]
    have hs : w.heap.size + 1 ≤ w1.heap.size := by have := hb.size; simp at this; omega
    have c0 : w1.cell? ⟨w.heap.size, 0, none⟩ = some (.int .i64 x) := (hb.cell (by simp)).trans (by simp)
    have c1 : w1.cell? ⟨w.heap.size, 1, none⟩ = some (.int .i64 y) := (hb.cell (by simp)).trans (by simp)
    have Bt : Below w.heap.size w w1 := (below_alloc _ _).trans (hb.mono (by simp))
    clear hb
    go_wp2_with fail
    go_region_with (first
      | (go_at_call_of 54 (Value.int .i64 x); refine (H1.out _ Bt.drew).mono ?_; rintro e w2 ⟨rfl, hb1⟩; have d1 : w2.cell? ⟨w.heap.size, 1, none⟩ = some (.int .i64 y) := (hb1.cell (p := ⟨w.heap.size, 1, none⟩) (by show w.heap.size < w1.heap.size; omega)).trans c1; have B2 := Bt.drew.trans (hb1.mono (by show w.heap.size ≤ w1.heap.size; omega)); have z2 : w1.heap.size ≤ w2.heap.size := hb1.size)
      | (go_at_call_of 54 (Value.int .i64 y); refine (H2.out _ B2).mono ?_; rintro e w3 ⟨rfl, hb2⟩))
    all_goals go_wp2_with fail
    all_goals go_ret2
    all_goals exact ⟨rfl, B2.trans (hb2.mono (by omega))⟩

end Go.Proofs.YtfojcefbgdaelaaDoor
