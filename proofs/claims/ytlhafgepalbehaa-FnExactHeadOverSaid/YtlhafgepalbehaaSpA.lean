/- Contracts: spirals: lists of steps that suit, the program. -/
import Derived.Test.YtlhafgepalbehaaSpThat
import Derived.Test.YtlhafgepalbehaaSpL
import Derived.Shelf.Abstract
namespace Go.Proofs.Ytlhafgepalbehaa
open Go.RowKit

set_option maxHeartbeats 1000000 in
theorem aboveC_any (a b c n k : Int) (gs gn : Nat) (h0 : 3 ≤ b) (h1 : b ≤ 60) (h2 : 1 ≤ n) (h3 : n ≤ 400) (h4 : 1 ≤ k) (h5 : k ≤ 400) (w : World) (hS : Blk w gs 25 #[.int .i64 a, .int .i64 b, .int .i64 c]) (hn : Blk w gn 3 #[.int .i64 n]) :
    Calls Try.prog 65 #[.int .i64 k, .pointer (some ⟨gn, 0, none⟩), .pointer (some ⟨gs, 0, none⟩)] w fun e w' => e = .returned (.bool (aboveP b n k)) ∧ Below w.heap.size w w' := by
  obtain ⟨c0, c1, c2⟩ := hS.three
  have dn : w.cell? ⟨gn, 0, none⟩ = some (.int .i64 n) := hn.cell 0
  by_cases h : n < k
  · have HR := Lib.hid (show decide (aroI b n k = 0) = aboveP b n k by simp [aboveP, h, aro_zero (b := b) (by omega) h])
    go_enter Try.func65, Try.ntmps65
    go_wp2_with fail
    refine (apart_any a b c n k (by omega) (by omega) (by omega) (by omega) (by omega) (by omega) _).mono ?_
    rintro e w1 ⟨rfl, hb⟩
    go_wp2_with fail
    go_ret
    exact ⟨ret_bool HR.out, hb⟩
  · rw [aboveP_lt (by omega)]
    go_enter Try.func65, Try.ntmps65
    go_wp2_with fail
    go_wp2_with fail
    go_ret
    exact ⟨rfl, Below.refl _ _⟩



set_option maxHeartbeats 2000000 in
theorem implStepsAbove_any (a b c n : Int) (w : World) :
    Calls Try.prog 50 #[.agg #[.int .i64 a, .int .i64 b, .int .i64 c], .int .i64 n] w fun e w' => Lists w (selR (stepB a b c n) (aboveP b n) a) (stepB a b c n) e w' := by
  cases g0 : stepB a b c n
  · rw [selR_no]
    have H0 := Lib.hid g0
    clear g0
    go_enter Try.func50, Try.ntmps50
    go_wp2_with fail
    refine (hasStep_any _ _ _ _ _).mono ?_
    rintro e w1 ⟨rfl, hb⟩
    have hs : w.heap.size + 2 ≤ w1.heap.size := by have := hb.size; (try simp at this); omega
    have X0 : Blk w1 (w.heap.size) 25 #[.int .i64 a, .int .i64 b, .int .i64 c] := ((Blk.new' (by simp)).alloc _).below hb (by simp; try omega)
    have X1 : Blk w1 (w.heap.size + 1) 3 #[.int .i64 n] := (Blk.new' (by simp)).below hb (by simp; try omega)
    have Bt : Below w.heap.size w w1 := (((Below.refl _ _).alloc (Nat.le_refl _) _).alloc (by simp; try omega) _).trans (hb.mono (by simp; try omega))
    clear hb
    have c0_0 : w1.cell? ⟨w.heap.size, 0, none⟩ = some (.int .i64 a) := X0.cell 0
    have c0_1 : w1.cell? ⟨w.heap.size, 1, none⟩ = some (.int .i64 b) := X0.cell 1
    have c0_2 : w1.cell? ⟨w.heap.size, 2, none⟩ = some (.int .i64 c) := X0.cell 2
    have c1_0 : w1.cell? ⟨w.heap.size + 1, 0, none⟩ = some (.int .i64 n) := X1.cell 0
    rw [H0.out]
    go_wp2_with fail
    go_ret2
    exact ⟨_, rfl, OwnI.nil _ _, Bt⟩
  · have b0 := stepB_le g0
    rw [selR_yes]
    have H0 := Lib.hid g0
    clear g0
    go_enter Try.func50, Try.ntmps50
    go_wp2_with fail
    refine (hasStep_any _ _ _ _ _).mono ?_
    rintro e w1 ⟨rfl, hb⟩
    have hs : w.heap.size + 2 ≤ w1.heap.size := by have := hb.size; (try simp at this); omega
    have X0 : Blk w1 (w.heap.size) 25 #[.int .i64 a, .int .i64 b, .int .i64 c] := ((Blk.new' (by simp)).alloc _).below hb (by simp; try omega)
    have X1 : Blk w1 (w.heap.size + 1) 3 #[.int .i64 n] := (Blk.new' (by simp)).below hb (by simp; try omega)
    have Bt : Below w.heap.size w w1 := (((Below.refl _ _).alloc (Nat.le_refl _) _).alloc (by simp; try omega) _).trans (hb.mono (by simp; try omega))
    clear hb
    have c0_0 : w1.cell? ⟨w.heap.size, 0, none⟩ = some (.int .i64 a) := X0.cell 0
    have c0_1 : w1.cell? ⟨w.heap.size, 1, none⟩ = some (.int .i64 b) := X0.cell 1
    have c0_2 : w1.cell? ⟨w.heap.size, 2, none⟩ = some (.int .i64 c) := X0.cell 2
    have c1_0 : w1.cell? ⟨w.heap.size + 1, 0, none⟩ = some (.int .i64 n) := X1.cell 0
    rw [H0.out]
    go_wp2_with fail
    refine (stepsThat_any a b c 65 #[.pointer (some ⟨w.heap.size + 1, 0, none⟩), .pointer (some ⟨w.heap.size, 0, none⟩)] (aboveP b n) _ (by omega) (by omega) (enters_of Try.func65 (by kernel_rfl) rfl) ?_).mono ?_
    · intro k W hk hk2 hbW
      exact aboveC_any a b c n k _ _ (by omega) (by omega) (by omega) (by omega) (by omega) (by omega) W (X0.below hbW (by omega)) (X1.below hbW (by omega))
    rintro e w9 ⟨v9, rfl, hO, hB⟩
    go_wp2_with fail
    go_ret2
    exact ⟨_, rfl, hO.mono (by omega), Bt.trans (hB.mono (by omega))⟩




end Go.Proofs.Ytlhafgepalbehaa
