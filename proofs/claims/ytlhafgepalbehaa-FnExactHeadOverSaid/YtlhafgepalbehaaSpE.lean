/- Contracts: spirals: heads of those below. -/
import Derived.Test.YtlhafgepalbehaaSpA
namespace Go.Proofs.Ytlhafgepalbehaa
open Go.RowKit

set_option maxHeartbeats 2000000 in
theorem implHeadOver_any (a b c n : Int) (w : World) :
    Calls Try.prog 23 #[.agg #[.int .i64 a, .int .i64 b, .int .i64 c], .int .i64 n] w fun e w' => e = .returned (.tuple #[.int .i64 (orP (headB a b c n) (b * c)), .bool (headB a b c n)]) ∧ Below w.heap.size w w' := by
  cases g0 : stepB a b c n
  · rw [show headB a b c n = false by simp [headB, g0], orP_no]
    obtain ⟨q, hq⟩ : ∃ q, stepB a b c n = q := ⟨_, rfl⟩
    have HX := Lib.hid (show selR q (aboveP b n) a = [] by rw [← hq, g0, selR_no])
    have HC := Lib.hid (fun u => implStepsAbove_any a b c n u)
    rw [hq] at HC
    clear hq
    go_enter Try.func23, Try.ntmps23
    go_wp2_with fail
    refine (HC.out _).mono ?_
    rintro e w1 ⟨v, rfl, hO, hb⟩
    have hs : w.heap.size + 1 ≤ w1.heap.size := by have := hb.size; (try simp at this); omega
    have X0 : Blk w1 (w.heap.size) 25 #[.int .i64 a, .int .i64 b, .int .i64 c] := (Blk.new' (by simp)).below hb (by simp; try omega)
    have Bt : Below w.heap.size w w1 := ((Below.refl _ _).alloc (Nat.le_refl _) _).trans (hb.mono (by simp; try omega))
    clear hb
    have c0_0 : w1.cell? ⟨w.heap.size, 0, none⟩ = some (.int .i64 a) := X0.cell 0
    have c0_1 : w1.cell? ⟨w.heap.size, 1, none⟩ = some (.int .i64 b) := X0.cell 1
    have c0_2 : w1.cell? ⟨w.heap.size, 2, none⟩ = some (.int .i64 c) := X0.cell 2
    rw [HX.out] at hO
    obtain ⟨A0, cc, rfl, hr⟩ := hO.form
    clear hO hr
    go_wp2_with fail
    go_ret2
    exact ⟨rfl, Bt⟩
  · have b0 := stepB_le g0
    by_cases g1 : a < n + b
    · rw [show headB a b c n = false by simp [headB, g1], orP_no]
      obtain ⟨q, hq⟩ : ∃ q, stepB a b c n = q := ⟨_, rfl⟩
      have HX := Lib.hid (show selR q (aboveP b n) a = [] by rw [← hq, g0, selR_yes]; exact above_none (by omega) (by omega) (by omega))
      have HC := Lib.hid (fun u => implStepsAbove_any a b c n u)
      rw [hq] at HC
      clear hq
      go_enter Try.func23, Try.ntmps23
      go_wp2_with fail
      refine (HC.out _).mono ?_
      rintro e w1 ⟨v, rfl, hO, hb⟩
      have hs : w.heap.size + 1 ≤ w1.heap.size := by have := hb.size; (try simp at this); omega
      have X0 : Blk w1 (w.heap.size) 25 #[.int .i64 a, .int .i64 b, .int .i64 c] := (Blk.new' (by simp)).below hb (by simp; try omega)
      have Bt : Below w.heap.size w w1 := ((Below.refl _ _).alloc (Nat.le_refl _) _).trans (hb.mono (by simp; try omega))
      clear hb
      have c0_0 : w1.cell? ⟨w.heap.size, 0, none⟩ = some (.int .i64 a) := X0.cell 0
      have c0_1 : w1.cell? ⟨w.heap.size, 1, none⟩ = some (.int .i64 b) := X0.cell 1
      have c0_2 : w1.cell? ⟨w.heap.size, 2, none⟩ = some (.int .i64 c) := X0.cell 2
      rw [HX.out] at hO
      obtain ⟨A0, cc, rfl, hr⟩ := hO.form
      clear hO hr
      go_wp2_with fail
      go_ret2
      exact ⟨rfl, Bt⟩
    · rw [show headB a b c n = true by simp [headB, g0, g1], orP_yes]
      obtain ⟨t, ht⟩ := above_head (a := a) (b := b) (n := n) (by omega) (by omega) (by omega)
      obtain ⟨e0, e1⟩ := mul_bd (a := b) (A := 60) (b := c) (B := 300) (by omega) (by omega) (by omega) (by omega)
      have hl := selL_length (aboveP b n) a.toNat
      rw [ht] at hl
      simp only [List.length_cons] at hl
      obtain ⟨q, hq⟩ : ∃ q, stepB a b c n = q := ⟨_, rfl⟩
      have HX := Lib.hid (show selR q (aboveP b n) a = (n + b) :: t by rw [← hq, g0, selR_yes, ht])
      have HC := Lib.hid (fun u => implStepsAbove_any a b c n u)
      rw [hq] at HC
      clear hq
      go_enter Try.func23, Try.ntmps23
      go_wp2_with fail
      refine (HC.out _).mono ?_
      rintro e w1 ⟨v, rfl, hO, hb⟩
      have hs : w.heap.size + 1 ≤ w1.heap.size := by have := hb.size; (try simp at this); omega
      have X0 : Blk w1 (w.heap.size) 25 #[.int .i64 a, .int .i64 b, .int .i64 c] := (Blk.new' (by simp)).below hb (by simp; try omega)
      have Bt : Below w.heap.size w w1 := ((Below.refl _ _).alloc (Nat.le_refl _) _).trans (hb.mono (by simp; try omega))
      clear hb
      have c0_0 : w1.cell? ⟨w.heap.size, 0, none⟩ = some (.int .i64 a) := X0.cell 0
      have c0_1 : w1.cell? ⟨w.heap.size, 1, none⟩ = some (.int .i64 b) := X0.cell 1
      have c0_2 : w1.cell? ⟨w.heap.size, 2, none⟩ = some (.int .i64 c) := X0.cell 2
      rw [HX.out] at hO
      obtain ⟨A0, cc, rfl, hr⟩ := hO.form
      obtain ⟨b0', o0, rfl, hb0, hcell⟩ := hr.at_ (k := 0) (by simp)
      rw [show ((n + b) :: t).getD 0 0 = n + b from rfl] at hcell
      simp only [List.length_cons, Nat.add_zero] at hcell ⊢
      have hw0 : IntKind.i64.wrap (n + b - n) = b := by rw [show n + b - n = b by omega]; exact IntWalk.i64_in _ (by omega)
      have hw1 : IntKind.i64.wrap (b * c) = b * c := IntWalk.i64_in _ (by omega)
      clear hO hr
      go_wp2_with fail
      go_quiet (fail)
      go_wp2_with fail
      go_ret2
      exact ⟨rfl, keepBN Bt⟩


end Go.Proofs.Ytlhafgepalbehaa
