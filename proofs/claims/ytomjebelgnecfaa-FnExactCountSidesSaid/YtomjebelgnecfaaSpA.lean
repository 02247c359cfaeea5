/- Contracts: spirals: lists of steps that suit, the program. -/
import Derived.Test.YtomjebelgnecfaaSpThat
import Derived.Test.YtomjebelgnecfaaSpL
import Derived.Shelf.Abstract
namespace Go.Proofs.Ytomjebelgnecfaa
open Go.RowKit

set_option maxHeartbeats 1000000 in
theorem aboveC_any (a b c n k : Int) (gs gn : Nat) (h0 : 3 ≤ b) (h1 : b ≤ 60) (h2 : 1 ≤ n) (h3 : n ≤ 400) (h4 : 1 ≤ k) (h5 : k ≤ 400) (w : World) (hS : Blk w gs 27 #[.int .i64 a, .int .i64 b, .int .i64 c]) (hn : Blk w gn 3 #[.int .i64 n]) :
    Calls Try.prog 31 #[.int .i64 k, .pointer (some ⟨gn, 0, none⟩), .pointer (some ⟨gs, 0, none⟩)] w fun e w' => e = .returned (.bool (aboveP b n k)) ∧ Below w.heap.size w w' := by
  obtain ⟨c0, c1, c2⟩ := hS.three
  have dn : w.cell? ⟨gn, 0, none⟩ = some (.int .i64 n) := hn.cell 0
  by_cases h : n < k
  · have HR := Lib.hid (show decide (aroI b n k = 0) = aboveP b n k by simp [aboveP, h, aro_zero (b := b) (by omega) h])
    go_enter Try.func31, Try.ntmps31
    go_wp2_with fail
    refine (apart_any a b c n k (by omega) (by omega) (by omega) (by omega) (by omega) (by omega) _).mono ?_
    rintro e w1 ⟨rfl, hb⟩
    go_wp2_with fail
    go_ret
    exact ⟨ret_bool HR.out, hb⟩
  · rw [aboveP_lt (by omega)]
    go_enter Try.func31, Try.ntmps31
    go_wp2_with fail
    go_wp2_with fail
    go_ret
    exact ⟨rfl, Below.refl _ _⟩

set_option maxHeartbeats 1000000 in
theorem oppC_any (a b c n k : Int) (gs gn : Nat) (h0 : 3 ≤ b) (h1 : b ≤ 60) (h2 : 1 ≤ n) (h3 : n ≤ 400) (h4 : 1 ≤ k) (h5 : k ≤ 400) (w : World) (hS : Blk w gs 27 #[.int .i64 a, .int .i64 b, .int .i64 c]) (hn : Blk w gn 3 #[.int .i64 n]) :
    Calls Try.prog 34 #[.int .i64 k, .pointer (some ⟨gs, 0, none⟩), .pointer (some ⟨gn, 0, none⟩)] w fun e w' => e = .returned (.bool (oppB b n k)) ∧ Below w.heap.size w w' := by
  obtain ⟨c0, c1, c2⟩ := hS.three
  have dn : w.cell? ⟨gn, 0, none⟩ = some (.int .i64 n) := hn.cell 0
  go_enter Try.func34, Try.ntmps34
  go_wp2_with fail
  refine (areOpp_any a b c n k (by omega) (by omega) (by omega) (by omega) (by omega) (by omega) _).mono ?_
  rintro e w1 ⟨rfl, hb⟩
  go_wp2_with fail
  go_ret
  exact ⟨rfl, hb⟩

set_option maxHeartbeats 1000000 in
theorem lampC_any (l m k : Int) (gl gm : Nat) (h1 : 1 ≤ l) (h2 : l ≤ 400) (h3 : 1 ≤ m) (h4 : m ≤ 400) (h5 : 1 ≤ k) (w : World) (hl : Blk w gl 3 #[.int .i64 l]) (hm : Blk w gm 3 #[.int .i64 m]) :
    Calls Try.prog 44 #[.int .i64 k, .pointer (some ⟨gl, 0, none⟩), .pointer (some ⟨gm, 0, none⟩)] w fun e w' => e = .returned (.bool (lampP l m k)) ∧ Below w.heap.size w w' := by
  have dl : w.cell? ⟨gl, 0, none⟩ = some (.int .i64 l) := hl.cell 0
  have dm : w.cell? ⟨gm, 0, none⟩ = some (.int .i64 m) := hm.cell 0
  have h0 : k.tmod l = k % l := Int.tmod_eq_emod_of_nonneg (by omega)
  have h6 : k.tmod m = k % m := Int.tmod_eq_emod_of_nonneg (by omega)
  have h7 : ¬ l = 0 := by omega
  have h8 : ¬ m = 0 := by omega
  by_cases g : k % l = 0
  · have HR := Lib.hid (show decide (k % m = 0) = lampP l m k by simp [lampP, g])
    go_enter Try.func44, Try.ntmps44
    go_wp2_with fail
    go_wp2_with fail
    go_ret
    exact ⟨ret_bool HR.out, Below.refl _ _⟩
  · rw [show lampP l m k = false by simp [lampP, g]]
    go_enter Try.func44, Try.ntmps44
    go_wp2_with fail
    go_wp2_with fail
    go_ret
    exact ⟨rfl, Below.refl _ _⟩

set_option maxHeartbeats 2000000 in
theorem implStepsAbove_any (a b c n : Int) (w : World) :
    Calls Try.prog 12 #[.agg #[.int .i64 a, .int .i64 b, .int .i64 c], .int .i64 n] w fun e w' => Lists w (selR (stepB a b c n) (aboveP b n) a) (stepB a b c n) e w' := by
  cases g0 : stepB a b c n
  · rw [selR_no]
    have H0 := Lib.hid g0
    clear g0
    go_enter Try.func12, Try.ntmps12
    go_wp2_with fail
    refine (hasStep_any _ _ _ _ _).mono ?_
    rintro e w1 ⟨rfl, hb⟩
    have hs : w.heap.size + 2 ≤ w1.heap.size := by have := hb.size; (try simp at this); omega
    have X0 : Blk w1 (w.heap.size) 27 #[.int .i64 a, .int .i64 b, .int .i64 c] := ((Blk.new' (by simp)).alloc _).below hb (by simp; try omega)
    have X1 : Blk w1 (w.heap.size + 1) 3 #[.int .i64 n] := (Blk.new' (by simp)).below hb (by simp; try omega)
    have Bt : Below w.heap.size w w1 := (((Below.refl _ _).alloc (Nat.le_refl _) _).alloc (by simp; try omega) _).trans (hb.mono (by simp; try omega))
    clear hb
    have c0_0 : w1.cell? ⟨w.heap.size, 0, none⟩ = some (.int .i64 a) := X0.cell 0
    have c0_1 : w1.cell? ⟨w.heap.size, 1, none⟩ = some (.int .i64 b) := X0.cell 1
    have c0_2 : w1.cell? ⟨w.heap.size, 2, none⟩ = some (.int .i64 c) := X0.cell 2
    have c1_0 : w1.cell? ⟨w.heap.size + 1, 0, none⟩ = some (.int .i64 n) := X1.cell 0
    rw [H0.out]
    go_wp2_with fail
    go_ret2
    exact ⟨_, rfl, OwnI.nil _ _, Bt⟩
  · have b0 := stepB_le g0
    rw [selR_yes]
    have H0 := Lib.hid g0
    clear g0
    go_enter Try.func12, Try.ntmps12
    go_wp2_with fail
    refine (hasStep_any _ _ _ _ _).mono ?_
    rintro e w1 ⟨rfl, hb⟩
    have hs : w.heap.size + 2 ≤ w1.heap.size := by have := hb.size; (try simp at this); omega
    have X0 : Blk w1 (w.heap.size) 27 #[.int .i64 a, .int .i64 b, .int .i64 c] := ((Blk.new' (by simp)).alloc _).below hb (by simp; try omega)
    have X1 : Blk w1 (w.heap.size + 1) 3 #[.int .i64 n] := (Blk.new' (by simp)).below hb (by simp; try omega)
    have Bt : Below w.heap.size w w1 := (((Below.refl _ _).alloc (Nat.le_refl _) _).alloc (by simp; try omega) _).trans (hb.mono (by simp; try omega))
    clear hb
    have c0_0 : w1.cell? ⟨w.heap.size, 0, none⟩ = some (.int .i64 a) := X0.cell 0
    have c0_1 : w1.cell? ⟨w.heap.size, 1, none⟩ = some (.int .i64 b) := X0.cell 1
    have c0_2 : w1.cell? ⟨w.heap.size, 2, none⟩ = some (.int .i64 c) := X0.cell 2
    have c1_0 : w1.cell? ⟨w.heap.size + 1, 0, none⟩ = some (.int .i64 n) := X1.cell 0
    rw [H0.out]
    go_wp2_with fail
    refine (stepsThat_any a b c 31 #[.pointer (some ⟨w.heap.size + 1, 0, none⟩), .pointer (some ⟨w.heap.size, 0, none⟩)] (aboveP b n) _ (by omega) (by omega) (enters_of Try.func31 (by kernel_rfl) rfl) ?_).mono ?_
    · intro k W hk hk2 hbW
      exact aboveC_any a b c n k _ _ (by omega) (by omega) (by omega) (by omega) (by omega) (by omega) W (X0.below hbW (by omega)) (X1.below hbW (by omega))
    rintro e w9 ⟨v9, rfl, hO, hB⟩
    go_wp2_with fail
    go_ret2
    exact ⟨_, rfl, hO.mono (by omega), Bt.trans (hB.mono (by omega))⟩

set_option maxHeartbeats 2000000 in
theorem implOppositeSteps_any (a b c n : Int) (w : World) :
    Calls Try.prog 17 #[.agg #[.int .i64 a, .int .i64 b, .int .i64 c], .int .i64 n] w fun e w' => Lists w (selR (stepB a b c n) (oppB b n) a) (stepB a b c n) e w' := by
  cases g0 : stepB a b c n
  · rw [selR_no]
    have H0 := Lib.hid g0
    clear g0
    go_enter Try.func17, Try.ntmps17
    go_wp2_with fail
    refine (hasStep_any _ _ _ _ _).mono ?_
    rintro e w1 ⟨rfl, hb⟩
    have hs : w.heap.size + 2 ≤ w1.heap.size := by have := hb.size; (try simp at this); omega
    have X0 : Blk w1 (w.heap.size) 27 #[.int .i64 a, .int .i64 b, .int .i64 c] := ((Blk.new' (by simp)).alloc _).below hb (by simp; try omega)
    have X1 : Blk w1 (w.heap.size + 1) 3 #[.int .i64 n] := (Blk.new' (by simp)).below hb (by simp; try omega)
    have Bt : Below w.heap.size w w1 := (((Below.refl _ _).alloc (Nat.le_refl _) _).alloc (by simp; try omega) _).trans (hb.mono (by simp; try omega))
    clear hb
    have c0_0 : w1.cell? ⟨w.heap.size, 0, none⟩ = some (.int .i64 a) := X0.cell 0
    have c0_1 : w1.cell? ⟨w.heap.size, 1, none⟩ = some (.int .i64 b) := X0.cell 1
    have c0_2 : w1.cell? ⟨w.heap.size, 2, none⟩ = some (.int .i64 c) := X0.cell 2
    have c1_0 : w1.cell? ⟨w.heap.size + 1, 0, none⟩ = some (.int .i64 n) := X1.cell 0
    rw [H0.out]
    go_wp2_with fail
    go_ret2
    exact ⟨_, rfl, OwnI.nil _ _, Bt⟩
  · have b0 := stepB_le g0
    rw [selR_yes]
    have H0 := Lib.hid g0
    clear g0
    go_enter Try.func17, Try.ntmps17
    go_wp2_with fail
    refine (hasStep_any _ _ _ _ _).mono ?_
    rintro e w1 ⟨rfl, hb⟩
    have hs : w.heap.size + 2 ≤ w1.heap.size := by have := hb.size; (try simp at this); omega
    have X0 : Blk w1 (w.heap.size) 27 #[.int .i64 a, .int .i64 b, .int .i64 c] := ((Blk.new' (by simp)).alloc _).below hb (by simp; try omega)
    have X1 : Blk w1 (w.heap.size + 1) 3 #[.int .i64 n] := (Blk.new' (by simp)).below hb (by simp; try omega)
    have Bt : Below w.heap.size w w1 := (((Below.refl _ _).alloc (Nat.le_refl _) _).alloc (by simp; try omega) _).trans (hb.mono (by simp; try omega))
    clear hb
    have c0_0 : w1.cell? ⟨w.heap.size, 0, none⟩ = some (.int .i64 a) := X0.cell 0
    have c0_1 : w1.cell? ⟨w.heap.size, 1, none⟩ = some (.int .i64 b) := X0.cell 1
    have c0_2 : w1.cell? ⟨w.heap.size, 2, none⟩ = some (.int .i64 c) := X0.cell 2
    have c1_0 : w1.cell? ⟨w.heap.size + 1, 0, none⟩ = some (.int .i64 n) := X1.cell 0
    rw [H0.out]
    go_wp2_with fail
    refine (stepsThat_any a b c 34 #[.pointer (some ⟨w.heap.size, 0, none⟩), .pointer (some ⟨w.heap.size + 1, 0, none⟩)] (oppB b n) _ (by omega) (by omega) (enters_of Try.func34 (by kernel_rfl) rfl) ?_).mono ?_
    · intro k W hk hk2 hbW
      exact oppC_any a b c n k _ _ (by omega) (by omega) (by omega) (by omega) (by omega) (by omega) W (X0.below hbW (by omega)) (X1.below hbW (by omega))
    rintro e w9 ⟨v9, rfl, hO, hB⟩
    go_wp2_with fail
    go_ret2
    exact ⟨_, rfl, hO.mono (by omega), Bt.trans (hB.mono (by omega))⟩

set_option maxHeartbeats 2000000 in
theorem implLampsAndWindows_any (a b c l m : Int) (w : World) :
    Calls Try.prog 23 #[.agg #[.int .i64 a, .int .i64 b, .int .i64 c], .int .i64 l, .int .i64 m] w fun e w' => Lists w (selR (evB2 a b c l m) (lampP l m) a) (evB2 a b c l m) e w' := by
  cases g0 : spiB a b c
  · have hV : evB2 a b c l m = false := by simp [evB2, g0]
    rw [hV]
    rw [selR_no]
    clear hV
    have H0 := Lib.hid g0
    clear g0
    go_enter Try.func23, Try.ntmps23
    go_wp2_with fail
    refine (impSpi_any _ _ _ _).mono ?_
    rintro e w1 ⟨rfl, hb⟩
    have hs : w.heap.size + 3 ≤ w1.heap.size := by have := hb.size; (try simp at this); omega
    have X0 : Blk w1 (w.heap.size) 27 #[.int .i64 a, .int .i64 b, .int .i64 c] := (((Blk.new' (by simp)).alloc _).alloc _).below hb (by simp; try omega)
    have X1 : Blk w1 (w.heap.size + 1) 3 #[.int .i64 l] := ((Blk.new' (by simp)).alloc _).below hb (by simp; try omega)
    have X2 : Blk w1 (w.heap.size + 1 + 1) 3 #[.int .i64 m] := (Blk.new' (by simp)).below hb (by simp; try omega)
    have Bt : Below w.heap.size w w1 := ((((Below.refl _ _).alloc (Nat.le_refl _) _).alloc (by simp; try omega) _).alloc (by simp; try omega) _).trans (hb.mono (by simp; try omega))
    clear hb
    have c0_0 : w1.cell? ⟨w.heap.size, 0, none⟩ = some (.int .i64 a) := X0.cell 0
    have c0_1 : w1.cell? ⟨w.heap.size, 1, none⟩ = some (.int .i64 b) := X0.cell 1
    have c0_2 : w1.cell? ⟨w.heap.size, 2, none⟩ = some (.int .i64 c) := X0.cell 2
    have c1_0 : w1.cell? ⟨w.heap.size + 1, 0, none⟩ = some (.int .i64 l) := X1.cell 0
    have c2_0 : w1.cell? ⟨w.heap.size + 1 + 1, 0, none⟩ = some (.int .i64 m) := X2.cell 0
    rw [H0.out]
    go_wp2_with fail
    go_ret2
    exact ⟨_, rfl, OwnI.nil _ _, Bt⟩
  · have b0 := spiB_le g0
    cases g1 : inB l 1 400
    · have hV : evB2 a b c l m = false := by simp [evB2, g1]
      rw [hV]
      rw [selR_no]
      clear hV
      have H0 := Lib.hid g0
      clear g0
      have H1 := Lib.hid g1
      clear g1
      go_enter Try.func23, Try.ntmps23
      go_wp2_with fail
      refine (impSpi_any _ _ _ _).mono ?_
      rintro e w1 ⟨rfl, hb⟩
      have hs : w.heap.size + 3 ≤ w1.heap.size := by have := hb.size; (try simp at this); omega
      have X0 : Blk w1 (w.heap.size) 27 #[.int .i64 a, .int .i64 b, .int .i64 c] := (((Blk.new' (by simp)).alloc _).alloc _).below hb (by simp; try omega)
      have X1 : Blk w1 (w.heap.size + 1) 3 #[.int .i64 l] := ((Blk.new' (by simp)).alloc _).below hb (by simp; try omega)
      have X2 : Blk w1 (w.heap.size + 1 + 1) 3 #[.int .i64 m] := (Blk.new' (by simp)).below hb (by simp; try omega)
      have Bt : Below w.heap.size w w1 := ((((Below.refl _ _).alloc (Nat.le_refl _) _).alloc (by simp; try omega) _).alloc (by simp; try omega) _).trans (hb.mono (by simp; try omega))
      clear hb
      have c0_0 : w1.cell? ⟨w.heap.size, 0, none⟩ = some (.int .i64 a) := X0.cell 0
      have c0_1 : w1.cell? ⟨w.heap.size, 1, none⟩ = some (.int .i64 b) := X0.cell 1
      have c0_2 : w1.cell? ⟨w.heap.size, 2, none⟩ = some (.int .i64 c) := X0.cell 2
      have c1_0 : w1.cell? ⟨w.heap.size + 1, 0, none⟩ = some (.int .i64 l) := X1.cell 0
      have c2_0 : w1.cell? ⟨w.heap.size + 1 + 1, 0, none⟩ = some (.int .i64 m) := X2.cell 0
      rw [H0.out]
      go_wp2_with fail
      refine (isSpiralStep_any _ _).mono ?_
      rintro e w' ⟨rfl, rfl⟩
      rw [H1.out]
      go_wp2_with fail
      go_ret2
      exact ⟨_, rfl, OwnI.nil _ _, Bt⟩
    · have b1 := inB_le g1
      cases g2 : inB m 1 400
      · have hV : evB2 a b c l m = false := by simp [evB2, g2]
        rw [hV]
        rw [selR_no]
        clear hV
        have H0 := Lib.hid g0
        clear g0
        have H1 := Lib.hid g1
        clear g1
        have H2 := Lib.hid g2
        clear g2
        go_enter Try.func23, Try.ntmps23
        go_wp2_with fail
        refine (impSpi_any _ _ _ _).mono ?_
        rintro e w1 ⟨rfl, hb⟩
        have hs : w.heap.size + 3 ≤ w1.heap.size := by have := hb.size; (try simp at this); omega
        have X0 : Blk w1 (w.heap.size) 27 #[.int .i64 a, .int .i64 b, .int .i64 c] := (((Blk.new' (by simp)).alloc _).alloc _).below hb (by simp; try omega)
        have X1 : Blk w1 (w.heap.size + 1) 3 #[.int .i64 l] := ((Blk.new' (by simp)).alloc _).below hb (by simp; try omega)
        have X2 : Blk w1 (w.heap.size + 1 + 1) 3 #[.int .i64 m] := (Blk.new' (by simp)).below hb (by simp; try omega)
        have Bt : Below w.heap.size w w1 := ((((Below.refl _ _).alloc (Nat.le_refl _) _).alloc (by simp; try omega) _).alloc (by simp; try omega) _).trans (hb.mono (by simp; try omega))
        clear hb
        have c0_0 : w1.cell? ⟨w.heap.size, 0, none⟩ = some (.int .i64 a) := X0.cell 0
        have c0_1 : w1.cell? ⟨w.heap.size, 1, none⟩ = some (.int .i64 b) := X0.cell 1
        have c0_2 : w1.cell? ⟨w.heap.size, 2, none⟩ = some (.int .i64 c) := X0.cell 2
        have c1_0 : w1.cell? ⟨w.heap.size + 1, 0, none⟩ = some (.int .i64 l) := X1.cell 0
        have c2_0 : w1.cell? ⟨w.heap.size + 1 + 1, 0, none⟩ = some (.int .i64 m) := X2.cell 0
        rw [H0.out]
        go_wp2_with fail
        refine (isSpiralStep_any _ _).mono ?_
        rintro e w' ⟨rfl, rfl⟩
        rw [H1.out]
        go_wp2_with fail
        refine (isSpiralStep_any _ _).mono ?_
        rintro e w' ⟨rfl, rfl⟩
        rw [H2.out]
        go_wp2_with fail
        go_ret2
        exact ⟨_, rfl, OwnI.nil _ _, Bt⟩
      · have b2 := inB_le g2
        rw [show evB2 a b c l m = true by simp [evB2, g0, g1, g2], selR_yes]
        have H0 := Lib.hid g0
        clear g0
        have H1 := Lib.hid g1
        clear g1
        have H2 := Lib.hid g2
        clear g2
        go_enter Try.func23, Try.ntmps23
        go_wp2_with fail
        refine (impSpi_any _ _ _ _).mono ?_
        rintro e w1 ⟨rfl, hb⟩
        have hs : w.heap.size + 3 ≤ w1.heap.size := by have := hb.size; (try simp at this); omega
        have X0 : Blk w1 (w.heap.size) 27 #[.int .i64 a, .int .i64 b, .int .i64 c] := (((Blk.new' (by simp)).alloc _).alloc _).below hb (by simp; try omega)
        have X1 : Blk w1 (w.heap.size + 1) 3 #[.int .i64 l] := ((Blk.new' (by simp)).alloc _).below hb (by simp; try omega)
        have X2 : Blk w1 (w.heap.size + 1 + 1) 3 #[.int .i64 m] := (Blk.new' (by simp)).below hb (by simp; try omega)
        have Bt : Below w.heap.size w w1 := ((((Below.refl _ _).alloc (Nat.le_refl _) _).alloc (by simp; try omega) _).alloc (by simp; try omega) _).trans (hb.mono (by simp; try omega))
        clear hb
        have c0_0 : w1.cell? ⟨w.heap.size, 0, none⟩ = some (.int .i64 a) := X0.cell 0
        have c0_1 : w1.cell? ⟨w.heap.size, 1, none⟩ = some (.int .i64 b) := X0.cell 1
        have c0_2 : w1.cell? ⟨w.heap.size, 2, none⟩ = some (.int .i64 c) := X0.cell 2
        have c1_0 : w1.cell? ⟨w.heap.size + 1, 0, none⟩ = some (.int .i64 l) := X1.cell 0
        have c2_0 : w1.cell? ⟨w.heap.size + 1 + 1, 0, none⟩ = some (.int .i64 m) := X2.cell 0
        rw [H0.out]
        go_wp2_with fail
        refine (isSpiralStep_any _ _).mono ?_
        rintro e w' ⟨rfl, rfl⟩
        rw [H1.out]
        go_wp2_with fail
        refine (isSpiralStep_any _ _).mono ?_
        rintro e w' ⟨rfl, rfl⟩
        rw [H2.out]
        go_wp2_with fail
        refine (stepsThat_any a b c 44 #[.pointer (some ⟨w.heap.size + 1, 0, none⟩), .pointer (some ⟨w.heap.size + 1 + 1, 0, none⟩)] (lampP l m) _ (by omega) (by omega) (enters_of Try.func44 (by kernel_rfl) rfl) ?_).mono ?_
        · intro k W hk hk2 hbW
          exact lampC_any l m k _ _ (by omega) (by omega) (by omega) (by omega) (by omega) W (X1.below hbW (by omega)) (X2.below hbW (by omega))
        rintro e w9 ⟨v9, rfl, hO, hB⟩
        go_wp2_with fail
        go_ret2
        exact ⟨_, rfl, hO.mono (by omega), Bt.trans (hB.mono (by omega))⟩


end Go.Proofs.Ytomjebelgnecfaa
