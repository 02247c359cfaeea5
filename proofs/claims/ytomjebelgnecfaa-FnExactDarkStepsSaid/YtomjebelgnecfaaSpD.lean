/- Contracts: spirals: dark steps, on both sides. -/
import Derived.Test.YtomjebelgnecfaaSpA
import Derived.Test.YtomjebelgnecfaaSpM
namespace Go.Proofs.Ytomjebelgnecfaa
open Go.RowKit

theorem evB3_of (a b c l m : Int) : evB3 a b c l m = (everyB a b c l && inB m 0 400) := by
  unfold evB3 everyB
  cases spiB a b c <;> simp
theorem dark_in {s t k : Int} : inB k (t - s) (t + s) = !decide (s < absI (t - k)) := by
  unfold absI
  by_cases h : t - s ≤ k ∧ k ≤ t + s
  · rw [inB_yes h.1 h.2]
    have : ¬ s < (if -(t - k) < t - k then t - k else -(t - k)) := by split <;> omega
    simp [this]
  · rw [inB_no (by omega)]
    have : s < (if -(t - k) < t - k then t - k else -(t - k)) := by split <;> omega
    simp [this]

set_option maxHeartbeats 2000000 in
theorem isDark_any (a b c k l s : Int) (h1 : 1 ≤ a) (h2 : a ≤ 400) (h3 : 1 ≤ l) (h4 : l ≤ 400) (h5 : 0 ≤ s) (h6 : s ≤ 400) (_h7 : 1 ≤ k) (_h8 : k ≤ 400) (w : World) :
    Calls Try.prog 49 #[.agg #[.int .i64 a, .int .i64 b, .int .i64 c], .int .i64 k, .int .i64 l, .int .i64 s] w fun e w' => e = .returned (.bool (darkP a l s k)) ∧ Below w.heap.size w w' := by
  obtain ⟨R, hR⟩ : ∃ R, darkP a l s k = R := ⟨_, rfl⟩
  have HS := Lib.hid (show darkF a l s k 401 l = R from hR)
  rw [hR]
  clear hR
  go_enter Try.func49, Try.ntmps49
  go_wp2
  go_loop [9] (fun u => ∃ (t : Int) (f : Nat), u = .int .i64 t ∧ 1 ≤ t ∧ t ≤ a + l ∧ a < t + f ∧ Hid (darkF a l s k f t = R)) (fun u => (2000 - intOf u).toNat)
  case atStart => exact ⟨l, 401, rfl, h3, by omega, by omega, HS⟩
  case round =>
    obtain ⟨t, f, rfl, ht0, ht1, hf, HD⟩ := hrel
    by_cases hta : t ≤ a
    · obtain ⟨f, rfl⟩ : ∃ g, f = g + 1 := ⟨f - 1, by omega⟩
      have HN := Lib.hid ((darkF_in (l := l) (s := s) (k := k) (f := f) hta).symm.trans HD.out)
      cases hd : decide (s < absI (t - k))
      · have HI := Lib.hid (show inB k (t - s) (t + s) = true by rw [dark_in, hd]; rfl)
        have HF := Lib.hid (show R = false by rw [← HN.out, hd]; rfl)
        clear HN HD hd
        go_wp2_with fail
        refine (isWithin_any _ _ _ _).mono ?_
        rintro e w' ⟨rfl, rfl⟩
        rw [HI.out]
        go_wp2_with fail
        go_ret
        exact ⟨ret_bool HF.out.symm, below_alloc _ _⟩
      · have HI := Lib.hid (show inB k (t - s) (t + s) = false by rw [dark_in, hd]; rfl)
        have HF := Lib.hid (show darkF a l s k f (t + l) = R by rw [← HN.out, hd]; rfl)
        clear HN HD hd
        go_wp2_with fail
        refine (isWithin_any _ _ _ _).mono ?_
        rintro e w' ⟨rfl, rfl⟩
        rw [HI.out]
        go_wp2_with fail
        go_round
        case rel => exact ⟨t + l, f, rfl, by omega, by omega, by omega, HF⟩
        case measure => simp [intOf]; omega
    · have HF := Lib.hid (show R = true by rw [← HD.out]; exact darkF_end (by omega))
      go_wp2
      go_ret
      exact ⟨ret_bool HF.out.symm, below_alloc _ _⟩

set_option maxHeartbeats 1000000 in
theorem darkC_any (a b c l m k : Int) (gs gl gm : Nat) (h0 : 1 ≤ a) (h1 : a ≤ 400) (h2 : 1 ≤ l) (h3 : l ≤ 400) (h4 : 0 ≤ m) (h5 : m ≤ 400) (h6 : 1 ≤ k) (h7 : k ≤ 400) (w : World) (hS : Blk w gs 27 #[.int .i64 a, .int .i64 b, .int .i64 c]) (hl : Blk w gl 3 #[.int .i64 l]) (hm : Blk w gm 3 #[.int .i64 m]) :
    Calls Try.prog 48 #[.int .i64 k, .pointer (some ⟨gs, 0, none⟩), .pointer (some ⟨gl, 0, none⟩), .pointer (some ⟨gm, 0, none⟩)] w fun e w' => e = .returned (.bool (darkP a l m k)) ∧ Below w.heap.size w w' := by
  obtain ⟨c0, c1, c2⟩ := hS.three
  have dl : w.cell? ⟨gl, 0, none⟩ = some (.int .i64 l) := hl.cell 0
  have dm : w.cell? ⟨gm, 0, none⟩ = some (.int .i64 m) := hm.cell 0
  go_enter Try.func48, Try.ntmps48
  go_wp2_with fail
  refine (isDark_any a b c k l m (by omega) (by omega) (by omega) (by omega) (by omega) (by omega) (by omega) (by omega) _).mono ?_
  rintro e w1 ⟨rfl, hb⟩
  go_wp2_with fail
  go_ret
  exact ⟨rfl, hb⟩

set_option maxHeartbeats 2000000 in
theorem implDarkSteps_any (a b c l m : Int) (w : World) :
    Calls Try.prog 25 #[.agg #[.int .i64 a, .int .i64 b, .int .i64 c], .int .i64 l, .int .i64 m] w fun e w' => Lists w (selR (evB3 a b c l m) (darkP a l m) a) (evB3 a b c l m) e w' := by
  cases g0 : spiB a b c
  · have hV : evB3 a b c l m = false := by simp [evB3, g0]
    rw [hV]
    rw [selR_no]
    clear hV
    have H0 := Lib.hid g0
    clear g0
    go_enter Try.func25, Try.ntmps25
    go_wp2_with fail
    refine (impSpi_any _ _ _ _).mono ?_
    rintro e w1 ⟨rfl, hb⟩
    have hs : w.heap.size + 3 ≤ w1.heap.size := by have := hb.size; (try simp at this); omega
    have X0 : Blk w1 (w.heap.size) 27 #[.int .i64 a, .int .i64 b, .int .i64 c] := (((Blk.new' (by simp)).alloc _).alloc _).below hb (by simp; try omega)
    have X1 : Blk w1 (w.heap.size + 1) 3 #[.int .i64 l] := ((Blk.new' (by simp)).alloc _).below hb (by simp; try omega)
    have X2 : Blk w1 (w.heap.size + 1 + 1) 3 #[.int .i64 m] := (Blk.new' (by simp)).below hb (by simp; try omega)
    have Bt : Below w.heap.size w w1 := ((((Below.refl _ _).alloc (Nat.le_refl _) _).alloc (by simp; try omega) _).alloc (by simp; try omega) _).trans (hb.mono (by simp; try omega))
    clear hb
    have c0_0 : w1.cell? ⟨w.heap.size, 0, none⟩ = some (.int .i64 a) := X0.cell 0
    have c0_1 : w1.cell? ⟨w.heap.size, 1, none⟩ = some (.int .i64 b) := X0.cell 1
    have c0_2 : w1.cell? ⟨w.heap.size, 2, none⟩ = some (.int .i64 c) := X0.cell 2
    have c1_0 : w1.cell? ⟨w.heap.size + 1, 0, none⟩ = some (.int .i64 l) := X1.cell 0
    have c2_0 : w1.cell? ⟨w.heap.size + 1 + 1, 0, none⟩ = some (.int .i64 m) := X2.cell 0
    rw [H0.out]
    go_wp2_with fail
    go_ret2
    exact ⟨_, rfl, OwnI.nil _ _, Bt⟩
  · have b0 := spiB_le g0
    cases g1 : inB l 1 400
    · have hV : evB3 a b c l m = false := by simp [evB3, g1]
      rw [hV]
      rw [selR_no]
      clear hV
      have H0 := Lib.hid g0
      clear g0
      have H1 := Lib.hid g1
      clear g1
      go_enter Try.func25, Try.ntmps25
      go_wp2_with fail
      refine (impSpi_any _ _ _ _).mono ?_
      rintro e w1 ⟨rfl, hb⟩
      have hs : w.heap.size + 3 ≤ w1.heap.size := by have := hb.size; (try simp at this); omega
      have X0 : Blk w1 (w.heap.size) 27 #[.int .i64 a, .int .i64 b, .int .i64 c] := (((Blk.new' (by simp)).alloc _).alloc _).below hb (by simp; try omega)
      have X1 : Blk w1 (w.heap.size + 1) 3 #[.int .i64 l] := ((Blk.new' (by simp)).alloc _).below hb (by simp; try omega)
      have X2 : Blk w1 (w.heap.size + 1 + 1) 3 #[.int .i64 m] := (Blk.new' (by simp)).below hb (by simp; try omega)
      have Bt : Below w.heap.size w w1 := ((((Below.refl _ _).alloc (Nat.le_refl _) _).alloc (by simp; try omega) _).alloc (by simp; try omega) _).trans (hb.mono (by simp; try omega))
      clear hb
      have c0_0 : w1.cell? ⟨w.heap.size, 0, none⟩ = some (.int .i64 a) := X0.cell 0
      have c0_1 : w1.cell? ⟨w.heap.size, 1, none⟩ = some (.int .i64 b) := X0.cell 1
      have c0_2 : w1.cell? ⟨w.heap.size, 2, none⟩ = some (.int .i64 c) := X0.cell 2
      have c1_0 : w1.cell? ⟨w.heap.size + 1, 0, none⟩ = some (.int .i64 l) := X1.cell 0
      have c2_0 : w1.cell? ⟨w.heap.size + 1 + 1, 0, none⟩ = some (.int .i64 m) := X2.cell 0
      rw [H0.out]
      go_wp2_with fail
      refine (isSpiralStep_any _ _).mono ?_
      rintro e w' ⟨rfl, rfl⟩
      rw [H1.out]
      go_wp2_with fail
      go_ret2
      exact ⟨_, rfl, OwnI.nil _ _, Bt⟩
    · have b1 := inB_le g1
      cases g2 : inB m 0 400
      · have hV : evB3 a b c l m = false := by simp [evB3, g2]
        rw [hV]
        rw [selR_no]
        clear hV
        have H0 := Lib.hid g0
        clear g0
        have H1 := Lib.hid g1
        clear g1
        have H2 := Lib.hid g2
        clear g2
        go_enter Try.func25, Try.ntmps25
        go_wp2_with fail
        refine (impSpi_any _ _ _ _).mono ?_
        rintro e w1 ⟨rfl, hb⟩
        have hs : w.heap.size + 3 ≤ w1.heap.size := by have := hb.size; (try simp at this); omega
        have X0 : Blk w1 (w.heap.size) 27 #[.int .i64 a, .int .i64 b, .int .i64 c] := (((Blk.new' (by simp)).alloc _).alloc _).below hb (by simp; try omega)
        have X1 : Blk w1 (w.heap.size + 1) 3 #[.int .i64 l] := ((Blk.new' (by simp)).alloc _).below hb (by simp; try omega)
        have X2 : Blk w1 (w.heap.size + 1 + 1) 3 #[.int .i64 m] := (Blk.new' (by simp)).below hb (by simp; try omega)
        have Bt : Below w.heap.size w w1 := ((((Below.refl _ _).alloc (Nat.le_refl _) _).alloc (by simp; try omega) _).alloc (by simp; try omega) _).trans (hb.mono (by simp; try omega))
        clear hb
        have c0_0 : w1.cell? ⟨w.heap.size, 0, none⟩ = some (.int .i64 a) := X0.cell 0
        have c0_1 : w1.cell? ⟨w.heap.size, 1, none⟩ = some (.int .i64 b) := X0.cell 1
        have c0_2 : w1.cell? ⟨w.heap.size, 2, none⟩ = some (.int .i64 c) := X0.cell 2
        have c1_0 : w1.cell? ⟨w.heap.size + 1, 0, none⟩ = some (.int .i64 l) := X1.cell 0
        have c2_0 : w1.cell? ⟨w.heap.size + 1 + 1, 0, none⟩ = some (.int .i64 m) := X2.cell 0
        rw [H0.out]
        go_wp2_with fail
        refine (isSpiralStep_any _ _).mono ?_
        rintro e w' ⟨rfl, rfl⟩
        rw [H1.out]
        go_wp2_with fail
        refine (isShine_any _ _).mono ?_
        rintro e w' ⟨rfl, rfl⟩
        rw [H2.out]
        go_wp2_with fail
        go_ret2
        exact ⟨_, rfl, OwnI.nil _ _, Bt⟩
      · have b2 := inB_le g2
        rw [show evB3 a b c l m = true by simp [evB3, g0, g1, g2], selR_yes]
        have H0 := Lib.hid g0
        clear g0
        have H1 := Lib.hid g1
        clear g1
        have H2 := Lib.hid g2
        clear g2
        go_enter Try.func25, Try.ntmps25
        go_wp2_with fail
        refine (impSpi_any _ _ _ _).mono ?_
        rintro e w1 ⟨rfl, hb⟩
        have hs : w.heap.size + 3 ≤ w1.heap.size := by have := hb.size; (try simp at this); omega
        have X0 : Blk w1 (w.heap.size) 27 #[.int .i64 a, .int .i64 b, .int .i64 c] := (((Blk.new' (by simp)).alloc _).alloc _).below hb (by simp; try omega)
        have X1 : Blk w1 (w.heap.size + 1) 3 #[.int .i64 l] := ((Blk.new' (by simp)).alloc _).below hb (by simp; try omega)
        have X2 : Blk w1 (w.heap.size + 1 + 1) 3 #[.int .i64 m] := (Blk.new' (by simp)).below hb (by simp; try omega)
        have Bt : Below w.heap.size w w1 := ((((Below.refl _ _).alloc (Nat.le_refl _) _).alloc (by simp; try omega) _).alloc (by simp; try omega) _).trans (hb.mono (by simp; try omega))
        clear hb
        have c0_0 : w1.cell? ⟨w.heap.size, 0, none⟩ = some (.int .i64 a) := X0.cell 0
        have c0_1 : w1.cell? ⟨w.heap.size, 1, none⟩ = some (.int .i64 b) := X0.cell 1
        have c0_2 : w1.cell? ⟨w.heap.size, 2, none⟩ = some (.int .i64 c) := X0.cell 2
        have c1_0 : w1.cell? ⟨w.heap.size + 1, 0, none⟩ = some (.int .i64 l) := X1.cell 0
        have c2_0 : w1.cell? ⟨w.heap.size + 1 + 1, 0, none⟩ = some (.int .i64 m) := X2.cell 0
        rw [H0.out]
        go_wp2_with fail
        refine (isSpiralStep_any _ _).mono ?_
        rintro e w' ⟨rfl, rfl⟩
        rw [H1.out]
        go_wp2_with fail
        refine (isShine_any _ _).mono ?_
        rintro e w' ⟨rfl, rfl⟩
        rw [H2.out]
        go_wp2_with fail
        refine (stepsThat_any a b c 48 #[.pointer (some ⟨w.heap.size, 0, none⟩), .pointer (some ⟨w.heap.size + 1, 0, none⟩), .pointer (some ⟨w.heap.size + 1 + 1, 0, none⟩)] (darkP a l m) _ (by omega) (by omega) (enters_of Try.func48 (by kernel_rfl) rfl) ?_).mono ?_
        · intro k W hk hk2 hbW
          exact darkC_any a b c l m k _ _ _ (by omega) (by omega) (by omega) (by omega) (by omega) (by omega) (by omega) (by omega) W (X0.below hbW (by omega)) (X1.below hbW (by omega)) (X2.below hbW (by omega))
        rintro e w9 ⟨v9, rfl, hO, hB⟩
        go_wp2_with fail
        go_ret2
        exact ⟨_, rfl, hO.mono (by omega), Bt.trans (hB.mono (by omega))⟩

set_option maxHeartbeats 4000000 in
theorem specDarkSteps_any (a b c l m : Int) (w : World) :
    Calls Try.prog 24 #[.agg #[.int .i64 a, .int .i64 b, .int .i64 c], .int .i64 l, .int .i64 m] w fun e w' => Lists w (selR (evB3 a b c l m) (darkP a l m) a) (evB3 a b c l m) e w' := by
  cases g0 : everyB a b c l
  · have hV : evB3 a b c l m = false := by simp [evB3_of, g0]
    rw [hV]
    rw [selR_no]
    clear hV
    have H0 := Lib.hid g0
    clear g0
    go_enter Try.func24, Try.ntmps24
    go_wp2_with fail
    refine (spEvery_any _ _ _ _ _).mono ?_
    rintro e w1 ⟨rfl, hb⟩
    have hs : w.heap.size + 1 ≤ w1.heap.size := by have := hb.size; (try simp at this); omega
    have X0 : Blk w1 (w.heap.size) 27 #[.int .i64 a, .int .i64 b, .int .i64 c] := (Blk.new' (by simp)).below hb (by simp; try omega)
    have Bt : Below w.heap.size w w1 := ((Below.refl _ _).alloc (Nat.le_refl _) _).trans (hb.mono (by simp; try omega))
    clear hb
    have c0_0 : w1.cell? ⟨w.heap.size, 0, none⟩ = some (.int .i64 a) := X0.cell 0
    have c0_1 : w1.cell? ⟨w.heap.size, 1, none⟩ = some (.int .i64 b) := X0.cell 1
    have c0_2 : w1.cell? ⟨w.heap.size, 2, none⟩ = some (.int .i64 c) := X0.cell 2
    rw [H0.out]
    go_wp2_with fail
    go_ret2
    exact ⟨_, rfl, OwnI.nil _ _, Bt⟩
  · have b0 := everyB_le g0
    cases g1 : inB m 0 400
    · have hV : evB3 a b c l m = false := by simp [evB3_of, g1]
      rw [hV]
      rw [selR_no]
      clear hV
      have H0 := Lib.hid g0
      clear g0
      have H1 := Lib.hid g1
      clear g1
      go_enter Try.func24, Try.ntmps24
      go_wp2_with fail
      refine (spEvery_any _ _ _ _ _).mono ?_
      rintro e w1 ⟨rfl, hb⟩
      have hs : w.heap.size + 1 ≤ w1.heap.size := by have := hb.size; (try simp at this); omega
      have X0 : Blk w1 (w.heap.size) 27 #[.int .i64 a, .int .i64 b, .int .i64 c] := (Blk.new' (by simp)).below hb (by simp; try omega)
      have Bt : Below w.heap.size w w1 := ((Below.refl _ _).alloc (Nat.le_refl _) _).trans (hb.mono (by simp; try omega))
      clear hb
      have c0_0 : w1.cell? ⟨w.heap.size, 0, none⟩ = some (.int .i64 a) := X0.cell 0
      have c0_1 : w1.cell? ⟨w.heap.size, 1, none⟩ = some (.int .i64 b) := X0.cell 1
      have c0_2 : w1.cell? ⟨w.heap.size, 2, none⟩ = some (.int .i64 c) := X0.cell 2
      rw [H0.out]
      go_wp2_with fail
      refine (l1In_any _ _ _ _).mono ?_
      rintro e w' ⟨rfl, rfl⟩
      rw [H1.out]
      go_wp2_with fail
      go_ret2
      exact ⟨_, rfl, OwnI.nil _ _, Bt⟩
    · have b1 := inB_le g1
      rw [show evB3 a b c l m = true by simp [evB3_of, g0, g1], selR_yes]
      have H0 := Lib.hid g0
      clear g0
      have H1 := Lib.hid g1
      clear g1
      go_enter Try.func24, Try.ntmps24
      go_wp2_with fail
      refine (spEvery_any _ _ _ _ _).mono ?_
      rintro e w1 ⟨rfl, hb⟩
      have hs : w.heap.size + 1 ≤ w1.heap.size := by have := hb.size; (try simp at this); omega
      have X0 : Blk w1 (w.heap.size) 27 #[.int .i64 a, .int .i64 b, .int .i64 c] := (Blk.new' (by simp)).below hb (by simp; try omega)
      have Bt : Below w.heap.size w w1 := ((Below.refl _ _).alloc (Nat.le_refl _) _).trans (hb.mono (by simp; try omega))
      clear hb
      have c0_0 : w1.cell? ⟨w.heap.size, 0, none⟩ = some (.int .i64 a) := X0.cell 0
      have c0_1 : w1.cell? ⟨w.heap.size, 1, none⟩ = some (.int .i64 b) := X0.cell 1
      have c0_2 : w1.cell? ⟨w.heap.size, 2, none⟩ = some (.int .i64 c) := X0.cell 2
      rw [H0.out]
      go_wp2_with fail
      refine (l1In_any _ _ _ _).mono ?_
      rintro e w' ⟨rfl, rfl⟩
      rw [H1.out]
      go_wp2_with fail
      go_loopw [8, 9] (fun v i wr => ∃ (k : Nat), i = .int .i64 ((k : Int) + 1) ∧ k ≤ a.toNat ∧ OwnI wr w1.heap.size v (selL (darkP a l m) k) ∧ Below w1.heap.size w1 wr) (fun _ i _ => (500 - intOf i).toNat)
      case atStart => exact ⟨0, rfl, Nat.zero_le _, OwnI.nil _ _, Below.refl _ _⟩
      case round =>
        obtain ⟨k, rfl, hk, hown, hbw⟩ := hrel
        have d0 := keepC hbw c0_0
        have d1 := keepC hbw c0_1
        have d2 := keepC hbw c0_2
        have hz : w1.heap.size ≤ wr.heap.size := hbw.size
        have hl := selL_length (darkP a l m) k
        by_cases hlt : k < a.toNat
        · obtain ⟨R, hR⟩ : ∃ R, darkP a l m ((k : Int) + 1) = R := ⟨_, rfl⟩
          have HS := Lib.hid (show darkF a l m ((k : Int) + 1) 401 l = R from hR)
          have HR := Lib.hid hR
          have HB := Lib.hid hbw
          clear hR hbw
          have hlt2 : (k : Int) + 1 ≤ a := by omega
          go_wp2
          go_loop [10, 11] (fun u i => ∃ (t : Int) (f : Nat) (x : Bool), u = .bool x ∧ i = .int .i64 t ∧ 1 ≤ t ∧ t ≤ a + l ∧ a < t + f ∧ Hid ((x && darkF a l m ((k : Int) + 1) f t) = R)) (fun _ i => (2000 - intOf i).toNat)
          case atStart => exact ⟨l, 401, true, rfl, rfl, by omega, by omega, by omega, Lib.hid (by rw [HS.out]; rfl)⟩
          case round =>
            obtain ⟨t, f, x, rfl, rfl, ht0, ht1, hf, HD⟩ := hrel
            by_cases hta : t ≤ a
            · obtain ⟨f, rfl⟩ : ∃ g, f = g + 1 := ⟨f - 1, by omega⟩
              have HN := Lib.hid ((congrArg (x && ·) (darkF_in (l := l) (s := m) (k := (k : Int) + 1) (f := f) hta).symm).trans HD.out)
              clear HD
              cases x
              · have HF := Lib.hid (show (false && darkF a l m ((k : Int) + 1) f (t + l)) = R from HN.out)
                go_wp2
                go_round
                case rel => exact ⟨t + l, f, false, rfl, rfl, by omega, by omega, by omega, HF⟩
                case measure => simp [intOf]; omega
              · obtain ⟨y, hy⟩ : ∃ y, absI (t - ((k : Int) + 1)) = y := ⟨_, rfl⟩
                have HF := Lib.hid (show (decide (m < y) && darkF a l m ((k : Int) + 1) f (t + l)) = R by rw [← HN.out, ← hy]; rfl)
                have HA := Lib.hid hy
                clear hy HN
                by_cases hm : m < y
                · have HG := Lib.hid (show (true && darkF a l m ((k : Int) + 1) f (t + l)) = R by rw [← HF.out, decide_eq_true hm])
                  clear HF
                  go_wp2_with fail
                  refine (l1Abs_any _ _ (by omega) (by omega)).mono ?_
                  rintro e w' ⟨rfl, rfl⟩
                  rw [HA.out]
                  go_wp2_with fail
                  go_round
                  case rel => exact ⟨t + l, f, true, rfl, rfl, by omega, by omega, by omega, HG⟩
                  case measure => simp [intOf]; omega
                · have HG := Lib.hid (show (false && darkF a l m ((k : Int) + 1) f (t + l)) = R by rw [← HF.out, decide_eq_false hm])
                  clear HF
                  go_wp2_with fail
                  refine (l1Abs_any _ _ (by omega) (by omega)).mono ?_
                  rintro e w' ⟨rfl, rfl⟩
                  rw [HA.out]
                  go_wp2_with fail
                  go_round
                  case rel => exact ⟨t + l, f, decide (m < y), rfl, rfl, by omega, by omega, by omega, Lib.hid (by rw [decide_eq_false (show ¬ m < y by omega)]; exact HG.out)⟩
                  case measure => simp [intOf]; omega
            · have HX := Lib.hid (show x = R by rw [← HD.out, darkF_end (by omega), Bool.and_true])
              clear HD
              cases x
              · have HT := Lib.hid (selL_no (HR.out.trans HX.out.symm))
                go_wp2
                go_roundw
                case rel => exact ⟨k + 1, by go_num, by omega, by rw [HT.out]; exact hown, HB.out⟩
                case measure => simp [intOf]; omega
              · have HT := Lib.hid (selL_yes (HR.out.trans HX.out.symm))
                generalize hL : selL (darkP a l m) k = zs at *
                clear hL
                go_wp2_with (at_builtin; refine wpList_pushI _ rfl _ _ rfl w1.heap.size _ zs rfl (hown.alloc _) wr.heap.size ((k : Int) + 1) rfl (by simp) (by omega) (by simp; omega) ?_; intro A1 c1 w3 hown1 hg1; have f0 := (hg1.cell (p := ⟨w.heap.size, 0, none⟩) (by show w.heap.size < w1.heap.size; omega)).trans (keepA d0); have f1 := (hg1.cell (p := ⟨w.heap.size, 1, none⟩) (by show w.heap.size < w1.heap.size; omega)).trans (keepA d1))
                go_roundw
                case rel => exact ⟨k + 1, by go_num, by omega, by rw [HT.out]; exact hown1, (HB.out.alloc (by omega) _).trans hg1⟩
                case measure => simp [intOf]; omega
        · obtain rfl : k = a.toNat := by omega
          go_wp2
          go_ret2
          exact ⟨_, rfl, hown.mono (by omega), Bt.trans (hbw.mono (by omega))⟩


end Go.Proofs.Ytomjebelgnecfaa
