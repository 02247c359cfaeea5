/- Contracts: spirals: lists of steps that suit, the model. -/
import Derived.Test.YtomjebelgnecfaaSpL
namespace Go.Proofs.Ytomjebelgnecfaa
open Go.RowKit

set_option maxHeartbeats 2000000 in
theorem specStepsAbove_any (a b c n : Int) (w : World) :
    Calls Try.prog 10 #[.agg #[.int .i64 a, .int .i64 b, .int .i64 c], .int .i64 n] w fun e w' => Lists w (selR (stepB a b c n) (aboveP b n) a) (stepB a b c n) e w' := by
  cases g0 : stepB a b c n
  · rw [selR_no]
    have H0 := Lib.hid g0
    clear g0
    go_enter Try.func10, Try.ntmps10
    go_wp2_with fail
    refine (spStep_any _ _ _ _ _).mono ?_
    rintro e w1 ⟨rfl, hb⟩
    have hs : w.heap.size + 1 ≤ w1.heap.size := by have := hb.size; (try simp at this); omega
    have X0 : Blk w1 (w.heap.size) 27 #[.int .i64 a, .int .i64 b, .int .i64 c] := (Blk.new' (by simp)).below hb (by simp; try omega)
    have Bt : Below w.heap.size w w1 := ((Below.refl _ _).alloc (Nat.le_refl _) _).trans (hb.mono (by simp; try omega))
    clear hb
    have c0_0 : w1.cell? ⟨w.heap.size, 0, none⟩ = some (.int .i64 a) := X0.cell 0
    have c0_1 : w1.cell? ⟨w.heap.size, 1, none⟩ = some (.int .i64 b) := X0.cell 1
    have c0_2 : w1.cell? ⟨w.heap.size, 2, none⟩ = some (.int .i64 c) := X0.cell 2
    rw [H0.out]
    go_wp2_with fail
    go_ret2
    exact ⟨_, rfl, OwnI.nil _ _, Bt⟩
  · have b0 := stepB_le g0
    rw [selR_yes]
    have H0 := Lib.hid g0
    clear g0
    go_enter Try.func10, Try.ntmps10
    go_wp2_with fail
    refine (spStep_any _ _ _ _ _).mono ?_
    rintro e w1 ⟨rfl, hb⟩
    have hs : w.heap.size + 1 ≤ w1.heap.size := by have := hb.size; (try simp at this); omega
    have X0 : Blk w1 (w.heap.size) 27 #[.int .i64 a, .int .i64 b, .int .i64 c] := (Blk.new' (by simp)).below hb (by simp; try omega)
    have Bt : Below w.heap.size w w1 := ((Below.refl _ _).alloc (Nat.le_refl _) _).trans (hb.mono (by simp; try omega))
    clear hb
    have c0_0 : w1.cell? ⟨w.heap.size, 0, none⟩ = some (.int .i64 a) := X0.cell 0
    have c0_1 : w1.cell? ⟨w.heap.size, 1, none⟩ = some (.int .i64 b) := X0.cell 1
    have c0_2 : w1.cell? ⟨w.heap.size, 2, none⟩ = some (.int .i64 c) := X0.cell 2
    rw [H0.out]
    go_wp2_with fail
    go_loopw [6, 7] (fun v i wr => ∃ (m : Int), i = .int .i64 m ∧ n < m ∧ m ≤ a + b ∧ Hid ((m - n) % b = 0) ∧ OwnI wr w1.heap.size v (selL (aboveP b n) (m - 1).toNat) ∧ Below w1.heap.size w1 wr) (fun _ i _ => (500 - intOf i).toNat)
    case atStart => exact ⟨n + b, rfl, by omega, by omega, Lib.hid (by rw [show n + b - n = b by omega]; exact Int.emod_self), by rw [above_start (by omega) (by omega)]; exact OwnI.nil _ _, Below.refl _ _⟩
    case round =>
      obtain ⟨m, rfl, h0, h1, hm, hown, hbw⟩ := hrel
      have d0 := keepC hbw c0_0
      have d1 := keepC hbw c0_1
      have d2 := keepC hbw c0_2
      have hz : w1.heap.size ≤ wr.heap.size := hbw.size
      by_cases hlt : m ≤ a
      · have HT := Lib.hid (above_step (b := b) (n := n) (m := m) hm.out h0 (by omega) (by omega))
        have HN := Lib.hid (above_next hm.out)
        have hl := selL_length (aboveP b n) (m - 1).toNat
        have HB := Lib.hid hbw
        generalize hL : selL (aboveP b n) (m - 1).toNat = zs at *
        clear hL hbw
        go_wp2_with (at_builtin; refine wpList_pushI _ rfl _ _ rfl w1.heap.size _ zs rfl (hown.alloc _) wr.heap.size m rfl (by simp) (by omega) (by simp; omega) ?_; intro A1 c1 w3 hown1 hg1; have f0 := (hg1.cell (p := ⟨w.heap.size, 0, none⟩) (by show w.heap.size < w1.heap.size; omega)).trans (keepA d0); have f1 := (hg1.cell (p := ⟨w.heap.size, 1, none⟩) (by show w.heap.size < w1.heap.size; omega)).trans (keepA d1))
        go_roundw
        case rel => exact ⟨m + b, rfl, by omega, by omega, HN, by rw [HT.out]; exact hown1, (HB.out.alloc (by omega) _).trans hg1⟩
        case measure => simp [intOf]; omega
      · have HT := Lib.hid (above_stop (a := a) hm.out h1 (by omega) (by omega))
        rw [HT.out] at hown
        go_wp2
        go_ret2
        exact ⟨_, rfl, hown.mono (by omega), Bt.trans (hbw.mono (by omega))⟩

set_option maxHeartbeats 2000000 in
theorem specOppositeSteps_any (a b c n : Int) (w : World) :
    Calls Try.prog 16 #[.agg #[.int .i64 a, .int .i64 b, .int .i64 c], .int .i64 n] w fun e w' => Lists w (selR (stepB a b c n) (oppB b n) a) (stepB a b c n) e w' := by
  cases g0 : stepB a b c n
  · rw [selR_no]
    have H0 := Lib.hid g0
    clear g0
    go_enter Try.func16, Try.ntmps16
    go_wp2_with fail
    refine (spStep_any _ _ _ _ _).mono ?_
    rintro e w1 ⟨rfl, hb⟩
    have hs : w.heap.size + 1 ≤ w1.heap.size := by have := hb.size; (try simp at this); omega
    have X0 : Blk w1 (w.heap.size) 27 #[.int .i64 a, .int .i64 b, .int .i64 c] := (Blk.new' (by simp)).below hb (by simp; try omega)
    have Bt : Below w.heap.size w w1 := ((Below.refl _ _).alloc (Nat.le_refl _) _).trans (hb.mono (by simp; try omega))
    clear hb
    have c0_0 : w1.cell? ⟨w.heap.size, 0, none⟩ = some (.int .i64 a) := X0.cell 0
    have c0_1 : w1.cell? ⟨w.heap.size, 1, none⟩ = some (.int .i64 b) := X0.cell 1
    have c0_2 : w1.cell? ⟨w.heap.size, 2, none⟩ = some (.int .i64 c) := X0.cell 2
    rw [H0.out]
    go_wp2_with fail
    go_ret2
    exact ⟨_, rfl, OwnI.nil _ _, Bt⟩
  · have b0 := stepB_le g0
    rw [selR_yes]
    have H0 := Lib.hid g0
    clear g0
    go_enter Try.func16, Try.ntmps16
    go_wp2_with fail
    refine (spStep_any _ _ _ _ _).mono ?_
    rintro e w1 ⟨rfl, hb⟩
    have hs : w.heap.size + 1 ≤ w1.heap.size := by have := hb.size; (try simp at this); omega
    have X0 : Blk w1 (w.heap.size) 27 #[.int .i64 a, .int .i64 b, .int .i64 c] := (Blk.new' (by simp)).below hb (by simp; try omega)
    have Bt : Below w.heap.size w w1 := ((Below.refl _ _).alloc (Nat.le_refl _) _).trans (hb.mono (by simp; try omega))
    clear hb
    have c0_0 : w1.cell? ⟨w.heap.size, 0, none⟩ = some (.int .i64 a) := X0.cell 0
    have c0_1 : w1.cell? ⟨w.heap.size, 1, none⟩ = some (.int .i64 b) := X0.cell 1
    have c0_2 : w1.cell? ⟨w.heap.size, 2, none⟩ = some (.int .i64 c) := X0.cell 2
    rw [H0.out]
    go_wp2_with fail
    go_loopw [6, 7] (fun v i wr => ∃ (k : Nat), i = .int .i64 ((k : Int) + 1) ∧ k ≤ a.toNat ∧ OwnI wr w1.heap.size v (selL (oppB b n) k) ∧ Below w1.heap.size w1 wr) (fun _ i _ => (500 - intOf i).toNat)
    case atStart => exact ⟨0, rfl, Nat.zero_le _, OwnI.nil _ _, Below.refl _ _⟩
    case round =>
      obtain ⟨k, rfl, hk, hown, hbw⟩ := hrel
      have d0 := keepC hbw c0_0
      have d1 := keepC hbw c0_1
      have d2 := keepC hbw c0_2
      have hz : w1.heap.size ≤ wr.heap.size := hbw.size
      have hl := selL_length (oppB b n) k
      by_cases hlt : k < a.toNat
      · cases hp : oppB b n ((k : Int) + 1)
        · have HT := Lib.hid (selL_no hp)
          have HP := Lib.hid hp
          clear hp
          go_wp2_with fail
          refine (spOpp_any a b c n ((k : Int) + 1) (by omega) (by omega) (by omega) (by omega) (by omega) (by omega) _).mono ?_
          rintro e w2 ⟨rfl, hb⟩
          rw [HP.out]
          go_wp2_with fail
          go_roundw
          case rel => exact ⟨k + 1, by go_num, by omega, by rw [HT.out]; exact hown.below hb (Nat.le_refl _), hbw.trans (hb.mono hz)⟩
          case measure => simp [intOf]; omega
        · have HT := Lib.hid (selL_yes hp)
          have HP := Lib.hid hp
          have HB := Lib.hid hbw
          clear hp hbw
          generalize hL : selL (oppB b n) k = zs at *
          clear hL
          go_wp2_with fail
          refine (spOpp_any a b c n ((k : Int) + 1) (by omega) (by omega) (by omega) (by omega) (by omega) (by omega) _).mono ?_
          rintro e w2 ⟨rfl, hb⟩
          rw [HP.out]
          have hz2 := hb.size
          replace hown := hown.below hb (Nat.le_refl _)
          replace d0 := keepC hb d0
          replace d1 := keepC hb d1
          replace HB := Lib.hid (HB.out.trans (hb.mono hz))
          go_wp2_with (at_builtin; refine wpList_pushI _ rfl _ _ rfl w1.heap.size _ zs rfl (hown.alloc _) w2.heap.size ((k : Int) + 1) rfl (by simp) (by omega) (by simp; omega) ?_; intro A1 c1 w3 hown1 hg1; have f0 := (hg1.cell (p := ⟨w.heap.size, 0, none⟩) (by show w.heap.size < w1.heap.size; omega)).trans (keepA d0); have f1 := (hg1.cell (p := ⟨w.heap.size, 1, none⟩) (by show w.heap.size < w1.heap.size; omega)).trans (keepA d1))
          go_roundw
          case rel => exact ⟨k + 1, by go_num, by omega, by rw [HT.out]; exact hown1, (HB.out.alloc (by omega) _).trans hg1⟩
          case measure => simp [intOf]; omega
      · obtain rfl : k = a.toNat := by omega
        go_wp2
        go_ret2
        exact ⟨_, rfl, hown.mono (by omega), Bt.trans (hbw.mono (by omega))⟩

theorem evB2_of (a b c l m : Int) : evB2 a b c l m = (everyB a b c l && everyB a b c m) := by
  unfold evB2 everyB
  cases spiB a b c <;> simp

set_option maxHeartbeats 2000000 in
theorem specLampsAndWindows_any (a b c l m : Int) (w : World) :
    Calls Try.prog 22 #[.agg #[.int .i64 a, .int .i64 b, .int .i64 c], .int .i64 l, .int .i64 m] w fun e w' => Lists w (selR (evB2 a b c l m) (lampP l m) a) (evB2 a b c l m) e w' := by
  cases g0 : everyB a b c l
  · have hV : evB2 a b c l m = false := by simp [evB2_of, g0]
    rw [hV]
    rw [selR_no]
    clear hV
    have H0 := Lib.hid g0
    clear g0
    go_enter Try.func22, Try.ntmps22
    go_wp2_with fail
    refine (spEvery_any _ _ _ _ _).mono ?_
    rintro e w1 ⟨rfl, hb⟩
    have hs : w.heap.size + 1 ≤ w1.heap.size := by have := hb.size; (try simp at this); omega
    have X0 : Blk w1 (w.heap.size) 27 #[.int .i64 a, .int .i64 b, .int .i64 c] := (Blk.new' (by simp)).below hb (by simp; try omega)
    have Bt : Below w.heap.size w w1 := ((Below.refl _ _).alloc (Nat.le_refl _) _).trans (hb.mono (by simp; try omega))
    clear hb
    have c0_0 : w1.cell? ⟨w.heap.size, 0, none⟩ = some (.int .i64 a) := X0.cell 0
    have c0_1 : w1.cell? ⟨w.heap.size, 1, none⟩ = some (.int .i64 b) := X0.cell 1
    have c0_2 : w1.cell? ⟨w.heap.size, 2, none⟩ = some (.int .i64 c) := X0.cell 2
    rw [H0.out]
    go_wp2_with fail
    go_ret2
    exact ⟨_, rfl, OwnI.nil _ _, Bt⟩
  · have b0 := everyB_le g0
    cases g1 : everyB a b c m
    · have hV : evB2 a b c l m = false := by simp [evB2_of, g1]
      rw [hV]
      rw [selR_no]
      clear hV
      have H0 := Lib.hid g0
      clear g0
      have H1 := Lib.hid g1
      clear g1
      go_enter Try.func22, Try.ntmps22
      go_wp2_with fail
      refine (spEvery_any _ _ _ _ _).mono ?_
      rintro e w1 ⟨rfl, hb⟩
      have hs : w.heap.size + 1 ≤ w1.heap.size := by have := hb.size; (try simp at this); omega
      have X0 : Blk w1 (w.heap.size) 27 #[.int .i64 a, .int .i64 b, .int .i64 c] := (Blk.new' (by simp)).below hb (by simp; try omega)
      have Bt : Below w.heap.size w w1 := ((Below.refl _ _).alloc (Nat.le_refl _) _).trans (hb.mono (by simp; try omega))
      clear hb
      have c0_0 : w1.cell? ⟨w.heap.size, 0, none⟩ = some (.int .i64 a) := X0.cell 0
      have c0_1 : w1.cell? ⟨w.heap.size, 1, none⟩ = some (.int .i64 b) := X0.cell 1
      have c0_2 : w1.cell? ⟨w.heap.size, 2, none⟩ = some (.int .i64 c) := X0.cell 2
      rw [H0.out]
      go_wp2_with fail
      refine (spEvery_any _ _ _ _ _).mono ?_
      rintro e w2 ⟨rfl, hb⟩
      replace X0 := X0.below hb (by omega)
      replace Bt := Bt.trans (hb.mono (by omega))
      replace hs : w.heap.size + 1 ≤ w2.heap.size := by have := hb.size; omega
      clear hb
      have c0_0 : w2.cell? ⟨w.heap.size, 0, none⟩ = some (.int .i64 a) := X0.cell 0
      have c0_1 : w2.cell? ⟨w.heap.size, 1, none⟩ = some (.int .i64 b) := X0.cell 1
      have c0_2 : w2.cell? ⟨w.heap.size, 2, none⟩ = some (.int .i64 c) := X0.cell 2
      rw [H1.out]
      go_wp2_with fail
      go_ret2
      exact ⟨_, rfl, OwnI.nil _ _, Bt⟩
    · have b1 := everyB_le g1
      rw [show evB2 a b c l m = true by simp [evB2_of, g0, g1], selR_yes]
      have H0 := Lib.hid g0
      clear g0
      have H1 := Lib.hid g1
      clear g1
      go_enter Try.func22, Try.ntmps22
      go_wp2_with fail
      refine (spEvery_any _ _ _ _ _).mono ?_
      rintro e w1 ⟨rfl, hb⟩
      have hs : w.heap.size + 1 ≤ w1.heap.size := by have := hb.size; (try simp at this); omega
      have X0 : Blk w1 (w.heap.size) 27 #[.int .i64 a, .int .i64 b, .int .i64 c] := (Blk.new' (by simp)).below hb (by simp; try omega)
      have Bt : Below w.heap.size w w1 := ((Below.refl _ _).alloc (Nat.le_refl _) _).trans (hb.mono (by simp; try omega))
      clear hb
      have c0_0 : w1.cell? ⟨w.heap.size, 0, none⟩ = some (.int .i64 a) := X0.cell 0
      have c0_1 : w1.cell? ⟨w.heap.size, 1, none⟩ = some (.int .i64 b) := X0.cell 1
      have c0_2 : w1.cell? ⟨w.heap.size, 2, none⟩ = some (.int .i64 c) := X0.cell 2
      rw [H0.out]
      go_wp2_with fail
      refine (spEvery_any _ _ _ _ _).mono ?_
      rintro e w2 ⟨rfl, hb⟩
      replace X0 := X0.below hb (by omega)
      replace Bt := Bt.trans (hb.mono (by omega))
      replace hs : w.heap.size + 1 ≤ w2.heap.size := by have := hb.size; omega
      clear hb
      have c0_0 : w2.cell? ⟨w.heap.size, 0, none⟩ = some (.int .i64 a) := X0.cell 0
      have c0_1 : w2.cell? ⟨w.heap.size, 1, none⟩ = some (.int .i64 b) := X0.cell 1
      have c0_2 : w2.cell? ⟨w.heap.size, 2, none⟩ = some (.int .i64 c) := X0.cell 2
      rw [H1.out]
      go_wp2_with fail
      go_loopw [8, 9] (fun v i wr => ∃ (t : Int), i = .int .i64 t ∧ 1 ≤ t ∧ t ≤ a + l ∧ Hid (t % l = 0) ∧ OwnI wr w2.heap.size v (selL (lampP l m) (t - 1).toNat) ∧ Below w2.heap.size w2 wr) (fun _ i _ => (1000 - intOf i).toNat)
      case atStart => exact ⟨l, rfl, by omega, by omega, Lib.hid Int.emod_self, by rw [lamp_start (by omega)]; exact OwnI.nil _ _, Below.refl _ _⟩
      case round =>
        obtain ⟨t, rfl, h0, h1, hm, hown, hbw⟩ := hrel
        have d0 := keepC hbw c0_0
        have d1 := keepC hbw c0_1
        have d2 := keepC hbw c0_2
        have hz : w2.heap.size ≤ wr.heap.size := hbw.size
        by_cases hlt : t ≤ a
        · have HN := Lib.hid (lamp_next hm.out)
          have hl := selL_length (lampP l m) (t - 1).toNat
          have ht0 : t.tmod m = t % m := Int.tmod_eq_emod_of_nonneg (by omega)
          have hz0 : ¬ m = 0 := by omega
          by_cases hmm : t % m = 0
          · have HT := Lib.hid (lamp_yes (l := l) (w := m) (m := t) hm.out h0 (by omega) hmm)
            have HB := Lib.hid hbw
            generalize hL : selL (lampP l m) (t - 1).toNat = zs at *
            clear hL hbw
            go_wp2_with (at_builtin; refine wpList_pushI _ rfl _ _ rfl w2.heap.size _ zs rfl (hown.alloc _) wr.heap.size t rfl (by simp) (by omega) (by simp; omega) ?_; intro A1 c1 w3 hown1 hg1; have f0 := (hg1.cell (p := ⟨w.heap.size, 0, none⟩) (by show w.heap.size < w2.heap.size; omega)).trans (keepA d0); have f1 := (hg1.cell (p := ⟨w.heap.size, 1, none⟩) (by show w.heap.size < w2.heap.size; omega)).trans (keepA d1))
            go_roundw
            case rel => exact ⟨t + l, rfl, by omega, by omega, HN, by rw [HT.out]; exact hown1, (HB.out.alloc (by omega) _).trans hg1⟩
            case measure => simp [intOf]; omega
          · have HT := Lib.hid (lamp_no (l := l) (w := m) (m := t) hm.out h0 (by omega) hmm)
            go_wp2
            go_roundw
            case rel => exact ⟨t + l, rfl, by omega, by omega, HN, by rw [HT.out]; exact hown, hbw⟩
            case measure => simp [intOf]; omega
        · have HT := Lib.hid (lamp_stop (a := a) (w := m) hm.out h1 (by omega) (by omega))
          rw [HT.out] at hown
          go_wp2
          go_ret2
          exact ⟨_, rfl, hown.mono (by omega), Bt.trans (hbw.mono (by omega))⟩


end Go.Proofs.Ytomjebelgnecfaa
