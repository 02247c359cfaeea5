/- Contracts: spirals: steps at which twins meet, on both sides. -/
import Derived.Test.YtomjebelgnecfaaSpW
namespace Go.Proofs.Ytomjebelgnecfaa
open Go.RowKit

theorem OwnI.drewN {w : World} {B n : Nat} {v : Value} {xs : List Int} (h : OwnI w B v xs) : OwnI (w.drewN n) B v xs := h
def twB (a b c a2 b2 c2 : Int) : Bool := spiB a b c && spiB a2 b2 c2
theorem twB_le {a b c a2 b2 c2 : Int} (h : twB a b c a2 b2 c2 = true) : 1 ≤ a ∧ a ≤ 400 := by
  simp only [twB, Bool.and_eq_true] at h
  have := spiB_le h.1
  omega

set_option maxHeartbeats 2000000 in
theorem implTwinMeets_any (a b c a2 b2 c2 : Int) (w : World) :
    Calls Try.prog 27 #[.agg #[.int .i64 a, .int .i64 b, .int .i64 c], .agg #[.int .i64 a2, .int .i64 b2, .int .i64 c2]] w fun e w' => Lists w (selR (twB a b c a2 b2 c2) (twinP b c a2 b2 c2) a) (twB a b c a2 b2 c2) e w' := by
  cases g0 : spiB a b c
  · have hV : twB a b c a2 b2 c2 = false := by simp [twB, g0]
    rw [hV]
    rw [selR_no]
    clear hV
    have H0 := Lib.hid g0
    clear g0
    go_enter Try.func27, Try.ntmps27
    go_wp2_with fail
    refine (impSpi_any _ _ _ _).mono ?_
    rintro e w1 ⟨rfl, hb⟩
    have hs : w.heap.size + 2 ≤ w1.heap.size := by have := hb.size; (try simp at this); omega
    have X0 : Blk w1 (w.heap.size) 27 #[.int .i64 a, .int .i64 b, .int .i64 c] := ((Blk.new' (by simp)).alloc _).below hb (by simp; try omega)
    have X1 : Blk w1 (w.heap.size + 1) 27 #[.int .i64 a2, .int .i64 b2, .int .i64 c2] := (Blk.new' (by simp)).below hb (by simp; try omega)
    have Bt : Below w.heap.size w w1 := (((Below.refl _ _).alloc (Nat.le_refl _) _).alloc (by simp; try omega) _).trans (hb.mono (by simp; try omega))
    clear hb
    have c0_0 : w1.cell? ⟨w.heap.size, 0, none⟩ = some (.int .i64 a) := X0.cell 0
    have c0_1 : w1.cell? ⟨w.heap.size, 1, none⟩ = some (.int .i64 b) := X0.cell 1
    have c0_2 : w1.cell? ⟨w.heap.size, 2, none⟩ = some (.int .i64 c) := X0.cell 2
    have c1_0 : w1.cell? ⟨w.heap.size + 1, 0, none⟩ = some (.int .i64 a2) := X1.cell 0
    have c1_1 : w1.cell? ⟨w.heap.size + 1, 1, none⟩ = some (.int .i64 b2) := X1.cell 1
    have c1_2 : w1.cell? ⟨w.heap.size + 1, 2, none⟩ = some (.int .i64 c2) := X1.cell 2
    rw [H0.out]
    go_wp2_with fail
    go_ret2
    exact ⟨_, rfl, OwnI.nil _ _, Bt⟩
  · have b0 := spiB_le g0
    cases g1 : spiB a2 b2 c2
    · have hV : twB a b c a2 b2 c2 = false := by simp [twB, g1]
      rw [hV]
      rw [selR_no]
      clear hV
      have H0 := Lib.hid g0
      clear g0
      have H1 := Lib.hid g1
      clear g1
      go_enter Try.func27, Try.ntmps27
      go_wp2_with fail
      refine (impSpi_any _ _ _ _).mono ?_
      rintro e w1 ⟨rfl, hb⟩
      have hs : w.heap.size + 2 ≤ w1.heap.size := by have := hb.size; (try simp at this); omega
      have X0 : Blk w1 (w.heap.size) 27 #[.int .i64 a, .int .i64 b, .int .i64 c] := ((Blk.new' (by simp)).alloc _).below hb (by simp; try omega)
      have X1 : Blk w1 (w.heap.size + 1) 27 #[.int .i64 a2, .int .i64 b2, .int .i64 c2] := (Blk.new' (by simp)).below hb (by simp; try omega)
      have Bt : Below w.heap.size w w1 := (((Below.refl _ _).alloc (Nat.le_refl _) _).alloc (by simp; try omega) _).trans (hb.mono (by simp; try omega))
      clear hb
      have c0_0 : w1.cell? ⟨w.heap.size, 0, none⟩ = some (.int .i64 a) := X0.cell 0
      have c0_1 : w1.cell? ⟨w.heap.size, 1, none⟩ = some (.int .i64 b) := X0.cell 1
      have c0_2 : w1.cell? ⟨w.heap.size, 2, none⟩ = some (.int .i64 c) := X0.cell 2
      have c1_0 : w1.cell? ⟨w.heap.size + 1, 0, none⟩ = some (.int .i64 a2) := X1.cell 0
      have c1_1 : w1.cell? ⟨w.heap.size + 1, 1, none⟩ = some (.int .i64 b2) := X1.cell 1
      have c1_2 : w1.cell? ⟨w.heap.size + 1, 2, none⟩ = some (.int .i64 c2) := X1.cell 2
      rw [H0.out]
      go_wp2_with fail
      refine (impSpi_any _ _ _ _).mono ?_
      rintro e w2 ⟨rfl, hb⟩
      replace X0 := X0.below hb (by omega)
      replace X1 := X1.below hb (by omega)
      replace Bt := Bt.trans (hb.mono (by omega))
      replace hs : w.heap.size + 2 ≤ w2.heap.size := by have := hb.size; omega
      clear hb
      have c0_0 : w2.cell? ⟨w.heap.size, 0, none⟩ = some (.int .i64 a) := X0.cell 0
      have c0_1 : w2.cell? ⟨w.heap.size, 1, none⟩ = some (.int .i64 b) := X0.cell 1
      have c0_2 : w2.cell? ⟨w.heap.size, 2, none⟩ = some (.int .i64 c) := X0.cell 2
      have c1_0 : w2.cell? ⟨w.heap.size + 1, 0, none⟩ = some (.int .i64 a2) := X1.cell 0
      have c1_1 : w2.cell? ⟨w.heap.size + 1, 1, none⟩ = some (.int .i64 b2) := X1.cell 1
      have c1_2 : w2.cell? ⟨w.heap.size + 1, 2, none⟩ = some (.int .i64 c2) := X1.cell 2
      rw [H1.out]
      go_wp2_with fail
      go_ret2
      exact ⟨_, rfl, OwnI.nil _ _, Bt⟩
    · have b1 := spiB_le g1
      rw [show twB a b c a2 b2 c2 = true by simp [twB, g0, g1], selR_yes]
      have H0 := Lib.hid g0
      clear g0
      have H1 := Lib.hid g1
      clear g1
      go_enter Try.func27, Try.ntmps27
      go_wp2_with fail
      refine (impSpi_any _ _ _ _).mono ?_
      rintro e w1 ⟨rfl, hb⟩
      have hs : w.heap.size + 2 ≤ w1.heap.size := by have := hb.size; (try simp at this); omega
      have X0 : Blk w1 (w.heap.size) 27 #[.int .i64 a, .int .i64 b, .int .i64 c] := ((Blk.new' (by simp)).alloc _).below hb (by simp; try omega)
      have X1 : Blk w1 (w.heap.size + 1) 27 #[.int .i64 a2, .int .i64 b2, .int .i64 c2] := (Blk.new' (by simp)).below hb (by simp; try omega)
      have Bt : Below w.heap.size w w1 := (((Below.refl _ _).alloc (Nat.le_refl _) _).alloc (by simp; try omega) _).trans (hb.mono (by simp; try omega))
      clear hb
      have c0_0 : w1.cell? ⟨w.heap.size, 0, none⟩ = some (.int .i64 a) := X0.cell 0
      have c0_1 : w1.cell? ⟨w.heap.size, 1, none⟩ = some (.int .i64 b) := X0.cell 1
      have c0_2 : w1.cell? ⟨w.heap.size, 2, none⟩ = some (.int .i64 c) := X0.cell 2
      have c1_0 : w1.cell? ⟨w.heap.size + 1, 0, none⟩ = some (.int .i64 a2) := X1.cell 0
      have c1_1 : w1.cell? ⟨w.heap.size + 1, 1, none⟩ = some (.int .i64 b2) := X1.cell 1
      have c1_2 : w1.cell? ⟨w.heap.size + 1, 2, none⟩ = some (.int .i64 c2) := X1.cell 2
      rw [H0.out]
      go_wp2_with fail
      refine (impSpi_any _ _ _ _).mono ?_
      rintro e w2 ⟨rfl, hb⟩
      replace X0 := X0.below hb (by omega)
      replace X1 := X1.below hb (by omega)
      replace Bt := Bt.trans (hb.mono (by omega))
      replace hs : w.heap.size + 2 ≤ w2.heap.size := by have := hb.size; omega
      clear hb
      have c0_0 : w2.cell? ⟨w.heap.size, 0, none⟩ = some (.int .i64 a) := X0.cell 0
      have c0_1 : w2.cell? ⟨w.heap.size, 1, none⟩ = some (.int .i64 b) := X0.cell 1
      have c0_2 : w2.cell? ⟨w.heap.size, 2, none⟩ = some (.int .i64 c) := X0.cell 2
      have c1_0 : w2.cell? ⟨w.heap.size + 1, 0, none⟩ = some (.int .i64 a2) := X1.cell 0
      have c1_1 : w2.cell? ⟨w.heap.size + 1, 1, none⟩ = some (.int .i64 b2) := X1.cell 1
      have c1_2 : w2.cell? ⟨w.heap.size + 1, 2, none⟩ = some (.int .i64 c2) := X1.cell 2
      rw [H1.out]
      go_wp2_with fail
      refine (stepsThat_any a b c 50 #[.pointer (some ⟨w.heap.size, 0, none⟩), .pointer (some ⟨w.heap.size + 1, 0, none⟩)] (twinP b c a2 b2 c2) _ (by omega) (by omega) (enters_of Try.func50 (by kernel_rfl) rfl) ?_).mono ?_
      · intro k W hk hk2 hbW
        exact twinC_any a b c a2 b2 c2 k _ _ H0.out H1.out (by omega) (by omega) W (X0.below hbW (by omega)) (X1.below hbW (by omega))
      rintro e w9 ⟨v9, rfl, hO, hB⟩
      go_wp2_with fail
      go_ret2
      exact ⟨_, rfl, hO.mono (by omega), Bt.trans (hB.mono (by omega))⟩

set_option maxHeartbeats 8000000 in
theorem specTwinMeets_any (a b c a2 b2 c2 : Int) (w : World) :
    Calls Try.prog 26 #[.agg #[.int .i64 a, .int .i64 b, .int .i64 c], .agg #[.int .i64 a2, .int .i64 b2, .int .i64 c2]] w fun e w' => Lists w (selR (twB a b c a2 b2 c2) (twinP b c a2 b2 c2) a) (twB a b c a2 b2 c2) e w' := by
  cases g0 : spiB a b c
  · have hV : twB a b c a2 b2 c2 = false := by simp [twB, g0]
    rw [hV]
    rw [selR_no]
    clear hV
    have H0 := Lib.hid g0
    clear g0
    go_enter Try.func26, Try.ntmps26
    go_wp2_with fail
    refine (spGood_any _ _ _ _).mono ?_
    rintro e w1 ⟨rfl, hb⟩
    have hs : w.heap.size + 2 ≤ w1.heap.size := by have := hb.size; (try simp at this); omega
    have X0 : Blk w1 (w.heap.size) 27 #[.int .i64 a, .int .i64 b, .int .i64 c] := ((Blk.new' (by simp)).alloc _).below hb (by simp; try omega)
    have X1 : Blk w1 (w.heap.size + 1) 27 #[.int .i64 a2, .int .i64 b2, .int .i64 c2] := (Blk.new' (by simp)).below hb (by simp; try omega)
    have Bt : Below w.heap.size w w1 := (((Below.refl _ _).alloc (Nat.le_refl _) _).alloc (by simp; try omega) _).trans (hb.mono (by simp; try omega))
    clear hb
    have c0_0 : w1.cell? ⟨w.heap.size, 0, none⟩ = some (.int .i64 a) := X0.cell 0
    have c0_1 : w1.cell? ⟨w.heap.size, 1, none⟩ = some (.int .i64 b) := X0.cell 1
    have c0_2 : w1.cell? ⟨w.heap.size, 2, none⟩ = some (.int .i64 c) := X0.cell 2
    have c1_0 : w1.cell? ⟨w.heap.size + 1, 0, none⟩ = some (.int .i64 a2) := X1.cell 0
    have c1_1 : w1.cell? ⟨w.heap.size + 1, 1, none⟩ = some (.int .i64 b2) := X1.cell 1
    have c1_2 : w1.cell? ⟨w.heap.size + 1, 2, none⟩ = some (.int .i64 c2) := X1.cell 2
    rw [H0.out]
    go_wp2_with fail
    go_ret2
    exact ⟨_, rfl, OwnI.nil _ _, Bt⟩
  · have b0 := spiB_le g0
    cases g1 : spiB a2 b2 c2
    · have hV : twB a b c a2 b2 c2 = false := by simp [twB, g1]
      rw [hV]
      rw [selR_no]
      clear hV
      have H0 := Lib.hid g0
      clear g0
      have H1 := Lib.hid g1
      clear g1
      go_enter Try.func26, Try.ntmps26
      go_wp2_with fail
      refine (spGood_any _ _ _ _).mono ?_
      rintro e w1 ⟨rfl, hb⟩
      have hs : w.heap.size + 2 ≤ w1.heap.size := by have := hb.size; (try simp at this); omega
      have X0 : Blk w1 (w.heap.size) 27 #[.int .i64 a, .int .i64 b, .int .i64 c] := ((Blk.new' (by simp)).alloc _).below hb (by simp; try omega)
      have X1 : Blk w1 (w.heap.size + 1) 27 #[.int .i64 a2, .int .i64 b2, .int .i64 c2] := (Blk.new' (by simp)).below hb (by simp; try omega)
      have Bt : Below w.heap.size w w1 := (((Below.refl _ _).alloc (Nat.le_refl _) _).alloc (by simp; try omega) _).trans (hb.mono (by simp; try omega))
      clear hb
      have c0_0 : w1.cell? ⟨w.heap.size, 0, none⟩ = some (.int .i64 a) := X0.cell 0
      have c0_1 : w1.cell? ⟨w.heap.size, 1, none⟩ = some (.int .i64 b) := X0.cell 1
      have c0_2 : w1.cell? ⟨w.heap.size, 2, none⟩ = some (.int .i64 c) := X0.cell 2
      have c1_0 : w1.cell? ⟨w.heap.size + 1, 0, none⟩ = some (.int .i64 a2) := X1.cell 0
      have c1_1 : w1.cell? ⟨w.heap.size + 1, 1, none⟩ = some (.int .i64 b2) := X1.cell 1
      have c1_2 : w1.cell? ⟨w.heap.size + 1, 2, none⟩ = some (.int .i64 c2) := X1.cell 2
      rw [H0.out]
      go_wp2_with fail
      refine (spGood_any _ _ _ _).mono ?_
      rintro e w2 ⟨rfl, hb⟩
      replace X0 := X0.below hb (by omega)
      replace X1 := X1.below hb (by omega)
      replace Bt := Bt.trans (hb.mono (by omega))
      replace hs : w.heap.size + 2 ≤ w2.heap.size := by have := hb.size; omega
      clear hb
      have c0_0 : w2.cell? ⟨w.heap.size, 0, none⟩ = some (.int .i64 a) := X0.cell 0
      have c0_1 : w2.cell? ⟨w.heap.size, 1, none⟩ = some (.int .i64 b) := X0.cell 1
      have c0_2 : w2.cell? ⟨w.heap.size, 2, none⟩ = some (.int .i64 c) := X0.cell 2
      have c1_0 : w2.cell? ⟨w.heap.size + 1, 0, none⟩ = some (.int .i64 a2) := X1.cell 0
      have c1_1 : w2.cell? ⟨w.heap.size + 1, 1, none⟩ = some (.int .i64 b2) := X1.cell 1
      have c1_2 : w2.cell? ⟨w.heap.size + 1, 2, none⟩ = some (.int .i64 c2) := X1.cell 2
      rw [H1.out]
      go_wp2_with fail
      go_ret2
      exact ⟨_, rfl, OwnI.nil _ _, Bt⟩
    · have b1 := spiB_le g1
      rw [show twB a b c a2 b2 c2 = true by simp [twB, g0, g1], selR_yes]
      have H0 := Lib.hid g0
      clear g0
      have H1 := Lib.hid g1
      clear g1
      go_enter Try.func26, Try.ntmps26
      go_wp2_with fail
      refine (spGood_any _ _ _ _).mono ?_
      rintro e w1 ⟨rfl, hb⟩
      have hs : w.heap.size + 2 ≤ w1.heap.size := by have := hb.size; (try simp at this); omega
      have X0 : Blk w1 (w.heap.size) 27 #[.int .i64 a, .int .i64 b, .int .i64 c] := ((Blk.new' (by simp)).alloc _).below hb (by simp; try omega)
      have X1 : Blk w1 (w.heap.size + 1) 27 #[.int .i64 a2, .int .i64 b2, .int .i64 c2] := (Blk.new' (by simp)).below hb (by simp; try omega)
      have Bt : Below w.heap.size w w1 := (((Below.refl _ _).alloc (Nat.le_refl _) _).alloc (by simp; try omega) _).trans (hb.mono (by simp; try omega))
      clear hb
      have c0_0 : w1.cell? ⟨w.heap.size, 0, none⟩ = some (.int .i64 a) := X0.cell 0
      have c0_1 : w1.cell? ⟨w.heap.size, 1, none⟩ = some (.int .i64 b) := X0.cell 1
      have c0_2 : w1.cell? ⟨w.heap.size, 2, none⟩ = some (.int .i64 c) := X0.cell 2
      have c1_0 : w1.cell? ⟨w.heap.size + 1, 0, none⟩ = some (.int .i64 a2) := X1.cell 0
      have c1_1 : w1.cell? ⟨w.heap.size + 1, 1, none⟩ = some (.int .i64 b2) := X1.cell 1
      have c1_2 : w1.cell? ⟨w.heap.size + 1, 2, none⟩ = some (.int .i64 c2) := X1.cell 2
      rw [H0.out]
      go_wp2_with fail
      refine (spGood_any _ _ _ _).mono ?_
      rintro e w2 ⟨rfl, hb⟩
      replace X0 := X0.below hb (by omega)
      replace X1 := X1.below hb (by omega)
      replace Bt := Bt.trans (hb.mono (by omega))
      replace hs : w.heap.size + 2 ≤ w2.heap.size := by have := hb.size; omega
      clear hb
      have c0_0 : w2.cell? ⟨w.heap.size, 0, none⟩ = some (.int .i64 a) := X0.cell 0
      have c0_1 : w2.cell? ⟨w.heap.size, 1, none⟩ = some (.int .i64 b) := X0.cell 1
      have c0_2 : w2.cell? ⟨w.heap.size, 2, none⟩ = some (.int .i64 c) := X0.cell 2
      have c1_0 : w2.cell? ⟨w.heap.size + 1, 0, none⟩ = some (.int .i64 a2) := X1.cell 0
      have c1_1 : w2.cell? ⟨w.heap.size + 1, 1, none⟩ = some (.int .i64 b2) := X1.cell 1
      have c1_2 : w2.cell? ⟨w.heap.size + 1, 2, none⟩ = some (.int .i64 c2) := X1.cell 2
      rw [H1.out]
      go_wp2_with fail
      go_loopw [6, 7] (fun v i wr => ∃ (s : Int) (k : Nat), i = .int .i64 s ∧ s ≤ (k : Int) + 1 ∧ (k : Int) + 1 ≤ s ∧ k ≤ a.toNat ∧ OwnI wr w2.heap.size v (selL (twinP b c a2 b2 c2) k) ∧ Below w2.heap.size w2 wr) (fun _ i _ => (500 - intOf i).toNat)
      case atStart => exact ⟨1, 0, rfl, by omega, by omega, Nat.zero_le _, OwnI.nil _ _, Below.refl _ _⟩
      case round =>
        obtain ⟨s, k, rfl, hs1, hs2, hk, hown, hbw⟩ := hrel
        have hz : w2.heap.size ≤ wr.heap.size := hbw.size
        have d0_0 := keepC hbw c0_0
        have d0_1 := keepC hbw c0_1
        have d0_2 := keepC hbw c0_2
        have d1_0 := keepC hbw c1_0
        have d1_1 := keepC hbw c1_1
        have d1_2 := keepC hbw c1_2
        have hl := selL_length (twinP b c a2 b2 c2) k
        have HB := Lib.hid hbw
        have HTy := fun h => selL_yes (p := twinP b c a2 b2 c2) (k := k) h
        have HTn := fun h => selL_no (p := twinP b c a2 b2 c2) (k := k) h
        rw [show (k : Int) + 1 = s by omega] at HTy HTn
        by_cases hlt : s ≤ a
        · obtain ⟨e0, e1⟩ := mul_bd (a := s) (A := 400) (b := c) (B := 300) (by omega) (by omega) (by omega) (by omega)
          have p1 : 1 ≤ s * c := by have := Int.mul_le_mul (show (1 : Int) ≤ s by omega) (show (1 : Int) ≤ c by omega) (by omega) (by omega); omega
          have hd : (s * c).tdiv c2 = s * c / c2 := Int.tdiv_eq_ediv_of_nonneg (by omega)
          have ht : (s * c).tmod c2 = s * c % c2 := Int.tmod_eq_emod_of_nonneg (by omega)
          have hz0 : ¬ c2 = 0 := by omega
          have q0 : 0 ≤ s * c / c2 := Int.ediv_nonneg (by omega) (by omega)
          have q1 : s * c / c2 ≤ s * c := Int.ediv_le_self _ (by omega)
          have eM := Int.mul_ediv_add_emod (s * c) c2
          obtain ⟨o, ho⟩ : ∃ o, s * c / c2 = o := ⟨_, rfl⟩
          obtain ⟨r, hr⟩ : ∃ r, s * c % c2 = r := ⟨_, rfl⟩
          have hP : twinP b c a2 b2 c2 s = (decide (r = 0) && (decide (o ≤ a2) && decide (((s - 1) * b2 - (o - 1) * b).tmod (b * b2) = 0))) := by unfold twinP; rw [ho, hr]
          rw [ho] at hd q0 q1 eM
          rw [hr] at ht eM
          have hwo : IntKind.i64.wrap o = o := IntWalk.i64_in _ (by omega)
          by_cases h1 : r = 0
          · have o1 : 1 ≤ o := by
              by_cases o0 : o = 0
              · rw [o0, h1] at eM; omega
              · omega
            subst h1
            by_cases h2 : o ≤ a2
            · obtain ⟨m0, m1⟩ := mul_bd (a := s - 1) (A := 400) (b := b2) (B := 60) (by omega) (by omega) (by omega) (by omega)
              obtain ⟨m2, m3⟩ := mul_bd (a := o - 1) (A := 400) (b := b) (B := 60) (by omega) (by omega) (by omega) (by omega)
              obtain ⟨m4, m5⟩ := mul_bd (a := b) (A := 60) (b := b2) (B := 60) (by omega) (by omega) (by omega) (by omega)
              have m6 : 1 ≤ b * b2 := by have := Int.mul_le_mul (show (1 : Int) ≤ b by omega) (show (1 : Int) ≤ b2 by omega) (by omega) (by omega); omega
              have hw1 : IntKind.i64.wrap (s - 1) = s - 1 := IntWalk.i64_in _ (by omega)
              have hw2 : IntKind.i64.wrap ((s - 1) * b2) = (s - 1) * b2 := IntWalk.i64_in _ (by omega)
              have hw3 : IntKind.i64.wrap (o - 1) = o - 1 := IntWalk.i64_in _ (by omega)
              have hw4 : IntKind.i64.wrap ((o - 1) * b) = (o - 1) * b := IntWalk.i64_in _ (by omega)
              have hw5 : IntKind.i64.wrap ((s - 1) * b2 - (o - 1) * b) = (s - 1) * b2 - (o - 1) * b := IntWalk.i64_in _ (by omega)
              have hw6 : IntKind.i64.wrap (b * b2) = b * b2 := IntWalk.i64_in _ (by omega)
              have hz1 : ¬ b * b2 = 0 := by omega
              obtain ⟨M, hM⟩ : ∃ M, b * b2 = M := ⟨_, rfl⟩
              obtain ⟨D, hD⟩ : ∃ D, (s - 1) * b2 - (o - 1) * b = D := ⟨_, rfl⟩
              rw [hM, hD] at hP
              by_cases h3 : D.tmod M = 0
              · have HT := Lib.hid (HTy (by rw [hP]; simp [h2, h3]))
                clear HTy HTn hP eM ho hr hbw p1
                generalize hL : selL (twinP b c a2 b2 c2) k = zs at *
                clear hL
                go_wp2
                go_quiet (fail)
                go_wp2
                go_quiet (fail)
                go_wp2_with (at_builtin; refine wpList_pushI _ rfl _ _ rfl w2.heap.size _ zs rfl (hown.drewN.alloc _) _ s rfl ((Blk.new' rfl).cell 0) (by omega) (by simp; omega) ?_; intro A1 c1 w3 hown1 hg1)
                go_roundw
                case rel => exact ⟨s + 1, k + 1, rfl, by omega, by omega, by omega, by rw [HT.out]; exact hown1, ((Below.drewN' HB.out _).alloc (by simp; omega) _).trans hg1⟩
                case measure => simp [intOf]; omega
              · have HT := Lib.hid (HTn (by rw [hP]; simp [h3]))
                clear HTy HTn hP eM ho hr hbw p1
                go_wp2
                go_quiet (fail)
                go_wp2
                go_quiet (fail)
                go_wp2
                go_roundw
                case rel => exact ⟨s + 1, k + 1, rfl, by omega, by omega, by omega, by rw [HT.out]; exact hown, Below.drewN' HB.out _⟩
                case measure => simp [intOf]; omega
            · have HT := Lib.hid (HTn (by rw [hP]; simp [h2]))
              clear HTy HTn hP eM ho hr hbw p1
              go_wp2
              go_quiet (fail)
              go_wp2
              go_roundw
              case rel => exact ⟨s + 1, k + 1, rfl, by omega, by omega, by omega, by rw [HT.out]; exact hown, Below.drewN' HB.out _⟩
              case measure => simp [intOf]; omega
          · have HT := Lib.hid (HTn (by rw [hP]; simp [h1]))
            clear HTy HTn hP eM ho hr hbw p1
            go_wp2
            go_quiet (fail)
            go_wp2
            go_roundw
            case rel => exact ⟨s + 1, k + 1, rfl, by omega, by omega, by omega, by rw [HT.out]; exact hown, Below.drewN' HB.out _⟩
            case measure => simp [intOf]; omega
        · obtain rfl : k = a.toNat := by omega
          go_wp2
          go_ret2
          exact ⟨_, rfl, hown.mono (by omega), Bt.trans (hbw.mono (by omega))⟩


end Go.Proofs.Ytomjebelgnecfaa
