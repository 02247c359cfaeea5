/- Contracts: spirals as results, on both sides. -/
import Derived.Test.YtlhafgepalbehaaSpH
namespace Go.Proofs.Ytlhafgepalbehaa
open Go.RowKit

def flV (v : Bool) (a b c : Int) : Value := .agg #[.int .i64 (orP v a), .int .i64 (orP v b), .int .i64 (orP v c)]
theorem flV_no (a b c : Int) : flV false a b c = .agg #[.int .i64 0, .int .i64 0, .int .i64 0] := rfl
theorem flV_yes (a b c : Int) : flV true a b c = .agg #[.int .i64 a, .int .i64 b, .int .i64 c] := rfl
theorem keepF {w : World} {o : Obj} {a : Addr} (hb : a.block < w.heap.size) (h : w.frozen? a = false) : (w.alloc o).frozen? a = false := ((below_alloc w o).frozen hb).trans h
theorem out2 {w : World} {g h : Nat} {t : TypeId} {z0 z1 z2 y0 y1 y2 : Value} (X : Blk w g t #[z0, z1, z2]) (Y : Blk w h t #[y0, y1, y2]) (ne : g ≠ h) (a b c d e f : Value) :
    Blk ((((((w.setCell ⟨g, 0, none⟩ a).setCell ⟨g, 1, none⟩ b).setCell ⟨g, 2, none⟩ c).setCell ⟨h, 0, none⟩ d).setCell ⟨h, 1, none⟩ e).setCell ⟨h, 2, none⟩ f) g t #[a, b, c] ∧
    Blk ((((((w.setCell ⟨g, 0, none⟩ a).setCell ⟨g, 1, none⟩ b).setCell ⟨g, 2, none⟩ c).setCell ⟨h, 0, none⟩ d).setCell ⟨h, 1, none⟩ e).setCell ⟨h, 2, none⟩ f) h t #[d, e, f] :=
  ⟨((((((X.set_ 0 a).set_ 1 b).set_ 2 c).far ne _).far ne _).far ne _), ((((((Y.far ne.symm _).far ne.symm _).far ne.symm _).set_ 0 d).set_ 1 e).set_ 2 f)⟩
def cutB (a b c k : Int) : Bool := spiB a b c && inB k 1 (a - 1)
theorem cutB_of (a b c k : Int) : cutB a b c k = (stepB a b c k && !decide (k = a)) := by
  unfold cutB stepB
  cases spiB a b c
  · rfl
  · cases h : inB k 1 a
    · have h2 : inB k 1 (a - 1) = false := by
        cases h3 : inB k 1 (a - 1)
        · rfl
        · have := inB_le h3; rw [inB_yes (by omega) (by omega)] at h; exact h
      simp [h2]
    · have hl := inB_le h
      by_cases hk : k = a
      · rw [inB_no (.inr (by omega))]; simp [hk]
      · rw [inB_yes (by omega) (by omega)]; simp [hk]

set_option maxHeartbeats 2000000 in
theorem specCutSpiral_any (a b c k : Int) (w : World) :
    Calls Try.prog 36 #[.agg #[.int .i64 a, .int .i64 b, .int .i64 c], .int .i64 k] w fun e w' => e = .returned (.tuple #[flV (cutB a b c k) k b c, flV (cutB a b c k) (a - k) b c, .bool (cutB a b c k)]) ∧ Below w.heap.size w w' := by
  cases g0 : stepB a b c k
  · have hV : cutB a b c k = false := by simp [cutB_of, g0]
    rw [hV, flV_no, flV_no]
    clear hV
    have H0 := Lib.hid g0
    clear g0
    go_enter Try.func36, Try.ntmps36
    go_wp2_with fail
    refine (spStep_any _ _ _ _ _).mono ?_
    rintro e w1 ⟨rfl, hb⟩
    have hs : w.heap.size + 3 ≤ w1.heap.size := by have := hb.size; (try simp at this); omega
    have c0_0 : w1.cell? ⟨w.heap.size, 0, none⟩ = some (.int .i64 a) := (hb.cell (by simp; try omega)).trans ((((Blk.new' (by simp)).alloc _).alloc _).cell 0)
    have c0_1 : w1.cell? ⟨w.heap.size, 1, none⟩ = some (.int .i64 b) := (hb.cell (by simp; try omega)).trans ((((Blk.new' (by simp)).alloc _).alloc _).cell 1)
    have c0_2 : w1.cell? ⟨w.heap.size, 2, none⟩ = some (.int .i64 c) := (hb.cell (by simp; try omega)).trans ((((Blk.new' (by simp)).alloc _).alloc _).cell 2)
    have c1_0 : w1.cell? ⟨w.heap.size + 1, 0, none⟩ = some (.int .i64 0) := (hb.cell (by simp; try omega)).trans (((Blk.new' (by simp)).alloc _).cell 0)
    have c1_1 : w1.cell? ⟨w.heap.size + 1, 1, none⟩ = some (.int .i64 0) := (hb.cell (by simp; try omega)).trans (((Blk.new' (by simp)).alloc _).cell 1)
    have c1_2 : w1.cell? ⟨w.heap.size + 1, 2, none⟩ = some (.int .i64 0) := (hb.cell (by simp; try omega)).trans (((Blk.new' (by simp)).alloc _).cell 2)
    have c2_0 : w1.cell? ⟨w.heap.size + 1 + 1, 0, none⟩ = some (.int .i64 0) := (hb.cell (by simp; try omega)).trans ((Blk.new' (by simp)).cell 0)
    have c2_1 : w1.cell? ⟨w.heap.size + 1 + 1, 1, none⟩ = some (.int .i64 0) := (hb.cell (by simp; try omega)).trans ((Blk.new' (by simp)).cell 1)
    have c2_2 : w1.cell? ⟨w.heap.size + 1 + 1, 2, none⟩ = some (.int .i64 0) := (hb.cell (by simp; try omega)).trans ((Blk.new' (by simp)).cell 2)
    have f1_0 : w1.frozen? ⟨w.heap.size + 1, 0, none⟩ = false := (hb.frozen (by simp; try omega)).trans (((Blk.new' (by simp)).alloc _).frozen 0)
    have f1_1 : w1.frozen? ⟨w.heap.size + 1, 1, none⟩ = false := (hb.frozen (by simp; try omega)).trans (((Blk.new' (by simp)).alloc _).frozen 1)
    have f1_2 : w1.frozen? ⟨w.heap.size + 1, 2, none⟩ = false := (hb.frozen (by simp; try omega)).trans (((Blk.new' (by simp)).alloc _).frozen 2)
    have f2_0 : w1.frozen? ⟨w.heap.size + 1 + 1, 0, none⟩ = false := (hb.frozen (by simp; try omega)).trans ((Blk.new' (by simp)).frozen 0)
    have f2_1 : w1.frozen? ⟨w.heap.size + 1 + 1, 1, none⟩ = false := (hb.frozen (by simp; try omega)).trans ((Blk.new' (by simp)).frozen 1)
    have f2_2 : w1.frozen? ⟨w.heap.size + 1 + 1, 2, none⟩ = false := (hb.frozen (by simp; try omega)).trans ((Blk.new' (by simp)).frozen 2)
    have X1 : Blk w1 (w.heap.size + 1) 25 #[.int .i64 0, .int .i64 0, .int .i64 0] := ((Blk.new' (by simp)).alloc _).below hb (by simp; try omega)
    have X2 : Blk w1 (w.heap.size + 1 + 1) 25 #[.int .i64 0, .int .i64 0, .int .i64 0] := (Blk.new' (by simp)).below hb (by simp; try omega)
    have Bt : Below w.heap.size w w1 := ((((Below.refl _ _).alloc (Nat.le_refl _) _).alloc (by simp; try omega) _).alloc (by simp; try omega) _).trans (hb.mono (by simp; try omega))
    clear hb
    rw [H0.out]
    go_wp2_with fail
    obtain ⟨Q0, Q1⟩ := out2 X1 X2 (by omega) (.int .i64 (0)) (.int .i64 (0)) (.int .i64 (0)) (.int .i64 (0)) (.int .i64 (0)) (.int .i64 (0))
    obtain ⟨q0_0, q0_1, q0_2⟩ := Q0.three
    obtain ⟨q1_0, q1_1, q1_2⟩ := Q1.three
    refine bodyPost_ret (v := .tuple #[.agg #[.int .i64 0, .int .i64 0, .int .i64 0], .agg #[.int .i64 0, .int .i64 0, .int .i64 0], .bool false]) ?hr rfl ⟨rfl, ?_⟩
    (case hr => simp [results, Try.results36, go_sem, q0_0, q0_1, q0_2, q1_0, q1_1, q1_2])
    (repeat (first | with_reducible exact Bt | with_reducible exact Below.refl _ _ | with_reducible refine Below.setCell ?_ (by first | (dsimp only; omega) | (simp; done) | (simp; omega)) _ | with_reducible refine keepBN ?_ | with_reducible refine keepB ?_ | with_reducible refine Below.alloc ?_ (by simp) _ | refine Below.drew ?_))
  · have b0 := stepB_le g0
    by_cases g1 : k = a
    · have hV : cutB a b c k = false := by simp [cutB_of, g1]
      rw [hV, flV_no, flV_no]
      clear hV
      have H0 := Lib.hid g0
      clear g0
      have hk0 : a ≤ k := by omega
      clear g1
      go_enter Try.func36, Try.ntmps36
      go_wp2_with fail
      refine (spStep_any _ _ _ _ _).mono ?_
      rintro e w1 ⟨rfl, hb⟩
      have hs : w.heap.size + 3 ≤ w1.heap.size := by have := hb.size; (try simp at this); omega
      have c0_0 : w1.cell? ⟨w.heap.size, 0, none⟩ = some (.int .i64 a) := (hb.cell (by simp; try omega)).trans ((((Blk.new' (by simp)).alloc _).alloc _).cell 0)
      have c0_1 : w1.cell? ⟨w.heap.size, 1, none⟩ = some (.int .i64 b) := (hb.cell (by simp; try omega)).trans ((((Blk.new' (by simp)).alloc _).alloc _).cell 1)
      have c0_2 : w1.cell? ⟨w.heap.size, 2, none⟩ = some (.int .i64 c) := (hb.cell (by simp; try omega)).trans ((((Blk.new' (by simp)).alloc _).alloc _).cell 2)
      have c1_0 : w1.cell? ⟨w.heap.size + 1, 0, none⟩ = some (.int .i64 0) := (hb.cell (by simp; try omega)).trans (((Blk.new' (by simp)).alloc _).cell 0)
      have c1_1 : w1.cell? ⟨w.heap.size + 1, 1, none⟩ = some (.int .i64 0) := (hb.cell (by simp; try omega)).trans (((Blk.new' (by simp)).alloc _).cell 1)
      have c1_2 : w1.cell? ⟨w.heap.size + 1, 2, none⟩ = some (.int .i64 0) := (hb.cell (by simp; try omega)).trans (((Blk.new' (by simp)).alloc _).cell 2)
      have c2_0 : w1.cell? ⟨w.heap.size + 1 + 1, 0, none⟩ = some (.int .i64 0) := (hb.cell (by simp; try omega)).trans ((Blk.new' (by simp)).cell 0)
      have c2_1 : w1.cell? ⟨w.heap.size + 1 + 1, 1, none⟩ = some (.int .i64 0) := (hb.cell (by simp; try omega)).trans ((Blk.new' (by simp)).cell 1)
      have c2_2 : w1.cell? ⟨w.heap.size + 1 + 1, 2, none⟩ = some (.int .i64 0) := (hb.cell (by simp; try omega)).trans ((Blk.new' (by simp)).cell 2)
      have f1_0 : w1.frozen? ⟨w.heap.size + 1, 0, none⟩ = false := (hb.frozen (by simp; try omega)).trans (((Blk.new' (by simp)).alloc _).frozen 0)
      have f1_1 : w1.frozen? ⟨w.heap.size + 1, 1, none⟩ = false := (hb.frozen (by simp; try omega)).trans (((Blk.new' (by simp)).alloc _).frozen 1)
      have f1_2 : w1.frozen? ⟨w.heap.size + 1, 2, none⟩ = false := (hb.frozen (by simp; try omega)).trans (((Blk.new' (by simp)).alloc _).frozen 2)
      have f2_0 : w1.frozen? ⟨w.heap.size + 1 + 1, 0, none⟩ = false := (hb.frozen (by simp; try omega)).trans ((Blk.new' (by simp)).frozen 0)
      have f2_1 : w1.frozen? ⟨w.heap.size + 1 + 1, 1, none⟩ = false := (hb.frozen (by simp; try omega)).trans ((Blk.new' (by simp)).frozen 1)
      have f2_2 : w1.frozen? ⟨w.heap.size + 1 + 1, 2, none⟩ = false := (hb.frozen (by simp; try omega)).trans ((Blk.new' (by simp)).frozen 2)
      have X1 : Blk w1 (w.heap.size + 1) 25 #[.int .i64 0, .int .i64 0, .int .i64 0] := ((Blk.new' (by simp)).alloc _).below hb (by simp; try omega)
      have X2 : Blk w1 (w.heap.size + 1 + 1) 25 #[.int .i64 0, .int .i64 0, .int .i64 0] := (Blk.new' (by simp)).below hb (by simp; try omega)
      have Bt : Below w.heap.size w w1 := ((((Below.refl _ _).alloc (Nat.le_refl _) _).alloc (by simp; try omega) _).alloc (by simp; try omega) _).trans (hb.mono (by simp; try omega))
      clear hb
      rw [H0.out]
      go_wp2_with fail
      obtain ⟨Q0, Q1⟩ := out2 X1 X2 (by omega) (.int .i64 (0)) (.int .i64 (0)) (.int .i64 (0)) (.int .i64 (0)) (.int .i64 (0)) (.int .i64 (0))
      obtain ⟨q0_0, q0_1, q0_2⟩ := Q0.three
      obtain ⟨q1_0, q1_1, q1_2⟩ := Q1.three
      refine bodyPost_ret (v := .tuple #[.agg #[.int .i64 0, .int .i64 0, .int .i64 0], .agg #[.int .i64 0, .int .i64 0, .int .i64 0], .bool false]) ?hr rfl ⟨rfl, ?_⟩
      (case hr => simp [results, Try.results36, go_sem, q0_0, q0_1, q0_2, q1_0, q1_1, q1_2])
      (repeat (first | with_reducible exact Bt | with_reducible exact Below.refl _ _ | with_reducible refine Below.setCell ?_ (by first | (dsimp only; omega) | (simp; done) | (simp; omega)) _ | with_reducible refine keepBN ?_ | with_reducible refine keepB ?_ | with_reducible refine Below.alloc ?_ (by simp) _ | refine Below.drew ?_))
    · rw [show cutB a b c k = true by simp [cutB_of, g0, g1], flV_yes, flV_yes]
      have H0 := Lib.hid g0
      clear g0
      go_enter Try.func36, Try.ntmps36
      go_wp2_with fail
      refine (spStep_any _ _ _ _ _).mono ?_
      rintro e w1 ⟨rfl, hb⟩
      have hs : w.heap.size + 3 ≤ w1.heap.size := by have := hb.size; (try simp at this); omega
      have c0_0 : w1.cell? ⟨w.heap.size, 0, none⟩ = some (.int .i64 a) := (hb.cell (by simp; try omega)).trans ((((Blk.new' (by simp)).alloc _).alloc _).cell 0)
      have c0_1 : w1.cell? ⟨w.heap.size, 1, none⟩ = some (.int .i64 b) := (hb.cell (by simp; try omega)).trans ((((Blk.new' (by simp)).alloc _).alloc _).cell 1)
      have c0_2 : w1.cell? ⟨w.heap.size, 2, none⟩ = some (.int .i64 c) := (hb.cell (by simp; try omega)).trans ((((Blk.new' (by simp)).alloc _).alloc _).cell 2)
      have c1_0 : w1.cell? ⟨w.heap.size + 1, 0, none⟩ = some (.int .i64 0) := (hb.cell (by simp; try omega)).trans (((Blk.new' (by simp)).alloc _).cell 0)
      have c1_1 : w1.cell? ⟨w.heap.size + 1, 1, none⟩ = some (.int .i64 0) := (hb.cell (by simp; try omega)).trans (((Blk.new' (by simp)).alloc _).cell 1)
      have c1_2 : w1.cell? ⟨w.heap.size + 1, 2, none⟩ = some (.int .i64 0) := (hb.cell (by simp; try omega)).trans (((Blk.new' (by simp)).alloc _).cell 2)
      have c2_0 : w1.cell? ⟨w.heap.size + 1 + 1, 0, none⟩ = some (.int .i64 0) := (hb.cell (by simp; try omega)).trans ((Blk.new' (by simp)).cell 0)
      have c2_1 : w1.cell? ⟨w.heap.size + 1 + 1, 1, none⟩ = some (.int .i64 0) := (hb.cell (by simp; try omega)).trans ((Blk.new' (by simp)).cell 1)
      have c2_2 : w1.cell? ⟨w.heap.size + 1 + 1, 2, none⟩ = some (.int .i64 0) := (hb.cell (by simp; try omega)).trans ((Blk.new' (by simp)).cell 2)
      have f1_0 : w1.frozen? ⟨w.heap.size + 1, 0, none⟩ = false := (hb.frozen (by simp; try omega)).trans (((Blk.new' (by simp)).alloc _).frozen 0)
      have f1_1 : w1.frozen? ⟨w.heap.size + 1, 1, none⟩ = false := (hb.frozen (by simp; try omega)).trans (((Blk.new' (by simp)).alloc _).frozen 1)
      have f1_2 : w1.frozen? ⟨w.heap.size + 1, 2, none⟩ = false := (hb.frozen (by simp; try omega)).trans (((Blk.new' (by simp)).alloc _).frozen 2)
      have f2_0 : w1.frozen? ⟨w.heap.size + 1 + 1, 0, none⟩ = false := (hb.frozen (by simp; try omega)).trans ((Blk.new' (by simp)).frozen 0)
      have f2_1 : w1.frozen? ⟨w.heap.size + 1 + 1, 1, none⟩ = false := (hb.frozen (by simp; try omega)).trans ((Blk.new' (by simp)).frozen 1)
      have f2_2 : w1.frozen? ⟨w.heap.size + 1 + 1, 2, none⟩ = false := (hb.frozen (by simp; try omega)).trans ((Blk.new' (by simp)).frozen 2)
      have X1 : Blk w1 (w.heap.size + 1) 25 #[.int .i64 0, .int .i64 0, .int .i64 0] := ((Blk.new' (by simp)).alloc _).below hb (by simp; try omega)
      have X2 : Blk w1 (w.heap.size + 1 + 1) 25 #[.int .i64 0, .int .i64 0, .int .i64 0] := (Blk.new' (by simp)).below hb (by simp; try omega)
      have Bt : Below w.heap.size w w1 := ((((Below.refl _ _).alloc (Nat.le_refl _) _).alloc (by simp; try omega) _).alloc (by simp; try omega) _).trans (hb.mono (by simp; try omega))
      clear hb
      rw [H0.out]
      go_wp2_with fail
      go_region
      all_goals go_wp2_with fail
      all_goals (first | (obtain ⟨Q0, Q1⟩ := out2 X1 X2 (by omega) (.int .i64 (k)) (.int .i64 (b)) (.int .i64 (c)) (.int .i64 (a - k)) (.int .i64 (b)) (.int .i64 (c)); obtain ⟨q0_0, q0_1, q0_2⟩ := Q0.three; obtain ⟨q1_0, q1_1, q1_2⟩ := Q1.three; refine bodyPost_ret (v := .tuple #[.agg #[.int .i64 (k), .int .i64 (b), .int .i64 (c)], .agg #[.int .i64 (a - k), .int .i64 (b), .int .i64 (c)], .bool true]) ?hr rfl ⟨rfl, ?_⟩; (case hr => simp [results, Try.results36, go_sem, q0_0, q0_1, q0_2, q1_0, q1_1, q1_2]); (repeat (first | with_reducible exact Bt | with_reducible exact Below.refl _ _ | with_reducible refine Below.setCell ?_ (by first | (dsimp only; omega) | (simp; done) | (simp; omega)) _ | with_reducible refine keepBN ?_ | with_reducible refine keepB ?_ | with_reducible refine Below.alloc ?_ (by simp) _ | refine Below.drew ?_)); done))

set_option maxHeartbeats 2000000 in
theorem implCutSpiral_any (a b c k : Int) (w : World) :
    Calls Try.prog 37 #[.agg #[.int .i64 a, .int .i64 b, .int .i64 c], .int .i64 k] w fun e w' => e = .returned (.tuple #[flV (cutB a b c k) k b c, flV (cutB a b c k) (a - k) b c, .bool (cutB a b c k)]) ∧ Below w.heap.size w w' := by
  cases g0 : spiB a b c
  · have hV : cutB a b c k = false := by simp [cutB, g0]
    rw [hV, flV_no, flV_no]
    clear hV
    have H0 := Lib.hid g0
    clear g0
    go_enter Try.func37, Try.ntmps37
    go_wp2_with fail
    refine (impSpi_any _ _ _ _).mono ?_
    rintro e w1 ⟨rfl, hb⟩
    have hs : w.heap.size + 3 ≤ w1.heap.size := by have := hb.size; (try simp at this); omega
    have c0_0 : w1.cell? ⟨w.heap.size, 0, none⟩ = some (.int .i64 a) := (hb.cell (by simp; try omega)).trans ((((Blk.new' (by simp)).alloc _).alloc _).cell 0)
    have c0_1 : w1.cell? ⟨w.heap.size, 1, none⟩ = some (.int .i64 b) := (hb.cell (by simp; try omega)).trans ((((Blk.new' (by simp)).alloc _).alloc _).cell 1)
    have c0_2 : w1.cell? ⟨w.heap.size, 2, none⟩ = some (.int .i64 c) := (hb.cell (by simp; try omega)).trans ((((Blk.new' (by simp)).alloc _).alloc _).cell 2)
    have c1_0 : w1.cell? ⟨w.heap.size + 1, 0, none⟩ = some (.int .i64 0) := (hb.cell (by simp; try omega)).trans (((Blk.new' (by simp)).alloc _).cell 0)
    have c1_1 : w1.cell? ⟨w.heap.size + 1, 1, none⟩ = some (.int .i64 0) := (hb.cell (by simp; try omega)).trans (((Blk.new' (by simp)).alloc _).cell 1)
    have c1_2 : w1.cell? ⟨w.heap.size + 1, 2, none⟩ = some (.int .i64 0) := (hb.cell (by simp; try omega)).trans (((Blk.new' (by simp)).alloc _).cell 2)
    have c2_0 : w1.cell? ⟨w.heap.size + 1 + 1, 0, none⟩ = some (.int .i64 0) := (hb.cell (by simp; try omega)).trans ((Blk.new' (by simp)).cell 0)
    have c2_1 : w1.cell? ⟨w.heap.size + 1 + 1, 1, none⟩ = some (.int .i64 0) := (hb.cell (by simp; try omega)).trans ((Blk.new' (by simp)).cell 1)
    have c2_2 : w1.cell? ⟨w.heap.size + 1 + 1, 2, none⟩ = some (.int .i64 0) := (hb.cell (by simp; try omega)).trans ((Blk.new' (by simp)).cell 2)
    have f1_0 : w1.frozen? ⟨w.heap.size + 1, 0, none⟩ = false := (hb.frozen (by simp; try omega)).trans (((Blk.new' (by simp)).alloc _).frozen 0)
    have f1_1 : w1.frozen? ⟨w.heap.size + 1, 1, none⟩ = false := (hb.frozen (by simp; try omega)).trans (((Blk.new' (by simp)).alloc _).frozen 1)
    have f1_2 : w1.frozen? ⟨w.heap.size + 1, 2, none⟩ = false := (hb.frozen (by simp; try omega)).trans (((Blk.new' (by simp)).alloc _).frozen 2)
    have f2_0 : w1.frozen? ⟨w.heap.size + 1 + 1, 0, none⟩ = false := (hb.frozen (by simp; try omega)).trans ((Blk.new' (by simp)).frozen 0)
    have f2_1 : w1.frozen? ⟨w.heap.size + 1 + 1, 1, none⟩ = false := (hb.frozen (by simp; try omega)).trans ((Blk.new' (by simp)).frozen 1)
    have f2_2 : w1.frozen? ⟨w.heap.size + 1 + 1, 2, none⟩ = false := (hb.frozen (by simp; try omega)).trans ((Blk.new' (by simp)).frozen 2)
    have X1 : Blk w1 (w.heap.size + 1) 25 #[.int .i64 0, .int .i64 0, .int .i64 0] := ((Blk.new' (by simp)).alloc _).below hb (by simp; try omega)
    have X2 : Blk w1 (w.heap.size + 1 + 1) 25 #[.int .i64 0, .int .i64 0, .int .i64 0] := (Blk.new' (by simp)).below hb (by simp; try omega)
    have Bt : Below w.heap.size w w1 := ((((Below.refl _ _).alloc (Nat.le_refl _) _).alloc (by simp; try omega) _).alloc (by simp; try omega) _).trans (hb.mono (by simp; try omega))
    clear hb
    rw [H0.out]
    go_wp2_with fail
    obtain ⟨Q0, Q1⟩ := out2 X1 X2 (by omega) (.int .i64 (0)) (.int .i64 (0)) (.int .i64 (0)) (.int .i64 (0)) (.int .i64 (0)) (.int .i64 (0))
    obtain ⟨q0_0, q0_1, q0_2⟩ := Q0.three
    obtain ⟨q1_0, q1_1, q1_2⟩ := Q1.three
    refine bodyPost_ret (v := .tuple #[.agg #[.int .i64 0, .int .i64 0, .int .i64 0], .agg #[.int .i64 0, .int .i64 0, .int .i64 0], .bool false]) ?hr rfl ⟨rfl, ?_⟩
    (case hr => simp [results, Try.results37, go_sem, q0_0, q0_1, q0_2, q1_0, q1_1, q1_2])
    (repeat (first | with_reducible exact Bt | with_reducible exact Below.refl _ _ | with_reducible refine Below.setCell ?_ (by first | (dsimp only; omega) | (simp; done) | (simp; omega)) _ | with_reducible refine keepBN ?_ | with_reducible refine keepB ?_ | with_reducible refine Below.alloc ?_ (by simp) _ | refine Below.drew ?_))
  · have b0 := spiB_le g0
    cases g1 : inB k 1 (a - 1)
    · have hV : cutB a b c k = false := by simp [cutB, g1]
      rw [hV, flV_no, flV_no]
      clear hV
      have H0 := Lib.hid g0
      clear g0
      have H1 := Lib.hid g1
      clear g1
      go_enter Try.func37, Try.ntmps37
      go_wp2_with fail
      refine (impSpi_any _ _ _ _).mono ?_
      rintro e w1 ⟨rfl, hb⟩
      have hs : w.heap.size + 3 ≤ w1.heap.size := by have := hb.size; (try simp at this); omega
      have c0_0 : w1.cell? ⟨w.heap.size, 0, none⟩ = some (.int .i64 a) := (hb.cell (by simp; try omega)).trans ((((Blk.new' (by simp)).alloc _).alloc _).cell 0)
      have c0_1 : w1.cell? ⟨w.heap.size, 1, none⟩ = some (.int .i64 b) := (hb.cell (by simp; try omega)).trans ((((Blk.new' (by simp)).alloc _).alloc _).cell 1)
      have c0_2 : w1.cell? ⟨w.heap.size, 2, none⟩ = some (.int .i64 c) := (hb.cell (by simp; try omega)).trans ((((Blk.new' (by simp)).alloc _).alloc _).cell 2)
      have c1_0 : w1.cell? ⟨w.heap.size + 1, 0, none⟩ = some (.int .i64 0) := (hb.cell (by simp; try omega)).trans (((Blk.new' (by simp)).alloc _).cell 0)
      have c1_1 : w1.cell? ⟨w.heap.size + 1, 1, none⟩ = some (.int .i64 0) := (hb.cell (by simp; try omega)).trans (((Blk.new' (by simp)).alloc _).cell 1)
      have c1_2 : w1.cell? ⟨w.heap.size + 1, 2, none⟩ = some (.int .i64 0) := (hb.cell (by simp; try omega)).trans (((Blk.new' (by simp)).alloc _).cell 2)
      have c2_0 : w1.cell? ⟨w.heap.size + 1 + 1, 0, none⟩ = some (.int .i64 0) := (hb.cell (by simp; try omega)).trans ((Blk.new' (by simp)).cell 0)
      have c2_1 : w1.cell? ⟨w.heap.size + 1 + 1, 1, none⟩ = some (.int .i64 0) := (hb.cell (by simp; try omega)).trans ((Blk.new' (by simp)).cell 1)
      have c2_2 : w1.cell? ⟨w.heap.size + 1 + 1, 2, none⟩ = some (.int .i64 0) := (hb.cell (by simp; try omega)).trans ((Blk.new' (by simp)).cell 2)
      have f1_0 : w1.frozen? ⟨w.heap.size + 1, 0, none⟩ = false := (hb.frozen (by simp; try omega)).trans (((Blk.new' (by simp)).alloc _).frozen 0)
      have f1_1 : w1.frozen? ⟨w.heap.size + 1, 1, none⟩ = false := (hb.frozen (by simp; try omega)).trans (((Blk.new' (by simp)).alloc _).frozen 1)
      have f1_2 : w1.frozen? ⟨w.heap.size + 1, 2, none⟩ = false := (hb.frozen (by simp; try omega)).trans (((Blk.new' (by simp)).alloc _).frozen 2)
      have f2_0 : w1.frozen? ⟨w.heap.size + 1 + 1, 0, none⟩ = false := (hb.frozen (by simp; try omega)).trans ((Blk.new' (by simp)).frozen 0)
      have f2_1 : w1.frozen? ⟨w.heap.size + 1 + 1, 1, none⟩ = false := (hb.frozen (by simp; try omega)).trans ((Blk.new' (by simp)).frozen 1)
      have f2_2 : w1.frozen? ⟨w.heap.size + 1 + 1, 2, none⟩ = false := (hb.frozen (by simp; try omega)).trans ((Blk.new' (by simp)).frozen 2)
      have X1 : Blk w1 (w.heap.size + 1) 25 #[.int .i64 0, .int .i64 0, .int .i64 0] := ((Blk.new' (by simp)).alloc _).below hb (by simp; try omega)
      have X2 : Blk w1 (w.heap.size + 1 + 1) 25 #[.int .i64 0, .int .i64 0, .int .i64 0] := (Blk.new' (by simp)).below hb (by simp; try omega)
      have Bt : Below w.heap.size w w1 := ((((Below.refl _ _).alloc (Nat.le_refl _) _).alloc (by simp; try omega) _).alloc (by simp; try omega) _).trans (hb.mono (by simp; try omega))
      clear hb
      rw [H0.out]
      go_wp2_with fail
      refine (isWithin_any _ _ _ _).mono ?_
      rintro e w' ⟨rfl, rfl⟩
      rw [H1.out]
      go_wp2_with fail
      obtain ⟨Q0, Q1⟩ := out2 X1 X2 (by omega) (.int .i64 (0)) (.int .i64 (0)) (.int .i64 (0)) (.int .i64 (0)) (.int .i64 (0)) (.int .i64 (0))
      obtain ⟨q0_0, q0_1, q0_2⟩ := Q0.three
      obtain ⟨q1_0, q1_1, q1_2⟩ := Q1.three
      refine bodyPost_ret (v := .tuple #[.agg #[.int .i64 0, .int .i64 0, .int .i64 0], .agg #[.int .i64 0, .int .i64 0, .int .i64 0], .bool false]) ?hr rfl ⟨rfl, ?_⟩
      (case hr => simp [results, Try.results37, go_sem, q0_0, q0_1, q0_2, q1_0, q1_1, q1_2])
      (repeat (first | with_reducible exact Bt | with_reducible exact Below.refl _ _ | with_reducible refine Below.setCell ?_ (by first | (dsimp only; omega) | (simp; done) | (simp; omega)) _ | with_reducible refine keepBN ?_ | with_reducible refine keepB ?_ | with_reducible refine Below.alloc ?_ (by simp) _ | refine Below.drew ?_))
    · have b1 := inB_le g1
      rw [show cutB a b c k = true by simp [cutB, g0, g1], flV_yes, flV_yes]
      have H0 := Lib.hid g0
      clear g0
      have H1 := Lib.hid g1
      clear g1
      go_enter Try.func37, Try.ntmps37
      go_wp2_with fail
      refine (impSpi_any _ _ _ _).mono ?_
      rintro e w1 ⟨rfl, hb⟩
      have hs : w.heap.size + 3 ≤ w1.heap.size := by have := hb.size; (try simp at this); omega
      have c0_0 : w1.cell? ⟨w.heap.size, 0, none⟩ = some (.int .i64 a) := (hb.cell (by simp; try omega)).trans ((((Blk.new' (by simp)).alloc _).alloc _).cell 0)
      have c0_1 : w1.cell? ⟨w.heap.size, 1, none⟩ = some (.int .i64 b) := (hb.cell (by simp; try omega)).trans ((((Blk.new' (by simp)).alloc _).alloc _).cell 1)
      have c0_2 : w1.cell? ⟨w.heap.size, 2, none⟩ = some (.int .i64 c) := (hb.cell (by simp; try omega)).trans ((((Blk.new' (by simp)).alloc _).alloc _).cell 2)
      have c1_0 : w1.cell? ⟨w.heap.size + 1, 0, none⟩ = some (.int .i64 0) := (hb.cell (by simp; try omega)).trans (((Blk.new' (by simp)).alloc _).cell 0)
      have c1_1 : w1.cell? ⟨w.heap.size + 1, 1, none⟩ = some (.int .i64 0) := (hb.cell (by simp; try omega)).trans (((Blk.new' (by simp)).alloc _).cell 1)
      have c1_2 : w1.cell? ⟨w.heap.size + 1, 2, none⟩ = some (.int .i64 0) := (hb.cell (by simp; try omega)).trans (((Blk.new' (by simp)).alloc _).cell 2)
      have c2_0 : w1.cell? ⟨w.heap.size + 1 + 1, 0, none⟩ = some (.int .i64 0) := (hb.cell (by simp; try omega)).trans ((Blk.new' (by simp)).cell 0)
      have c2_1 : w1.cell? ⟨w.heap.size + 1 + 1, 1, none⟩ = some (.int .i64 0) := (hb.cell (by simp; try omega)).trans ((Blk.new' (by simp)).cell 1)
      have c2_2 : w1.cell? ⟨w.heap.size + 1 + 1, 2, none⟩ = some (.int .i64 0) := (hb.cell (by simp; try omega)).trans ((Blk.new' (by simp)).cell 2)
      have f1_0 : w1.frozen? ⟨w.heap.size + 1, 0, none⟩ = false := (hb.frozen (by simp; try omega)).trans (((Blk.new' (by simp)).alloc _).frozen 0)
      have f1_1 : w1.frozen? ⟨w.heap.size + 1, 1, none⟩ = false := (hb.frozen (by simp; try omega)).trans (((Blk.new' (by simp)).alloc _).frozen 1)
      have f1_2 : w1.frozen? ⟨w.heap.size + 1, 2, none⟩ = false := (hb.frozen (by simp; try omega)).trans (((Blk.new' (by simp)).alloc _).frozen 2)
      have f2_0 : w1.frozen? ⟨w.heap.size + 1 + 1, 0, none⟩ = false := (hb.frozen (by simp; try omega)).trans ((Blk.new' (by simp)).frozen 0)
      have f2_1 : w1.frozen? ⟨w.heap.size + 1 + 1, 1, none⟩ = false := (hb.frozen (by simp; try omega)).trans ((Blk.new' (by simp)).frozen 1)
      have f2_2 : w1.frozen? ⟨w.heap.size + 1 + 1, 2, none⟩ = false := (hb.frozen (by simp; try omega)).trans ((Blk.new' (by simp)).frozen 2)
      have X1 : Blk w1 (w.heap.size + 1) 25 #[.int .i64 0, .int .i64 0, .int .i64 0] := ((Blk.new' (by simp)).alloc _).below hb (by simp; try omega)
      have X2 : Blk w1 (w.heap.size + 1 + 1) 25 #[.int .i64 0, .int .i64 0, .int .i64 0] := (Blk.new' (by simp)).below hb (by simp; try omega)
      have Bt : Below w.heap.size w w1 := ((((Below.refl _ _).alloc (Nat.le_refl _) _).alloc (by simp; try omega) _).alloc (by simp; try omega) _).trans (hb.mono (by simp; try omega))
      clear hb
      rw [H0.out]
      go_wp2_with fail
      refine (isWithin_any _ _ _ _).mono ?_
      rintro e w' ⟨rfl, rfl⟩
      rw [H1.out]
      go_wp2_with fail
      have d0_0 := fun o => keepA (o := o) c0_0
      have e0_0 := fun o o' => keepA (o := o) (keepA (o := o') c0_0)
      have d0_1 := fun o => keepA (o := o) c0_1
      have e0_1 := fun o o' => keepA (o := o) (keepA (o := o') c0_1)
      have d0_2 := fun o => keepA (o := o) c0_2
      have e0_2 := fun o o' => keepA (o := o) (keepA (o := o') c0_2)
      have d1_0 := fun o => keepA (o := o) c1_0
      have e1_0 := fun o o' => keepA (o := o) (keepA (o := o') c1_0)
      have h1_0 := fun o o' => keepF (o := o) (by simp; omega) (keepF (o := o') (by simp; omega) f1_0)
      have d1_1 := fun o => keepA (o := o) c1_1
      have e1_1 := fun o o' => keepA (o := o) (keepA (o := o') c1_1)
      have h1_1 := fun o o' => keepF (o := o) (by simp; omega) (keepF (o := o') (by simp; omega) f1_1)
      have d1_2 := fun o => keepA (o := o) c1_2
      have e1_2 := fun o o' => keepA (o := o) (keepA (o := o') c1_2)
      have h1_2 := fun o o' => keepF (o := o) (by simp; omega) (keepF (o := o') (by simp; omega) f1_2)
      have d2_0 := fun o => keepA (o := o) c2_0
      have e2_0 := fun o o' => keepA (o := o) (keepA (o := o') c2_0)
      have h2_0 := fun o o' => keepF (o := o) (by simp; omega) (keepF (o := o') (by simp; omega) f2_0)
      have d2_1 := fun o => keepA (o := o) c2_1
      have e2_1 := fun o o' => keepA (o := o) (keepA (o := o') c2_1)
      have h2_1 := fun o o' => keepF (o := o) (by simp; omega) (keepF (o := o') (by simp; omega) f2_1)
      have d2_2 := fun o => keepA (o := o) c2_2
      have e2_2 := fun o o' => keepA (o := o) (keepA (o := o') c2_2)
      have h2_2 := fun o o' => keepF (o := o) (by simp; omega) (keepF (o := o') (by simp; omega) f2_2)
      go_region
      all_goals go_wp2_with fail
      all_goals go_region
      all_goals go_wp2_with fail
      all_goals (first | (obtain ⟨Q0, Q1⟩ := out2 ((X1.alloc (.cells #[.int .i64 (k), .int .i64 b, .int .i64 c] 25)).alloc (.cells #[.int .i64 (a - k), .int .i64 b, .int .i64 c] 25)) ((X2.alloc (.cells #[.int .i64 (k), .int .i64 b, .int .i64 c] 25)).alloc (.cells #[.int .i64 (a - k), .int .i64 b, .int .i64 c] 25)) (by omega) (.int .i64 (k)) (.int .i64 (b)) (.int .i64 (c)) (.int .i64 (a - k)) (.int .i64 (b)) (.int .i64 (c)); obtain ⟨q0_0, q0_1, q0_2⟩ := Q0.three; obtain ⟨q1_0, q1_1, q1_2⟩ := Q1.three; refine bodyPost_ret (v := .tuple #[.agg #[.int .i64 (k), .int .i64 (b), .int .i64 (c)], .agg #[.int .i64 (a - k), .int .i64 (b), .int .i64 (c)], .bool true]) ?hr rfl ⟨rfl, ?_⟩; (case hr => simp [results, Try.results37, go_sem, q0_0, q0_1, q0_2, q1_0, q1_1, q1_2]); (repeat (first | with_reducible exact Bt | with_reducible exact Below.refl _ _ | with_reducible refine Below.setCell ?_ (by first | (dsimp only; omega) | (simp; done) | (simp; omega)) _ | with_reducible refine keepBN ?_ | with_reducible refine keepB ?_ | with_reducible refine Below.alloc ?_ (by simp) _ | refine Below.drew ?_)); done) | (obtain ⟨Q0, Q1⟩ := out2 ((X1.alloc (.cells #[.int .i64 (a - k), .int .i64 b, .int .i64 c] 25)).alloc (.cells #[.int .i64 (k), .int .i64 b, .int .i64 c] 25)) ((X2.alloc (.cells #[.int .i64 (a - k), .int .i64 b, .int .i64 c] 25)).alloc (.cells #[.int .i64 (k), .int .i64 b, .int .i64 c] 25)) (by omega) (.int .i64 (k)) (.int .i64 (b)) (.int .i64 (c)) (.int .i64 (a - k)) (.int .i64 (b)) (.int .i64 (c)); obtain ⟨q0_0, q0_1, q0_2⟩ := Q0.three; obtain ⟨q1_0, q1_1, q1_2⟩ := Q1.three; refine bodyPost_ret (v := .tuple #[.agg #[.int .i64 (k), .int .i64 (b), .int .i64 (c)], .agg #[.int .i64 (a - k), .int .i64 (b), .int .i64 (c)], .bool true]) ?hr rfl ⟨rfl, ?_⟩; (case hr => simp [results, Try.results37, go_sem, q0_0, q0_1, q0_2, q1_0, q1_1, q1_2]); (repeat (first | with_reducible exact Bt | with_reducible exact Below.refl _ _ | with_reducible refine Below.setCell ?_ (by first | (dsimp only; omega) | (simp; done) | (simp; omega)) _ | with_reducible refine keepBN ?_ | with_reducible refine keepB ?_ | with_reducible refine Below.alloc ?_ (by simp) _ | refine Below.drew ?_)); done))


end Go.Proofs.Ytlhafgepalbehaa
