/- Contracts: flights as results, on both sides. -/
import Derived.Test.YtdeckfdmhpiokaaRiB
namespace Go.Proofs.Ytdeckfdmhpiokaa
open Go.RowKit

def flV (v : Bool) (a b c : Int) : Value := .agg #[.int .i64 (orI v a), .int .i64 (orI v b), .int .i64 (orI v c)]
theorem flV_no (a b c : Int) : flV false a b c = .agg #[.int .i64 0, .int .i64 0, .int .i64 0] := rfl
theorem flV_yes (a b c : Int) : flV true a b c = .agg #[.int .i64 a, .int .i64 b, .int .i64 c] := rfl
theorem keepF {w : World} {o : Obj} {a : Addr} (hb : a.block < w.heap.size) (h : w.frozen? a = false) : (w.alloc o).frozen? a = false := ((below_alloc w o).frozen hb).trans h
theorem out2 {w : World} {g h : Nat} {t : TypeId} {z0 z1 z2 y0 y1 y2 : Value} (X : Blk w g t #[z0, z1, z2]) (Y : Blk w h t #[y0, y1, y2]) (ne : g ≠ h) (a b c d e f : Value) :
    Blk ((((((w.setCell ⟨g, 0, none⟩ a).setCell ⟨g, 1, none⟩ b).setCell ⟨g, 2, none⟩ c).setCell ⟨h, 0, none⟩ d).setCell ⟨h, 1, none⟩ e).setCell ⟨h, 2, none⟩ f) g t #[a, b, c] ∧
    Blk ((((((w.setCell ⟨g, 0, none⟩ a).setCell ⟨g, 1, none⟩ b).setCell ⟨g, 2, none⟩ c).setCell ⟨h, 0, none⟩ d).setCell ⟨h, 1, none⟩ e).setCell ⟨h, 2, none⟩ f) h t #[d, e, f] :=
  ⟨((((((X.set_ 0 a).set_ 1 b).set_ 2 c).far ne _).far ne _).far ne _), ((((((Y.far ne.symm _).far ne.symm _).far ne.symm _).set_ 0 d).set_ 1 e).set_ 2 f)⟩
def timesB (a b c k : Int) : Bool := fliB a b c && (inB k 1 500 && fliB a (b * k) (c * k))
def splitB (a b c k : Int) : Bool := fliB a b c && inB k 1 (a - 1)

set_option maxHeartbeats 1000000 in
theorem specTimesFlight_any (a b c k : Int) (w : World) :
    Calls Try.prog 9 #[.agg #[.int .i64 a, .int .i64 b, .int .i64 c], .int .i64 k] w fun e w' => e = .returned (.tuple #[flV (timesB a b c k) a (b * k) (c * k), .bool (timesB a b c k)]) ∧ Below w.heap.size w w' := by
  cases g0 : fliB a b c
  · have hV : timesB a b c k = false := by simp [timesB, g0]
    rw [hV, flV_no]
    clear hV
    have H0 := Lib.hid g0
    clear g0
    go_enter Try.func9, Try.ntmps9
    go_wp2_with fail
    refine (riGood_any _ _ _ _).mono ?_
    rintro e w1 ⟨rfl, hb⟩
    have hs : w.heap.size + 2 ≤ w1.heap.size := by have := hb.size; (try simp at this); omega
    have c0_0 : w1.cell? ⟨w.heap.size, 0, none⟩ = some (.int .i64 a) := (hb.cell (by simp; try omega)).trans (by simp)
    have c0_1 : w1.cell? ⟨w.heap.size, 1, none⟩ = some (.int .i64 b) := (hb.cell (by simp; try omega)).trans (by simp)
    have c0_2 : w1.cell? ⟨w.heap.size, 2, none⟩ = some (.int .i64 c) := (hb.cell (by simp; try omega)).trans (by simp)
    have c1_0 : w1.cell? ⟨w.heap.size + 1, 0, none⟩ = some (.int .i64 0) := (hb.cell (by simp; try omega)).trans (by simp)
    have c1_1 : w1.cell? ⟨w.heap.size + 1, 1, none⟩ = some (.int .i64 0) := (hb.cell (by simp; try omega)).trans (by simp)
    have c1_2 : w1.cell? ⟨w.heap.size + 1, 2, none⟩ = some (.int .i64 0) := (hb.cell (by simp; try omega)).trans (by simp)
    have f1_0 : w1.frozen? ⟨w.heap.size + 1, 0, none⟩ = false := (hb.frozen (by simp; try omega)).trans (by simp)
    have f1_1 : w1.frozen? ⟨w.heap.size + 1, 1, none⟩ = false := (hb.frozen (by simp; try omega)).trans (by simp)
    have f1_2 : w1.frozen? ⟨w.heap.size + 1, 2, none⟩ = false := (hb.frozen (by simp; try omega)).trans (by simp)
    have Bt : Below w.heap.size w w1 := (((Below.refl _ _).alloc (Nat.le_refl _) _).alloc (by simp; try omega) _).trans (hb.mono (by simp; try omega))
    clear hb
    rw [H0.out]
    go_wp2_with fail
    refine bodyPost_ret (v := .tuple #[.agg #[.int .i64 0, .int .i64 0, .int .i64 0], .bool false]) (by simp [results, Try.results9, go_sem, c1_0, c1_1, c1_2]) rfl ⟨rfl, ?_⟩
    repeat (first | with_reducible exact Bt | with_reducible exact Below.refl _ _ | with_reducible refine Below.setCell ?_ (by first | (dsimp only; omega) | (simp; done) | (simp; omega)) _ | with_reducible refine keepBN ?_ | with_reducible refine Below.drew ?_ | with_reducible refine keepB ?_ | with_reducible refine Below.alloc ?_ (by simp) _)
  · have b0 := fliB_le g0
    cases g1 : inB k 1 500
    · have hV : timesB a b c k = false := by simp [timesB, g1]
      rw [hV, flV_no]
      clear hV
      have H0 := Lib.hid g0
      clear g0
      have H1 := Lib.hid g1
      clear g1
      go_enter Try.func9, Try.ntmps9
      go_wp2_with fail
      refine (riGood_any _ _ _ _).mono ?_
      rintro e w1 ⟨rfl, hb⟩
      have hs : w.heap.size + 2 ≤ w1.heap.size := by have := hb.size; (try simp at this); omega
      have c0_0 : w1.cell? ⟨w.heap.size, 0, none⟩ = some (.int .i64 a) := (hb.cell (by simp; try omega)).trans (by simp)
      have c0_1 : w1.cell? ⟨w.heap.size, 1, none⟩ = some (.int .i64 b) := (hb.cell (by simp; try omega)).trans (by simp)
      have c0_2 : w1.cell? ⟨w.heap.size, 2, none⟩ = some (.int .i64 c) := (hb.cell (by simp; try omega)).trans (by simp)
      have c1_0 : w1.cell? ⟨w.heap.size + 1, 0, none⟩ = some (.int .i64 0) := (hb.cell (by simp; try omega)).trans (by simp)
      have c1_1 : w1.cell? ⟨w.heap.size + 1, 1, none⟩ = some (.int .i64 0) := (hb.cell (by simp; try omega)).trans (by simp)
      have c1_2 : w1.cell? ⟨w.heap.size + 1, 2, none⟩ = some (.int .i64 0) := (hb.cell (by simp; try omega)).trans (by simp)
      have f1_0 : w1.frozen? ⟨w.heap.size + 1, 0, none⟩ = false := (hb.frozen (by simp; try omega)).trans (by simp)
      have f1_1 : w1.frozen? ⟨w.heap.size + 1, 1, none⟩ = false := (hb.frozen (by simp; try omega)).trans (by simp)
      have f1_2 : w1.frozen? ⟨w.heap.size + 1, 2, none⟩ = false := (hb.frozen (by simp; try omega)).trans (by simp)
      have Bt : Below w.heap.size w w1 := (((Below.refl _ _).alloc (Nat.le_refl _) _).alloc (by simp; try omega) _).trans (hb.mono (by simp; try omega))
      clear hb
      rw [H0.out]
      go_wp2_with fail
      refine (l1In_any _ _ _ _).mono ?_
      rintro e w' ⟨rfl, rfl⟩
      rw [H1.out]
      go_wp2_with fail
      refine bodyPost_ret (v := .tuple #[.agg #[.int .i64 0, .int .i64 0, .int .i64 0], .bool false]) (by simp [results, Try.results9, go_sem, c1_0, c1_1, c1_2]) rfl ⟨rfl, ?_⟩
      repeat (first | with_reducible exact Bt | with_reducible exact Below.refl _ _ | with_reducible refine Below.setCell ?_ (by first | (dsimp only; omega) | (simp; done) | (simp; omega)) _ | with_reducible refine keepBN ?_ | with_reducible refine Below.drew ?_ | with_reducible refine keepB ?_ | with_reducible refine Below.alloc ?_ (by simp) _)
    · have b1 := inB_le g1
      obtain ⟨e0, e1⟩ := mul_bd (a := b) (A := 250) (b := k) (B := 500) (by omega) (by omega) (by omega) (by omega)
      obtain ⟨e2, e3⟩ := mul_bd (a := c) (A := 500) (b := k) (B := 500) (by omega) (by omega) (by omega) (by omega)
      cases g2 : fliB a (b * k) (c * k)
      · rw [show timesB a b c k = false by simp [timesB, g0, g1, g2], flV_no]
        have H0 := Lib.hid g0
        clear g0
        have H1 := Lib.hid g1
        clear g1
        have H2 := Lib.hid g2
        clear g2
        go_enter Try.func9, Try.ntmps9
        go_wp2_with fail
        refine (riGood_any _ _ _ _).mono ?_
        rintro e w1 ⟨rfl, hb⟩
        have hs : w.heap.size + 2 ≤ w1.heap.size := by have := hb.size; (try simp at this); omega
        have c0_0 : w1.cell? ⟨w.heap.size, 0, none⟩ = some (.int .i64 a) := (hb.cell (by simp; try omega)).trans (by simp)
        have c0_1 : w1.cell? ⟨w.heap.size, 1, none⟩ = some (.int .i64 b) := (hb.cell (by simp; try omega)).trans (by simp)
        have c0_2 : w1.cell? ⟨w.heap.size, 2, none⟩ = some (.int .i64 c) := (hb.cell (by simp; try omega)).trans (by simp)
        have c1_0 : w1.cell? ⟨w.heap.size + 1, 0, none⟩ = some (.int .i64 0) := (hb.cell (by simp; try omega)).trans (by simp)
        have c1_1 : w1.cell? ⟨w.heap.size + 1, 1, none⟩ = some (.int .i64 0) := (hb.cell (by simp; try omega)).trans (by simp)
        have c1_2 : w1.cell? ⟨w.heap.size + 1, 2, none⟩ = some (.int .i64 0) := (hb.cell (by simp; try omega)).trans (by simp)
        have f1_0 : w1.frozen? ⟨w.heap.size + 1, 0, none⟩ = false := (hb.frozen (by simp; try omega)).trans (by simp)
        have f1_1 : w1.frozen? ⟨w.heap.size + 1, 1, none⟩ = false := (hb.frozen (by simp; try omega)).trans (by simp)
        have f1_2 : w1.frozen? ⟨w.heap.size + 1, 2, none⟩ = false := (hb.frozen (by simp; try omega)).trans (by simp)
        have Bt : Below w.heap.size w w1 := (((Below.refl _ _).alloc (Nat.le_refl _) _).alloc (by simp; try omega) _).trans (hb.mono (by simp; try omega))
        clear hb
        rw [H0.out]
        go_wp2_with fail
        refine (l1In_any _ _ _ _).mono ?_
        rintro e w' ⟨rfl, rfl⟩
        rw [H1.out]
        go_wp2_with fail
        refine (riGood_any _ _ _ _).mono ?_
        rintro e w2 ⟨rfl, hb⟩
        have x0 : w2.cell? ⟨w1.heap.size, 0, none⟩ = some (.int .i64 (a)) := (hb.cell (by simp)).trans (by simp)
        have x1 : w2.cell? ⟨w1.heap.size, 1, none⟩ = some (.int .i64 (b * k)) := (hb.cell (by simp)).trans (by simp)
        have x2 : w2.cell? ⟨w1.heap.size, 2, none⟩ = some (.int .i64 (c * k)) := (hb.cell (by simp)).trans (by simp)
        replace hb := (below_alloc _ _).trans (hb.mono (by simp))
        replace c0_0 := (hb.cell (p := ⟨w.heap.size, 0, none⟩) (by show w.heap.size < w1.heap.size; omega)).trans c0_0
        replace c0_1 := (hb.cell (p := ⟨w.heap.size, 1, none⟩) (by show w.heap.size < w1.heap.size; omega)).trans c0_1
        replace c0_2 := (hb.cell (p := ⟨w.heap.size, 2, none⟩) (by show w.heap.size < w1.heap.size; omega)).trans c0_2
        replace c1_0 := (hb.cell (p := ⟨w.heap.size + 1, 0, none⟩) (by show w.heap.size + 1 < w1.heap.size; omega)).trans c1_0
        replace c1_1 := (hb.cell (p := ⟨w.heap.size + 1, 1, none⟩) (by show w.heap.size + 1 < w1.heap.size; omega)).trans c1_1
        replace c1_2 := (hb.cell (p := ⟨w.heap.size + 1, 2, none⟩) (by show w.heap.size + 1 < w1.heap.size; omega)).trans c1_2
        replace f1_0 := (hb.frozen (p := ⟨w.heap.size + 1, 0, none⟩) (by show w.heap.size + 1 < w1.heap.size; omega)).trans f1_0
        replace f1_1 := (hb.frozen (p := ⟨w.heap.size + 1, 1, none⟩) (by show w.heap.size + 1 < w1.heap.size; omega)).trans f1_1
        replace f1_2 := (hb.frozen (p := ⟨w.heap.size + 1, 2, none⟩) (by show w.heap.size + 1 < w1.heap.size; omega)).trans f1_2
        replace Bt := Bt.trans (hb.mono (by omega))
        replace hs : w.heap.size + 2 ≤ w2.heap.size := by have := hb.size; omega
        clear hb
        rw [H2.out]
        go_wp2_with fail
        refine bodyPost_ret (v := .tuple #[.agg #[.int .i64 0, .int .i64 0, .int .i64 0], .bool false]) (by simp [results, Try.results9, go_sem, c1_0, c1_1, c1_2]) rfl ⟨rfl, ?_⟩
        repeat (first | with_reducible exact Bt | with_reducible exact Below.refl _ _ | with_reducible refine Below.setCell ?_ (by first | (dsimp only; omega) | (simp; done) | (simp; omega)) _ | with_reducible refine keepBN ?_ | with_reducible refine Below.drew ?_ | with_reducible refine keepB ?_ | with_reducible refine Below.alloc ?_ (by simp) _)
      · rw [show timesB a b c k = true by simp [timesB, g0, g1, g2], flV_yes]
        have H0 := Lib.hid g0
        clear g0
        have H1 := Lib.hid g1
        clear g1
        have H2 := Lib.hid g2
        clear g2
        go_enter Try.func9, Try.ntmps9
        go_wp2_with fail
        refine (riGood_any _ _ _ _).mono ?_
        rintro e w1 ⟨rfl, hb⟩
        have hs : w.heap.size + 2 ≤ w1.heap.size := by have := hb.size; (try simp at this); omega
        have c0_0 : w1.cell? ⟨w.heap.size, 0, none⟩ = some (.int .i64 a) := (hb.cell (by simp; try omega)).trans (by simp)
        have c0_1 : w1.cell? ⟨w.heap.size, 1, none⟩ = some (.int .i64 b) := (hb.cell (by simp; try omega)).trans (by simp)
        have c0_2 : w1.cell? ⟨w.heap.size, 2, none⟩ = some (.int .i64 c) := (hb.cell (by simp; try omega)).trans (by simp)
        have c1_0 : w1.cell? ⟨w.heap.size + 1, 0, none⟩ = some (.int .i64 0) := (hb.cell (by simp; try omega)).trans (by simp)
        have c1_1 : w1.cell? ⟨w.heap.size + 1, 1, none⟩ = some (.int .i64 0) := (hb.cell (by simp; try omega)).trans (by simp)
        have c1_2 : w1.cell? ⟨w.heap.size + 1, 2, none⟩ = some (.int .i64 0) := (hb.cell (by simp; try omega)).trans (by simp)
        have f1_0 : w1.frozen? ⟨w.heap.size + 1, 0, none⟩ = false := (hb.frozen (by simp; try omega)).trans (by simp)
        have f1_1 : w1.frozen? ⟨w.heap.size + 1, 1, none⟩ = false := (hb.frozen (by simp; try omega)).trans (by simp)
        have f1_2 : w1.frozen? ⟨w.heap.size + 1, 2, none⟩ = false := (hb.frozen (by simp; try omega)).trans (by simp)
        have Bt : Below w.heap.size w w1 := (((Below.refl _ _).alloc (Nat.le_refl _) _).alloc (by simp; try omega) _).trans (hb.mono (by simp; try omega))
        clear hb
        rw [H0.out]
        go_wp2_with fail
        refine (l1In_any _ _ _ _).mono ?_
        rintro e w' ⟨rfl, rfl⟩
        rw [H1.out]
        go_wp2_with fail
        refine (riGood_any _ _ _ _).mono ?_
        rintro e w2 ⟨rfl, hb⟩
        have x0 : w2.cell? ⟨w1.heap.size, 0, none⟩ = some (.int .i64 (a)) := (hb.cell (by simp)).trans (by simp)
        have x1 : w2.cell? ⟨w1.heap.size, 1, none⟩ = some (.int .i64 (b * k)) := (hb.cell (by simp)).trans (by simp)
        have x2 : w2.cell? ⟨w1.heap.size, 2, none⟩ = some (.int .i64 (c * k)) := (hb.cell (by simp)).trans (by simp)
        replace hb := (below_alloc _ _).trans (hb.mono (by simp))
        replace c0_0 := (hb.cell (p := ⟨w.heap.size, 0, none⟩) (by show w.heap.size < w1.heap.size; omega)).trans c0_0
        replace c0_1 := (hb.cell (p := ⟨w.heap.size, 1, none⟩) (by show w.heap.size < w1.heap.size; omega)).trans c0_1
        replace c0_2 := (hb.cell (p := ⟨w.heap.size, 2, none⟩) (by show w.heap.size < w1.heap.size; omega)).trans c0_2
        replace c1_0 := (hb.cell (p := ⟨w.heap.size + 1, 0, none⟩) (by show w.heap.size + 1 < w1.heap.size; omega)).trans c1_0
        replace c1_1 := (hb.cell (p := ⟨w.heap.size + 1, 1, none⟩) (by show w.heap.size + 1 < w1.heap.size; omega)).trans c1_1
        replace c1_2 := (hb.cell (p := ⟨w.heap.size + 1, 2, none⟩) (by show w.heap.size + 1 < w1.heap.size; omega)).trans c1_2
        replace f1_0 := (hb.frozen (p := ⟨w.heap.size + 1, 0, none⟩) (by show w.heap.size + 1 < w1.heap.size; omega)).trans f1_0
        replace f1_1 := (hb.frozen (p := ⟨w.heap.size + 1, 1, none⟩) (by show w.heap.size + 1 < w1.heap.size; omega)).trans f1_1
        replace f1_2 := (hb.frozen (p := ⟨w.heap.size + 1, 2, none⟩) (by show w.heap.size + 1 < w1.heap.size; omega)).trans f1_2
        replace Bt := Bt.trans (hb.mono (by omega))
        replace hs : w.heap.size + 2 ≤ w2.heap.size := by have := hb.size; omega
        clear hb
        rw [H2.out]
        go_wp2_with fail
        refine bodyPost_ret (v := .tuple #[.agg #[.int .i64 (a), .int .i64 (b * k), .int .i64 (c * k)], .bool true]) (by simp [results, Try.results9, go_sem, c1_0, c1_1, c1_2]) rfl ⟨rfl, ?_⟩
        repeat (first | with_reducible exact Bt | with_reducible exact Below.refl _ _ | with_reducible refine Below.setCell ?_ (by first | (dsimp only; omega) | (simp; done) | (simp; omega)) _ | with_reducible refine keepBN ?_ | with_reducible refine Below.drew ?_ | with_reducible refine keepB ?_ | with_reducible refine Below.alloc ?_ (by simp) _)

set_option maxHeartbeats 1000000 in
theorem implTimesFlight_any (a b c k : Int) (w : World) :
    Calls Try.prog 11 #[.agg #[.int .i64 a, .int .i64 b, .int .i64 c], .int .i64 k] w fun e w' => e = .returned (.tuple #[flV (timesB a b c k) a (b * k) (c * k), .bool (timesB a b c k)]) ∧ Below w.heap.size w w' := by
  cases g0 : fliB a b c
  · have hV : timesB a b c k = false := by simp [timesB, g0]
    rw [hV, flV_no]
    clear hV
    have H0 := Lib.hid g0
    clear g0
    go_enter Try.func11, Try.ntmps11
    go_wp2_with fail
    refine (impFlight_any _ _ _ _).mono ?_
    rintro e w1 ⟨rfl, hb⟩
    have hs : w.heap.size + 2 ≤ w1.heap.size := by have := hb.size; (try simp at this); omega
    have c0_0 : w1.cell? ⟨w.heap.size, 0, none⟩ = some (.int .i64 a) := (hb.cell (by simp; try omega)).trans (by simp)
    have c0_1 : w1.cell? ⟨w.heap.size, 1, none⟩ = some (.int .i64 b) := (hb.cell (by simp; try omega)).trans (by simp)
    have c0_2 : w1.cell? ⟨w.heap.size, 2, none⟩ = some (.int .i64 c) := (hb.cell (by simp; try omega)).trans (by simp)
    have c1_0 : w1.cell? ⟨w.heap.size + 1, 0, none⟩ = some (.int .i64 0) := (hb.cell (by simp; try omega)).trans (by simp)
    have c1_1 : w1.cell? ⟨w.heap.size + 1, 1, none⟩ = some (.int .i64 0) := (hb.cell (by simp; try omega)).trans (by simp)
    have c1_2 : w1.cell? ⟨w.heap.size + 1, 2, none⟩ = some (.int .i64 0) := (hb.cell (by simp; try omega)).trans (by simp)
    have f1_0 : w1.frozen? ⟨w.heap.size + 1, 0, none⟩ = false := (hb.frozen (by simp; try omega)).trans (by simp)
    have f1_1 : w1.frozen? ⟨w.heap.size + 1, 1, none⟩ = false := (hb.frozen (by simp; try omega)).trans (by simp)
    have f1_2 : w1.frozen? ⟨w.heap.size + 1, 2, none⟩ = false := (hb.frozen (by simp; try omega)).trans (by simp)
    have Bt : Below w.heap.size w w1 := (((Below.refl _ _).alloc (Nat.le_refl _) _).alloc (by simp; try omega) _).trans (hb.mono (by simp; try omega))
    clear hb
    rw [H0.out]
    go_wp2_with fail
    refine bodyPost_ret (v := .tuple #[.agg #[.int .i64 0, .int .i64 0, .int .i64 0], .bool false]) (by simp [results, Try.results11, go_sem, c1_0, c1_1, c1_2]) rfl ⟨rfl, ?_⟩
    repeat (first | with_reducible exact Bt | with_reducible exact Below.refl _ _ | with_reducible refine Below.setCell ?_ (by first | (dsimp only; omega) | (simp; done) | (simp; omega)) _ | with_reducible refine keepBN ?_ | with_reducible refine Below.drew ?_ | with_reducible refine keepB ?_ | with_reducible refine Below.alloc ?_ (by simp) _)
  · have b0 := fliB_le g0
    cases g1 : inB k 1 500
    · have hV : timesB a b c k = false := by simp [timesB, g1]
      rw [hV, flV_no]
      clear hV
      have H0 := Lib.hid g0
      clear g0
      have H1 := Lib.hid g1
      clear g1
      go_enter Try.func11, Try.ntmps11
      go_wp2_with fail
      refine (impFlight_any _ _ _ _).mono ?_
      rintro e w1 ⟨rfl, hb⟩
      have hs : w.heap.size + 2 ≤ w1.heap.size := by have := hb.size; (try simp at this); omega
      have c0_0 : w1.cell? ⟨w.heap.size, 0, none⟩ = some (.int .i64 a) := (hb.cell (by simp; try omega)).trans (by simp)
      have c0_1 : w1.cell? ⟨w.heap.size, 1, none⟩ = some (.int .i64 b) := (hb.cell (by simp; try omega)).trans (by simp)
      have c0_2 : w1.cell? ⟨w.heap.size, 2, none⟩ = some (.int .i64 c) := (hb.cell (by simp; try omega)).trans (by simp)
      have c1_0 : w1.cell? ⟨w.heap.size + 1, 0, none⟩ = some (.int .i64 0) := (hb.cell (by simp; try omega)).trans (by simp)
      have c1_1 : w1.cell? ⟨w.heap.size + 1, 1, none⟩ = some (.int .i64 0) := (hb.cell (by simp; try omega)).trans (by simp)
      have c1_2 : w1.cell? ⟨w.heap.size + 1, 2, none⟩ = some (.int .i64 0) := (hb.cell (by simp; try omega)).trans (by simp)
      have f1_0 : w1.frozen? ⟨w.heap.size + 1, 0, none⟩ = false := (hb.frozen (by simp; try omega)).trans (by simp)
      have f1_1 : w1.frozen? ⟨w.heap.size + 1, 1, none⟩ = false := (hb.frozen (by simp; try omega)).trans (by simp)
      have f1_2 : w1.frozen? ⟨w.heap.size + 1, 2, none⟩ = false := (hb.frozen (by simp; try omega)).trans (by simp)
      have Bt : Below w.heap.size w w1 := (((Below.refl _ _).alloc (Nat.le_refl _) _).alloc (by simp; try omega) _).trans (hb.mono (by simp; try omega))
      clear hb
      rw [H0.out]
      go_wp2_with fail
      refine (isWithin_any _ _ _ _).mono ?_
      rintro e w' ⟨rfl, rfl⟩
      rw [H1.out]
      go_wp2_with fail
      refine bodyPost_ret (v := .tuple #[.agg #[.int .i64 0, .int .i64 0, .int .i64 0], .bool false]) (by simp [results, Try.results11, go_sem, c1_0, c1_1, c1_2]) rfl ⟨rfl, ?_⟩
      repeat (first | with_reducible exact Bt | with_reducible exact Below.refl _ _ | with_reducible refine Below.setCell ?_ (by first | (dsimp only; omega) | (simp; done) | (simp; omega)) _ | with_reducible refine keepBN ?_ | with_reducible refine Below.drew ?_ | with_reducible refine keepB ?_ | with_reducible refine Below.alloc ?_ (by simp) _)
    · have b1 := inB_le g1
      obtain ⟨e0, e1⟩ := mul_bd (a := b) (A := 250) (b := k) (B := 500) (by omega) (by omega) (by omega) (by omega)
      obtain ⟨e2, e3⟩ := mul_bd (a := c) (A := 500) (b := k) (B := 500) (by omega) (by omega) (by omega) (by omega)
      cases g2 : fliB a (b * k) (c * k)
      · rw [show timesB a b c k = false by simp [timesB, g0, g1, g2], flV_no]
        have H0 := Lib.hid g0
        clear g0
        have H1 := Lib.hid g1
        clear g1
        have H2 := Lib.hid g2
        clear g2
        go_enter Try.func11, Try.ntmps11
        go_wp2_with fail
        refine (impFlight_any _ _ _ _).mono ?_
        rintro e w1 ⟨rfl, hb⟩
        have hs : w.heap.size + 2 ≤ w1.heap.size := by have := hb.size; (try simp at this); omega
        have c0_0 : w1.cell? ⟨w.heap.size, 0, none⟩ = some (.int .i64 a) := (hb.cell (by simp; try omega)).trans (by simp)
        have c0_1 : w1.cell? ⟨w.heap.size, 1, none⟩ = some (.int .i64 b) := (hb.cell (by simp; try omega)).trans (by simp)
        have c0_2 : w1.cell? ⟨w.heap.size, 2, none⟩ = some (.int .i64 c) := (hb.cell (by simp; try omega)).trans (by simp)
        have c1_0 : w1.cell? ⟨w.heap.size + 1, 0, none⟩ = some (.int .i64 0) := (hb.cell (by simp; try omega)).trans (by simp)
        have c1_1 : w1.cell? ⟨w.heap.size + 1, 1, none⟩ = some (.int .i64 0) := (hb.cell (by simp; try omega)).trans (by simp)
        have c1_2 : w1.cell? ⟨w.heap.size + 1, 2, none⟩ = some (.int .i64 0) := (hb.cell (by simp; try omega)).trans (by simp)
        have f1_0 : w1.frozen? ⟨w.heap.size + 1, 0, none⟩ = false := (hb.frozen (by simp; try omega)).trans (by simp)
        have f1_1 : w1.frozen? ⟨w.heap.size + 1, 1, none⟩ = false := (hb.frozen (by simp; try omega)).trans (by simp)
        have f1_2 : w1.frozen? ⟨w.heap.size + 1, 2, none⟩ = false := (hb.frozen (by simp; try omega)).trans (by simp)
        have Bt : Below w.heap.size w w1 := (((Below.refl _ _).alloc (Nat.le_refl _) _).alloc (by simp; try omega) _).trans (hb.mono (by simp; try omega))
        clear hb
        rw [H0.out]
        go_wp2_with fail
        refine (isWithin_any _ _ _ _).mono ?_
        rintro e w' ⟨rfl, rfl⟩
        rw [H1.out]
        go_wp2_with fail
        refine (impFlight_any _ _ _ _).mono ?_
        rintro e w2 ⟨rfl, hb⟩
        have x0 : w2.cell? ⟨w1.heap.size, 0, none⟩ = some (.int .i64 (a)) := (hb.cell (by simp)).trans (by simp)
        have x1 : w2.cell? ⟨w1.heap.size, 1, none⟩ = some (.int .i64 (b * k)) := (hb.cell (by simp)).trans (by simp)
        have x2 : w2.cell? ⟨w1.heap.size, 2, none⟩ = some (.int .i64 (c * k)) := (hb.cell (by simp)).trans (by simp)
        replace hb := (below_alloc _ _).trans (hb.mono (by simp))
        replace c0_0 := (hb.cell (p := ⟨w.heap.size, 0, none⟩) (by show w.heap.size < w1.heap.size; omega)).trans c0_0
        replace c0_1 := (hb.cell (p := ⟨w.heap.size, 1, none⟩) (by show w.heap.size < w1.heap.size; omega)).trans c0_1
        replace c0_2 := (hb.cell (p := ⟨w.heap.size, 2, none⟩) (by show w.heap.size < w1.heap.size; omega)).trans c0_2
        replace c1_0 := (hb.cell (p := ⟨w.heap.size + 1, 0, none⟩) (by show w.heap.size + 1 < w1.heap.size; omega)).trans c1_0
        replace c1_1 := (hb.cell (p := ⟨w.heap.size + 1, 1, none⟩) (by show w.heap.size + 1 < w1.heap.size; omega)).trans c1_1
        replace c1_2 := (hb.cell (p := ⟨w.heap.size + 1, 2, none⟩) (by show w.heap.size + 1 < w1.heap.size; omega)).trans c1_2
        replace f1_0 := (hb.frozen (p := ⟨w.heap.size + 1, 0, none⟩) (by show w.heap.size + 1 < w1.heap.size; omega)).trans f1_0
        replace f1_1 := (hb.frozen (p := ⟨w.heap.size + 1, 1, none⟩) (by show w.heap.size + 1 < w1.heap.size; omega)).trans f1_1
        replace f1_2 := (hb.frozen (p := ⟨w.heap.size + 1, 2, none⟩) (by show w.heap.size + 1 < w1.heap.size; omega)).trans f1_2
        replace Bt := Bt.trans (hb.mono (by omega))
        replace hs : w.heap.size + 2 ≤ w2.heap.size := by have := hb.size; omega
        clear hb
        rw [H2.out]
        go_wp2_with fail
        refine bodyPost_ret (v := .tuple #[.agg #[.int .i64 0, .int .i64 0, .int .i64 0], .bool false]) (by simp [results, Try.results11, go_sem, c1_0, c1_1, c1_2]) rfl ⟨rfl, ?_⟩
        repeat (first | with_reducible exact Bt | with_reducible exact Below.refl _ _ | with_reducible refine Below.setCell ?_ (by first | (dsimp only; omega) | (simp; done) | (simp; omega)) _ | with_reducible refine keepBN ?_ | with_reducible refine Below.drew ?_ | with_reducible refine keepB ?_ | with_reducible refine Below.alloc ?_ (by simp) _)
      · rw [show timesB a b c k = true by simp [timesB, g0, g1, g2], flV_yes]
        have H0 := Lib.hid g0
        clear g0
        have H1 := Lib.hid g1
        clear g1
        have H2 := Lib.hid g2
        clear g2
        go_enter Try.func11, Try.ntmps11
        go_wp2_with fail
        refine (impFlight_any _ _ _ _).mono ?_
        rintro e w1 ⟨rfl, hb⟩
        have hs : w.heap.size + 2 ≤ w1.heap.size := by have := hb.size; (try simp at this); omega
        have c0_0 : w1.cell? ⟨w.heap.size, 0, none⟩ = some (.int .i64 a) := (hb.cell (by simp; try omega)).trans (by simp)
        have c0_1 : w1.cell? ⟨w.heap.size, 1, none⟩ = some (.int .i64 b) := (hb.cell (by simp; try omega)).trans (by simp)
        have c0_2 : w1.cell? ⟨w.heap.size, 2, none⟩ = some (.int .i64 c) := (hb.cell (by simp; try omega)).trans (by simp)
        have c1_0 : w1.cell? ⟨w.heap.size + 1, 0, none⟩ = some (.int .i64 0) := (hb.cell (by simp; try omega)).trans (by simp)
        have c1_1 : w1.cell? ⟨w.heap.size + 1, 1, none⟩ = some (.int .i64 0) := (hb.cell (by simp; try omega)).trans (by simp)
        have c1_2 : w1.cell? ⟨w.heap.size + 1, 2, none⟩ = some (.int .i64 0) := (hb.cell (by simp; try omega)).trans (by simp)
        have f1_0 : w1.frozen? ⟨w.heap.size + 1, 0, none⟩ = false := (hb.frozen (by simp; try omega)).trans (by simp)
        have f1_1 : w1.frozen? ⟨w.heap.size + 1, 1, none⟩ = false := (hb.frozen (by simp; try omega)).trans (by simp)
        have f1_2 : w1.frozen? ⟨w.heap.size + 1, 2, none⟩ = false := (hb.frozen (by simp; try omega)).trans (by simp)
        have Bt : Below w.heap.size w w1 := (((Below.refl _ _).alloc (Nat.le_refl _) _).alloc (by simp; try omega) _).trans (hb.mono (by simp; try omega))
        clear hb
        rw [H0.out]
        go_wp2_with fail
        refine (isWithin_any _ _ _ _).mono ?_
        rintro e w' ⟨rfl, rfl⟩
        rw [H1.out]
        go_wp2_with fail
        refine (impFlight_any _ _ _ _).mono ?_
        rintro e w2 ⟨rfl, hb⟩
        have x0 : w2.cell? ⟨w1.heap.size, 0, none⟩ = some (.int .i64 (a)) := (hb.cell (by simp)).trans (by simp)
        have x1 : w2.cell? ⟨w1.heap.size, 1, none⟩ = some (.int .i64 (b * k)) := (hb.cell (by simp)).trans (by simp)
        have x2 : w2.cell? ⟨w1.heap.size, 2, none⟩ = some (.int .i64 (c * k)) := (hb.cell (by simp)).trans (by simp)
        replace hb := (below_alloc _ _).trans (hb.mono (by simp))
        replace c0_0 := (hb.cell (p := ⟨w.heap.size, 0, none⟩) (by show w.heap.size < w1.heap.size; omega)).trans c0_0
        replace c0_1 := (hb.cell (p := ⟨w.heap.size, 1, none⟩) (by show w.heap.size < w1.heap.size; omega)).trans c0_1
        replace c0_2 := (hb.cell (p := ⟨w.heap.size, 2, none⟩) (by show w.heap.size < w1.heap.size; omega)).trans c0_2
        replace c1_0 := (hb.cell (p := ⟨w.heap.size + 1, 0, none⟩) (by show w.heap.size + 1 < w1.heap.size; omega)).trans c1_0
        replace c1_1 := (hb.cell (p := ⟨w.heap.size + 1, 1, none⟩) (by show w.heap.size + 1 < w1.heap.size; omega)).trans c1_1
        replace c1_2 := (hb.cell (p := ⟨w.heap.size + 1, 2, none⟩) (by show w.heap.size + 1 < w1.heap.size; omega)).trans c1_2
        replace f1_0 := (hb.frozen (p := ⟨w.heap.size + 1, 0, none⟩) (by show w.heap.size + 1 < w1.heap.size; omega)).trans f1_0
        replace f1_1 := (hb.frozen (p := ⟨w.heap.size + 1, 1, none⟩) (by show w.heap.size + 1 < w1.heap.size; omega)).trans f1_1
        replace f1_2 := (hb.frozen (p := ⟨w.heap.size + 1, 2, none⟩) (by show w.heap.size + 1 < w1.heap.size; omega)).trans f1_2
        replace Bt := Bt.trans (hb.mono (by omega))
        replace hs : w.heap.size + 2 ≤ w2.heap.size := by have := hb.size; omega
        clear hb
        rw [H2.out]
        go_wp2_with fail
        refine bodyPost_ret (v := .tuple #[.agg #[.int .i64 (a), .int .i64 (b * k), .int .i64 (c * k)], .bool true]) (by simp [results, Try.results11, go_sem, c1_0, c1_1, c1_2]) rfl ⟨rfl, ?_⟩
        repeat (first | with_reducible exact Bt | with_reducible exact Below.refl _ _ | with_reducible refine Below.setCell ?_ (by first | (dsimp only; omega) | (simp; done) | (simp; omega)) _ | with_reducible refine keepBN ?_ | with_reducible refine Below.drew ?_ | with_reducible refine keepB ?_ | with_reducible refine Below.alloc ?_ (by simp) _)




end Go.Proofs.Ytdeckfdmhpiokaa
