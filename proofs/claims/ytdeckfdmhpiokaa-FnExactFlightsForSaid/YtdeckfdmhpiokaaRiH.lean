/- Contracts: flights: heights, runs, slopes, pace sums, squares of lines, numbers of risers, treads, on both sides. -/
import Derived.Test.YtdeckfdmhpiokaaRiB
namespace Go.Proofs.Ytdeckfdmhpiokaa
open Go.RowKit



set_option maxHeartbeats 1000000 in
theorem implHeightOf_any (a b c : Int) (w : World) :
    Calls Try.prog 54 #[.agg #[.int .i64 a, .int .i64 b, .int .i64 c]] w fun e w' => e = .returned (.tuple #[.int .i64 (orI (fliB a b c) (a * b)), .bool (fliB a b c)]) ∧ Below w.heap.size w w' := by
  cases g0 : fliB a b c
  · have hV : fliB a b c = false := g0
    rw [orI_no]
    clear hV
    have H0 := Lib.hid g0
    clear g0
    go_enter Try.func54, Try.ntmps54
    go_wp2_with fail
    refine (impFlight_any _ _ _ _).mono ?_
    rintro e w1 ⟨rfl, hb⟩
    have hs : w.heap.size + 1 ≤ w1.heap.size := by have := hb.size; (try simp at this); omega
    have c0_0 : w1.cell? ⟨w.heap.size, 0, none⟩ = some (.int .i64 a) := (hb.cell (by simp; try omega)).trans (by simp)
    have c0_1 : w1.cell? ⟨w.heap.size, 1, none⟩ = some (.int .i64 b) := (hb.cell (by simp; try omega)).trans (by simp)
    have c0_2 : w1.cell? ⟨w.heap.size, 2, none⟩ = some (.int .i64 c) := (hb.cell (by simp; try omega)).trans (by simp)
    have Bt : Below w.heap.size w w1 := ((Below.refl _ _).alloc (Nat.le_refl _) _).trans (hb.mono (by simp; try omega))
    clear hb
    rw [H0.out]
    go_wp2_with fail
    go_ret2
    exact ⟨rfl, Bt⟩
  · have b0 := fliB_le g0
    rw [orI_yes]
    obtain ⟨e0, e1⟩ := mul_bd (a := a) (A := 100) (b := b) (B := 250) (by omega) (by omega) (by omega) (by omega)
    have H0 := Lib.hid g0
    clear g0
    go_enter Try.func54, Try.ntmps54
    go_wp2_with fail
    refine (impFlight_any _ _ _ _).mono ?_
    rintro e w1 ⟨rfl, hb⟩
    have hs : w.heap.size + 1 ≤ w1.heap.size := by have := hb.size; (try simp at this); omega
    have c0_0 : w1.cell? ⟨w.heap.size, 0, none⟩ = some (.int .i64 a) := (hb.cell (by simp; try omega)).trans (by simp)
    have c0_1 : w1.cell? ⟨w.heap.size, 1, none⟩ = some (.int .i64 b) := (hb.cell (by simp; try omega)).trans (by simp)
    have c0_2 : w1.cell? ⟨w.heap.size, 2, none⟩ = some (.int .i64 c) := (hb.cell (by simp; try omega)).trans (by simp)
    have Bt : Below w.heap.size w w1 := ((Below.refl _ _).alloc (Nat.le_refl _) _).trans (hb.mono (by simp; try omega))
    clear hb
    rw [H0.out]
    go_wp2_with fail
    go_ret2
    exact ⟨rfl, Bt⟩

set_option maxHeartbeats 1000000 in
theorem implRunOf_any (a b c : Int) (w : World) :
    Calls Try.prog 53 #[.agg #[.int .i64 a, .int .i64 b, .int .i64 c]] w fun e w' => e = .returned (.tuple #[.int .i64 (orI (fliB a b c) ((a - 1) * c)), .bool (fliB a b c)]) ∧ Below w.heap.size w w' := by
  cases g0 : fliB a b c
  · have hV : fliB a b c = false := g0
    rw [orI_no]
    clear hV
    have H0 := Lib.hid g0
    clear g0
    go_enter Try.func53, Try.ntmps53
    go_wp2_with fail
    refine (impFlight_any _ _ _ _).mono ?_
    rintro e w1 ⟨rfl, hb⟩
    have hs : w.heap.size + 1 ≤ w1.heap.size := by have := hb.size; (try simp at this); omega
    have c0_0 : w1.cell? ⟨w.heap.size, 0, none⟩ = some (.int .i64 a) := (hb.cell (by simp; try omega)).trans (by simp)
    have c0_1 : w1.cell? ⟨w.heap.size, 1, none⟩ = some (.int .i64 b) := (hb.cell (by simp; try omega)).trans (by simp)
    have c0_2 : w1.cell? ⟨w.heap.size, 2, none⟩ = some (.int .i64 c) := (hb.cell (by simp; try omega)).trans (by simp)
    have Bt : Below w.heap.size w w1 := ((Below.refl _ _).alloc (Nat.le_refl _) _).trans (hb.mono (by simp; try omega))
    clear hb
    rw [H0.out]
    go_wp2_with fail
    go_ret2
    exact ⟨rfl, Bt⟩
  · have b0 := fliB_le g0
    rw [orI_yes]
    obtain ⟨e2, e3⟩ := mul_bd (a := a - 1) (A := 100) (b := c) (B := 500) (by omega) (by omega) (by omega) (by omega)
    have H0 := Lib.hid g0
    clear g0
    go_enter Try.func53, Try.ntmps53
    go_wp2_with fail
    refine (impFlight_any _ _ _ _).mono ?_
    rintro e w1 ⟨rfl, hb⟩
    have hs : w.heap.size + 1 ≤ w1.heap.size := by have := hb.size; (try simp at this); omega
    have c0_0 : w1.cell? ⟨w.heap.size, 0, none⟩ = some (.int .i64 a) := (hb.cell (by simp; try omega)).trans (by simp)
    have c0_1 : w1.cell? ⟨w.heap.size, 1, none⟩ = some (.int .i64 b) := (hb.cell (by simp; try omega)).trans (by simp)
    have c0_2 : w1.cell? ⟨w.heap.size, 2, none⟩ = some (.int .i64 c) := (hb.cell (by simp; try omega)).trans (by simp)
    have Bt : Below w.heap.size w w1 := ((Below.refl _ _).alloc (Nat.le_refl _) _).trans (hb.mono (by simp; try omega))
    clear hb
    rw [H0.out]
    go_wp2_with fail
    go_ret2
    exact ⟨rfl, Bt⟩

set_option maxHeartbeats 400000 in
theorem paceSum_any (b c : Int) (h0 : 0 ≤ b) (h1 : b ≤ 100000) (h2 : 0 ≤ c) (h3 : c ≤ 100000) (w : World) :
    Calls Try.prog 44 #[.int .i64 b, .int .i64 c] w fun e w' => e = .returned (.int .i64 (2 * b + c)) ∧ w = w' := by
  go_enter Try.func44, Try.ntmps44
  go_wp2_with fail
  go_ret
  exact ⟨rfl, rfl⟩





def sqR (a b c : Int) : Int := a * b * (a * b) + (a - 1) * c * ((a - 1) * c)
theorem sqR_le {a b c : Int} (h : fliB a b c = true) : (0 ≤ a * b ∧ a * b ≤ 25000) ∧ (0 ≤ (a - 1) * c ∧ (a - 1) * c ≤ 50000) ∧ (0 ≤ a * b * (a * b) ∧ a * b * (a * b) ≤ 625000000) ∧ (0 ≤ (a - 1) * c * ((a - 1) * c) ∧ (a - 1) * c * ((a - 1) * c) ≤ 2500000000) := by
  have b0 := fliB_le h
  obtain ⟨e0, e1⟩ := mul_bd (a := a) (A := 100) (b := b) (B := 250) (by omega) (by omega) (by omega) (by omega)
  obtain ⟨e2, e3⟩ := mul_bd (a := a - 1) (A := 100) (b := c) (B := 500) (by omega) (by omega) (by omega) (by omega)
  obtain ⟨e4, e5⟩ := mul_bd (a := a * b) (A := 25000) (b := a * b) (B := 25000) (by omega) (by omega) (by omega) (by omega)
  obtain ⟨e6, e7⟩ := mul_bd (a := (a - 1) * c) (A := 50000) (b := (a - 1) * c) (B := 50000) (by omega) (by omega) (by omega) (by omega)
  exact ⟨⟨by omega, by omega⟩, ⟨by omega, by omega⟩, ⟨by omega, by omega⟩, by omega, by omega⟩

set_option maxHeartbeats 400000 in
theorem riSquare_any (a b c : Int) (g0 : fliB a b c = true) (w : World) :
    Calls Try.prog 33 #[.agg #[.int .i64 a, .int .i64 b, .int .i64 c]] w fun e w' => e = .returned (.int .i64 (sqR a b c)) ∧ Below w.heap.size w w' := by
  have b0 := fliB_le g0
  obtain ⟨⟨e0, e1⟩, ⟨e2, e3⟩, ⟨e4, e5⟩, e6, e7⟩ := sqR_le g0
  clear g0
  go_enter Try.func33, Try.ntmps33
  go_wp2_with fail
  go_quiet (fail)
  go_wp2
  go_ret
  exact ⟨rfl, Below.drewN' (below_alloc _ _) _⟩


set_option maxHeartbeats 1000000 in
theorem implLineSquare_any (a b c : Int) (w : World) :
    Calls Try.prog 34 #[.agg #[.int .i64 a, .int .i64 b, .int .i64 c]] w fun e w' => e = .returned (.tuple #[.int .i64 (orI (fliB a b c) (sqR a b c)), .bool (fliB a b c)]) ∧ Below w.heap.size w w' := by
  cases g0 : fliB a b c
  · skip
    rw [orI_no]
    have H0 := Lib.hid g0
    clear g0
    go_enter Try.func34, Try.ntmps34
    go_wp2_with fail
    refine (implHeightOf_any _ _ _ _).mono ?_
    rintro e w1 ⟨rfl, hb⟩
    have hs : w.heap.size + 1 ≤ w1.heap.size := by have := hb.size; (try simp at this); omega
    have c0_0 : w1.cell? ⟨w.heap.size, 0, none⟩ = some (.int .i64 a) := (hb.cell (by simp; try omega)).trans (by simp)
    have c0_1 : w1.cell? ⟨w.heap.size, 1, none⟩ = some (.int .i64 b) := (hb.cell (by simp; try omega)).trans (by simp)
    have c0_2 : w1.cell? ⟨w.heap.size, 2, none⟩ = some (.int .i64 c) := (hb.cell (by simp; try omega)).trans (by simp)
    have Bt : Below w.heap.size w w1 := ((Below.refl _ _).alloc (Nat.le_refl _) _).trans (hb.mono (by simp; try omega))
    clear hb
    rw [H0.out, orI_no]
    go_wp2_with fail
    refine (implRunOf_any _ _ _ _).mono ?_
    rintro e w2 ⟨rfl, hb⟩
    replace c0_0 := (hb.cell (p := ⟨w.heap.size, 0, none⟩) (by show w.heap.size < w1.heap.size; omega)).trans c0_0
    replace c0_1 := (hb.cell (p := ⟨w.heap.size, 1, none⟩) (by show w.heap.size < w1.heap.size; omega)).trans c0_1
    replace c0_2 := (hb.cell (p := ⟨w.heap.size, 2, none⟩) (by show w.heap.size < w1.heap.size; omega)).trans c0_2
    replace Bt := Bt.trans (hb.mono (by omega))
    replace hs : w.heap.size + 1 ≤ w2.heap.size := by have := hb.size; omega
    clear hb
    rw [H0.out, orI_no]
    go_wp2_with fail
    go_ret2
    exact ⟨rfl, Bt⟩
  · have b0 := fliB_le g0
    rw [orI_yes]
    obtain ⟨⟨e0, e1⟩, ⟨e2, e3⟩, ⟨e4, e5⟩, e6, e7⟩ := sqR_le g0
    have E0 := Lib.hid (show a * b * (a * b) + (a - 1) * c * ((a - 1) * c) = sqR a b c from rfl)
    have H0 := Lib.hid g0
    clear g0
    go_enter Try.func34, Try.ntmps34
    go_wp2_with fail
    refine (implHeightOf_any _ _ _ _).mono ?_
    rintro e w1 ⟨rfl, hb⟩
    have hs : w.heap.size + 1 ≤ w1.heap.size := by have := hb.size; (try simp at this); omega
    have c0_0 : w1.cell? ⟨w.heap.size, 0, none⟩ = some (.int .i64 a) := (hb.cell (by simp; try omega)).trans (by simp)
    have c0_1 : w1.cell? ⟨w.heap.size, 1, none⟩ = some (.int .i64 b) := (hb.cell (by simp; try omega)).trans (by simp)
    have c0_2 : w1.cell? ⟨w.heap.size, 2, none⟩ = some (.int .i64 c) := (hb.cell (by simp; try omega)).trans (by simp)
    have Bt : Below w.heap.size w w1 := ((Below.refl _ _).alloc (Nat.le_refl _) _).trans (hb.mono (by simp; try omega))
    clear hb
    rw [H0.out, orI_yes]
    go_wp2_with fail
    refine (implRunOf_any _ _ _ _).mono ?_
    rintro e w2 ⟨rfl, hb⟩
    replace c0_0 := (hb.cell (p := ⟨w.heap.size, 0, none⟩) (by show w.heap.size < w1.heap.size; omega)).trans c0_0
    replace c0_1 := (hb.cell (p := ⟨w.heap.size, 1, none⟩) (by show w.heap.size < w1.heap.size; omega)).trans c0_1
    replace c0_2 := (hb.cell (p := ⟨w.heap.size, 2, none⟩) (by show w.heap.size < w1.heap.size; omega)).trans c0_2
    replace Bt := Bt.trans (hb.mono (by omega))
    replace hs : w.heap.size + 1 ≤ w2.heap.size := by have := hb.size; omega
    clear hb
    rw [H0.out, orI_yes]
    go_wp2_with fail
    go_ret2
    exact ⟨rfl, Bt⟩

def fewB (n m : Int) : Bool := inB n 1 6000 && inB m 1 250
def treadB (r s : Int) : Bool := inB r 1 250 && (inB s 1 2000 && inB (s - 2 * r) 1 500)




set_option maxHeartbeats 1000000 in
theorem implTreadFor_any (r s : Int) (w : World) :
    Calls Try.prog 52 #[.int .i64 r, .int .i64 s] w fun e w' => e = .returned (.tuple #[.int .i64 (orI (treadB r s) (s - 2 * r)), .bool (treadB r s)]) ∧ Below w.heap.size w w' := by
  cases g0 : inB r 1 250
  · have hV : treadB r s = false := by simp [treadB, g0]
    rw [hV, orI_no]
    clear hV
    have H0 := Lib.hid g0
    clear g0
    go_enter Try.func52, Try.ntmps52
    go_wp2_with fail
    refine (isRise_any _ _).mono ?_
    rintro e w' ⟨rfl, rfl⟩
    rw [H0.out]
    go_wp2_with fail
    go_ret2
    exact ⟨rfl, Below.refl _ _⟩
  · have b0 := inB_le g0
    cases g1 : inB s 1 2000
    · have hV : treadB r s = false := by simp [treadB, g1]
      rw [hV, orI_no]
      clear hV
      have H0 := Lib.hid g0
      clear g0
      have H1 := Lib.hid g1
      clear g1
      go_enter Try.func52, Try.ntmps52
      go_wp2_with fail
      refine (isRise_any _ _).mono ?_
      rintro e w' ⟨rfl, rfl⟩
      rw [H0.out]
      go_wp2_with fail
      refine (isPaceSum_any _ _).mono ?_
      rintro e w' ⟨rfl, rfl⟩
      rw [H1.out]
      go_wp2_with fail
      go_ret2
      exact ⟨rfl, Below.refl _ _⟩
    · have b1 := inB_le g1
      cases g2 : inB (s - 2 * r) 1 500
      · have hV : treadB r s = false := by simp [treadB, g2]
        rw [hV, orI_no]
        clear hV
        have H0 := Lib.hid g0
        clear g0
        have H1 := Lib.hid g1
        clear g1
        have H2 := Lib.hid g2
        clear g2
        go_enter Try.func52, Try.ntmps52
        go_wp2_with fail
        refine (isRise_any _ _).mono ?_
        rintro e w' ⟨rfl, rfl⟩
        rw [H0.out]
        go_wp2_with fail
        refine (isPaceSum_any _ _).mono ?_
        rintro e w' ⟨rfl, rfl⟩
        rw [H1.out]
        go_wp2_with fail
        refine (paceSum_any r 0 (by omega) (by omega) (by omega) (by omega) _).mono ?_
        rintro e w' ⟨rfl, rfl⟩
        rw [Int.add_zero]
        go_wp2_with fail
        refine (isTread_any _ _).mono ?_
        rintro e w' ⟨rfl, rfl⟩
        rw [H2.out]
        go_wp2_with fail
        go_ret2
        exact ⟨rfl, Below.refl _ _⟩
      · have b2 := inB_le g2
        rw [show treadB r s = true by simp [treadB, g0, g1, g2], orI_yes]
        have H0 := Lib.hid g0
        clear g0
        have H1 := Lib.hid g1
        clear g1
        have H2 := Lib.hid g2
        clear g2
        go_enter Try.func52, Try.ntmps52
        go_wp2_with fail
        refine (isRise_any _ _).mono ?_
        rintro e w' ⟨rfl, rfl⟩
        rw [H0.out]
        go_wp2_with fail
        refine (isPaceSum_any _ _).mono ?_
        rintro e w' ⟨rfl, rfl⟩
        rw [H1.out]
        go_wp2_with fail
        refine (paceSum_any r 0 (by omega) (by omega) (by omega) (by omega) _).mono ?_
        rintro e w' ⟨rfl, rfl⟩
        rw [Int.add_zero]
        go_wp2_with fail
        refine (isTread_any _ _).mono ?_
        rintro e w' ⟨rfl, rfl⟩
        rw [H2.out]
        go_wp2_with fail
        go_ret2
        exact ⟨rfl, Below.refl _ _⟩


end Go.Proofs.Ytdeckfdmhpiokaa
