/- Contracts: flights: most risers, heights at places, head room, flights in two parts, on both sides. -/
import Derived.Test.YtokphedheedngaaRiH
import Derived.Test.YtokphedheedngaaGLeast
import Derived.WalkLawsBesides
namespace Go.Proofs.Ytokphedheedngaa
open Go.RowKit

theorem least_min (a b : Int) : leastI a b = min b a := by unfold leastI; split <;> omega
theorem ediv_in {p c : Int} (h0 : 0 ≤ p) (h1 : 1 ≤ c) : 0 ≤ p / c ∧ p / c ≤ p := ⟨Int.ediv_nonneg h0 (by omega), Int.ediv_le_self _ h0⟩

set_option maxHeartbeats 400000 in
theorem risersUpTo_any (p c : Int) (h0 : 0 ≤ p) (h1 : p ≤ 1000000) (h2 : 1 ≤ c) (h3 : c ≤ 1000000) (w : World) :
    Calls Try.prog 55 #[.int .i64 p, .int .i64 c] w fun e w' => e = .returned (.int .i64 (p / c + 1)) ∧ w = w' := by
  have ht : p.tdiv c = p / c := Int.tdiv_eq_ediv_of_nonneg h0
  have hz : ¬ c = 0 := by omega
  obtain ⟨q0, q1⟩ := ediv_in h0 h2
  go_enter Try.func55, Try.ntmps55
  go_wp2_with fail
  go_ret
  exact ⟨rfl, rfl⟩

def mostB (n t : Int) : Bool := inB n 0 50000 && inB t 1 500
def mostRI (n t : Int) : Int := leastI 100 (n / t + 1)

set_option maxHeartbeats 1000000 in
theorem specMostRisers_any (n t : Int) (w : World) :
    Calls Try.prog 32 #[.int .i64 n, .int .i64 t] w fun e w' => e = .returned (.tuple #[.int .i64 (orI (mostB n t) (mostRI n t)), .bool (mostB n t)]) ∧ Below w.heap.size w w' := by
  cases g0 : inB n 0 50000
  · have hV : mostB n t = false := by simp [mostB, g0]
    rw [hV, orI_no]
    clear hV
    have H0 := Lib.hid g0
    clear g0
    go_enter Try.func32, Try.ntmps32
    go_wp2_with fail
    refine (l1In_any _ _ _ _).mono ?_
    rintro e w' ⟨rfl, rfl⟩
    rw [H0.out]
    go_wp2_with fail
    go_ret2
    exact ⟨rfl, Below.refl _ _⟩
  · have b0 := inB_le g0
    cases g1 : inB t 1 500
    · have hV : mostB n t = false := by simp [mostB, g1]
      rw [hV, orI_no]
      clear hV
      have H0 := Lib.hid g0
      clear g0
      have H1 := Lib.hid g1
      clear g1
      go_enter Try.func32, Try.ntmps32
      go_wp2_with fail
      refine (l1In_any _ _ _ _).mono ?_
      rintro e w' ⟨rfl, rfl⟩
      rw [H0.out]
      go_wp2_with fail
      refine (l1In_any _ _ _ _).mono ?_
      rintro e w' ⟨rfl, rfl⟩
      rw [H1.out]
      go_wp2_with fail
      go_ret2
      exact ⟨rfl, Below.refl _ _⟩
    · have b1 := inB_le g1
      rw [show mostB n t = true by simp [mostB, g0, g1], orI_yes, mostRI]
      obtain ⟨q0, q1⟩ := ediv_in (p := n) (c := t) (by omega) (by omega)
      have ht : n.tdiv t = n / t := Int.tdiv_eq_ediv_of_nonneg (by omega)
      have hz : ¬ t = 0 := by omega
      have H0 := Lib.hid g0
      clear g0
      have H1 := Lib.hid g1
      clear g1
      go_enter Try.func32, Try.ntmps32
      go_wp2_with fail
      refine (l1In_any _ _ _ _).mono ?_
      rintro e w' ⟨rfl, rfl⟩
      rw [H0.out]
      go_wp2_with fail
      refine (l1In_any _ _ _ _).mono ?_
      rintro e w' ⟨rfl, rfl⟩
      rw [H1.out]
      go_wp2_with fail
      refine (l1Least_any _ _ _).mono ?_
      rintro e w' ⟨rfl, rfl⟩
      go_wp2_with fail
      go_ret2
      exact ⟨rfl, Below.refl _ _⟩

set_option maxHeartbeats 1000000 in
theorem implMostRisers_any (n t : Int) (w : World) :
    Calls Try.prog 33 #[.int .i64 n, .int .i64 t] w fun e w' => e = .returned (.tuple #[.int .i64 (orI (mostB n t) (mostRI n t)), .bool (mostB n t)]) ∧ Below w.heap.size w w' := by
  cases g0 : inB n 0 50000
  · have hV : mostB n t = false := by simp [mostB, g0]
    rw [hV, orI_no]
    clear hV
    have H0 := Lib.hid g0
    clear g0
    go_enter Try.func33, Try.ntmps33
    go_wp2_with fail
    refine (isRun_any _ _).mono ?_
    rintro e w' ⟨rfl, rfl⟩
    rw [H0.out]
    go_wp2_with fail
    go_ret2
    exact ⟨rfl, Below.refl _ _⟩
  · have b0 := inB_le g0
    cases g1 : inB t 1 500
    · have hV : mostB n t = false := by simp [mostB, g1]
      rw [hV, orI_no]
      clear hV
      have H0 := Lib.hid g0
      clear g0
      have H1 := Lib.hid g1
      clear g1
      go_enter Try.func33, Try.ntmps33
      go_wp2_with fail
      refine (isRun_any _ _).mono ?_
      rintro e w' ⟨rfl, rfl⟩
      rw [H0.out]
      go_wp2_with fail
      refine (isTread_any _ _).mono ?_
      rintro e w' ⟨rfl, rfl⟩
      rw [H1.out]
      go_wp2_with fail
      go_ret2
      exact ⟨rfl, Below.refl _ _⟩
    · have b1 := inB_le g1
      rw [show mostB n t = true by simp [mostB, g0, g1], orI_yes, mostRI]
      obtain ⟨q0, q1⟩ := ediv_in (p := n) (c := t) (by omega) (by omega)
      have ht : n.tdiv t = n / t := Int.tdiv_eq_ediv_of_nonneg (by omega)
      have hz : ¬ t = 0 := by omega
      rw [least_min]
      have H0 := Lib.hid g0
      clear g0
      have H1 := Lib.hid g1
      clear g1
      go_enter Try.func33, Try.ntmps33
      go_wp2_with fail
      refine (isRun_any _ _).mono ?_
      rintro e w' ⟨rfl, rfl⟩
      rw [H0.out]
      go_wp2_with fail
      refine (isTread_any _ _).mono ?_
      rintro e w' ⟨rfl, rfl⟩
      rw [H1.out]
      go_wp2_with fail
      refine (risersUpTo_any n t (by omega) (by omega) (by omega) (by omega) _).mono ?_
      rintro e w' ⟨rfl, rfl⟩
      go_wp2_with fail
      all_goals (go_ret2; refine ⟨ret_ib (by omega), ?_⟩; exact Below.refl _ _)

def atR (a b c p : Int) : Int := if p < 0 then 0 else leastI a (p / c + 1) * b
theorem leastI_in {a q : Int} (h0 : 1 ≤ a) (h1 : a ≤ 100) (h2 : 0 ≤ q) : 1 ≤ leastI a (q + 1) ∧ leastI a (q + 1) ≤ 100 := by unfold leastI; split <;> omega
theorem atR_le {a b c p : Int} (h : fliB a b c = true) : 0 ≤ atR a b c p ∧ atR a b c p ≤ 25000 := by
  have b0 := fliB_le h
  unfold atR
  split
  · omega
  · obtain ⟨q0, q1⟩ := ediv_in (p := p) (c := c) (by omega) (by omega)
    obtain ⟨e0, e1⟩ := leastI_in (a := a) (q := p / c) (by omega) (by omega) q0
    obtain ⟨e2, e3⟩ := mul_bd (a := leastI a (p / c + 1)) (A := 100) (b := b) (B := 250) (by omega) (by omega) (by omega) (by omega)
    omega
def placeB (a b c p : Int) : Bool := fliB a b c && inB p (-1000) ((a - 1) * c + 1000)
theorem placeB_le {a b c p : Int} (h : placeB a b c p = true) : fliB a b c = true ∧ (1 ≤ a ∧ a ≤ 100 ∧ 1 ≤ b ∧ b ≤ 250 ∧ 1 ≤ c ∧ c ≤ 500) ∧ -1000 ≤ p ∧ p ≤ 51000 := by
  simp only [placeB, Bool.and_eq_true] at h
  have h1 := fliB_le h.1
  have h2 := inB_le h.2
  obtain ⟨e2, e3⟩ := mul_bd (a := a - 1) (A := 100) (b := c) (B := 500) (by omega) (by omega) (by omega) (by omega)
  exact ⟨h.1, h1, by omega, by omega⟩

set_option maxHeartbeats 1000000 in
theorem riAt_any (a b c p : Int) (g0 : fliB a b c = true) (hp0 : -1000 ≤ p) (hp1 : p ≤ 60000) (w : World) :
    Calls Try.prog 57 #[.agg #[.int .i64 a, .int .i64 b, .int .i64 c], .int .i64 p] w fun e w' => e = .returned (.int .i64 (atR a b c p)) ∧ Below w.heap.size w w' := by
  have b0 := fliB_le g0
  clear g0
  by_cases h : p < 0
  · rw [show atR a b c p = 0 from if_pos h]
    go_enter Try.func57, Try.ntmps57
    go_wp2_with fail
    go_wp2_with fail
    go_ret
    exact ⟨rfl, (Below.refl _ _).alloc (Nat.le_refl _) _⟩
  · rw [show atR a b c p = leastI a (p / c + 1) * b from if_neg h]
    obtain ⟨q0, q1⟩ := ediv_in (p := p) (c := c) (by omega) (by omega)
    have ht : p.tdiv c = p / c := Int.tdiv_eq_ediv_of_nonneg (by omega)
    have hz : ¬ c = 0 := by omega
    obtain ⟨e0, e1⟩ := leastI_in (a := a) (q := p / c) (by omega) (by omega) q0
    obtain ⟨e2, e3⟩ := mul_bd (a := leastI a (p / c + 1)) (A := 100) (b := b) (B := 250) (by omega) (by omega) (by omega) (by omega)
    go_enter Try.func57, Try.ntmps57
    go_wp2_with fail
    have E1 : IntKind.i64.wrap (p / c) = p / c := IntWalk.i64_in _ (by omega)
    have E2 : IntKind.i64.wrap (p / c + 1) = p / c + 1 := IntWalk.i64_in _ (by omega)
    have E3 : IntKind.i64.wrap (leastI a (p / c + 1) * b) = leastI a (p / c + 1) * b := IntWalk.i64_in _ (by omega)
    go_region_with (refine (l1Least_any _ _ _).mono ?_; rintro e w' ⟨rfl, rfl⟩)
    all_goals (go_wp2; go_ret; refine ⟨rfl, ?_⟩; repeat (first | exact below_alloc _ _ | refine keepBN ?_ | refine Below.drew ?_))

theorem fliB_le2 {a b c : Int} (h : fliB a b c = true) : 1 ≤ a ∧ a ≤ 100 ∧ 1 ≤ b ∧ b ≤ 250 ∧ 1 ≤ c ∧ c ≤ 500 ∧ 0 ≤ (a - 1) * c ∧ (a - 1) * c ≤ 50000 := by
  have b0 := fliB_le h
  obtain ⟨e2, e3⟩ := mul_bd (a := a - 1) (A := 100) (b := c) (B := 500) (by omega) (by omega) (by omega) (by omega)
  exact ⟨by omega, by omega, by omega, by omega, by omega, by omega, by omega, by omega⟩

set_option maxHeartbeats 1000000 in
theorem riPlace_any (a b c p : Int) (w : World) :
    Calls Try.prog 56 #[.agg #[.int .i64 a, .int .i64 b, .int .i64 c], .int .i64 p] w fun e w' => e = .returned (.bool (placeB a b c p)) ∧ Below w.heap.size w w' := by
  cases g0 : fliB a b c
  · have hV : placeB a b c p = false := by simp [placeB, g0]
    rw [hV]
    clear hV
    have H0 := Lib.hid g0
    clear g0
    go_enter Try.func56, Try.ntmps56
    go_wp2_with fail
    refine (riGood_any _ _ _ _).mono ?_
    rintro e w1 ⟨rfl, hb⟩
    have hs : w.heap.size + 1 ≤ w1.heap.size := by have := hb.size; (try simp at this); omega
    have c0_0 : w1.cell? ⟨w.heap.size, 0, none⟩ = some (.int .i64 a) := (hb.cell (by simp; try omega)).trans (by simp)
    have c0_1 : w1.cell? ⟨w.heap.size, 1, none⟩ = some (.int .i64 b) := (hb.cell (by simp; try omega)).trans (by simp)
    have c0_2 : w1.cell? ⟨w.heap.size, 2, none⟩ = some (.int .i64 c) := (hb.cell (by simp; try omega)).trans (by simp)
    have Bt : Below w.heap.size w w1 := ((Below.refl _ _).alloc (Nat.le_refl _) _).trans (hb.mono (by simp; try omega))
    clear hb
    rw [H0.out]
    go_wp2_with fail
    go_ret
    exact ⟨rfl, Bt⟩
  · have b0 := fliB_le2 g0
    cases g1 : inB p (-1000) ((a - 1) * c + 1000)
    · have hV : placeB a b c p = false := by simp [placeB, g1]
      rw [hV]
      clear hV
      have H0 := Lib.hid g0
      clear g0
      have H1 := Lib.hid g1
      clear g1
      go_enter Try.func56, Try.ntmps56
      go_wp2_with fail
      refine (riGood_any _ _ _ _).mono ?_
      rintro e w1 ⟨rfl, hb⟩
      have hs : w.heap.size + 1 ≤ w1.heap.size := by have := hb.size; (try simp at this); omega
      have c0_0 : w1.cell? ⟨w.heap.size, 0, none⟩ = some (.int .i64 a) := (hb.cell (by simp; try omega)).trans (by simp)
      have c0_1 : w1.cell? ⟨w.heap.size, 1, none⟩ = some (.int .i64 b) := (hb.cell (by simp; try omega)).trans (by simp)
      have c0_2 : w1.cell? ⟨w.heap.size, 2, none⟩ = some (.int .i64 c) := (hb.cell (by simp; try omega)).trans (by simp)
      have Bt : Below w.heap.size w w1 := ((Below.refl _ _).alloc (Nat.le_refl _) _).trans (hb.mono (by simp; try omega))
      clear hb
      rw [H0.out]
      go_wp2_with fail
      refine (l1In_any _ _ _ _).mono ?_
      rintro e w' ⟨rfl, rfl⟩
      rw [H1.out]
      go_wp2_with fail
      go_ret
      exact ⟨rfl, Bt⟩
    · rw [show placeB a b c p = true by simp [placeB, g0, g1]]
      have H0 := Lib.hid g0
      clear g0
      have H1 := Lib.hid g1
      clear g1
      go_enter Try.func56, Try.ntmps56
      go_wp2_with fail
      refine (riGood_any _ _ _ _).mono ?_
      rintro e w1 ⟨rfl, hb⟩
      have hs : w.heap.size + 1 ≤ w1.heap.size := by have := hb.size; (try simp at this); omega
      have c0_0 : w1.cell? ⟨w.heap.size, 0, none⟩ = some (.int .i64 a) := (hb.cell (by simp; try omega)).trans (by simp)
      have c0_1 : w1.cell? ⟨w.heap.size, 1, none⟩ = some (.int .i64 b) := (hb.cell (by simp; try omega)).trans (by simp)
      have c0_2 : w1.cell? ⟨w.heap.size, 2, none⟩ = some (.int .i64 c) := (hb.cell (by simp; try omega)).trans (by simp)
      have Bt : Below w.heap.size w w1 := ((Below.refl _ _).alloc (Nat.le_refl _) _).trans (hb.mono (by simp; try omega))
      clear hb
      rw [H0.out]
      go_wp2_with fail
      refine (l1In_any _ _ _ _).mono ?_
      rintro e w' ⟨rfl, rfl⟩
      rw [H1.out]
      go_wp2_with fail
      go_ret
      exact ⟨rfl, Bt⟩

set_option maxHeartbeats 1000000 in
theorem specHeightAtRun_any (a b c p : Int) (w : World) :
    Calls Try.prog 34 #[.agg #[.int .i64 a, .int .i64 b, .int .i64 c], .int .i64 p] w fun e w' => e = .returned (.tuple #[.int .i64 (orI (placeB a b c p) (atR a b c p)), .bool (placeB a b c p)]) ∧ Below w.heap.size w w' := by
  cases g0 : placeB a b c p
  · have hV : placeB a b c p = false := g0
    rw [orI_no]
    clear hV
    have H0 := Lib.hid g0
    clear g0
    go_enter Try.func34, Try.ntmps34
    go_wp2_with fail
    refine (riPlace_any _ _ _ _ _).mono ?_
    rintro e w1 ⟨rfl, hb⟩
    have hs : w.heap.size + 1 ≤ w1.heap.size := by have := hb.size; (try simp at this); omega
    have c0_0 : w1.cell? ⟨w.heap.size, 0, none⟩ = some (.int .i64 a) := (hb.cell (by simp; try omega)).trans (by simp)
    have c0_1 : w1.cell? ⟨w.heap.size, 1, none⟩ = some (.int .i64 b) := (hb.cell (by simp; try omega)).trans (by simp)
    have c0_2 : w1.cell? ⟨w.heap.size, 2, none⟩ = some (.int .i64 c) := (hb.cell (by simp; try omega)).trans (by simp)
    have Bt : Below w.heap.size w w1 := ((Below.refl _ _).alloc (Nat.le_refl _) _).trans (hb.mono (by simp; try omega))
    clear hb
    rw [H0.out]
    go_wp2_with fail
    go_ret2
    exact ⟨rfl, Bt⟩
  · have b0 := placeB_le g0
    rw [orI_yes]
    have H0 := Lib.hid g0
    clear g0
    go_enter Try.func34, Try.ntmps34
    go_wp2_with fail
    refine (riPlace_any _ _ _ _ _).mono ?_
    rintro e w1 ⟨rfl, hb⟩
    have hs : w.heap.size + 1 ≤ w1.heap.size := by have := hb.size; (try simp at this); omega
    have c0_0 : w1.cell? ⟨w.heap.size, 0, none⟩ = some (.int .i64 a) := (hb.cell (by simp; try omega)).trans (by simp)
    have c0_1 : w1.cell? ⟨w.heap.size, 1, none⟩ = some (.int .i64 b) := (hb.cell (by simp; try omega)).trans (by simp)
    have c0_2 : w1.cell? ⟨w.heap.size, 2, none⟩ = some (.int .i64 c) := (hb.cell (by simp; try omega)).trans (by simp)
    have Bt : Below w.heap.size w w1 := ((Below.refl _ _).alloc (Nat.le_refl _) _).trans (hb.mono (by simp; try omega))
    clear hb
    rw [H0.out]
    go_wp2_with fail
    refine (riAt_any a b c p b0.1 (by omega) (by omega) _).mono ?_
    rintro e w2 ⟨rfl, hb⟩
    replace c0_0 := (hb.cell (p := ⟨w.heap.size, 0, none⟩) (by show w.heap.size < w1.heap.size; omega)).trans c0_0
    replace c0_1 := (hb.cell (p := ⟨w.heap.size, 1, none⟩) (by show w.heap.size < w1.heap.size; omega)).trans c0_1
    replace c0_2 := (hb.cell (p := ⟨w.heap.size, 2, none⟩) (by show w.heap.size < w1.heap.size; omega)).trans c0_2
    replace Bt := Bt.trans (hb.mono (by omega))
    replace hs : w.heap.size + 1 ≤ w2.heap.size := by have := hb.size; omega
    clear hb
    go_wp2_with fail
    go_ret2
    exact ⟨rfl, Bt⟩

def headB (a b c k p : Int) : Bool := placeB a b c p && (inB k 1 20000 && !decide (k ≤ atR a b c p))

set_option maxHeartbeats 1000000 in
theorem specHeadRoom_any (a b c k p : Int) (w : World) :
    Calls Try.prog 36 #[.agg #[.int .i64 a, .int .i64 b, .int .i64 c], .int .i64 k, .int .i64 p] w fun e w' => e = .returned (.tuple #[.int .i64 (orI (headB a b c k p) (k - atR a b c p)), .bool (headB a b c k p)]) ∧ Below w.heap.size w w' := by
  cases g0 : placeB a b c p
  · have hV : headB a b c k p = false := by simp [headB, g0]
    rw [hV, orI_no]
    clear hV
    have H0 := Lib.hid g0
    clear g0
    go_enter Try.func36, Try.ntmps36
    go_wp2_with fail
    refine (riPlace_any _ _ _ _ _).mono ?_
    rintro e w1 ⟨rfl, hb⟩
    have hs : w.heap.size + 1 ≤ w1.heap.size := by have := hb.size; (try simp at this); omega
    have c0_0 : w1.cell? ⟨w.heap.size, 0, none⟩ = some (.int .i64 a) := (hb.cell (by simp; try omega)).trans (by simp)
    have c0_1 : w1.cell? ⟨w.heap.size, 1, none⟩ = some (.int .i64 b) := (hb.cell (by simp; try omega)).trans (by simp)
    have c0_2 : w1.cell? ⟨w.heap.size, 2, none⟩ = some (.int .i64 c) := (hb.cell (by simp; try omega)).trans (by simp)
    have Bt : Below w.heap.size w w1 := ((Below.refl _ _).alloc (Nat.le_refl _) _).trans (hb.mono (by simp; try omega))
    clear hb
    rw [H0.out]
    go_wp2_with fail
    go_ret2
    exact ⟨rfl, Bt⟩
  · have b0 := placeB_le g0
    cases g1 : inB k 1 20000
    · have hV : headB a b c k p = false := by simp [headB, g1]
      rw [hV, orI_no]
      clear hV
      have H0 := Lib.hid g0
      clear g0
      have H1 := Lib.hid g1
      clear g1
      go_enter Try.func36, Try.ntmps36
      go_wp2_with fail
      refine (riPlace_any _ _ _ _ _).mono ?_
      rintro e w1 ⟨rfl, hb⟩
      have hs : w.heap.size + 1 ≤ w1.heap.size := by have := hb.size; (try simp at this); omega
      have c0_0 : w1.cell? ⟨w.heap.size, 0, none⟩ = some (.int .i64 a) := (hb.cell (by simp; try omega)).trans (by simp)
      have c0_1 : w1.cell? ⟨w.heap.size, 1, none⟩ = some (.int .i64 b) := (hb.cell (by simp; try omega)).trans (by simp)
      have c0_2 : w1.cell? ⟨w.heap.size, 2, none⟩ = some (.int .i64 c) := (hb.cell (by simp; try omega)).trans (by simp)
      have Bt : Below w.heap.size w w1 := ((Below.refl _ _).alloc (Nat.le_refl _) _).trans (hb.mono (by simp; try omega))
      clear hb
      rw [H0.out]
      go_wp2_with fail
      refine (l1In_any _ _ _ _).mono ?_
      rintro e w' ⟨rfl, rfl⟩
      rw [H1.out]
      go_wp2_with fail
      go_ret2
      exact ⟨rfl, Bt⟩
    · have b1 := inB_le g1
      obtain ⟨q0, q1⟩ := atR_le (p := p) b0.1
      by_cases h : k ≤ atR a b c p
      · rw [show headB a b c k p = false by simp [headB, g0, g1, h], orI_no]
        have H0 := Lib.hid g0
        clear g0
        have H1 := Lib.hid g1
        clear g1
        go_enter Try.func36, Try.ntmps36
        go_wp2_with fail
        refine (riPlace_any _ _ _ _ _).mono ?_
        rintro e w1 ⟨rfl, hb⟩
        have hs : w.heap.size + 1 ≤ w1.heap.size := by have := hb.size; (try simp at this); omega
        have c0_0 : w1.cell? ⟨w.heap.size, 0, none⟩ = some (.int .i64 a) := (hb.cell (by simp; try omega)).trans (by simp)
        have c0_1 : w1.cell? ⟨w.heap.size, 1, none⟩ = some (.int .i64 b) := (hb.cell (by simp; try omega)).trans (by simp)
        have c0_2 : w1.cell? ⟨w.heap.size, 2, none⟩ = some (.int .i64 c) := (hb.cell (by simp; try omega)).trans (by simp)
        have Bt : Below w.heap.size w w1 := ((Below.refl _ _).alloc (Nat.le_refl _) _).trans (hb.mono (by simp; try omega))
        clear hb
        rw [H0.out]
        go_wp2_with fail
        refine (l1In_any _ _ _ _).mono ?_
        rintro e w' ⟨rfl, rfl⟩
        rw [H1.out]
        go_wp2_with fail
        refine (riAt_any a b c p b0.1 (by omega) (by omega) _).mono ?_
        rintro e w2 ⟨rfl, hb⟩
        replace c0_0 := (hb.cell (p := ⟨w.heap.size, 0, none⟩) (by show w.heap.size < w1.heap.size; omega)).trans c0_0
        replace c0_1 := (hb.cell (p := ⟨w.heap.size, 1, none⟩) (by show w.heap.size < w1.heap.size; omega)).trans c0_1
        replace c0_2 := (hb.cell (p := ⟨w.heap.size, 2, none⟩) (by show w.heap.size < w1.heap.size; omega)).trans c0_2
        replace Bt := Bt.trans (hb.mono (by omega))
        replace hs : w.heap.size + 1 ≤ w2.heap.size := by have := hb.size; omega
        clear hb
        go_wp2_with fail
        go_wp2_with fail
        go_ret2
        exact ⟨rfl, Bt⟩
      · rw [show headB a b c k p = true by simp [headB, g0, g1, h], orI_yes]
        have H0 := Lib.hid g0
        clear g0
        have H1 := Lib.hid g1
        clear g1
        go_enter Try.func36, Try.ntmps36
        go_wp2_with fail
        refine (riPlace_any _ _ _ _ _).mono ?_
        rintro e w1 ⟨rfl, hb⟩
        have hs : w.heap.size + 1 ≤ w1.heap.size := by have := hb.size; (try simp at this); omega
        have c0_0 : w1.cell? ⟨w.heap.size, 0, none⟩ = some (.int .i64 a) := (hb.cell (by simp; try omega)).trans (by simp)
        have c0_1 : w1.cell? ⟨w.heap.size, 1, none⟩ = some (.int .i64 b) := (hb.cell (by simp; try omega)).trans (by simp)
        have c0_2 : w1.cell? ⟨w.heap.size, 2, none⟩ = some (.int .i64 c) := (hb.cell (by simp; try omega)).trans (by simp)
        have Bt : Below w.heap.size w w1 := ((Below.refl _ _).alloc (Nat.le_refl _) _).trans (hb.mono (by simp; try omega))
        clear hb
        rw [H0.out]
        go_wp2_with fail
        refine (l1In_any _ _ _ _).mono ?_
        rintro e w' ⟨rfl, rfl⟩
        rw [H1.out]
        go_wp2_with fail
        refine (riAt_any a b c p b0.1 (by omega) (by omega) _).mono ?_
        rintro e w2 ⟨rfl, hb⟩
        replace c0_0 := (hb.cell (p := ⟨w.heap.size, 0, none⟩) (by show w.heap.size < w1.heap.size; omega)).trans c0_0
        replace c0_1 := (hb.cell (p := ⟨w.heap.size, 1, none⟩) (by show w.heap.size < w1.heap.size; omega)).trans c0_1
        replace c0_2 := (hb.cell (p := ⟨w.heap.size, 2, none⟩) (by show w.heap.size < w1.heap.size; omega)).trans c0_2
        replace Bt := Bt.trans (hb.mono (by omega))
        replace hs : w.heap.size + 1 ≤ w2.heap.size := by have := hb.size; omega
        clear hb
        go_wp2_with fail
        refine (riAt_any a b c p b0.1 (by omega) (by omega) _).mono ?_
        rintro e w3 ⟨rfl, hb⟩
        replace c0_0 := (hb.cell (p := ⟨w.heap.size, 0, none⟩) (by show w.heap.size < w2.heap.size; omega)).trans c0_0
        replace c0_1 := (hb.cell (p := ⟨w.heap.size, 1, none⟩) (by show w.heap.size < w2.heap.size; omega)).trans c0_1
        replace c0_2 := (hb.cell (p := ⟨w.heap.size, 2, none⟩) (by show w.heap.size < w2.heap.size; omega)).trans c0_2
        replace Bt := Bt.trans (hb.mono (by omega))
        replace hs : w.heap.size + 1 ≤ w3.heap.size := by have := hb.size; omega
        clear hb
        go_wp2_with fail
        go_ret2
        exact ⟨rfl, Bt⟩

set_option maxHeartbeats 2000000 in
theorem implHeightAtRun_any (a b c p : Int) (w : World) :
    Calls Try.prog 35 #[.agg #[.int .i64 a, .int .i64 b, .int .i64 c], .int .i64 p] w fun e w' => e = .returned (.tuple #[.int .i64 (orI (placeB a b c p) (atR a b c p)), .bool (placeB a b c p)]) ∧ Below w.heap.size w w' := by
  cases g0 : fliB a b c
  · rw [show placeB a b c p = false by simp [placeB, g0], orI_no]
    have H0 := Lib.hid g0
    clear g0
    go_enter Try.func35, Try.ntmps35
    go_wp2_with fail
    refine (implRunOf_any _ _ _ _).mono ?_
    rintro e w1 ⟨rfl, hb⟩
    have hs : w.heap.size + 1 ≤ w1.heap.size := by have := hb.size; (try simp at this); omega
    have c0_0 : w1.cell? ⟨w.heap.size, 0, none⟩ = some (.int .i64 a) := (hb.cell (by simp; try omega)).trans (by simp)
    have c0_1 : w1.cell? ⟨w.heap.size, 1, none⟩ = some (.int .i64 b) := (hb.cell (by simp; try omega)).trans (by simp)
    have c0_2 : w1.cell? ⟨w.heap.size, 2, none⟩ = some (.int .i64 c) := (hb.cell (by simp; try omega)).trans (by simp)
    have Bt : Below w.heap.size w w1 := ((Below.refl _ _).alloc (Nat.le_refl _) _).trans (hb.mono (by simp; try omega))
    clear hb
    rw [H0.out, orI_no]
    go_wp2_with fail
    go_ret2
    exact ⟨rfl, Bt⟩
  · have b0 := fliB_le2 g0
    cases g1 : inB p (-1000) ((a - 1) * c + 1000)
    · rw [show placeB a b c p = false by simp [placeB, g0, g1], orI_no]
      have H0 := Lib.hid g0
      have H1 := Lib.hid g1
      clear g0 g1
      go_enter Try.func35, Try.ntmps35
      go_wp2_with fail
      refine (implRunOf_any _ _ _ _).mono ?_
      rintro e w1 ⟨rfl, hb⟩
      have hs : w.heap.size + 1 ≤ w1.heap.size := by have := hb.size; (try simp at this); omega
      have c0_0 : w1.cell? ⟨w.heap.size, 0, none⟩ = some (.int .i64 a) := (hb.cell (by simp; try omega)).trans (by simp)
      have c0_1 : w1.cell? ⟨w.heap.size, 1, none⟩ = some (.int .i64 b) := (hb.cell (by simp; try omega)).trans (by simp)
      have c0_2 : w1.cell? ⟨w.heap.size, 2, none⟩ = some (.int .i64 c) := (hb.cell (by simp; try omega)).trans (by simp)
      have Bt : Below w.heap.size w w1 := ((Below.refl _ _).alloc (Nat.le_refl _) _).trans (hb.mono (by simp; try omega))
      clear hb
      rw [H0.out, orI_yes]
      go_wp2_with fail
      refine (isWithin_any _ _ _ _).mono ?_
      rintro e w' ⟨rfl, rfl⟩
      rw [H1.out]
      go_wp2_with fail
      go_ret2
      exact ⟨rfl, Bt⟩
    · have b1 := inB_le g1
      rw [show placeB a b c p = true by simp [placeB, g0, g1], orI_yes]
      have H0 := Lib.hid g0
      have H1 := Lib.hid g1
      clear g0 g1
      by_cases h : p < 0
      · rw [show atR a b c p = 0 from if_pos h]
        go_enter Try.func35, Try.ntmps35
        go_wp2_with fail
        refine (implRunOf_any _ _ _ _).mono ?_
        rintro e w1 ⟨rfl, hb⟩
        have hs : w.heap.size + 1 ≤ w1.heap.size := by have := hb.size; (try simp at this); omega
        have c0_0 : w1.cell? ⟨w.heap.size, 0, none⟩ = some (.int .i64 a) := (hb.cell (by simp; try omega)).trans (by simp)
        have c0_1 : w1.cell? ⟨w.heap.size, 1, none⟩ = some (.int .i64 b) := (hb.cell (by simp; try omega)).trans (by simp)
        have c0_2 : w1.cell? ⟨w.heap.size, 2, none⟩ = some (.int .i64 c) := (hb.cell (by simp; try omega)).trans (by simp)
        have Bt : Below w.heap.size w w1 := ((Below.refl _ _).alloc (Nat.le_refl _) _).trans (hb.mono (by simp; try omega))
        clear hb
        rw [H0.out, orI_yes]
        go_wp2_with fail
        refine (isWithin_any _ _ _ _).mono ?_
        rintro e w' ⟨rfl, rfl⟩
        rw [H1.out]
        go_wp2_with fail
        go_ret2
        exact ⟨rfl, Bt⟩
      · rw [show atR a b c p = leastI a (p / c + 1) * b from if_neg h]
        obtain ⟨q0, q1⟩ := ediv_in (p := p) (c := c) (by omega) (by omega)
        by_cases h2 : a < p / c + 1
        · rw [show leastI a (p / c + 1) = a from if_pos h2]
          obtain ⟨e2, e3⟩ := mul_bd (a := b) (A := 250) (b := a) (B := 100) (by omega) (by omega) (by omega) (by omega)
          have E3 : IntKind.i64.wrap (b * (a)) = b * (a) := IntWalk.i64_in _ (by omega)
          have C := Lib.hid (Int.mul_comm b (a))
          have m1 : ¬ p / c + 1 < a := by omega
          have m2 : min (p / c + 1) a = a := by omega
          go_enter Try.func35, Try.ntmps35
          go_wp2_with fail
          refine (implRunOf_any _ _ _ _).mono ?_
          rintro e w1 ⟨rfl, hb⟩
          have hs : w.heap.size + 1 ≤ w1.heap.size := by have := hb.size; (try simp at this); omega
          have c0_0 : w1.cell? ⟨w.heap.size, 0, none⟩ = some (.int .i64 a) := (hb.cell (by simp; try omega)).trans (by simp)
          have c0_1 : w1.cell? ⟨w.heap.size, 1, none⟩ = some (.int .i64 b) := (hb.cell (by simp; try omega)).trans (by simp)
          have c0_2 : w1.cell? ⟨w.heap.size, 2, none⟩ = some (.int .i64 c) := (hb.cell (by simp; try omega)).trans (by simp)
          have Bt : Below w.heap.size w w1 := ((Below.refl _ _).alloc (Nat.le_refl _) _).trans (hb.mono (by simp; try omega))
          clear hb
          rw [H0.out, orI_yes]
          go_wp2_with fail
          refine (isWithin_any _ _ _ _).mono ?_
          rintro e w' ⟨rfl, rfl⟩
          rw [H1.out]
          go_wp2_with fail
          go_region_held3 (fun w' => w'.cell? ⟨w.heap.size, 0, none⟩ = some (.int .i64 a) ∧ w'.cell? ⟨w.heap.size, 1, none⟩ = some (.int .i64 b) ∧ w'.cell? ⟨w.heap.size, 2, none⟩ = some (.int .i64 c)) (refine ⟨?_, ?_, ?_⟩ <;> (repeat (first | assumption | refine keepA ?_ | refine keepD ?_ | refine keepDN ?_)))
            (first | (go_at_call 55; refine (risersUpTo_any p c (by omega) (by omega) (by omega) (by omega) _).mono ?_; rintro e wq ⟨rfl, rfl⟩) | fail)
          all_goals go_wp2_with fail
          all_goals (go_ret2; refine ⟨ret_ib (by first | exact C.out | omega), ?_⟩; repeat (first | exact Bt | refine keepB ?_ | refine keepBN ?_ | refine Below.drew ?_))
        · rw [show leastI a (p / c + 1) = p / c + 1 from if_neg h2]
          obtain ⟨e2, e3⟩ := mul_bd (a := b) (A := 250) (b := p / c + 1) (B := 100) (by omega) (by omega) (by omega) (by omega)
          have E3 : IntKind.i64.wrap (b * (p / c + 1)) = b * (p / c + 1) := IntWalk.i64_in _ (by omega)
          have C := Lib.hid (Int.mul_comm b (p / c + 1))
          have m2 : min (p / c + 1) a = p / c + 1 := by omega
          go_enter Try.func35, Try.ntmps35
          go_wp2_with fail
          refine (implRunOf_any _ _ _ _).mono ?_
          rintro e w1 ⟨rfl, hb⟩
          have hs : w.heap.size + 1 ≤ w1.heap.size := by have := hb.size; (try simp at this); omega
          have c0_0 : w1.cell? ⟨w.heap.size, 0, none⟩ = some (.int .i64 a) := (hb.cell (by simp; try omega)).trans (by simp)
          have c0_1 : w1.cell? ⟨w.heap.size, 1, none⟩ = some (.int .i64 b) := (hb.cell (by simp; try omega)).trans (by simp)
          have c0_2 : w1.cell? ⟨w.heap.size, 2, none⟩ = some (.int .i64 c) := (hb.cell (by simp; try omega)).trans (by simp)
          have Bt : Below w.heap.size w w1 := ((Below.refl _ _).alloc (Nat.le_refl _) _).trans (hb.mono (by simp; try omega))
          clear hb
          rw [H0.out, orI_yes]
          go_wp2_with fail
          refine (isWithin_any _ _ _ _).mono ?_
          rintro e w' ⟨rfl, rfl⟩
          rw [H1.out]
          go_wp2_with fail
          go_region_held3 (fun w' => w'.cell? ⟨w.heap.size, 0, none⟩ = some (.int .i64 a) ∧ w'.cell? ⟨w.heap.size, 1, none⟩ = some (.int .i64 b) ∧ w'.cell? ⟨w.heap.size, 2, none⟩ = some (.int .i64 c)) (refine ⟨?_, ?_, ?_⟩ <;> (repeat (first | assumption | refine keepA ?_ | refine keepD ?_ | refine keepDN ?_)))
            (first | (go_at_call 55; refine (risersUpTo_any p c (by omega) (by omega) (by omega) (by omega) _).mono ?_; rintro e wq ⟨rfl, rfl⟩) | fail)
          all_goals go_wp2_with fail
          all_goals (go_ret2; refine ⟨ret_ib (by first | exact C.out | omega), ?_⟩; repeat (first | exact Bt | refine keepB ?_ | refine keepBN ?_ | refine Below.drew ?_))

theorem head_no {a b c k p : Int} (h : placeB a b c p = true) (_q : 0 ≤ atR a b c p) (g : inB k (atR a b c p + 1) 20000 = false) : headB a b c k p = false := by
  rcases inB_gt g with h1 | h1
  · simp [headB, show k ≤ atR a b c p by omega]
  · simp [headB, h, inB_no (n := k) (lo := 1) (hi := 20000) (.inr h1)]
theorem head_yes {a b c k p : Int} (h : placeB a b c p = true) (q : 0 ≤ atR a b c p) (g : inB k (atR a b c p + 1) 20000 = true) : headB a b c k p = true := by
  have := inB_le g
  simp [headB, h, inB_yes (n := k) (lo := 1) (hi := 20000) (by omega) (by omega), show atR a b c p < k by omega]

set_option maxHeartbeats 1000000 in
theorem implHeadRoom_any (a b c k p : Int) (w : World) :
    Calls Try.prog 37 #[.agg #[.int .i64 a, .int .i64 b, .int .i64 c], .int .i64 k, .int .i64 p] w fun e w' => e = .returned (.tuple #[.int .i64 (orI (headB a b c k p) (k - atR a b c p)), .bool (headB a b c k p)]) ∧ Below w.heap.size w w' := by
  cases g0 : placeB a b c p
  · rw [show headB a b c k p = false by simp [headB, g0], orI_no]
    have H0 := Lib.hid g0
    clear g0
    go_enter Try.func37, Try.ntmps37
    go_wp2_with fail
    refine (implHeightAtRun_any _ _ _ _ _).mono ?_
    rintro e w1 ⟨rfl, hb⟩
    have hs : w.heap.size + 1 ≤ w1.heap.size := by have := hb.size; (try simp at this); omega
    have c0_0 : w1.cell? ⟨w.heap.size, 0, none⟩ = some (.int .i64 a) := (hb.cell (by simp; try omega)).trans (by simp)
    have c0_1 : w1.cell? ⟨w.heap.size, 1, none⟩ = some (.int .i64 b) := (hb.cell (by simp; try omega)).trans (by simp)
    have c0_2 : w1.cell? ⟨w.heap.size, 2, none⟩ = some (.int .i64 c) := (hb.cell (by simp; try omega)).trans (by simp)
    have Bt : Below w.heap.size w w1 := ((Below.refl _ _).alloc (Nat.le_refl _) _).trans (hb.mono (by simp; try omega))
    clear hb
    rw [H0.out, orI_no]
    go_wp2_with fail
    go_ret2
    exact ⟨rfl, Bt⟩
  · have b0 := placeB_le g0
    obtain ⟨q0, q1⟩ := atR_le (p := p) b0.1
    cases g1 : inB k (atR a b c p + 1) 20000
    · rw [head_no g0 q0 g1, orI_no]
      have H0 := Lib.hid g0
      have H1 := Lib.hid g1
      clear g0 g1
      go_enter Try.func37, Try.ntmps37
      go_wp2_with fail
      refine (implHeightAtRun_any _ _ _ _ _).mono ?_
      rintro e w1 ⟨rfl, hb⟩
      have hs : w.heap.size + 1 ≤ w1.heap.size := by have := hb.size; (try simp at this); omega
      have c0_0 : w1.cell? ⟨w.heap.size, 0, none⟩ = some (.int .i64 a) := (hb.cell (by simp; try omega)).trans (by simp)
      have c0_1 : w1.cell? ⟨w.heap.size, 1, none⟩ = some (.int .i64 b) := (hb.cell (by simp; try omega)).trans (by simp)
      have c0_2 : w1.cell? ⟨w.heap.size, 2, none⟩ = some (.int .i64 c) := (hb.cell (by simp; try omega)).trans (by simp)
      have Bt : Below w.heap.size w w1 := ((Below.refl _ _).alloc (Nat.le_refl _) _).trans (hb.mono (by simp; try omega))
      clear hb
      rw [H0.out, orI_yes]
      go_wp2_with fail
      refine (isWithin_any _ _ _ _).mono ?_
      rintro e w' ⟨rfl, rfl⟩
      rw [H1.out]
      go_wp2_with fail
      go_ret2
      exact ⟨rfl, Bt⟩
    · have b1 := inB_le g1
      rw [head_yes g0 q0 g1, orI_yes]
      have H0 := Lib.hid g0
      have H1 := Lib.hid g1
      clear g0 g1
      go_enter Try.func37, Try.ntmps37
      go_wp2_with fail
      refine (implHeightAtRun_any _ _ _ _ _).mono ?_
      rintro e w1 ⟨rfl, hb⟩
      have hs : w.heap.size + 1 ≤ w1.heap.size := by have := hb.size; (try simp at this); omega
      have c0_0 : w1.cell? ⟨w.heap.size, 0, none⟩ = some (.int .i64 a) := (hb.cell (by simp; try omega)).trans (by simp)
      have c0_1 : w1.cell? ⟨w.heap.size, 1, none⟩ = some (.int .i64 b) := (hb.cell (by simp; try omega)).trans (by simp)
      have c0_2 : w1.cell? ⟨w.heap.size, 2, none⟩ = some (.int .i64 c) := (hb.cell (by simp; try omega)).trans (by simp)
      have Bt : Below w.heap.size w w1 := ((Below.refl _ _).alloc (Nat.le_refl _) _).trans (hb.mono (by simp; try omega))
      clear hb
      rw [H0.out, orI_yes]
      go_wp2_with fail
      refine (isWithin_any _ _ _ _).mono ?_
      rintro e w' ⟨rfl, rfl⟩
      rw [H1.out]
      go_wp2_with fail
      go_ret2
      exact ⟨rfl, Bt⟩


end Go.Proofs.Ytokphedheedngaa
