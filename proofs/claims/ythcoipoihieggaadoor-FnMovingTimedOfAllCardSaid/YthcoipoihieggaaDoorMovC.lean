/- Contracts: catching up and places, on both sides. -/
import Derived.Test.YthcoipoihieggaaDoorMovR
import Derived.Test.YthcoipoihieggaaDoorGLeast
namespace Go.Proofs.YthcoipoihieggaaDoor
set_option maxRecDepth 100000
open Go.RowKit

def placeV (x y p t : Int) : Bool := askB x y p && inB t 0 1000
def orI (v : Bool) (a : Int) : Int := if v then a else 0
theorem orI_no (a : Int) : orI false a = 0 := rfl
theorem orI_yes (a : Int) : orI true a = a := rfl
theorem least_min (a b : Int) : leastI a b = min b a := by unfold leastI; split <;> omega


set_option maxHeartbeats 1000000 in
theorem implPlaceAt_any (x y p t : Int) (w : World) :
    Calls Tryd.prog 24 #[.agg #[.int .i64 x, .int .i64 y], .int .i64 p, .int .i64 t] w fun e w' => e = .returned (.tuple #[.int .i64 (orI (placeV x y p t) (leastI x ((y + p) * t))), .bool (placeV x y p t)]) ∧ Below w.heap.size w w' := by
  cases g0 : movB x y
  · have hV : placeV x y p t = false := by simp [placeV, askB, g0]
    rw [hV, orI_no]
    clear hV
    have H0 := Lib.hid g0
    clear g0
    go_enter Tryd.func24, Tryd.ntmps24
    go_wp2_with fail
    refine (impMov_any _ _ _).mono ?_
    rintro e w1 ⟨rfl, hb⟩
    have hs : w.heap.size + 1 ≤ w1.heap.size := by have := hb.size; (try simp at this); omega
    have c0_0 : w1.cell? ⟨w.heap.size, 0, none⟩ = some (.int .i64 x) := (hb.cell (by simp; try omega)).trans (by simp)
    have c0_1 : w1.cell? ⟨w.heap.size, 1, none⟩ = some (.int .i64 y) := (hb.cell (by simp; try omega)).trans (by simp)
    have Bt : Below w.heap.size w w1 := ((Below.refl _ _).alloc (Nat.le_refl _) _).trans (hb.mono (by simp; try omega))
    clear hb
    rw [H0.out]
    go_wp2_with fail
    go_ret2
    exact ⟨rfl, Bt⟩
  · have b0 := movB_le g0
    cases g1 : inB p 0 20
    · have hV : placeV x y p t = false := by simp [placeV, askB, g1]
      rw [hV, orI_no]
      clear hV
      have H0 := Lib.hid g0
      clear g0
      have H1 := Lib.hid g1
      clear g1
      go_enter Tryd.func24, Tryd.ntmps24
      go_wp2_with fail
      refine (impMov_any _ _ _).mono ?_
      rintro e w1 ⟨rfl, hb⟩
      have hs : w.heap.size + 1 ≤ w1.heap.size := by have := hb.size; (try simp at this); omega
      have c0_0 : w1.cell? ⟨w.heap.size, 0, none⟩ = some (.int .i64 x) := (hb.cell (by simp; try omega)).trans (by simp)
      have c0_1 : w1.cell? ⟨w.heap.size, 1, none⟩ = some (.int .i64 y) := (hb.cell (by simp; try omega)).trans (by simp)
      have Bt : Below w.heap.size w w1 := ((Below.refl _ _).alloc (Nat.le_refl _) _).trans (hb.mono (by simp; try omega))
      clear hb
      rw [H0.out]
      go_wp2_with fail
      refine (isPace_any _ _).mono ?_
      rintro e w' ⟨rfl, rfl⟩
      rw [H1.out]
      go_wp2_with fail
      go_ret2
      exact ⟨rfl, Bt⟩
    · have b1 := inB_le g1
      cases g2 : inB t 0 1000
      · have hV : placeV x y p t = false := by simp [placeV, askB, g2]
        rw [hV, orI_no]
        clear hV
        have H0 := Lib.hid g0
        clear g0
        have H1 := Lib.hid g1
        clear g1
        have H2 := Lib.hid g2
        clear g2
        go_enter Tryd.func24, Tryd.ntmps24
        go_wp2_with fail
        refine (impMov_any _ _ _).mono ?_
        rintro e w1 ⟨rfl, hb⟩
        have hs : w.heap.size + 1 ≤ w1.heap.size := by have := hb.size; (try simp at this); omega
        have c0_0 : w1.cell? ⟨w.heap.size, 0, none⟩ = some (.int .i64 x) := (hb.cell (by simp; try omega)).trans (by simp)
        have c0_1 : w1.cell? ⟨w.heap.size, 1, none⟩ = some (.int .i64 y) := (hb.cell (by simp; try omega)).trans (by simp)
        have Bt : Below w.heap.size w w1 := ((Below.refl _ _).alloc (Nat.le_refl _) _).trans (hb.mono (by simp; try omega))
        clear hb
        rw [H0.out]
        go_wp2_with fail
        refine (isPace_any _ _).mono ?_
        rintro e w' ⟨rfl, rfl⟩
        rw [H1.out]
        go_wp2_with fail
        refine (isWithin_any _ _ _ _).mono ?_
        rintro e w' ⟨rfl, rfl⟩
        rw [H2.out]
        go_wp2_with fail
        go_ret2
        exact ⟨rfl, Bt⟩
      · have b2 := inB_le g2
        rw [show placeV x y p t = true by simp [placeV, askB, g0, g1, g2], orI_yes, Int.add_comm y p, least_min]
        obtain ⟨e3, e4⟩ := mul_bd (a := p + y) (A := 40) (b := t) (B := 1000) (by omega) (by omega) (by omega) (by omega)
        have H0 := Lib.hid g0
        clear g0
        have H1 := Lib.hid g1
        clear g1
        have H2 := Lib.hid g2
        clear g2
        go_enter Tryd.func24, Tryd.ntmps24
        go_wp2_with fail
        refine (impMov_any _ _ _).mono ?_
        rintro e w1 ⟨rfl, hb⟩
        have hs : w.heap.size + 1 ≤ w1.heap.size := by have := hb.size; (try simp at this); omega
        have c0_0 : w1.cell? ⟨w.heap.size, 0, none⟩ = some (.int .i64 x) := (hb.cell (by simp; try omega)).trans (by simp)
        have c0_1 : w1.cell? ⟨w.heap.size, 1, none⟩ = some (.int .i64 y) := (hb.cell (by simp; try omega)).trans (by simp)
        have Bt : Below w.heap.size w w1 := ((Below.refl _ _).alloc (Nat.le_refl _) _).trans (hb.mono (by simp; try omega))
        clear hb
        rw [H0.out]
        go_wp2_with fail
        refine (isPace_any _ _).mono ?_
        rintro e w' ⟨rfl, rfl⟩
        rw [H1.out]
        go_wp2_with fail
        refine (isWithin_any _ _ _ _).mono ?_
        rintro e w' ⟨rfl, rfl⟩
        rw [H2.out]
        go_wp2_with fail
        have E1 : IntKind.i64.wrap ((p + y) * t) = (p + y) * t := IntWalk.i64_in _ (by omega)
        go_region_held3 (fun w' => w'.cell? ⟨w.heap.size, 0, none⟩ = some (.int .i64 x) ∧ w'.cell? ⟨w.heap.size, 1, none⟩ = some (.int .i64 y)) (refine ⟨?_, ?_⟩ <;> (repeat (first | assumption | refine keepA ?_ | refine keepD ?_ | refine keepDN ?_)))
          (first | (go_at_call 36; refine (walkerWith_lit _ _ _ _).mono ?_; rintro e wq ⟨rfl, rfl⟩) | (go_at_call 49; refine (speed_lit _ _ _ (by omega) (by omega)).mono ?_; rintro e wq ⟨rfl, rfl⟩))
        all_goals go_wp2_with fail
        all_goals (go_ret2; refine ⟨ret_ib (by omega), ?_⟩; repeat (first | exact Bt | refine keepB ?_ | refine keepBN ?_ | refine Below.drew ?_))

def catchB (x y s f t : Int) : Bool := askB x y s && (askB x y f && (!decide (f ≤ s) && inB t 0 1000))
def catchV (x y s f t : Int) : Bool := catchB x y s f t && !decide (x * (f - s) < (y + s) * ((y + f) * t))
theorem catchB_le {x y s f t : Int} (h : catchB x y s f t = true) : 1 ≤ x ∧ x ≤ 500 ∧ 0 ≤ y ∧ y ≤ 20 ∧ 0 ≤ s ∧ s < f ∧ f ≤ 20 ∧ 0 ≤ t ∧ t ≤ 1000 := by
  simp only [catchB, Bool.and_eq_true, Bool.not_eq_true', decide_eq_false_iff_not] at h
  have h1 := askB_le h.1
  have h2 := askB_le h.2.1
  have h3 := inB_le h.2.2.2
  have h4 := h.2.2.1
  omega
theorem catch_no2 {x y s f t : Int} (h : inB f (s + 1) 20 = false) : catchV x y s f t = false := by
  rcases inB_gt h with h | h
  · simp [catchV, catchB, show f ≤ s by omega]
  · simp [catchV, catchB, askB, inB_no (n := f) (lo := 0) (hi := 20) (.inr h)]
theorem catch_bd {x y s f t : Int} (h : catchB x y s f t = true) : (0 ≤ (y + f) * t ∧ (y + f) * t ≤ 40000) ∧ (0 ≤ (y + s) * ((y + f) * t) ∧ (y + s) * ((y + f) * t) ≤ 1600000) ∧ (0 ≤ x * (f - s) ∧ x * (f - s) ≤ 10000) := by
  have := catchB_le h
  have e1 := mul_bd (a := y + f) (A := 40) (b := t) (B := 1000) (by omega) (by omega) (by omega) (by omega)
  have e2 := mul_bd (a := y + s) (A := 40) (b := (y + f) * t) (B := 40000) (by omega) (by omega) (by omega) (by omega)
  have e3 := mul_bd (a := x) (A := 500) (b := f - s) (B := 20) (by omega) (by omega) (by omega) (by omega)
  exact ⟨e1, e2, e3⟩




end Go.Proofs.YthcoipoihieggaaDoor
