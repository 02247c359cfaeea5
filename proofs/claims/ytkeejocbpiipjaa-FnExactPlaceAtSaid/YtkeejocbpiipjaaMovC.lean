/- Contracts: catching up and places, on both sides. -/
import Derived.Test.YtkeejocbpiipjaaMovR
import Derived.Test.YtkeejocbpiipjaaGLeast
namespace Go.Proofs.Ytkeejocbpiipjaa
open Go.RowKit

def placeV (x y p t : Int) : Bool := askB x y p && inB t 0 1000
def orI (v : Bool) (a : Int) : Int := if v then a else 0
theorem orI_no (a : Int) : orI false a = 0 := rfl
theorem orI_yes (a : Int) : orI true a = a := rfl
theorem least_min (a b : Int) : leastI a b = min b a := by unfold leastI; split <;> omega

set_option maxHeartbeats 1000000 in
theorem specPlaceAt_any (x y p t : Int) (w : World) :
    Calls Try.prog 26 #[.agg #[.int .i64 x, .int .i64 y], .int .i64 p, .int .i64 t] w fun e w' => e = .returned (.tuple #[.int .i64 (orI (placeV x y p t) (leastI x ((y + p) * t))), .bool (placeV x y p t)]) ∧ Below w.heap.size w w' := by
  cases g0 : askB x y p
  · have hV : placeV x y p t = false := by simp [placeV, g0]
    rw [hV, orI_no]
    clear hV
    have H0 := Lib.hid g0
    clear g0
    go_enter Try.func26, Try.ntmps26
    go_wp2_with fail
    refine (moAsked_any _ _ _ _).mono ?_
    rintro e w1 ⟨rfl, hb⟩
    have hs : w.heap.size + 1 ≤ w1.heap.size := by have := hb.size; (try simp at this); omega
    have c0_0 : w1.cell? ⟨w.heap.size, 0, none⟩ = some (.int .i64 x) := (hb.cell (by simp; try omega)).trans (by simp)
    have c0_1 : w1.cell? ⟨w.heap.size, 1, none⟩ = some (.int .i64 y) := (hb.cell (by simp; try omega)).trans (by simp)
    have Bt : Below w.heap.size w w1 := ((Below.refl _ _).alloc (Nat.le_refl _) _).trans (hb.mono (by simp; try omega))
    clear hb
    rw [H0.out]
    go_wp2_with fail
    go_ret2
    exact ⟨rfl, Bt⟩
  · have b0 := askB_le g0
    cases g1 : inB t 0 1000
    · have hV : placeV x y p t = false := by simp [placeV, g1]
      rw [hV, orI_no]
      clear hV
      have H0 := Lib.hid g0
      clear g0
      have H1 := Lib.hid g1
      clear g1
      go_enter Try.func26, Try.ntmps26
      go_wp2_with fail
      refine (moAsked_any _ _ _ _).mono ?_
      rintro e w1 ⟨rfl, hb⟩
      have hs : w.heap.size + 1 ≤ w1.heap.size := by have := hb.size; (try simp at this); omega
      have c0_0 : w1.cell? ⟨w.heap.size, 0, none⟩ = some (.int .i64 x) := (hb.cell (by simp; try omega)).trans (by simp)
      have c0_1 : w1.cell? ⟨w.heap.size, 1, none⟩ = some (.int .i64 y) := (hb.cell (by simp; try omega)).trans (by simp)
      have Bt : Below w.heap.size w w1 := ((Below.refl _ _).alloc (Nat.le_refl _) _).trans (hb.mono (by simp; try omega))
      clear hb
      rw [H0.out]
      go_wp2_with fail
      refine (l1In_any _ _ _ _).mono ?_
      rintro e w' ⟨rfl, rfl⟩
      rw [H1.out]
      go_wp2_with fail
      go_ret2
      exact ⟨rfl, Bt⟩
    · have b1 := inB_le g1
      rw [show placeV x y p t = true by simp [placeV, g0, g1], orI_yes]
      obtain ⟨e3, e4⟩ := mul_bd (a := y + p) (A := 40) (b := t) (B := 1000) (by omega) (by omega) (by omega) (by omega)
      have H0 := Lib.hid g0
      clear g0
      have H1 := Lib.hid g1
      clear g1
      go_enter Try.func26, Try.ntmps26
      go_wp2_with fail
      refine (moAsked_any _ _ _ _).mono ?_
      rintro e w1 ⟨rfl, hb⟩
      have hs : w.heap.size + 1 ≤ w1.heap.size := by have := hb.size; (try simp at this); omega
      have c0_0 : w1.cell? ⟨w.heap.size, 0, none⟩ = some (.int .i64 x) := (hb.cell (by simp; try omega)).trans (by simp)
      have c0_1 : w1.cell? ⟨w.heap.size, 1, none⟩ = some (.int .i64 y) := (hb.cell (by simp; try omega)).trans (by simp)
      have Bt : Below w.heap.size w w1 := ((Below.refl _ _).alloc (Nat.le_refl _) _).trans (hb.mono (by simp; try omega))
      clear hb
      rw [H0.out]
      go_wp2_with fail
      refine (l1In_any _ _ _ _).mono ?_
      rintro e w' ⟨rfl, rfl⟩
      rw [H1.out]
      go_wp2_with fail
      refine (l1Least_any _ _ _).mono ?_
      rintro e w' ⟨rfl, rfl⟩
      go_wp2_with fail
      go_ret2
      exact ⟨rfl, Bt⟩

set_option maxHeartbeats 1000000 in
theorem implPlaceAt_any (x y p t : Int) (w : World) :
    Calls Try.prog 27 #[.agg #[.int .i64 x, .int .i64 y], .int .i64 p, .int .i64 t] w fun e w' => e = .returned (.tuple #[.int .i64 (orI (placeV x y p t) (leastI x ((y + p) * t))), .bool (placeV x y p t)]) ∧ Below w.heap.size w w' := by
  cases g0 : movB x y
  · have hV : placeV x y p t = false := by simp [placeV, askB, g0]
    rw [hV, orI_no]
    clear hV
    have H0 := Lib.hid g0
    clear g0
    go_enter Try.func27, Try.ntmps27
    go_wp2_with fail
    refine (impMov_any _ _ _).mono ?_
    rintro e w1 ⟨rfl, hb⟩
    have hs : w.heap.size + 1 ≤ w1.heap.size := by have := hb.size; (try simp at this); omega
    have c0_0 : w1.cell? ⟨w.heap.size, 0, none⟩ = some (.int .i64 x) := (hb.cell (by simp; try omega)).trans (by simp)
    have c0_1 : w1.cell? ⟨w.heap.size, 1, none⟩ = some (.int .i64 y) := (hb.cell (by simp; try omega)).trans (by simp)
    have Bt : Below w.heap.size w w1 := ((Below.refl _ _).alloc (Nat.le_refl _) _).trans (hb.mono (by simp; try omega))
    clear hb
    rw [H0.out]
    go_wp2_with fail
    go_ret2
    exact ⟨rfl, Bt⟩
  · have b0 := movB_le g0
    cases g1 : inB p 0 20
    · have hV : placeV x y p t = false := by simp [placeV, askB, g1]
      rw [hV, orI_no]
      clear hV
      have H0 := Lib.hid g0
      clear g0
      have H1 := Lib.hid g1
      clear g1
      go_enter Try.func27, Try.ntmps27
      go_wp2_with fail
      refine (impMov_any _ _ _).mono ?_
      rintro e w1 ⟨rfl, hb⟩
      have hs : w.heap.size + 1 ≤ w1.heap.size := by have := hb.size; (try simp at this); omega
      have c0_0 : w1.cell? ⟨w.heap.size, 0, none⟩ = some (.int .i64 x) := (hb.cell (by simp; try omega)).trans (by simp)
      have c0_1 : w1.cell? ⟨w.heap.size, 1, none⟩ = some (.int .i64 y) := (hb.cell (by simp; try omega)).trans (by simp)
      have Bt : Below w.heap.size w w1 := ((Below.refl _ _).alloc (Nat.le_refl _) _).trans (hb.mono (by simp; try omega))
      clear hb
      rw [H0.out]
      go_wp2_with fail
      refine (isPace_any _ _).mono ?_
      rintro e w' ⟨rfl, rfl⟩
      rw [H1.out]
      go_wp2_with fail
      go_ret2
      exact ⟨rfl, Bt⟩
    · have b1 := inB_le g1
      cases g2 : inB t 0 1000
      · have hV : placeV x y p t = false := by simp [placeV, askB, g2]
        rw [hV, orI_no]
        clear hV
        have H0 := Lib.hid g0
        clear g0
        have H1 := Lib.hid g1
        clear g1
        have H2 := Lib.hid g2
        clear g2
        go_enter Try.func27, Try.ntmps27
        go_wp2_with fail
        refine (impMov_any _ _ _).mono ?_
        rintro e w1 ⟨rfl, hb⟩
        have hs : w.heap.size + 1 ≤ w1.heap.size := by have := hb.size; (try simp at this); omega
        have c0_0 : w1.cell? ⟨w.heap.size, 0, none⟩ = some (.int .i64 x) := (hb.cell (by simp; try omega)).trans (by simp)
        have c0_1 : w1.cell? ⟨w.heap.size, 1, none⟩ = some (.int .i64 y) := (hb.cell (by simp; try omega)).trans (by simp)
        have Bt : Below w.heap.size w w1 := ((Below.refl _ _).alloc (Nat.le_refl _) _).trans (hb.mono (by simp; try omega))
        clear hb
        rw [H0.out]
        go_wp2_with fail
        refine (isPace_any _ _).mono ?_
        rintro e w' ⟨rfl, rfl⟩
        rw [H1.out]
        go_wp2_with fail
        refine (isWithin_any _ _ _ _).mono ?_
        rintro e w' ⟨rfl, rfl⟩
        rw [H2.out]
        go_wp2_with fail
        go_ret2
        exact ⟨rfl, Bt⟩
      · have b2 := inB_le g2
        rw [show placeV x y p t = true by simp [placeV, askB, g0, g1, g2], orI_yes, Int.add_comm y p, least_min]
        obtain ⟨e3, e4⟩ := mul_bd (a := p + y) (A := 40) (b := t) (B := 1000) (by omega) (by omega) (by omega) (by omega)
        have H0 := Lib.hid g0
        clear g0
        have H1 := Lib.hid g1
        clear g1
        have H2 := Lib.hid g2
        clear g2
        go_enter Try.func27, Try.ntmps27
        go_wp2_with fail
        refine (impMov_any _ _ _).mono ?_
        rintro e w1 ⟨rfl, hb⟩
        have hs : w.heap.size + 1 ≤ w1.heap.size := by have := hb.size; (try simp at this); omega
        have c0_0 : w1.cell? ⟨w.heap.size, 0, none⟩ = some (.int .i64 x) := (hb.cell (by simp; try omega)).trans (by simp)
        have c0_1 : w1.cell? ⟨w.heap.size, 1, none⟩ = some (.int .i64 y) := (hb.cell (by simp; try omega)).trans (by simp)
        have Bt : Below w.heap.size w w1 := ((Below.refl _ _).alloc (Nat.le_refl _) _).trans (hb.mono (by simp; try omega))
        clear hb
        rw [H0.out]
        go_wp2_with fail
        refine (isPace_any _ _).mono ?_
        rintro e w' ⟨rfl, rfl⟩
        rw [H1.out]
        go_wp2_with fail
        refine (isWithin_any _ _ _ _).mono ?_
        rintro e w' ⟨rfl, rfl⟩
        rw [H2.out]
        go_wp2_with fail
        have E1 : IntKind.i64.wrap ((p + y) * t) = (p + y) * t := IntWalk.i64_in _ (by omega)
        go_region_held3 (fun w' => w'.cell? ⟨w.heap.size, 0, none⟩ = some (.int .i64 x) ∧ w'.cell? ⟨w.heap.size, 1, none⟩ = some (.int .i64 y)) (refine ⟨?_, ?_⟩ <;> (repeat (first | assumption | refine keepA ?_ | refine keepD ?_ | refine keepDN ?_)))
          (first | (go_at_call 32; refine (walkerWith_lit _ _ _ _).mono ?_; rintro e wq ⟨rfl, rfl⟩) | (go_at_call 33; refine (speed_lit _ _ _ (by omega) (by omega)).mono ?_; rintro e wq ⟨rfl, rfl⟩))
        all_goals go_wp2_with fail
        all_goals (go_ret2; refine ⟨ret_ib (by omega), ?_⟩; repeat (first | exact Bt | refine keepB ?_ | refine keepBN ?_ | refine Below.drew ?_))

def catchB (x y s f t : Int) : Bool := askB x y s && (askB x y f && (!decide (f ≤ s) && inB t 0 1000))
def catchV (x y s f t : Int) : Bool := catchB x y s f t && !decide (x * (f - s) < (y + s) * ((y + f) * t))
theorem catchB_le {x y s f t : Int} (h : catchB x y s f t = true) : 1 ≤ x ∧ x ≤ 500 ∧ 0 ≤ y ∧ y ≤ 20 ∧ 0 ≤ s ∧ s < f ∧ f ≤ 20 ∧ 0 ≤ t ∧ t ≤ 1000 := by
  simp only [catchB, Bool.and_eq_true, Bool.not_eq_true', decide_eq_false_iff_not] at h
  have h1 := askB_le h.1
  have h2 := askB_le h.2.1
  have h3 := inB_le h.2.2.2
  have h4 := h.2.2.1
  omega
theorem catch_no2 {x y s f t : Int} (h : inB f (s + 1) 20 = false) : catchV x y s f t = false := by
  rcases inB_gt h with h | h
  · simp [catchV, catchB, show f ≤ s by omega]
  · simp [catchV, catchB, askB, inB_no (n := f) (lo := 0) (hi := 20) (.inr h)]
theorem catch_bd {x y s f t : Int} (h : catchB x y s f t = true) : (0 ≤ (y + f) * t ∧ (y + f) * t ≤ 40000) ∧ (0 ≤ (y + s) * ((y + f) * t) ∧ (y + s) * ((y + f) * t) ≤ 1600000) ∧ (0 ≤ x * (f - s) ∧ x * (f - s) ≤ 10000) := by
  have := catchB_le h
  have e1 := mul_bd (a := y + f) (A := 40) (b := t) (B := 1000) (by omega) (by omega) (by omega) (by omega)
  have e2 := mul_bd (a := y + s) (A := 40) (b := (y + f) * t) (B := 40000) (by omega) (by omega) (by omega) (by omega)
  have e3 := mul_bd (a := x) (A := 500) (b := f - s) (B := 20) (by omega) (by omega) (by omega) (by omega)
  exact ⟨e1, e2, e3⟩

set_option maxHeartbeats 2000000 in
theorem specCatchUp_any (x y s f t : Int) (w : World) :
    Calls Try.prog 13 #[.agg #[.int .i64 x, .int .i64 y], .int .i64 s, .int .i64 f, .int .i64 t] w fun e w' => e = .returned (.tuple #[.int .i64 (frN (catchV x y s f t) ((y + f) * t) (f - s)), .int .i64 (frD (catchV x y s f t) ((y + f) * t) (f - s)), .bool (catchV x y s f t)]) ∧ Below w.heap.size w w' := by
  cases g0 : askB x y s
  · have hV : catchV x y s f t = false := by simp [catchV, catchB, g0]
    rw [hV, frN_no, frD_no]
    clear hV
    have H0 := Lib.hid g0
    clear g0
    go_enter Try.func13, Try.ntmps13
    go_wp2_with fail
    refine (moAsked_any _ _ _ _).mono ?_
    rintro e w1 ⟨rfl, hb⟩
    have hs : w.heap.size + 1 ≤ w1.heap.size := by have := hb.size; (try simp at this); omega
    have c0_0 : w1.cell? ⟨w.heap.size, 0, none⟩ = some (.int .i64 x) := (hb.cell (by simp; try omega)).trans (by simp)
    have c0_1 : w1.cell? ⟨w.heap.size, 1, none⟩ = some (.int .i64 y) := (hb.cell (by simp; try omega)).trans (by simp)
    have Bt : Below w.heap.size w w1 := ((Below.refl _ _).alloc (Nat.le_refl _) _).trans (hb.mono (by simp; try omega))
    clear hb
    rw [H0.out]
    go_wp2_with fail
    go_ret3
    exact ⟨rfl, Bt⟩
  · have b0 := askB_le g0
    cases g1 : askB x y f
    · have hV : catchV x y s f t = false := by simp [catchV, catchB, g1]
      rw [hV, frN_no, frD_no]
      clear hV
      have H0 := Lib.hid g0
      clear g0
      have H1 := Lib.hid g1
      clear g1
      go_enter Try.func13, Try.ntmps13
      go_wp2_with fail
      refine (moAsked_any _ _ _ _).mono ?_
      rintro e w1 ⟨rfl, hb⟩
      have hs : w.heap.size + 1 ≤ w1.heap.size := by have := hb.size; (try simp at this); omega
      have c0_0 : w1.cell? ⟨w.heap.size, 0, none⟩ = some (.int .i64 x) := (hb.cell (by simp; try omega)).trans (by simp)
      have c0_1 : w1.cell? ⟨w.heap.size, 1, none⟩ = some (.int .i64 y) := (hb.cell (by simp; try omega)).trans (by simp)
      have Bt : Below w.heap.size w w1 := ((Below.refl _ _).alloc (Nat.le_refl _) _).trans (hb.mono (by simp; try omega))
      clear hb
      rw [H0.out]
      go_wp2_with fail
      refine (moAsked_any _ _ _ _).mono ?_
      rintro e w2 ⟨rfl, hb⟩
      replace c0_0 := (hb.cell (p := ⟨w.heap.size, 0, none⟩) (by show w.heap.size < w1.heap.size; omega)).trans c0_0
      replace c0_1 := (hb.cell (p := ⟨w.heap.size, 1, none⟩) (by show w.heap.size < w1.heap.size; omega)).trans c0_1
      replace Bt := Bt.trans (hb.mono (by omega))
      replace hs : w.heap.size + 1 ≤ w2.heap.size := by have := hb.size; omega
      clear hb
      rw [H1.out]
      go_wp2_with fail
      go_ret3
      exact ⟨rfl, Bt⟩
    · have b1 := askB_le g1
      by_cases g2 : f ≤ s
      · have hV : catchV x y s f t = false := by simp [catchV, catchB, g2]
        rw [hV, frN_no, frD_no]
        clear hV
        have H0 := Lib.hid g0
        clear g0
        have H1 := Lib.hid g1
        clear g1
        go_enter Try.func13, Try.ntmps13
        go_wp2_with fail
        refine (moAsked_any _ _ _ _).mono ?_
        rintro e w1 ⟨rfl, hb⟩
        have hs : w.heap.size + 1 ≤ w1.heap.size := by have := hb.size; (try simp at this); omega
        have c0_0 : w1.cell? ⟨w.heap.size, 0, none⟩ = some (.int .i64 x) := (hb.cell (by simp; try omega)).trans (by simp)
        have c0_1 : w1.cell? ⟨w.heap.size, 1, none⟩ = some (.int .i64 y) := (hb.cell (by simp; try omega)).trans (by simp)
        have Bt : Below w.heap.size w w1 := ((Below.refl _ _).alloc (Nat.le_refl _) _).trans (hb.mono (by simp; try omega))
        clear hb
        rw [H0.out]
        go_wp2_with fail
        refine (moAsked_any _ _ _ _).mono ?_
        rintro e w2 ⟨rfl, hb⟩
        replace c0_0 := (hb.cell (p := ⟨w.heap.size, 0, none⟩) (by show w.heap.size < w1.heap.size; omega)).trans c0_0
        replace c0_1 := (hb.cell (p := ⟨w.heap.size, 1, none⟩) (by show w.heap.size < w1.heap.size; omega)).trans c0_1
        replace Bt := Bt.trans (hb.mono (by omega))
        replace hs : w.heap.size + 1 ≤ w2.heap.size := by have := hb.size; omega
        clear hb
        rw [H1.out]
        go_wp2_with fail
        go_ret3
        exact ⟨rfl, Bt⟩
      · cases g3 : inB t 0 1000
        · have hV : catchV x y s f t = false := by simp [catchV, catchB, g3]
          rw [hV, frN_no, frD_no]
          clear hV
          have H0 := Lib.hid g0
          clear g0
          have H1 := Lib.hid g1
          clear g1
          have H3 := Lib.hid g3
          clear g3
          go_enter Try.func13, Try.ntmps13
          go_wp2_with fail
          refine (moAsked_any _ _ _ _).mono ?_
          rintro e w1 ⟨rfl, hb⟩
          have hs : w.heap.size + 1 ≤ w1.heap.size := by have := hb.size; (try simp at this); omega
          have c0_0 : w1.cell? ⟨w.heap.size, 0, none⟩ = some (.int .i64 x) := (hb.cell (by simp; try omega)).trans (by simp)
          have c0_1 : w1.cell? ⟨w.heap.size, 1, none⟩ = some (.int .i64 y) := (hb.cell (by simp; try omega)).trans (by simp)
          have Bt : Below w.heap.size w w1 := ((Below.refl _ _).alloc (Nat.le_refl _) _).trans (hb.mono (by simp; try omega))
          clear hb
          rw [H0.out]
          go_wp2_with fail
          refine (moAsked_any _ _ _ _).mono ?_
          rintro e w2 ⟨rfl, hb⟩
          replace c0_0 := (hb.cell (p := ⟨w.heap.size, 0, none⟩) (by show w.heap.size < w1.heap.size; omega)).trans c0_0
          replace c0_1 := (hb.cell (p := ⟨w.heap.size, 1, none⟩) (by show w.heap.size < w1.heap.size; omega)).trans c0_1
          replace Bt := Bt.trans (hb.mono (by omega))
          replace hs : w.heap.size + 1 ≤ w2.heap.size := by have := hb.size; omega
          clear hb
          rw [H1.out]
          go_wp2_with fail
          refine (l1In_any _ _ _ _).mono ?_
          rintro e w' ⟨rfl, rfl⟩
          rw [H3.out]
          go_wp2_with fail
          go_ret3
          exact ⟨rfl, Bt⟩
        · have b3 := inB_le g3
          have hB : catchB x y s f t = true := by simp [catchB, g0, g1, g2, g3]
          obtain ⟨⟨d0, d1⟩, ⟨d2, d3⟩, d4, d5⟩ := catch_bd hB
          by_cases h : x * (f - s) < (y + s) * ((y + f) * t)
          · rw [show catchV x y s f t = false by simp [catchV, hB, h], frN_no, frD_no]
            clear hB
            have H0 := Lib.hid g0
            clear g0
            have H1 := Lib.hid g1
            clear g1
            have H3 := Lib.hid g3
            clear g3
            go_enter Try.func13, Try.ntmps13
            go_wp2_with fail
            refine (moAsked_any _ _ _ _).mono ?_
            rintro e w1 ⟨rfl, hb⟩
            have hs : w.heap.size + 1 ≤ w1.heap.size := by have := hb.size; (try simp at this); omega
            have c0_0 : w1.cell? ⟨w.heap.size, 0, none⟩ = some (.int .i64 x) := (hb.cell (by simp; try omega)).trans (by simp)
            have c0_1 : w1.cell? ⟨w.heap.size, 1, none⟩ = some (.int .i64 y) := (hb.cell (by simp; try omega)).trans (by simp)
            have Bt : Below w.heap.size w w1 := ((Below.refl _ _).alloc (Nat.le_refl _) _).trans (hb.mono (by simp; try omega))
            clear hb
            rw [H0.out]
            go_wp2_with fail
            refine (moAsked_any _ _ _ _).mono ?_
            rintro e w2 ⟨rfl, hb⟩
            replace c0_0 := (hb.cell (p := ⟨w.heap.size, 0, none⟩) (by show w.heap.size < w1.heap.size; omega)).trans c0_0
            replace c0_1 := (hb.cell (p := ⟨w.heap.size, 1, none⟩) (by show w.heap.size < w1.heap.size; omega)).trans c0_1
            replace Bt := Bt.trans (hb.mono (by omega))
            replace hs : w.heap.size + 1 ≤ w2.heap.size := by have := hb.size; omega
            clear hb
            rw [H1.out]
            go_wp2_with fail
            refine (l1In_any _ _ _ _).mono ?_
            rintro e w' ⟨rfl, rfl⟩
            rw [H3.out]
            have q := decide_eq_true h
            go_wp2_with fail
            go_ret3
            exact ⟨rfl, Bt⟩
          · rw [show catchV x y s f t = true by simp [catchV, hB, h], frN_yes, frD_yes]
            clear hB
            have H0 := Lib.hid g0
            clear g0
            have H1 := Lib.hid g1
            clear g1
            have H3 := Lib.hid g3
            clear g3
            go_enter Try.func13, Try.ntmps13
            go_wp2_with fail
            refine (moAsked_any _ _ _ _).mono ?_
            rintro e w1 ⟨rfl, hb⟩
            have hs : w.heap.size + 1 ≤ w1.heap.size := by have := hb.size; (try simp at this); omega
            have c0_0 : w1.cell? ⟨w.heap.size, 0, none⟩ = some (.int .i64 x) := (hb.cell (by simp; try omega)).trans (by simp)
            have c0_1 : w1.cell? ⟨w.heap.size, 1, none⟩ = some (.int .i64 y) := (hb.cell (by simp; try omega)).trans (by simp)
            have Bt : Below w.heap.size w w1 := ((Below.refl _ _).alloc (Nat.le_refl _) _).trans (hb.mono (by simp; try omega))
            clear hb
            rw [H0.out]
            go_wp2_with fail
            refine (moAsked_any _ _ _ _).mono ?_
            rintro e w2 ⟨rfl, hb⟩
            replace c0_0 := (hb.cell (p := ⟨w.heap.size, 0, none⟩) (by show w.heap.size < w1.heap.size; omega)).trans c0_0
            replace c0_1 := (hb.cell (p := ⟨w.heap.size, 1, none⟩) (by show w.heap.size < w1.heap.size; omega)).trans c0_1
            replace Bt := Bt.trans (hb.mono (by omega))
            replace hs : w.heap.size + 1 ≤ w2.heap.size := by have := hb.size; omega
            clear hb
            rw [H1.out]
            go_wp2_with fail
            refine (l1In_any _ _ _ _).mono ?_
            rintro e w' ⟨rfl, rfl⟩
            rw [H3.out]
            go_wp2_with fail
            refine (moLow_any ((y + f) * t) (f - s) _ (by omega) (by omega) (by omega) (by omega)).mono ?_
            rintro e w3 ⟨rfl, kk, hw⟩
            have hb := drew_below hw
            clear hw kk
            replace c0_0 := (hb.cell (p := ⟨w.heap.size, 0, none⟩) (by show w.heap.size < w2.heap.size; omega)).trans c0_0
            replace c0_1 := (hb.cell (p := ⟨w.heap.size, 1, none⟩) (by show w.heap.size < w2.heap.size; omega)).trans c0_1
            replace Bt := Bt.trans (hb.mono (by omega))
            replace hs : w.heap.size + 1 ≤ w3.heap.size := by have := hb.size; omega
            clear hb
            go_wp2_with fail
            go_ret3
            exact ⟨rfl, Bt⟩

set_option maxHeartbeats 2000000 in
theorem implCatchUp_any (x y s f t : Int) (w : World) :
    Calls Try.prog 14 #[.agg #[.int .i64 x, .int .i64 y], .int .i64 s, .int .i64 f, .int .i64 t] w fun e w' => e = .returned (.tuple #[.int .i64 (frN (catchV x y s f t) ((y + f) * t) (f - s)), .int .i64 (frD (catchV x y s f t) ((y + f) * t) (f - s)), .bool (catchV x y s f t)]) ∧ Below w.heap.size w w' := by
  cases g0 : movB x y
  · have hV : catchV x y s f t = false := by simp [catchV, catchB, askB, g0]
    rw [hV, frN_no, frD_no]
    clear hV
    have H0 := Lib.hid g0
    clear g0
    go_enter Try.func14, Try.ntmps14
    go_wp2_with fail
    refine (impMov_any _ _ _).mono ?_
    rintro e w1 ⟨rfl, hb⟩
    have hs : w.heap.size + 1 ≤ w1.heap.size := by have := hb.size; (try simp at this); omega
    have c0_0 : w1.cell? ⟨w.heap.size, 0, none⟩ = some (.int .i64 x) := (hb.cell (by simp; try omega)).trans (by simp)
    have c0_1 : w1.cell? ⟨w.heap.size, 1, none⟩ = some (.int .i64 y) := (hb.cell (by simp; try omega)).trans (by simp)
    have Bt : Below w.heap.size w w1 := ((Below.refl _ _).alloc (Nat.le_refl _) _).trans (hb.mono (by simp; try omega))
    clear hb
    rw [H0.out]
    go_wp2_with fail
    go_ret3
    exact ⟨rfl, Bt⟩
  · have b0 := movB_le g0
    cases g1 : inB s 0 20
    · have hV : catchV x y s f t = false := by simp [catchV, catchB, askB, g1]
      rw [hV, frN_no, frD_no]
      clear hV
      have H0 := Lib.hid g0
      clear g0
      have H1 := Lib.hid g1
      clear g1
      go_enter Try.func14, Try.ntmps14
      go_wp2_with fail
      refine (impMov_any _ _ _).mono ?_
      rintro e w1 ⟨rfl, hb⟩
      have hs : w.heap.size + 1 ≤ w1.heap.size := by have := hb.size; (try simp at this); omega
      have c0_0 : w1.cell? ⟨w.heap.size, 0, none⟩ = some (.int .i64 x) := (hb.cell (by simp; try omega)).trans (by simp)
      have c0_1 : w1.cell? ⟨w.heap.size, 1, none⟩ = some (.int .i64 y) := (hb.cell (by simp; try omega)).trans (by simp)
      have Bt : Below w.heap.size w w1 := ((Below.refl _ _).alloc (Nat.le_refl _) _).trans (hb.mono (by simp; try omega))
      clear hb
      rw [H0.out]
      go_wp2_with fail
      refine (isPace_any _ _).mono ?_
      rintro e w' ⟨rfl, rfl⟩
      rw [H1.out]
      go_wp2_with fail
      go_ret3
      exact ⟨rfl, Bt⟩
    · have b1 := inB_le g1
      cases g2 : inB f (s + 1) 20
      · have hV : catchV x y s f t = false := catch_no2 g2
        rw [hV, frN_no, frD_no]
        clear hV
        have H0 := Lib.hid g0
        clear g0
        have H1 := Lib.hid g1
        clear g1
        have H2 := Lib.hid g2
        clear g2
        go_enter Try.func14, Try.ntmps14
        go_wp2_with fail
        refine (impMov_any _ _ _).mono ?_
        rintro e w1 ⟨rfl, hb⟩
        have hs : w.heap.size + 1 ≤ w1.heap.size := by have := hb.size; (try simp at this); omega
        have c0_0 : w1.cell? ⟨w.heap.size, 0, none⟩ = some (.int .i64 x) := (hb.cell (by simp; try omega)).trans (by simp)
        have c0_1 : w1.cell? ⟨w.heap.size, 1, none⟩ = some (.int .i64 y) := (hb.cell (by simp; try omega)).trans (by simp)
        have Bt : Below w.heap.size w w1 := ((Below.refl _ _).alloc (Nat.le_refl _) _).trans (hb.mono (by simp; try omega))
        clear hb
        rw [H0.out]
        go_wp2_with fail
        refine (isPace_any _ _).mono ?_
        rintro e w' ⟨rfl, rfl⟩
        rw [H1.out]
        go_wp2_with fail
        refine (isWithin_any _ _ _ _).mono ?_
        rintro e w' ⟨rfl, rfl⟩
        rw [H2.out]
        go_wp2_with fail
        go_ret3
        exact ⟨rfl, Bt⟩
      · have b2 := inB_le g2
        cases g3 : inB t 0 1000
        · have hV : catchV x y s f t = false := by simp [catchV, catchB, askB, g3]
          rw [hV, frN_no, frD_no]
          clear hV
          have H0 := Lib.hid g0
          clear g0
          have H1 := Lib.hid g1
          clear g1
          have H2 := Lib.hid g2
          clear g2
          have H3 := Lib.hid g3
          clear g3
          go_enter Try.func14, Try.ntmps14
          go_wp2_with fail
          refine (impMov_any _ _ _).mono ?_
          rintro e w1 ⟨rfl, hb⟩
          have hs : w.heap.size + 1 ≤ w1.heap.size := by have := hb.size; (try simp at this); omega
          have c0_0 : w1.cell? ⟨w.heap.size, 0, none⟩ = some (.int .i64 x) := (hb.cell (by simp; try omega)).trans (by simp)
          have c0_1 : w1.cell? ⟨w.heap.size, 1, none⟩ = some (.int .i64 y) := (hb.cell (by simp; try omega)).trans (by simp)
          have Bt : Below w.heap.size w w1 := ((Below.refl _ _).alloc (Nat.le_refl _) _).trans (hb.mono (by simp; try omega))
          clear hb
          rw [H0.out]
          go_wp2_with fail
          refine (isPace_any _ _).mono ?_
          rintro e w' ⟨rfl, rfl⟩
          rw [H1.out]
          go_wp2_with fail
          refine (isWithin_any _ _ _ _).mono ?_
          rintro e w' ⟨rfl, rfl⟩
          rw [H2.out]
          go_wp2_with fail
          refine (isWithin_any _ _ _ _).mono ?_
          rintro e w' ⟨rfl, rfl⟩
          rw [H3.out]
          go_wp2_with fail
          go_ret3
          exact ⟨rfl, Bt⟩
        · have b3 := inB_le g3
          have hB : catchB x y s f t = true := by simp [catchB, askB, g0, g1, g3, inB_yes (n := f) (lo := 0) (hi := 20) (by omega) (by omega)]; omega
          obtain ⟨⟨d0, d1⟩, ⟨d2, d3⟩, d4, d5⟩ := catch_bd hB
          have cm1 := Lib.hid (Int.add_comm y f)
          have cm2 := Lib.hid (Int.add_comm y s)
          by_cases h : x * (f - s) < (y + s) * ((y + f) * t)
          · rw [show catchV x y s f t = false by simp [catchV, hB, h], frN_no, frD_no]
            clear hB
            have H0 := Lib.hid g0
            clear g0
            have H1 := Lib.hid g1
            clear g1
            have H2 := Lib.hid g2
            clear g2
            have H3 := Lib.hid g3
            clear g3
            rw [cm1.out] at d0 d1 d2 d3 h
            rw [cm2.out] at d2 d3 h
            go_enter Try.func14, Try.ntmps14
            go_wp2_with fail
            refine (impMov_any _ _ _).mono ?_
            rintro e w1 ⟨rfl, hb⟩
            have hs : w.heap.size + 1 ≤ w1.heap.size := by have := hb.size; (try simp at this); omega
            have c0_0 : w1.cell? ⟨w.heap.size, 0, none⟩ = some (.int .i64 x) := (hb.cell (by simp; try omega)).trans (by simp)
            have c0_1 : w1.cell? ⟨w.heap.size, 1, none⟩ = some (.int .i64 y) := (hb.cell (by simp; try omega)).trans (by simp)
            have Bt : Below w.heap.size w w1 := ((Below.refl _ _).alloc (Nat.le_refl _) _).trans (hb.mono (by simp; try omega))
            clear hb
            rw [H0.out]
            go_wp2_with fail
            refine (isPace_any _ _).mono ?_
            rintro e w' ⟨rfl, rfl⟩
            rw [H1.out]
            go_wp2_with fail
            refine (isWithin_any _ _ _ _).mono ?_
            rintro e w' ⟨rfl, rfl⟩
            rw [H2.out]
            go_wp2_with fail
            refine (isWithin_any _ _ _ _).mono ?_
            rintro e w' ⟨rfl, rfl⟩
            rw [H3.out]
            go_wp2_with fail
            refine (walkerWith_any _ _ _ _).mono ?_
            rintro e w2 ⟨rfl, hb⟩
            replace c0_0 := (hb.cell (p := ⟨w.heap.size, 0, none⟩) (by show w.heap.size < w1.heap.size; omega)).trans c0_0
            replace c0_1 := (hb.cell (p := ⟨w.heap.size, 1, none⟩) (by show w.heap.size < w1.heap.size; omega)).trans c0_1
            replace Bt := Bt.trans (hb.mono (by omega))
            replace hs : w.heap.size + 1 ≤ w2.heap.size := by have := hb.size; omega
            clear hb
            go_wp2_with fail
            refine (speed_any _ _ _ (by omega) (by omega)).mono ?_
            rintro e w3 ⟨rfl, hb⟩
            replace c0_0 := (hb.cell (p := ⟨w.heap.size, 0, none⟩) (by show w.heap.size < w2.heap.size; omega)).trans c0_0
            replace c0_1 := (hb.cell (p := ⟨w.heap.size, 1, none⟩) (by show w.heap.size < w2.heap.size; omega)).trans c0_1
            replace Bt := Bt.trans (hb.mono (by omega))
            replace hs : w.heap.size + 1 ≤ w3.heap.size := by have := hb.size; omega
            clear hb
            go_wp2_with fail
            have E1 : IntKind.i64.wrap ((s + y) * ((f + y) * t)) = (s + y) * ((f + y) * t) := IntWalk.i64_in _ (by omega)
            have E2 : IntKind.i64.wrap (x * (f - s)) = x * (f - s) := IntWalk.i64_in _ (by omega)
            go_region_held3 (fun w' => w'.cell? ⟨w.heap.size, 0, none⟩ = some (.int .i64 x) ∧ w'.cell? ⟨w.heap.size, 1, none⟩ = some (.int .i64 y)) (refine ⟨?_, ?_⟩ <;> (repeat (first | assumption | refine keepA ?_ | refine keepD ?_ | refine keepDN ?_)))
              (first | (go_at_call 32; refine (walkerWith_lit _ _ _ _).mono ?_; rintro e wq ⟨rfl, rfl⟩) | (go_at_call 33; refine (speed_lit _ _ _ (by omega) (by omega)).mono ?_; rintro e wq ⟨rfl, rfl⟩))
            all_goals (go_wp2_with fail; go_ret3; refine ⟨rfl, ?_⟩; repeat (first | exact Bt | refine keepB ?_ | refine keepBN ?_ | refine Below.drew ?_))
          · rw [show catchV x y s f t = true by simp [catchV, hB, h], frN_yes, frD_yes]
            clear hB
            have H0 := Lib.hid g0
            clear g0
            have H1 := Lib.hid g1
            clear g1
            have H2 := Lib.hid g2
            clear g2
            have H3 := Lib.hid g3
            clear g3
            rw [cm1.out] at d0 d1 d2 d3 h
            rw [cm2.out] at d2 d3 h
            go_enter Try.func14, Try.ntmps14
            go_wp2_with fail
            refine (impMov_any _ _ _).mono ?_
            rintro e w1 ⟨rfl, hb⟩
            have hs : w.heap.size + 1 ≤ w1.heap.size := by have := hb.size; (try simp at this); omega
            have c0_0 : w1.cell? ⟨w.heap.size, 0, none⟩ = some (.int .i64 x) := (hb.cell (by simp; try omega)).trans (by simp)
            have c0_1 : w1.cell? ⟨w.heap.size, 1, none⟩ = some (.int .i64 y) := (hb.cell (by simp; try omega)).trans (by simp)
            have Bt : Below w.heap.size w w1 := ((Below.refl _ _).alloc (Nat.le_refl _) _).trans (hb.mono (by simp; try omega))
            clear hb
            rw [H0.out]
            go_wp2_with fail
            refine (isPace_any _ _).mono ?_
            rintro e w' ⟨rfl, rfl⟩
            rw [H1.out]
            go_wp2_with fail
            refine (isWithin_any _ _ _ _).mono ?_
            rintro e w' ⟨rfl, rfl⟩
            rw [H2.out]
            go_wp2_with fail
            refine (isWithin_any _ _ _ _).mono ?_
            rintro e w' ⟨rfl, rfl⟩
            rw [H3.out]
            go_wp2_with fail
            refine (walkerWith_any _ _ _ _).mono ?_
            rintro e w2 ⟨rfl, hb⟩
            replace c0_0 := (hb.cell (p := ⟨w.heap.size, 0, none⟩) (by show w.heap.size < w1.heap.size; omega)).trans c0_0
            replace c0_1 := (hb.cell (p := ⟨w.heap.size, 1, none⟩) (by show w.heap.size < w1.heap.size; omega)).trans c0_1
            replace Bt := Bt.trans (hb.mono (by omega))
            replace hs : w.heap.size + 1 ≤ w2.heap.size := by have := hb.size; omega
            clear hb
            go_wp2_with fail
            refine (speed_any _ _ _ (by omega) (by omega)).mono ?_
            rintro e w3 ⟨rfl, hb⟩
            replace c0_0 := (hb.cell (p := ⟨w.heap.size, 0, none⟩) (by show w.heap.size < w2.heap.size; omega)).trans c0_0
            replace c0_1 := (hb.cell (p := ⟨w.heap.size, 1, none⟩) (by show w.heap.size < w2.heap.size; omega)).trans c0_1
            replace Bt := Bt.trans (hb.mono (by omega))
            replace hs : w.heap.size + 1 ≤ w3.heap.size := by have := hb.size; omega
            clear hb
            go_wp2_with fail
            have E1 : IntKind.i64.wrap ((s + y) * ((f + y) * t)) = (s + y) * ((f + y) * t) := IntWalk.i64_in _ (by omega)
            have E2 : IntKind.i64.wrap (x * (f - s)) = x * (f - s) := IntWalk.i64_in _ (by omega)
            go_region_held3 (fun w' => w'.cell? ⟨w.heap.size, 0, none⟩ = some (.int .i64 x) ∧ w'.cell? ⟨w.heap.size, 1, none⟩ = some (.int .i64 y)) (refine ⟨?_, ?_⟩ <;> (repeat (first | assumption | refine keepA ?_ | refine keepD ?_ | refine keepDN ?_)))
              (first | (go_at_call 32; refine (walkerWith_lit _ _ _ _).mono ?_; rintro e wq ⟨rfl, rfl⟩) | (go_at_call 33; refine (speed_lit _ _ _ (by omega) (by omega)).mono ?_; rintro e wq ⟨rfl, rfl⟩))
            go_wp2_with fail
            refine (lowest_any ((f + y) * t) (f - s) _ (by omega) (by omega) (by omega) (by omega)).mono ?_
            rintro e wz ⟨rfl, kk, rfl⟩
            go_wp2_with fail
            go_ret3
            refine ⟨by rw [cm1.out]; rfl, ?_⟩
            repeat (first | exact Bt | refine keepB ?_ | refine keepBN ?_ | refine Below.drew ?_)


end Go.Proofs.Ytkeejocbpiipjaa
