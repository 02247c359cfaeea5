/- FnMovingTimedOfAll: what is known of the answers of the functions that it calls. No walk. -/
import Derived.Test.YthcoipoihieggaaDoorMtSt
import Derived.Test.YthcoipoihieggaaDoorMovI
import Derived.Test.YthcoipoihieggaaDoorMovS
import Derived.Test.YthcoipoihieggaaDoorTxMov
import Derived.Test.YthcoipoihieggaaDoorTxParI
namespace Go.Proofs.YthcoipoihieggaaDoor
open Go.RowKit
set_option maxRecDepth 100000

theorem mt_ok {x y p : Int} (h : tellB x y p y = true) : MtOk x y p (frN (tellB x y p y) x (p + y)) (frD (tellB x y p y) x (p + y)) (frN (tellB x y p y) (x * p) (p + y)) (frD (tellB x y p y) (x * p) (p + y)) (frN (tellB x y p y) (2 * x) (p + y)) (frD (tellB x y p y) (2 * x) (p + y)) (wholeR x y) ∧ movB x y = true := by
  obtain ⟨hm, hr, hs⟩ := tell_bd h
  rw [h]
  simp only [frN_yes, frD_yes]
  have hx := mul_bd (a := x) (A := 500) (b := p) (B := 20) (by omega) (by omega) (by omega) (by omega)
  refine ⟨⟨by omega, low_bd (M := 500) (by omega) (by omega) hs (by omega), low_bd (M := 10000) hx.1 (by omega) hs (by omega), low_bd (M := 1000) (by omega) (by omega) hs (by omega), lowB_low (by omega) hs, ?_, lowB_low hx.1 hs, low_way hs, lowB_low (by omega) hs, low_twice hs, ?_⟩, hm⟩
  · rw [Int.add_comm y p]; exact low_cross _ _
  · rw [hasB_dec, has_whole hm (by omega) hs]; rfl
theorem mt_3 {x y p : Int} (h : tellB x y p (-y) = true) : Mt3 x y p (frN (tellB x y p y) x (p + y)) (frD (tellB x y p y) x (p + y)) (frN (tellB x y p (-y)) x (p + (-y))) (frD (tellB x y p (-y)) x (p + (-y))) (frN (tellB x y p (-y)) (x * p) (p + (-y))) (frD (tellB x y p (-y)) (x * p) (p + (-y))) ∧ tellB x y p y = true := by
  obtain ⟨h1, hq⟩ := against_tell h
  obtain ⟨_, hr, hs⟩ := tell_bd h1
  rw [h, h1]
  simp only [frN_yes, frD_yes]
  have hx := mul_bd (a := x) (A := 500) (b := p) (B := 20) (by omega) (by omega) (by omega) (by omega)
  refine ⟨⟨by omega, low_bd (M := 500) (by omega) (by omega) hq (by omega), low_bd (M := 10000) hx.1 (by omega) hq (by omega), lowB_low (by omega) hq, ?_, lowB_low hx.1 hq, low_way hq, longer (by omega) (by omega) hq⟩, trivial⟩
  rw [Int.sub_eq_add_neg]; exact low_cross _ _
theorem inB_of {n a b : Int} (h1 : a ≤ n) (h2 : n ≤ b) : inB n a b = true := inB_yes h1 h2
theorem mt_pace {x y p : Int} (h : tellB x y p y = true) (h1 : lowD (x * p) (p + y) = 1) (hlt : lowN (x * p) (p + y) < x) (hy : 0 < y) :
    ∃ q1 q2, lowB q1 q2 = true ∧ q1 * 1 = p * q2 ∧ q1 ≤ 2147483647 ∧ q2 ≤ 2147483647 ∧ ∀ (w : World), Calls Tryd.prog 23 #[.agg #[.int .i64 x, .int .i64 y], .int .i64 (lowN (x * p) (p + y))] w (Plain (.tuple #[.int .i64 q1, .int .i64 q2, .bool true]) w) := by
  obtain ⟨hm, hr, hs⟩ := tell_bd h
  have hx := mul_bd (a := x) (A := 500) (b := p) (B := 20) (by omega) (by omega) (by omega) (by omega)
  have h0 := lowN_nonneg hx.1 hs
  have hp := pace_of h1 hlt
  generalize lowN (x * p) (p + y) = n at *
  have hn := mul_bd (a := n) (A := 500) (b := y) (B := 20) (by omega) (by omega) (by omega) (by omega)
  have hb := low_bd (M := 10000) hn.1 (by omega) (by omega : 0 < x - n) (by omega)
  have hV : paceV x y n = true := by
    have : decide (y = 0) = false := decide_eq_false (by omega)
    simp [paceV, hm, inB_of h0 (by omega : n ≤ x - 1), this]
  refine ⟨lowN (n * y) (x - n), lowD (n * y) (x - n), lowB_low hn.1 (by omega), by rw [Int.mul_one]; exact hp, by omega, by omega, fun w => ?_⟩
  have := implPaceForSteps_any x y n w
  rw [hV] at this
  exact this
theorem mt_place {x y p : Int} (h : tellB x y p y = true) (w : World) : Calls Tryd.prog 24 #[.agg #[.int .i64 x, .int .i64 y], .int .i64 p, .int .i64 ((lowN x (p + y) + lowD x (p + y) - 1) / lowD x (p + y))] w (Plain (.tuple #[.int .i64 x, .bool true]) w) := by
  obtain ⟨hm, hr, hs⟩ := tell_bd h
  have hb := place_bd hs (x := x) (by omega) (by omega)
  have hl := last_place (x := x) hs
  have := implPlaceAt_any x y p ((lowN x (p + y) + lowD x (p + y) - 1) / lowD x (p + y)) w
  rw [show placeV x y p ((lowN x (p + y) + lowD x (p + y) - 1) / lowD x (p + y)) = true by simp [placeV, (tell_ask h).1, inB_of hb.1 hb.2], orI_yes] at this
  rw [show leastI x ((y + p) * ((lowN x (p + y) + lowD x (p + y) - 1) / lowD x (p + y))) = x by unfold leastI; split <;> omega] at this
  exact this
theorem mt_both {x y p : Int} (h : tellB x y p (-y) = true) (h1 : lowD (x * p) (p + y) = 1) (h2 : lowD (x * p) (p + (-y)) = 1) (h3 : 1 ≤ lowN (x * p) (p + y)) :
    ∃ q1 q2, lowB q1 q2 = true ∧ q1 * 1 = x * q2 ∧ q1 ≤ 2147483647 ∧ q2 ≤ 2147483647 ∧ ∀ (w : World), Calls Tryd.prog 25 #[.int .i64 p, .int .i64 (lowN (x * p) (p + y)), .int .i64 (lowN (x * p) (p + (-y)))] w (Plain (.tuple #[.int .i64 q1, .int .i64 q2, .bool true]) w) := by
  obtain ⟨ht, hq⟩ := against_tell h
  obtain ⟨hm, hr, hs⟩ := tell_bd ht
  have hx := mul_bd (a := x) (A := 500) (b := p) (B := 20) (by omega) (by omega) (by omega) (by omega)
  have hle := steps_more (by omega) (by omega) (by omega) hs hq h1 h2
  have b1 := low_bd (M := 10000) hx.1 (by omega) hs (by omega)
  have b2 := low_bd (M := 10000) hx.1 (by omega) hq (by omega)
  have hbo := both_of (by omega) h1 h2 (by omega)
  generalize lowN (x * p) (p + y) = t at *
  generalize lowN (x * p) (p + (-y)) = s at *
  have hn := mul_bd (a := 2 * t) (A := 20000) (b := s) (B := 10000) (by omega) (by omega) (by omega) (by omega)
  have hb := low_bd (M := 200000000) hn.1 (by omega) (by omega : 0 < t + s) (by omega)
  have hV : bothV p t s = true := by simp [bothV, inB_of (show (1 : Int) ≤ p by omega) (show p ≤ 20 by omega), inB_of h3 (show t ≤ 10000 by omega), inB_of hle (show s ≤ 10000 by omega)]
  refine ⟨lowN (2 * t * s) (t + s), lowD (2 * t * s) (t + s), lowB_low hn.1 (by omega), by rw [Int.mul_one]; exact hbo, by omega, by omega, fun w => ?_⟩
  have := implVisibleFromBoth_any p t s w
  rw [hV] at this
  exact this
theorem mt_two {p s o m : Int} (h : twoV p s o m = true) : MtTwo p s o m (frN (twoV p s o m) (s * m * (o - p)) (s * o - m * p)) (frD (twoV p s o m) (s * m * (o - p)) (s * o - m * p)) (frN (twoV p s o m) ((m - s) * p * o) (s * o - m * p)) (frD (twoV p s o m) ((m - s) * p * o) (s * o - m * p)) := by
  obtain ⟨h2, hd⟩ := twoV_two h
  have hr := twoB_le h2
  have hb := two_bd h2
  rw [h]
  simp only [frN_yes, frD_yes]
  have a1 := mul_bd (a := s) (A := 10000) (b := m) (B := 10000) (by omega) (by omega) (by omega) (by omega)
  have a2 := mul_bd (a := s * m) (A := 100000000) (b := o - p) (B := 20) (by omega) (by omega) (by omega) (by omega)
  obtain ⟨e1, e2⟩ := two_tell hd
  have n1 := lowN_nonneg a2.1 hd
  have n2 := lowN_le (b := s * o - m * p) a2.1
  have n3 := lowN_nonneg hb.2.2.2.1 hd
  have n4 := lowN_le (b := s * o - m * p) hb.2.2.2.1
  have d1 := lowD_pos (a := s * m * (o - p)) hd
  have d2 := lowD_le (a := s * m * (o - p)) hd
  have d3 := lowD_pos (a := (m - s) * p * o) hd
  have d4 := lowD_le (a := (m - s) * p * o) hd
  exact ⟨by omega, by omega, by omega, lowB_low a2.1 hd, lowB_low hb.2.2.2.1 hd, e1, e2⟩
theorem mt_mean {z a b : Int} (h : bothV z a b = true) : MtBoth a b (frN (bothV z a b) (2 * a * b) (a + b)) (frD (bothV z a b) (2 * a * b) (a + b)) := by
  have hr : (1 ≤ a ∧ a ≤ 10000) ∧ a ≤ b ∧ b ≤ 10000 := by
    simp only [bothV, Bool.and_eq_true] at h
    exact ⟨inB_le h.2.1, inB_le h.2.2⟩
  rw [h]
  simp only [frN_yes, frD_yes]
  have a1 := mul_bd (a := 2 * a) (A := 20000) (b := b) (B := 10000) (by omega) (by omega) (by omega) (by omega)
  obtain ⟨l1, l2⟩ := mean_low (a := a) (b := b) (by omega) (by omega) (by omega)
  have n1 := lowN_nonneg a1.1 (by omega : 0 < a + b)
  have n2 := lowN_le (b := a + b) a1.1
  have d1 := lowD_pos (a := 2 * a * b) (by omega : 0 < a + b)
  have d2 := lowD_le (a := 2 * a * b) (by omega : 0 < a + b)
  exact ⟨by omega, by omega, lowB_low a1.1 (by omega), low_cross _ _, l1, l2⟩
theorem mt_steps {x y s : Int} (h : paceV x y s = true) : MtPace x y s (frN (paceV x y s) (s * y) (x - s)) (frD (paceV x y s) (s * y) (x - s)) := by
  have hr : (1 ≤ x ∧ x ≤ 500 ∧ 0 ≤ y ∧ y ≤ 20) ∧ 0 ≤ s ∧ s ≤ x - 1 := by
    simp only [paceV, Bool.and_eq_true] at h
    exact ⟨movB_le h.1, inB_le h.2.1⟩
  rw [h]
  simp only [frN_yes, frD_yes]
  have a1 := mul_bd (a := s) (A := 500) (b := y) (B := 20) (by omega) (by omega) (by omega) (by omega)
  have n1 := lowN_nonneg a1.1 (by omega : 0 < x - s)
  have n2 := lowN_le (b := x - s) a1.1
  have d1 := lowD_pos (a := s * y) (by omega : 0 < x - s)
  have d2 := lowD_le (a := s * y) (by omega : 0 < x - s)
  exact ⟨by omega, by omega, lowB_low a1.1 (by omega), pace_tell x y s⟩
theorem moS_size {x y : Int} (h : movB x y = true) : (moS x y).size ≤ 1048576 := by
  have b := movB_le h
  have z1 := num_len (n := x) (k := 2) (by omega)
  have z2 := num_len (n := y) (k := 2) (by omega)
  simp only [moS, ByteArray.size_append, one_size]
  omega

end Go.Proofs.YthcoipoihieggaaDoor
