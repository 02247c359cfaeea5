/- Contracts: spirals: twins, on both sides. -/
import Derived.Test.YtomjebelgnecfaaSpA
import Derived.Test.YtomjebelgnecfaaSpM
import Derived.Deep.RegionLaw
namespace Go.Proofs.Ytomjebelgnecfaa
open Go.RowKit

/-- twins at the step k -/
def twinP (b c a2 b2 c2 k : Int) : Bool := decide (k * c % c2 = 0) && (decide (k * c / c2 ≤ a2) && decide (((k - 1) * b2 - (k * c / c2 - 1) * b).tmod (b * b2) = 0))
theorem dvd_small {d n : Int} (h : d ∣ n) (h0 : -d < n) (h1 : n < d) : n = 0 := by
  have h2 := Nat.eq_zero_of_dvd_of_lt (Int.natAbs_dvd_natAbs.2 h) (by omega)
  exact Int.natAbs_eq_zero.1 h2
theorem ang_same {b b2 p r : Int} (hb : 3 ≤ b) (hb2 : 3 ≤ b2) : (lowN (p % b) b = lowN (r % b2) b2 ∧ lowD (p % b) b = lowD (r % b2) b2) ↔ (p * b2 - r * b).tmod (b * b2) = 0 := by
  have x0 : 0 ≤ p % b := Int.emod_nonneg _ (by omega)
  have x1 : p % b < b := Int.emod_lt_of_pos _ (by omega)
  have y0 : 0 ≤ r % b2 := Int.emod_nonneg _ (by omega)
  have y1 : r % b2 < b2 := Int.emod_lt_of_pos _ (by omega)
  have ep := Int.mul_ediv_add_emod p b
  have er := Int.mul_ediv_add_emod r b2
  generalize hx : p % b = x at *
  generalize hy : r % b2 = y at *
  generalize p / b = s at *
  generalize r / b2 = t at *
  clear hx hy
  have e : p * b2 - r * b = b * b2 * (s - t) + (x * b2 - y * b) := by
    rw [← ep, ← er, Int.add_mul, Int.add_mul, Int.mul_sub, show b * s * b2 = b * b2 * s by ac_rfl, show b2 * t * b = b * b2 * t by ac_rfl]
    omega
  constructor
  · rintro ⟨h1, h2⟩
    have k1 := gI_dvd_l x b
    have k2 := gI_dvd_r x b
    have k3 := gI_dvd_l y b2
    have k4 := gI_dvd_r y b2
    have h : x * b2 = y * b := by
      rw [← k1, ← k4]
      conv => rhs; rw [← k3, ← k2]
      rw [h1, h2]
      ac_rfl
    apply Int.tmod_eq_zero_of_dvd
    rw [e, show x * b2 - y * b = 0 by omega, Int.add_zero]
    exact Int.dvd_mul_right _ _
  · intro h
    have hd := Int.dvd_of_tmod_eq_zero h
    rw [e] at hd
    have hd2 : b * b2 ∣ x * b2 - y * b := (Int.dvd_add_right (Int.dvd_mul_right _ _)).1 hd
    have m1 : x * b2 ≤ (b - 1) * b2 := Int.mul_le_mul_of_nonneg_right (by omega) (by omega)
    have m2 : y * b ≤ (b2 - 1) * b := Int.mul_le_mul_of_nonneg_right (by omega) (by omega)
    have m3 : 0 ≤ x * b2 := Int.mul_nonneg x0 (by omega)
    have m4 : 0 ≤ y * b := Int.mul_nonneg y0 (by omega)
    have m5 : b2 * b = b * b2 := Int.mul_comm _ _
    rw [Int.sub_mul, Int.one_mul] at m1 m2
    have hz := dvd_small hd2 (by omega) (by omega)
    exact low_same (by omega) (by omega) (by omega)
/-- where the other step is none, there are no twins -/
theorem twin_out {b c a2 b2 c2 k : Int} (hk : 1 ≤ k) (hc : 1 ≤ c) (hc2 : 1 ≤ c2) (h : inB (k * c / c2) 1 a2 = false) : twinP b c a2 b2 c2 k = false := by
  have p : 1 ≤ k * c := by have := Int.mul_le_mul hk hc (by omega) (by omega); omega
  unfold twinP
  by_cases g : k * c % c2 = 0
  · have e := Int.mul_ediv_add_emod (k * c) c2
    rw [g, Int.add_zero] at e
    have q : 1 ≤ k * c / c2 := by
      by_cases q0 : k * c / c2 ≤ 0
      · have h5 : c2 * (k * c / c2) ≤ c2 * 0 := Int.mul_le_mul_of_nonneg_left q0 (by omega)
        rw [Int.mul_zero] at h5
        omega
      · omega
    by_cases g2 : k * c / c2 ≤ a2
    · rw [inB_yes q g2] at h; exact absurd h (by simp)
    · simp [g2]
  · simp [g]
theorem twin_in {b c a2 b2 c2 k : Int} (hb : 3 ≤ b) (hb2 : 3 ≤ b2) (h : inB (k * c / c2) 1 a2 = true) :
    (decide (lowN ((k - 1) % b) b = lowN ((k * c / c2 - 1) % b2) b2) && decide (lowD ((k - 1) % b) b = lowD ((k * c / c2 - 1) % b2) b2) && decide (k * c = k * c / c2 * c2)) = twinP b c a2 b2 c2 k := by
  have hle := inB_le h
  have e := Int.mul_ediv_add_emod (k * c) c2
  have hcm := Int.mul_comm c2 (k * c / c2)
  have ha := ang_same (p := k - 1) (r := k * c / c2 - 1) hb hb2
  unfold twinP
  have e1 : decide (k * c = k * c / c2 * c2) = decide (k * c % c2 = 0) := decide_eq_decide.2 (by omega)
  have e2 : decide (((k - 1) * b2 - (k * c / c2 - 1) * b).tmod (b * b2) = 0) = (decide (lowN ((k - 1) % b) b = lowN ((k * c / c2 - 1) % b2) b2) && decide (lowD ((k - 1) % b) b = lowD ((k * c / c2 - 1) % b2) b2)) := by
    rw [← Bool.decide_and]
    exact decide_eq_decide.2 ha.symm
  rw [e1, e2, show decide (k * c / c2 ≤ a2) = true from decide_eq_true hle.2, Bool.true_and, Bool.and_comm]

theorem run_spot_eq (x y z x' y' z' : Int) (w : World) : (binOp .eql 53 (.agg #[.int .i64 x, .int .i64 y, .int .i64 z]) (.agg #[.int .i64 x', .int .i64 y', .int .i64 z'])).run Try.prog w = .ok (.bool (decide (x = x') && decide (y = y') && decide (z = z'))) w := by
  by_cases h1 : x = x'
  · by_cases h2 : y = y'
    · by_cases h3 : z = z' <;> simp [go_sem, h1, h2, h3]
    · simp [go_sem, h1, h2]
  · simp [go_sem, h1]

set_option maxHeartbeats 2000000 in
theorem spotOf_any (a b c n : Int) (hv : stepB a b c n = true) (w : World) :
    Calls Try.prog 51 #[.agg #[.int .i64 a, .int .i64 b, .int .i64 c], .int .i64 n] w fun e w' => e = .returned (.agg #[.int .i64 (lowN ((n - 1) % b) b), .int .i64 (lowD ((n - 1) % b) b), .int .i64 (n * c)]) ∧ Below w.heap.size w w' := by
  have HV := Lib.hid hv
  clear hv
  go_enter Try.func51, Try.ntmps51
  go_wp2_with fail
  refine (implAngleOf_any a b c n _).mono ?_
  rintro e w1 ⟨rfl, hb⟩
  have hs : w.heap.size + 2 ≤ w1.heap.size := by have := hb.size; (try simp at this); omega
  have c0_0 : w1.cell? ⟨w.heap.size, 0, none⟩ = some (.int .i64 a) := (hb.cell (by simp; try omega)).trans (by simp)
  have c0_1 : w1.cell? ⟨w.heap.size, 1, none⟩ = some (.int .i64 b) := (hb.cell (by simp; try omega)).trans (by simp)
  have c0_2 : w1.cell? ⟨w.heap.size, 2, none⟩ = some (.int .i64 c) := (hb.cell (by simp; try omega)).trans (by simp)
  have c1_0 : w1.cell? ⟨w.heap.size + 1, 0, none⟩ = some (.int .i64 0) := (hb.cell (by simp; try omega)).trans (by simp)
  have c1_1 : w1.cell? ⟨w.heap.size + 1, 1, none⟩ = some (.int .i64 0) := (hb.cell (by simp; try omega)).trans (by simp)
  have c1_2 : w1.cell? ⟨w.heap.size + 1, 2, none⟩ = some (.int .i64 0) := (hb.cell (by simp; try omega)).trans (by simp)
  have f1_0 : w1.frozen? ⟨w.heap.size + 1, 0, none⟩ = false := (hb.frozen (by simp; try omega)).trans (by simp)
  have f1_1 : w1.frozen? ⟨w.heap.size + 1, 1, none⟩ = false := (hb.frozen (by simp; try omega)).trans (by simp)
  have f1_2 : w1.frozen? ⟨w.heap.size + 1, 2, none⟩ = false := (hb.frozen (by simp; try omega)).trans (by simp)
  have Bt : Below w.heap.size w w1 := (((Below.refl _ _).alloc (Nat.le_refl _) _).alloc (by simp; try omega) _).trans (hb.mono (by simp; try omega))
  clear hb
  rw [HV.out, frN_yes, frD_yes]
  go_wp2_with fail
  refine (implHeightSpiral_any a b c n _).mono ?_
  rintro e w2 ⟨rfl, hb⟩
  replace c0_0 := (hb.cell (p := ⟨w.heap.size, 0, none⟩) (by show w.heap.size < w1.heap.size; omega)).trans c0_0
  replace c0_1 := (hb.cell (p := ⟨w.heap.size, 1, none⟩) (by show w.heap.size < w1.heap.size; omega)).trans c0_1
  replace c0_2 := (hb.cell (p := ⟨w.heap.size, 2, none⟩) (by show w.heap.size < w1.heap.size; omega)).trans c0_2
  replace c1_0 := (hb.cell (p := ⟨w.heap.size + 1, 0, none⟩) (by show w.heap.size + 1 < w1.heap.size; omega)).trans c1_0
  replace c1_1 := (hb.cell (p := ⟨w.heap.size + 1, 1, none⟩) (by show w.heap.size + 1 < w1.heap.size; omega)).trans c1_1
  replace c1_2 := (hb.cell (p := ⟨w.heap.size + 1, 2, none⟩) (by show w.heap.size + 1 < w1.heap.size; omega)).trans c1_2
  replace f1_0 := (hb.frozen (p := ⟨w.heap.size + 1, 0, none⟩) (by show w.heap.size + 1 < w1.heap.size; omega)).trans f1_0
  replace f1_1 := (hb.frozen (p := ⟨w.heap.size + 1, 1, none⟩) (by show w.heap.size + 1 < w1.heap.size; omega)).trans f1_1
  replace f1_2 := (hb.frozen (p := ⟨w.heap.size + 1, 2, none⟩) (by show w.heap.size + 1 < w1.heap.size; omega)).trans f1_2
  replace Bt := Bt.trans (hb.mono (by omega))
  replace hs : w.heap.size + 2 ≤ w2.heap.size := by have := hb.size; omega
  clear hb
  rw [HV.out, orP_yes]
  go_wp2_with fail
  go_wp2_with fail
  refine bodyPost_ret (v := .agg #[.int .i64 (lowN ((n - 1) % b) b), .int .i64 (lowD ((n - 1) % b) b), .int .i64 (n * c)]) ?hr rfl ⟨rfl, ?_⟩
  (case hr => simp [results, Try.results51, go_sem, c1_0, c1_1, c1_2])
  (repeat (first | with_reducible exact Bt | with_reducible exact Below.refl _ _ | with_reducible refine Below.setCell ?_ (by first | (dsimp only; omega) | (simp; done) | (simp; omega)) _ | with_reducible refine keepBN ?_ | with_reducible refine keepB ?_ | with_reducible refine Below.alloc ?_ (by simp) _ | refine Below.drew ?_))

set_option maxHeartbeats 8000000 in
theorem twinC_any (a b c a2 b2 c2 k : Int) (gs gt : Nat) (h0 : spiB a b c = true) (h1 : spiB a2 b2 c2 = true) (h2 : 1 ≤ k) (h3 : k ≤ a) (w : World) (hS : Blk w gs 27 #[.int .i64 a, .int .i64 b, .int .i64 c]) (hT : Blk w gt 27 #[.int .i64 a2, .int .i64 b2, .int .i64 c2]) :
    Calls Try.prog 50 #[.int .i64 k, .pointer (some ⟨gs, 0, none⟩), .pointer (some ⟨gt, 0, none⟩)] w fun e w' => e = .returned (.bool (twinP b c a2 b2 c2 k)) ∧ Below w.heap.size w w' := by
  have hb1 := spiB_le h0
  have hb2 := spiB_le h1
  obtain ⟨e0, e1⟩ := mul_bd (a := k) (A := 400) (b := c) (B := 300) (by omega) (by omega) (by omega) (by omega)
  have hd : (k * c).tdiv c2 = k * c / c2 := Int.tdiv_eq_ediv_of_nonneg (by omega)
  have hz : ¬ c2 = 0 := by omega
  have q0 : 0 ≤ k * c / c2 := Int.ediv_nonneg (by omega) (by omega)
  have q1 : k * c / c2 ≤ k * c := Int.ediv_le_self _ (by omega)
  have HO0 := twin_out (b := b) (c := c) (a2 := a2) (b2 := b2) (c2 := c2) (k := k) h2 (by omega) (by omega)
  have HI0 := twin_in (b := b) (c := c) (a2 := a2) (b2 := b2) (c2 := c2) (k := k) (by omega) (by omega)
  obtain ⟨p, hp⟩ : ∃ p, twinP b c a2 b2 c2 k = p := ⟨_, rfl⟩
  rw [hp] at HO0 HI0 ⊢
  obtain ⟨o, ho⟩ : ∃ o, k * c / c2 = o := ⟨_, rfl⟩
  rw [ho] at HO0 HI0 hd q0 q1
  have HV0 : stepB a b c k = true := by unfold stepB; rw [h0, inB_yes (by omega) (by omega)]; rfl
  have GV0 : stepB a2 b2 c2 o = inB o 1 a2 := by unfold stepB; rw [h1]; rfl
  obtain ⟨c0, c1, c2'⟩ := hS.three
  obtain ⟨d0, d1, d2⟩ := hT.three
  have HV := Lib.hid HV0
  have h4 := Lib.hid h0
  clear h0 h1 HV0 hp h4
  cases g : inB o 1 a2
  · have HF := Lib.hid (HO0 g)
    have GV := Lib.hid (GV0.trans g)
    clear HO0 HI0 GV0 g ho
    go_enter Try.func50, Try.ntmps50
    go_wp2_with fail
    first | (go_region_law (first | (go_simp; go_at_call 29; (refine (hasStep_any a2 b2 c2 o w.drew).mono ?_); rintro e w5 ⟨rfl, hb5'⟩; rw [GV.out]; have hb5 : Below w.heap.size w w5 := below_undrew hb5'; have S5 := hS.below hb5 hS.lt; have T5 := hT.below hb5 hT.lt; obtain ⟨x0, x1, x2⟩ := S5.three; obtain ⟨y0, y1, y2⟩ := T5.three) | fail)) | fail
    all_goals go_wp2_with fail
    all_goals go_ret
    all_goals exact ⟨ret_bool HF.out.symm, hb5⟩
  · have HF := Lib.hid (HI0 g)
    have GV := Lib.hid (GV0.trans g)
    have GW := Lib.hid (GV0.trans g)
    clear HO0 HI0 GV0 g ho
    go_enter Try.func50, Try.ntmps50
    go_wp2_with fail
    first | (go_region_law (first | (go_simp; go_at_call 29; (refine (hasStep_any a2 b2 c2 o w.drew).mono ?_); rintro e w5 ⟨rfl, hb5'⟩; rw [GV.out]; have hb5 : Below w.heap.size w w5 := below_undrew hb5'; have S5 := hS.below hb5 hS.lt; have T5 := hT.below hb5 hT.lt; obtain ⟨x0, x1, x2⟩ := S5.three; obtain ⟨y0, y1, y2⟩ := T5.three) | (go_simp; go_at_call_of 51 (Value.int .i64 k); (refine (spotOf_any a b c k HV.out w5).mono ?_); rintro e w6 ⟨rfl, hb6⟩; have B6 := hb5.trans (hb6.mono hb5.size); have S6 := S5.below hb6 S5.lt; have T6 := T5.below hb6 T5.lt; obtain ⟨u0, u1, u2⟩ := S6.three; obtain ⟨v0, v1, v2⟩ := T6.three) | (go_simp; go_at_call_of 51 (Value.int .i64 o); (refine (spotOf_any a2 b2 c2 o GW.out w6).mono ?_); rintro e w7 ⟨rfl, hb7⟩; have B7 := B6.trans (hb7.mono B6.size); have hEq := run_spot_eq (lowN ((k - 1) % b) b) (lowD ((k - 1) % b) b) (k * c) (lowN ((o - 1) % b2) b2) (lowD ((o - 1) % b2) b2) (o * c2)) | fail)) | fail
    all_goals go_wp2_with fail
    all_goals go_ret
    all_goals exact ⟨ret_bool HF.out, B7⟩


end Go.Proofs.Ytomjebelgnecfaa
