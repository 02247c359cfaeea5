/- Contracts: flights: whole lines, on both sides. -/
import Derived.Test.YtdeckfdmhpiokaaRiH
import Derived.WalkKit
import Derived.Lib.Walk
namespace Go.Proofs.Ytdeckfdmhpiokaa
open Go.RowKit
set_option maxRecDepth 100000

/-- the least number at most k whose square is not less than s -/
def rtC (s : Int) : Nat → Int
  | 0 => 0
  | k + 1 => if (k : Int) * (k : Int) < s then (k : Int) + 1 else rtC s k
theorem sq_lt {a b : Int} (ha : 0 ≤ a) (hb : 0 ≤ b) (h : a * a < b * b) : a < b := by
  by_cases g : a < b
  · exact g
  · have h1 : b * b ≤ a * b := Int.mul_le_mul_of_nonneg_right (by omega) hb
    have h2 : a * b ≤ a * a := Int.mul_le_mul_of_nonneg_left (by omega) ha
    omega
theorem sq_mono {a b : Int} (ha : 0 ≤ a) (h : a ≤ b) : a * a ≤ b * b := by
  have h1 : a * a ≤ a * b := Int.mul_le_mul_of_nonneg_left h ha
  have h2 : a * b ≤ b * b := Int.mul_le_mul_of_nonneg_right h (by omega)
  omega
theorem rtC_in (s : Int) : ∀ k : Nat, 0 ≤ rtC s k ∧ rtC s k ≤ k
  | 0 => ⟨Int.le_refl _, Int.le_refl _⟩
  | k + 1 => by
    have := rtC_in s k
    unfold rtC
    split <;> omega
theorem rtC_eq {s : Int} {r : Nat} (h1 : ∀ t : Nat, t < r → (t : Int) * (t : Int) < s) (h2 : ∀ t : Nat, r ≤ t → s ≤ (t : Int) * (t : Int) ∨ 75000 ≤ t) : ∀ k : Nat, r ≤ k → k ≤ 75000 → rtC s k = r
  | 0, hr, _ => by obtain rfl : r = 0 := by omega
                   rfl
  | k + 1, hr, hk => by
    unfold rtC
    by_cases g : k < r
    · rw [if_pos (h1 k g)]; omega
    · have := h2 k (by omega)
      rw [if_neg (by omega)]
      exact rtC_eq h1 h2 k (by omega) (by omega)
def lineR (s : Int) : Int := rtC s 75000
def lineB (s : Int) : Bool := decide (lineR s * lineR s = s)
theorem lineR_in (s : Int) : 0 ≤ lineR s ∧ lineR s ≤ 75000 := rtC_in s 75000
/-- the greatest number whose square is not greater tells the line too -/
theorem line_floor {s lo : Int} (h0 : 0 ≤ lo) (h1 : lo * lo ≤ s) (h2 : s < (lo + 1) * (lo + 1)) (h3 : s ≤ 4000000000) : lineB s = decide (lo * lo = s) ∧ (lo * lo = s → lineR s = lo) := by
  have hi : lo < 75000 := sq_lt h0 (by omega) (by omega)
  have hr : lo * lo = s → lineR s = lo := by
    intro e
    have := rtC_eq (s := s) (r := lo.toNat) (fun t ht => by
      have a1 := sq_mono (a := (t : Int)) (b := lo - 1) (by omega) (by omega)
      have a2 : (lo - 1) * (lo - 1) = lo * lo - lo - lo + 1 := by rw [Int.sub_mul, Int.mul_sub, Int.mul_one, Int.one_mul]; omega
      omega) (fun t ht => .inl (by
      have := sq_mono (a := lo) (b := (t : Int)) h0 (by omega)
      omega)) 75000 (by omega) (by omega)
    unfold lineR
    rw [this]; omega
  refine ⟨?_, hr⟩
  by_cases e : lo * lo = s
  · simp only [lineB, hr e, e]
  · have hne : ¬ lineR s * lineR s = s := by
      intro e2
      obtain ⟨r0, r1⟩ := lineR_in s
      have a1 : lineR s < lo + 1 := sq_lt r0 (by omega) (by omega)
      have a2 : lo < lineR s := sq_lt h0 r0 (by omega)
      omega
    simp only [lineB, hne, e]

set_option maxHeartbeats 1000000 in
theorem rootIs_any (t s : Int) (b : Nat) (w : World) (h0 : 0 ≤ t) (h1 : t ≤ 75000) (hc : w.cell? ⟨b, 0, none⟩ = some (.int .i64 s)) :
    Calls Try.prog 56 #[.int .i64 t, .pointer (some ⟨b, 0, none⟩)] w fun e w' => e = .returned (.bool (decide (s ≤ t * t))) ∧ Below w.heap.size w w' := by
  obtain ⟨e0, e1⟩ := mul_bd (a := t) (A := 75000) (b := t) (B := 75000) (by omega) (by omega) (by omega) (by omega)
  go_enter Try.func56, Try.ntmps56
  go_wp2
  go_ret
  exact ⟨rfl, Below.refl _ _⟩
set_option maxHeartbeats 1000000 in
theorem search_any (s : Int) (b : Nat) (w : World) (hc : w.cell? ⟨b, 0, none⟩ = some (.int .i64 s)) :
    Calls Try.prog 55 #[.int .i64 75000, .func (.func 56) #[] #[.pointer (some ⟨b, 0, none⟩)]] w fun e w' => e = .returned (.int .i64 (lineR s)) ∧ Below w.heap.size w w' := by
  go_enter Try.func55, Try.ntmps55
  go_wp2_with fail
  go_loopw [5, 6] (fun lo hi wr => ∃ l h : Nat, lo = .int .i64 l ∧ hi = .int .i64 h ∧ l ≤ h ∧ h ≤ 75000 ∧ Hid (∀ t : Nat, t < l → (t : Int) * (t : Int) < s) ∧ Hid (∀ t : Nat, h ≤ t → s ≤ (t : Int) * (t : Int) ∨ 75000 ≤ t) ∧ Below w.heap.size w wr) (fun lo hi _ => (intOf hi - intOf lo).toNat)
  case atStart => exact ⟨0, 75000, rfl, rfl, by omega, by omega, Lib.hid (fun t ht => absurd ht (by omega)), Lib.hid (fun t ht => .inr ht), Below.refl _ _⟩
  case round =>
    obtain ⟨l, h, rfl, rfl, hl, hh, L, M, hbw⟩ := hrel
    have d0 := keepC hbw hc
    by_cases g : l < h
    · have hm : ((l : Int) + (h : Int)) / 2 = (((l + h) / 2 : Nat) : Int) := by omega
      have hcl := rootIs_any (((l + h) / 2 : Nat) : Int) s b wr (by omega) (by omega) d0
      rw [← hm] at hcl
      by_cases hp : s ≤ (((l + h) / 2 : Nat) : Int) * (((l + h) / 2 : Nat) : Int)
      · rw [show decide (s ≤ ((l : Int) + (h : Int)) / 2 * (((l : Int) + (h : Int)) / 2)) = true from decide_eq_true (by rw [hm]; exact hp)] at hcl
        have HP := Lib.hid hp
        have HC := Lib.hid hcl
        have HM := Lib.hid hm
        clear hp hcl hm
        go_wp2_with fail
        refine HC.out.mono ?_
        rintro e w1 ⟨rfl, hb1⟩
        go_wp2_with fail
        go_roundw
        case rel => exact ⟨l, (l + h) / 2, rfl, by rw [HM.out], by omega, by omega, L, Lib.hid (fun t ht => .inl (by have := sq_mono (a := (((l + h) / 2 : Nat) : Int)) (b := (t : Int)) (by omega) (by omega); have := HP.out; omega)), hbw.trans (hb1.mono hbw.size)⟩
        case measure => simp [intOf]; omega
      · rw [show decide (s ≤ ((l : Int) + (h : Int)) / 2 * (((l : Int) + (h : Int)) / 2)) = false from decide_eq_false (by rw [hm]; exact hp)] at hcl
        have HP := Lib.hid hp
        have HC := Lib.hid hcl
        have HM := Lib.hid hm
        clear hp hcl hm
        go_wp2_with fail
        refine HC.out.mono ?_
        rintro e w1 ⟨rfl, hb1⟩
        go_wp2_with fail
        go_roundw
        case rel => exact ⟨(l + h) / 2 + 1, h, by rw [HM.out]; rfl, rfl, by omega, hh, Lib.hid (fun t ht => by have := sq_mono (a := (t : Int)) (b := (((l + h) / 2 : Nat) : Int)) (by omega) (by omega); have := HP.out; omega), M, hbw.trans (hb1.mono hbw.size)⟩
        case measure => simp [intOf]; omega
    · obtain rfl : l = h := by omega
      have HE := Lib.hid (rtC_eq L.out M.out 75000 hh (by omega))
      go_wp2
      go_ret
      exact ⟨by rw [show lineR s = _ from HE.out]; rfl, hbw⟩
set_option maxHeartbeats 1000000 in
theorem rootOf_any (s : Int) (w : World) :
    Calls Try.prog 35 #[.int .i64 s] w fun e w' => e = .returned (.int .i64 (lineR s)) ∧ Below w.heap.size w w' := by
  go_enter Try.func35, Try.ntmps35
  go_wp2_with fail
  refine (search_any s w.heap.size _ (by simp)).mono ?_
  rintro e w1 ⟨rfl, hb⟩
  go_wp2_with fail
  go_ret
  exact ⟨rfl, (below_alloc _ _).trans (hb.mono (by simp))⟩
def wlB (a b c : Int) : Bool := fliB a b c && lineB (sqR a b c)
set_option maxHeartbeats 1000000 in
theorem specWholeLine_any (a b c : Int) (w : World) :
    Calls Try.prog 13 #[.agg #[.int .i64 a, .int .i64 b, .int .i64 c]] w fun e w' => e = .returned (.tuple #[.int .i64 (orI (wlB a b c) (lineR (sqR a b c))), .bool (wlB a b c)]) ∧ Below w.heap.size w w' := by
  cases g0 : fliB a b c
  · have hV : wlB a b c = false := by simp [wlB, g0]
    rw [hV, orI_no]
    clear hV
    have H0 := Lib.hid g0
    clear g0
    go_enter Try.func13, Try.ntmps13
    go_wp2_with fail
    refine (riGood_any _ _ _ _).mono ?_
    rintro e w1 ⟨rfl, hb⟩
    have hs : w.heap.size + 1 ≤ w1.heap.size := by have := hb.size; (try simp at this); omega
    have c0_0 : w1.cell? ⟨w.heap.size, 0, none⟩ = some (.int .i64 a) := (hb.cell (by simp; try omega)).trans (by simp)
    have c0_1 : w1.cell? ⟨w.heap.size, 1, none⟩ = some (.int .i64 b) := (hb.cell (by simp; try omega)).trans (by simp)
    have c0_2 : w1.cell? ⟨w.heap.size, 2, none⟩ = some (.int .i64 c) := (hb.cell (by simp; try omega)).trans (by simp)
    have Bt : Below w.heap.size w w1 := ((Below.refl _ _).alloc (Nat.le_refl _) _).trans (hb.mono (by simp; try omega))
    clear hb
    rw [H0.out]
    go_wp2_with fail
    go_ret2
    exact ⟨rfl, Bt⟩
  · have b0 := fliB_le g0
    obtain ⟨⟨e0, e1⟩, ⟨e2, e3⟩, ⟨e4, e5⟩, e6, e7⟩ := sqR_le g0
    have E0 : 0 ≤ sqR a b c ∧ sqR a b c ≤ 3125000000 := by unfold sqR; omega
    have W0 := Lib.hid (show wlB a b c = lineB (sqR a b c) by simp [wlB, g0])
    have H0 := Lib.hid g0
    clear g0
    go_enter Try.func13, Try.ntmps13
    go_wp2_with fail
    refine (riGood_any _ _ _ _).mono ?_
    rintro e w1 ⟨rfl, hb⟩
    have hs : w.heap.size + 1 ≤ w1.heap.size := by have := hb.size; (try simp at this); omega
    have c0_0 : w1.cell? ⟨w.heap.size, 0, none⟩ = some (.int .i64 a) := (hb.cell (by simp; try omega)).trans (by simp)
    have c0_1 : w1.cell? ⟨w.heap.size, 1, none⟩ = some (.int .i64 b) := (hb.cell (by simp; try omega)).trans (by simp)
    have c0_2 : w1.cell? ⟨w.heap.size, 2, none⟩ = some (.int .i64 c) := (hb.cell (by simp; try omega)).trans (by simp)
    have Bt : Below w.heap.size w w1 := ((Below.refl _ _).alloc (Nat.le_refl _) _).trans (hb.mono (by simp; try omega))
    clear hb
    rw [H0.out]
    go_wp2_with fail
    refine (riSquare_any _ _ _ H0.out _).mono ?_
    rintro e w2 ⟨rfl, hb⟩
    replace c0_0 := (hb.cell (p := ⟨w.heap.size, 0, none⟩) (by show w.heap.size < w1.heap.size; omega)).trans c0_0
    replace c0_1 := (hb.cell (p := ⟨w.heap.size, 1, none⟩) (by show w.heap.size < w1.heap.size; omega)).trans c0_1
    replace c0_2 := (hb.cell (p := ⟨w.heap.size, 2, none⟩) (by show w.heap.size < w1.heap.size; omega)).trans c0_2
    replace Bt := Bt.trans (hb.mono (by omega))
    replace hs : w.heap.size + 1 ≤ w2.heap.size := by have := hb.size; omega
    clear hb
    generalize hSS : sqR a b c = s at *
    have HS := Lib.hid hSS
    clear hSS
    go_wp2_with fail
    go_loopw [5, 6] (fun lo hi wr => ∃ l h : Int, lo = .int .i64 l ∧ hi = .int .i64 h ∧ 0 ≤ l ∧ l ≤ h ∧ h ≤ 100000 ∧ l * l ≤ s ∧ s < (h + 1) * (h + 1) ∧ wr = w2) (fun lo hi _ => (intOf hi - intOf lo).toNat)
    case atStart => exact ⟨0, 100000, rfl, rfl, by omega, by omega, by omega, by omega, by omega, rfl⟩
    case round =>
      obtain ⟨l, h, rfl, rfl, hl0, hl, hh, hl2, hh2, rfl⟩ := hrel
      by_cases gg : l < h
      · have m0 : l < (l + h + 1) / 2 := by omega
        have m1 : (l + h + 1) / 2 ≤ h := by omega
        have ht : (l + h + 1).tdiv 2 = (l + h + 1) / 2 := Int.tdiv_eq_ediv_of_nonneg (by omega)
        generalize (l + h + 1) / 2 = m at *
        obtain ⟨f0, f1⟩ := mul_bd (a := m) (A := 100000) (b := m) (B := 100000) (by omega) (by omega) (by omega) (by omega)
        by_cases g2 : m * m ≤ s
        · go_wp2
          go_roundw
          case rel => exact ⟨m, h, rfl, rfl, by omega, m1, hh, g2, hh2, trivial⟩
          case measure => simp [intOf]; omega
        · have G3 := Lib.hid (show s < (m - 1 + 1) * (m - 1 + 1) by rw [Int.sub_add_cancel]; omega)
          go_wp2
          go_roundw
          case rel => exact ⟨l, m - 1, rfl, rfl, hl0, by omega, by omega, hl2, G3.out, trivial⟩
          case measure => simp [intOf]; omega
      · obtain rfl : l = h := by omega
        obtain ⟨L1, L2⟩ := line_floor hl0 hl2 hh2 (by omega)
        obtain ⟨f0, f1⟩ := mul_bd (a := l) (A := 100000) (b := l) (B := 100000) (by omega) (by omega) (by omega) (by omega)
        by_cases g2 : l * l = s
        · have E1 := Lib.hid (show orI (wlB a b c) (lineR (sqR a b c)) = l by rw [HS.out, W0.out, L1, show decide (l * l = s) = true from decide_eq_true g2, orI_yes]; exact L2 g2)
          have E2 := Lib.hid (show wlB a b c = true by rw [W0.out, L1]; exact decide_eq_true g2)
          clear L1 L2 W0
          go_wp2
          go_ret2
          exact ⟨by rw [E1.out, E2.out]; rfl, Bt⟩
        · have E1 := Lib.hid (show orI (wlB a b c) (lineR (sqR a b c)) = 0 by rw [W0.out, L1, show decide (l * l = s) = false from decide_eq_false g2, orI_no])
          have E2 := Lib.hid (show wlB a b c = false by rw [W0.out, L1]; exact decide_eq_false g2)
          clear L1 L2 W0
          go_wp2
          go_ret2
          exact ⟨by rw [E1.out, E2.out]; rfl, Bt⟩

set_option maxHeartbeats 1000000 in
theorem implWholeLine_any (a b c : Int) (w : World) :
    Calls Try.prog 14 #[.agg #[.int .i64 a, .int .i64 b, .int .i64 c]] w fun e w' => e = .returned (.tuple #[.int .i64 (orI (wlB a b c) (lineR (sqR a b c))), .bool (wlB a b c)]) ∧ Below w.heap.size w w' := by
  cases g0 : fliB a b c
  · rw [show wlB a b c = false by simp [wlB, g0], orI_no]
    have H0 := Lib.hid g0
    clear g0
    obtain ⟨r0, r1⟩ := lineR_in 0
    go_enter Try.func14, Try.ntmps14
    go_wp2_with fail
    refine (implLineSquare_any _ _ _ _).mono ?_
    rintro e w1 ⟨rfl, hb⟩
    have hs : w.heap.size + 1 ≤ w1.heap.size := by have := hb.size; (try simp at this); omega
    have c0_0 : w1.cell? ⟨w.heap.size, 0, none⟩ = some (.int .i64 a) := (hb.cell (by simp; try omega)).trans (by simp)
    have c0_1 : w1.cell? ⟨w.heap.size, 1, none⟩ = some (.int .i64 b) := (hb.cell (by simp; try omega)).trans (by simp)
    have c0_2 : w1.cell? ⟨w.heap.size, 2, none⟩ = some (.int .i64 c) := (hb.cell (by simp; try omega)).trans (by simp)
    have Bt : Below w.heap.size w w1 := ((Below.refl _ _).alloc (Nat.le_refl _) _).trans (hb.mono (by simp; try omega))
    clear hb
    rw [H0.out, orI_no]
    go_wp2_with fail
    refine (rootOf_any _ _).mono ?_
    rintro e w2 ⟨rfl, hb⟩
    replace c0_0 := (hb.cell (p := ⟨w.heap.size, 0, none⟩) (by show w.heap.size < w1.heap.size; omega)).trans c0_0
    replace c0_1 := (hb.cell (p := ⟨w.heap.size, 1, none⟩) (by show w.heap.size < w1.heap.size; omega)).trans c0_1
    replace c0_2 := (hb.cell (p := ⟨w.heap.size, 2, none⟩) (by show w.heap.size < w1.heap.size; omega)).trans c0_2
    replace Bt := Bt.trans (hb.mono (by omega))
    replace hs : w.heap.size + 1 ≤ w2.heap.size := by have := hb.size; omega
    clear hb
    generalize lineR 0 = r at *
    go_wp2_with fail
    go_ret2
    exact ⟨rfl, Bt⟩
  · have W0 := Lib.hid (show wlB a b c = lineB (sqR a b c) by simp [wlB, g0])
    have H0 := Lib.hid g0
    clear g0
    obtain ⟨r0, r1⟩ := lineR_in (sqR a b c)
    obtain ⟨f0, f1⟩ := mul_bd (a := lineR (sqR a b c)) (A := 75000) (b := lineR (sqR a b c)) (B := 75000) (by omega) (by omega) (by omega) (by omega)
    go_enter Try.func14, Try.ntmps14
    go_wp2_with fail
    refine (implLineSquare_any _ _ _ _).mono ?_
    rintro e w1 ⟨rfl, hb⟩
    have hs : w.heap.size + 1 ≤ w1.heap.size := by have := hb.size; (try simp at this); omega
    have c0_0 : w1.cell? ⟨w.heap.size, 0, none⟩ = some (.int .i64 a) := (hb.cell (by simp; try omega)).trans (by simp)
    have c0_1 : w1.cell? ⟨w.heap.size, 1, none⟩ = some (.int .i64 b) := (hb.cell (by simp; try omega)).trans (by simp)
    have c0_2 : w1.cell? ⟨w.heap.size, 2, none⟩ = some (.int .i64 c) := (hb.cell (by simp; try omega)).trans (by simp)
    have Bt : Below w.heap.size w w1 := ((Below.refl _ _).alloc (Nat.le_refl _) _).trans (hb.mono (by simp; try omega))
    clear hb
    rw [H0.out, orI_yes]
    by_cases g1 : lineR (sqR a b c) * lineR (sqR a b c) = sqR a b c
    · have E1 := Lib.hid (show orI (wlB a b c) (lineR (sqR a b c)) = lineR (sqR a b c) by rw [W0.out, show lineB (sqR a b c) = true from decide_eq_true g1, orI_yes])
      have E2 := Lib.hid (show wlB a b c = true by rw [W0.out]; exact decide_eq_true g1)
      clear W0
      generalize hRR : lineR (sqR a b c) = r at r0 r1 f0 f1 g1
      have HR := Lib.hid hRR
      clear hRR
      go_wp2_with fail
      refine (rootOf_any _ _).mono ?_
      rintro e w2 ⟨rfl, hb⟩
      replace c0_0 := (hb.cell (p := ⟨w.heap.size, 0, none⟩) (by show w.heap.size < w1.heap.size; omega)).trans c0_0
      replace c0_1 := (hb.cell (p := ⟨w.heap.size, 1, none⟩) (by show w.heap.size < w1.heap.size; omega)).trans c0_1
      replace c0_2 := (hb.cell (p := ⟨w.heap.size, 2, none⟩) (by show w.heap.size < w1.heap.size; omega)).trans c0_2
      replace Bt := Bt.trans (hb.mono (by omega))
      replace hs : w.heap.size + 1 ≤ w2.heap.size := by have := hb.size; omega
      clear hb
      try rw [HR.out]
      go_wp2_with fail
      go_ret2
      exact ⟨by rw [E1.out, E2.out]; first | rfl | (rw [HR.out]; rfl), Bt⟩
    · have E1 := Lib.hid (show orI (wlB a b c) (lineR (sqR a b c)) = 0 by rw [W0.out, show lineB (sqR a b c) = false from decide_eq_false g1, orI_no])
      have E2 := Lib.hid (show wlB a b c = false by rw [W0.out]; exact decide_eq_false g1)
      clear W0
      have EE := Lib.hid (orI_no (lineR (sqR a b c)))
      generalize hRR : lineR (sqR a b c) = r at r0 r1 f0 f1 g1
      have HR := Lib.hid hRR
      clear hRR
      go_wp2_with fail
      refine (rootOf_any _ _).mono ?_
      rintro e w2 ⟨rfl, hb⟩
      replace c0_0 := (hb.cell (p := ⟨w.heap.size, 0, none⟩) (by show w.heap.size < w1.heap.size; omega)).trans c0_0
      replace c0_1 := (hb.cell (p := ⟨w.heap.size, 1, none⟩) (by show w.heap.size < w1.heap.size; omega)).trans c0_1
      replace c0_2 := (hb.cell (p := ⟨w.heap.size, 2, none⟩) (by show w.heap.size < w1.heap.size; omega)).trans c0_2
      replace Bt := Bt.trans (hb.mono (by omega))
      replace hs : w.heap.size + 1 ≤ w2.heap.size := by have := hb.size; omega
      clear hb
      try rw [HR.out]
      go_wp2_with fail
      go_ret2
      exact ⟨by rw [E1.out, E2.out]; first | rfl | (rw [HR.out]; rfl), Bt⟩


end Go.Proofs.Ytdeckfdmhpiokaa
