/- Contracts of the leaves: functions that only read. -/
import Derived.Test.YtehffiaobjlpoaaRows
import Derived.Test.YtehffiaobjlpoaaMem
import Derived.BigQuiet
import Derived.Deep.QuietTactic
namespace Go.Proofs.Ytehffiaobjlpoaa
set_option maxRecDepth 100000
open Go.RowKit

theorem int_info : (Try.prog.info? 3).map (fun i => (i.zero, i.size, i.bytes)) = some (some (.int .i64 0), 1, 8) := by kernel_rfl

def szF (left n : Int) : Int := if left - n < 0 then -1 else left - n
theorem szF_neg {left n : Int} (h : left - n < 0) : szF left n = -1 := if_pos h
theorem szF_pos {left n : Int} (h : 0 ≤ left - n) : szF left n = left - n := if_neg (by omega)

set_option maxHeartbeats 400000 in
theorem szIntS_any (A : Option Addr) (n c : Nat) (left : Int) (w : World) (hn : n ≤ 9223372036854775807) (h0 : 0 ≤ left) (h1 : left ≤ 1048576) :
    Calls Try.prog 36 #[.slice A n c, .int .i64 left] w fun e w' => e = .returned (.int .i64 (szF left n)) ∧ w = w' := by
  by_cases h : left - n < 0
  · rw [szF_neg h]
    go_enter Try.func36, Try.ntmps36
    go_wp2
    go_ret
    exact ⟨rfl, rfl⟩
  · rw [szF_pos (by omega)]
    go_enter Try.func36, Try.ntmps36
    go_wp2
    go_ret
    exact ⟨rfl, rfl⟩

set_option maxHeartbeats 400000 in
theorem szStairs_yes (st : Int) (A A' : Option Addr) (n c n' c' : Nat) (w : World) (h1 : n + n' ≤ 1048576) :
    Calls Try.prog 24 #[.agg #[.int .i64 st, .slice A n c, .slice A' n' c'], .int .i64 1048576] w fun e w' => e = .returned (.int .i64 (1048576 - n - n')) ∧ Below w.heap.size w w' := by
  have e1 := Lib.hid (szF_pos (left := 1048576) (n := (n : Int)) (by omega))
  have e2 := Lib.hid (szF_pos (left := 1048576 - (n : Int)) (n := (n' : Int)) (by omega))
  go_enter Try.func24, Try.ntmps24
  go_wp2_with fail
  refine (szIntS_any _ _ _ _ _ (by omega) (by omega) (by omega)).mono ?_
  rintro e w1 ⟨rfl, rfl⟩
  rw [e1.out]
  go_wp2_with fail
  refine (szIntS_any _ _ _ _ _ (by omega) (by omega) (by omega)).mono ?_
  rintro e w1 ⟨rfl, rfl⟩
  rw [e2.out]
  go_wp2_with fail
  go_ret
  exact ⟨rfl, (Below.refl _ _).alloc (Nat.le_refl _) _⟩

set_option maxHeartbeats 400000 in
theorem szStairs_no (st : Int) (A A' : Option Addr) (n c n' c' : Nat) (w : World) (hn : n ≤ 9223372036854775807) (hn' : n' ≤ 9223372036854775807) (h1 : 1048576 < n + n') :
    Calls Try.prog 24 #[.agg #[.int .i64 st, .slice A n c, .slice A' n' c'], .int .i64 1048576] w fun e w' => e = .returned (.int .i64 (-1)) ∧ Below w.heap.size w w' := by
  by_cases h : n ≤ 1048576
  · have e1 := Lib.hid (szF_pos (left := 1048576) (n := (n : Int)) (by omega))
    have e2 := Lib.hid (szF_neg (left := 1048576 - (n : Int)) (n := (n' : Int)) (by omega))
    go_enter Try.func24, Try.ntmps24
    go_wp2_with fail
    refine (szIntS_any _ _ _ _ _ (by omega) (by omega) (by omega)).mono ?_
    rintro e w1 ⟨rfl, rfl⟩
    rw [e1.out]
    go_wp2_with fail
    refine (szIntS_any _ _ _ _ _ (by omega) (by omega) (by omega)).mono ?_
    rintro e w1 ⟨rfl, rfl⟩
    rw [e2.out]
    go_wp2_with fail
    go_ret
    exact ⟨rfl, (Below.refl _ _).alloc (Nat.le_refl _) _⟩
  · have e1 := Lib.hid (szF_neg (left := 1048576) (n := (n : Int)) (by omega))
    go_enter Try.func24, Try.ntmps24
    go_wp2_with fail
    refine (szIntS_any _ _ _ _ _ (by omega) (by omega) (by omega)).mono ?_
    rintro e w1 ⟨rfl, rfl⟩
    rw [e1.out]
    go_wp2_with fail
    go_ret
    exact ⟨rfl, (Below.refl _ _).alloc (Nat.le_refl _) _⟩

/-- rising from above last, at most most -/
def incB (most : Int) : Int → List Int → Bool
  | _, [] => true
  | last, x :: r => decide (last < x) && (decide (x ≤ most) && incB most x r)

theorem drop_at (xs : List Int) (k : Nat) (h : k < xs.length) : xs.drop k = xs.getD k 0 :: xs.drop (k + 1) := by
  rw [List.drop_eq_getElem_cons h]; simp [List.getD_eq_getElem?_getD, h]
theorem incB_go (most l : Int) (xs : List Int) (k : Nat) (h : k < xs.length) : incB most l (xs.drop k) = (decide (l < xs.getD k 0) && (decide (xs.getD k 0 ≤ most) && incB most (xs.getD k 0) (xs.drop (k + 1)))) := by
  rw [drop_at xs k h]; rfl
theorem incB_end (most l : Int) (xs : List Int) (k : Nat) (h : ¬ k < xs.length) : incB most l (xs.drop k) = true := by
  rw [List.drop_eq_nil_of_le (by omega)]; rfl

theorem inc_step {a b l x most : Int} {xs r : List Int} {ys : List Int} (h : incB most a xs = incB most l ys) (e : incB most l ys = (decide (l < x) && (decide (x ≤ most) && incB most b r))) (h1 : l < x) (h2 : x ≤ most) : incB most a xs = incB most b r := by
  rw [h, e]; simp [h1, h2]
theorem inc_stop {a b l x most : Int} {xs r : List Int} {ys : List Int} (h : incB most a xs = incB most l ys) (e : incB most l ys = (decide (l < x) && (decide (x ≤ most) && incB most b r))) (h1 : x ≤ l ∨ most < x) : false = incB most a xs := by
  rw [h, e]
  rcases h1 with h1 | h1
  · simp [show ¬ l < x by omega]
  · simp [show ¬ x ≤ most by omega]

set_option maxHeartbeats 400000 in
theorem inc_any (A : Option Addr) (c : Nat) (xs : List Int) (most : Int) (B : Nat) (w : World) (hr : Rd w B A c xs) (hn : xs.length ≤ 1048576) :
    Calls Try.prog 67 #[.slice A xs.length c, .int .i64 most] w fun e w' => e = .returned (.bool (incB most 0 xs)) ∧ w = w' := by
  go_enter Try.func67, Try.ntmps67
  go_wp2
  go_loop [5, 10] (fun l i => ∃ (k : Nat) (v : Int), k ≤ xs.length ∧ i = .int .i64 k ∧ l = .int .i64 v ∧ Hid (incB most 0 xs = incB most v (xs.drop k))) (fun _ i => xs.length - (intOf i).toNat)
  case atStart => exact ⟨0, 0, Nat.zero_le _, rfl, rfl, by simp [Hid]⟩
  case round =>
    obtain ⟨k, v, hk, rfl, rfl, H⟩ := hrel
    by_cases hlt : k < xs.length
    · obtain ⟨b, o, rfl, hb, hcell⟩ := hr.at_ hlt
      have E := Lib.hid (incB_go most v xs k hlt)
      generalize xs.getD k 0 = x at *
      by_cases h1 : v < x
      · by_cases h2 : x ≤ most
        · go_wp2
          go_round
          case rel => exact ⟨k + 1, x, by omega, by go_num, rfl, inc_step H.out E.out h1 h2⟩
          case measure => simp [intOf]; omega
        · go_wp2
          go_ret
          exact ⟨ret_bool (inc_stop H.out E.out (by omega)), rfl⟩
      · go_wp2
        go_ret
        exact ⟨ret_bool (inc_stop H.out E.out (by omega)), rfl⟩
    · go_wp2
      go_ret
      exact ⟨ret_bool (by rw [H.out, incB_end _ _ _ _ hlt]), rfl⟩

set_option maxHeartbeats 400000 in
theorem toIntS_any (A : Option Addr) (c : Nat) (xs : List Int) (B : Nat) (w : World) (hr : Rd w B A c xs) (hB : B ≤ w.heap.size) (hn : xs.length ≤ 1048576) :
    Calls Try.prog 40 #[.slice A xs.length c] w fun e w' => e = .returned (.slice (some ⟨w.heap.size, 0, none⟩) xs.length xs.length) ∧ w.alloc (.cells (ints xs) 3) = w' := by
  obtain ⟨i0, hi, hz, hs, hby⟩ := info_parts int_info
  have hmk : ∀ u : World, (Instr.makeSlice 22 (.int .i64 (xs.length : Int)) (.int .i64 (xs.length : Int))).run Try.prog u = .ok (.slice (some ⟨u.heap.size, 0, none⟩) xs.length xs.length) (u.alloc (.cells (fill xs 0) 3)) := fun u => by
    have := run_make (P := Try.prog) u 22 3 i0 (.int .i64 0) Try.underlying22 hi hz .i64 .i64 xs.length xs.length (by omega) (Int.le_refl _) (by rw [hby]; omega) (by omega)
    rw [Int.toNat_natCast, hs, fill_zero] at this
    exact this
  clear hi hz hs hby
  go_enter Try.func40, Try.ntmps40
  go_wp2
  go_loopw [4] (fun i wr => ∃ k : Nat, k ≤ xs.length ∧ i = .int .i64 k ∧ wr = w.alloc (.cells (fill xs k) 3)) (fun i _ => xs.length - (intOf i).toNat)
  case atStart => exact ⟨0, Nat.zero_le _, rfl, rfl⟩
  case round =>
    obtain ⟨k, hk, rfl, rfl⟩ := hrel
    by_cases hlt : k < xs.length
    · obtain ⟨b, o, rfl, hb, hcell⟩ := hr.at_ hlt
      have hb' : b < w.heap.size := by omega
      have hf := fill_at xs k hlt
      have hg := fill_set xs k hlt
      generalize xs.getD k 0 = x at *
      go_wp2
      go_roundw
      case rel => exact ⟨k + 1, by omega, by go_num, rfl⟩
      case measure => simp [intOf]; omega
    · have hf := fill_end xs
      obtain rfl : k = xs.length := by omega
      go_wp2
      go_ret
      exact ⟨rfl, rfl⟩

/-- the two lists are the same, as the law's own loop decides it -/
def eqB (xs ys : List Int) : Bool := decide (xs = ys)
theorem eqB_self (xs : List Int) : eqB xs xs = true := by simp [eqB]
theorem eqB_at {xs ys : List Int} {k : Nat} (h : ¬ xs.getD k 0 = ys.getD k 0) : false = eqB xs ys := by
  symm
  simp only [eqB, decide_eq_false_iff_not]
  rintro rfl
  exact h rfl
theorem eqB_all {xs ys : List Int} (hl : xs.length = ys.length) (h : ∀ j, j < xs.length → xs.getD j 0 = ys.getD j 0) : true = eqB xs ys := by
  symm
  simp only [eqB, decide_eq_true_eq]
  apply List.ext_getElem hl
  intro i h1 h2
  have := h i h1
  simpa [List.getD_eq_getElem?_getD, h1, h2] using this

set_option maxHeartbeats 400000 in
theorem eqIntS_any (A A' : Option Addr) (c c' : Nat) (xs ys : List Int) (B : Nat) (w : World) (hx : Rd w B A c xs) (hy : Rd w B A' c' ys) (hn : xs.length ≤ 1048576) :
    Calls Try.prog 32 #[.slice A xs.length c, .slice A' ys.length c'] w fun e w' => e = .returned (.bool (eqB xs ys)) ∧ ∃ n, w' = w.drewN n := by
  by_cases hl : xs.length = ys.length
  · have Hl := Lib.hid hl
    rw [← hl]
    clear hl
    go_enter Try.func32, Try.ntmps32
    go_wp2
    go_loopw [5] (fun i wr => ∃ k : Nat, k ≤ xs.length ∧ i = .int .i64 k ∧ (∃ n, wr = w.drewN n) ∧ Hid (∀ j, j < k → xs.getD j 0 = ys.getD j 0)) (fun i _ => xs.length - (intOf i).toNat)
    case atStart => exact ⟨0, Nat.zero_le _, rfl, ⟨0, rfl⟩, fun j hj => absurd hj (by omega)⟩
    case round =>
      obtain ⟨k, hk, rfl, ⟨n, rfl⟩, H⟩ := hrel
      by_cases hlt : k < xs.length
      · obtain ⟨b, o, rfl, hb, hcell⟩ := hx.at_ hlt
        obtain ⟨b', o', rfl, hb', hcell'⟩ := hy.at_ (k := k) (by rw [← Hl.out]; exact hlt)
        have H1 := Lib.hid (eqB_at (xs := xs) (ys := ys) (k := k))
        generalize hX : xs.getD k 0 = x at *
        generalize hY : ys.getD k 0 = y at *
        have HX := Lib.hid hX
        have HY := Lib.hid hY
        clear hX hY
        by_cases he : x = y
        · subst he
          have H2 : Hid (∀ j, j < k + 1 → xs.getD j 0 = ys.getD j 0) := fun j hj => by
            rcases Nat.lt_succ_iff_lt_or_eq.1 hj with h | rfl
            · exact H.out j h
            · rw [HX.out, HY.out]
          go_wp2
          go_quiet (fail)
          go_wp2
          go_roundw
          case rel => exact ⟨k + 1, by omega, by go_num, ⟨_, rfl⟩, H2⟩
          case measure => simp [intOf]; omega
        · have H2 := Lib.hid (H1.out he)
          go_wp2
          go_quiet (fail)
          go_wp2
          go_ret
          exact ⟨ret_bool H2.out, _, World.drewN_drewN _ _ _⟩
      · have H2 := Lib.hid (eqB_all Hl.out fun j hj => H.out j (by omega))
        go_wp2
        go_ret
        exact ⟨ret_bool H2.out, _, rfl⟩
  · go_enter Try.func32, Try.ntmps32
    go_wp2
    go_ret
    exact ⟨ret_bool (by simp [eqB]; rintro rfl; exact hl rfl), 0, rfl⟩

end Go.Proofs.Ytehffiaobjlpoaa
