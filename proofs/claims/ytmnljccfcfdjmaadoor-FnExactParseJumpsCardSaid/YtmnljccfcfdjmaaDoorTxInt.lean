/- Contracts: texts of lists of numbers with signs, on both sides. -/
import Derived.Test.YtmnljccfcfdjmaaDoorTxList
namespace Go.Proofs.YtmnljccfcfdjmaaDoor
open Go.RowKit
set_option maxRecDepth 100000

/-- the numeral of a number, with its sign -/
def intS (n : Int) : ByteArray := if n < 0 then ⟨#[45]⟩ ++ numS (-n) else numS n
theorem intS_neg {n : Int} (h : n < 0) : intS n = ⟨#[45]⟩ ++ numS (-n) := if_pos h
theorem intS_pos {n : Int} (h : ¬ n < 0) : intS n = numS n := if_neg h
theorem intS_size {n : Int} (h : -1000000000 ≤ n ∧ n ≤ 1000000000) : (intS n).size ≤ 11 := by
  by_cases h0 : n < 0
  · rw [intS_neg h0]
    have := numS_size (n := -n) (by omega)
    simp only [ByteArray.size_append, one_size]
    omega
  · rw [intS_pos h0]
    have := numS_size (n := n) (by omega)
    omega
set_option maxHeartbeats 1000000 in
theorem l1Int_any (n : Int) (w : World) (h0 : -1000000000 ≤ n) (h1 : n ≤ 1000000000) :
    Calls Tryd.prog 21 #[.int .i64 n] w fun e w' => e = .returned (.string (intS n)) ∧ Below w.heap.size w w' := by
  by_cases hn : n < 0
  · rw [intS_neg hn]
    have hw : IntKind.i64.wrap (-n) = -n := IntWalk.i64_in _ (by omega)
    have HN := Lib.hid (fun u => l1Num_any 1000000001 (-n) u (by omega) (by omega) (by omega))
    have hz := numS_size (n := -n) (by omega)
    generalize numS (-n) = t at *
    have A0 := fun u => run_string_add_sum (P := Tryd.prog) u (⟨#[45]⟩ : ByteArray) t (by simp only [one_size]; omega)
    go_enter Tryd.func21, Tryd.ntmps21
    go_wp2_with fail
    refine (HN.out _).mono ?_
    rintro e w1 ⟨rfl, hb1⟩
    go_wp2_with fail
    go_ret
    exact ⟨rfl, hb1⟩
  · rw [intS_pos hn]
    have HN := Lib.hid (fun u => l1Num_any 1000000001 n u (by omega) (by omega) (by omega))
    go_enter Tryd.func21, Tryd.ntmps21
    go_wp2_with fail
    refine (HN.out _).mono ?_
    rintro e w1 ⟨rfl, hb1⟩
    go_wp2_with fail
    go_ret
    exact ⟨rfl, hb1⟩
theorem itoa_int (n : Int) : (⟨(Lib.itoa n).toArray⟩ : ByteArray) = intS n := by
  by_cases h : n < 0
  · rw [intS_neg h, Lib.itoa, if_pos h]
    unfold numS
    rw [show n.natAbs = (-n).toNat by omega]
    apply ByteArray.ext
    simp
  · rw [intS_pos h, Lib.itoa, if_neg h]
    rfl
theorem itoaI_any (n : Int) (w : World) (h0 : -1000000000 ≤ n) (h1 : n ≤ 1000000000) (ht : TabI w) :
    Calls Tryd.prog 24 #[.int .i64 n] w fun e w' => e = .returned (.string (intS n)) ∧ Below w.heap.size w w' :=
  (Tryd.strconv_Itoa n (by omega) (by omega) w ht).mono fun e w' ⟨he, k, os, hw⟩ => by
    subst hw
    refine ⟨?_, Lib.below_grow _ w (Nat.le_refl _) k os⟩
    rw [he, ← itoa_int]

/-- the text of the first k numbers of a list -/
def liS (b : UInt8) (xs : List Int) : Nat → ByteArray
  | 0 => ⟨#[]⟩
  | k + 1 => (if k = 0 then ⟨#[]⟩ else liS b xs k ++ ⟨#[b]⟩) ++ intS (xs.getD k 0)
theorem liS_one (b : UInt8) (xs : List Int) : liS b xs 1 = intS (xs.getD 0 0) := by
  apply ByteArray.ext
  simp [liS]
theorem liS_more (b : UInt8) (xs : List Int) {k : Nat} (h : ¬ k = 0) : liS b xs (k + 1) = liS b xs k ++ ⟨#[b]⟩ ++ intS (xs.getD k 0) := by rw [liS, if_neg h]
theorem liS_size (b : UInt8) {xs : List Int} (hx : ∀ k, k < xs.length → -1000000000 ≤ xs.getD k 0 ∧ xs.getD k 0 ≤ 1000000000) : ∀ k, k ≤ xs.length → (liS b xs k).size ≤ 12 * k
  | 0, _ => by simp [liS, ByteArray.size]
  | k + 1, h => by
    have h1 := liS_size b hx k (by omega)
    have h2 := intS_size (hx k (by omega))
    unfold liS
    split
    · simp only [ByteArray.size_append]
      have : (⟨#[]⟩ : ByteArray).size = 0 := rfl
      omega
    · simp only [ByteArray.size_append, one_size]
      omega
/-- the words of the first k numbers, nothing behind them -/
def wiS (xs : List Int) (k : Nat) : List ByteArray := (List.range xs.length).map fun j => if j < k then intS (xs.getD j 0) else ⟨#[]⟩
theorem wiS_length (xs : List Int) (k : Nat) : (wiS xs k).length = xs.length := by simp [wiS]
theorem wiS_zero (xs : List Int) : List.replicate xs.length ⟨#[]⟩ = wiS xs 0 := by
  apply List.ext_getElem
  · simp [wiS]
  · intro i h1 h2
    simp [wiS]
theorem wiS_set (xs : List Int) (k : Nat) : (wiS xs k).set k (intS (xs.getD k 0)) = wiS xs (k + 1) := by
  apply List.ext_getElem
  · simp [wiS]
  · intro i h1 h2
    simp only [List.getElem_set, wiS, List.getElem_map, List.getElem_range]
    by_cases e : k = i
    · subst e; simp
    · rw [if_neg e]
      by_cases e2 : i < k
      · rw [if_pos e2, if_pos (by omega)]
      · rw [if_neg e2, if_neg (by omega)]
def wiL (xs : List Int) (k : Nat) : List (List UInt8) := (List.range k).map fun j => (intS (xs.getD j 0)).data.toList
theorem liS_join (b : UInt8) (xs : List Int) : ∀ k, (liS b xs k).data.toList = Lib.join (wiL xs k) [b]
  | 0 => by simp [liS, wiL, Lib.join_nil]
  | k + 1 => by
    have ih := liS_join b xs k
    have e : wiL xs (k + 1) = wiL xs k ++ [(intS (xs.getD k 0)).data.toList] := by simp [wiL, List.range_succ]
    by_cases h : k = 0
    · subst h
      rw [liS_one, e, show wiL xs 0 = [] from rfl, List.nil_append, Lib.join_one]
    · rw [liS_more b xs h, e, join_snoc _ _ _ (by simp [wiL]; omega), ← ih]
      simp
theorem wiS_lists (xs : List Int) : (wiS xs xs.length).map (·.data.toList) = wiL xs xs.length := by
  apply List.ext_getElem
  · simp [wiS, wiL]
  · intro i h1 h2
    have : i < xs.length := by simp [wiL] at h2; exact h2
    simp [wiS, wiL, this]

set_option maxHeartbeats 1000000 in
theorem baText_any (A : Option Addr) (n c : Nat) (xs : List Int) (B : Nat) (w : World) (hl : n = xs.length) (hr : Rd w B A c xs) (hB : B ≤ w.heap.size) (hn : xs.length ≤ 1000) (hx : ∀ k, k < xs.length → -1000000000 ≤ xs.getD k 0 ∧ xs.getD k 0 ≤ 1000000000) :
    Calls Tryd.prog 14 #[.slice A n c] w fun e w' => e = .returned (.string (liS 44 xs xs.length)) ∧ Below w.heap.size w w' := by
  subst hl
  have HX := Lib.hid hx
  have HR := Lib.hid hr
  have HSZ := Lib.hid (fun k hk => liS_size 44 (xs := xs) hx k hk)
  clear hx hr
  go_enter Tryd.func14, Tryd.ntmps14
  go_wp2_with fail
  go_loopw [3, 8] (fun s i wr => ∃ k : Nat, k ≤ xs.length ∧ i = .int .i64 k ∧ s = .string (liS 44 xs k) ∧ Below w.heap.size w wr) (fun _ i _ => xs.length - (intOf i).toNat)
  case atStart => exact ⟨0, Nat.zero_le _, rfl, rfl, Below.refl _ _⟩
  case round =>
    obtain ⟨k, hk, rfl, rfl, hbw⟩ := hrel
    have hz : w.heap.size ≤ wr.heap.size := hbw.size
    by_cases hlt : k < xs.length
    · obtain ⟨b, o, rfl, hb0, hcell⟩ := (HR.out.below hbw hB).at_ hlt
      have hx1 := HX.out k hlt
      have HN := Lib.hid (fun w => l1Int_any (xs.getD k 0) w hx1.1 hx1.2)
      have z1 := intS_size hx1
      have z2 := HSZ.out k hk
      by_cases k0 : k = 0
      · subst k0
        rw [Nat.add_zero] at hcell
        have HT := Lib.hid (liS_one 44 xs)
        have HE := Lib.hid (show ∀ t : ByteArray, (⟨#[]⟩ : ByteArray) ++ t = t from fun t => by apply ByteArray.ext; simp)
        have z3 : (⟨#[]⟩ : ByteArray).size = 0 := rfl
        rw [show liS 44 xs 0 = ⟨#[]⟩ from rfl] at *
        generalize intS (xs.getD 0 0) = t at *
        generalize xs.getD 0 0 = x at *
        have A0 := fun u => run_string_add_sum (P := Tryd.prog) u (⟨#[]⟩ : ByteArray) t (by omega)
        go_wp2_with fail
        refine (HN.out _).mono ?_
        rintro e w1 ⟨rfl, hb1⟩
        go_wp2_with fail
        go_roundw
        case rel => exact ⟨1, by omega, by go_num, by rw [HT.out, HE.out], hbw.trans (hb1.mono hz)⟩
        case measure => simp [intOf]; omega
      · have HT := Lib.hid (liS_more 44 xs k0)
        have k1 : (0 : Int) < (k : Int) := by omega
        generalize intS (xs.getD k 0) = t at *
        generalize xs.getD k 0 = x at *
        generalize liS 44 xs k = s at *
        have A0 := fun u => run_string_add_sum (P := Tryd.prog) u s (⟨#[44]⟩ : ByteArray) (by simp only [one_size]; omega)
        have A1 := fun u => run_string_add_sum (P := Tryd.prog) u (s ++ ⟨#[44]⟩) t (by simp only [ByteArray.size_append, one_size]; omega)
        go_wp2_with fail
        refine (HN.out _).mono ?_
        rintro e w1 ⟨rfl, hb1⟩
        go_wp2_with fail
        go_roundw
        case rel => exact ⟨k + 1, by omega, by go_num, by rw [HT.out], hbw.trans (hb1.mono hz)⟩
        case measure => simp [intOf]; omega
    · obtain rfl : k = xs.length := by omega
      go_wp2
      go_ret
      exact ⟨rfl, hbw⟩
set_option maxHeartbeats 1000000 in
theorem numbersTextI_any (A : Option Addr) (n c : Nat) (xs : List Int) (b : UInt8) (B : Nat) (w : World) (hl : n = xs.length) (hr : Rd w B A c xs) (hB : B ≤ w.heap.size) (hn : xs.length ≤ 1000) (hx : ∀ k, k < xs.length → -1000000000 ≤ xs.getD k 0 ∧ xs.getD k 0 ≤ 1000000000) (ht : TabI w) :
    Calls Tryd.prog 16 #[.slice A n c, .string ⟨#[b]⟩] w fun e w' => e = .returned (.string (liS b xs xs.length)) ∧ Below w.heap.size w w' := by
  subst hl
  have HX := Lib.hid hx
  have HR := Lib.hid hr
  have HSZ := liS_size b (xs := xs) hx xs.length (Nat.le_refl _)
  have HM := make_strs xs.length (by omega)
  rw [wiS_zero] at HM
  clear hx hr
  go_enter Tryd.func16, Tryd.ntmps16
  go_wp2_with fail
  go_loopw [13] (fun i wr => ∃ k : Nat, k ≤ xs.length ∧ i = .int .i64 k ∧ Blk wr w.heap.size 9 (strs (wiS xs k)) ∧ Below w.heap.size w wr) (fun i _ => xs.length - (intOf i).toNat)
  case atStart => exact ⟨0, Nat.zero_le _, rfl, Blk.new _ _ _, below_alloc _ _⟩
  case round =>
    obtain ⟨k, hk, rfl, X, hbw⟩ := hrel
    have hz : w.heap.size < wr.heap.size := X.lt
    by_cases hlt : k < xs.length
    · obtain ⟨b1, o1, rfl, hb0, hcell⟩ := (HR.out.below hbw hB).at_ hlt
      have hx1 := HX.out k hlt
      have HN := Lib.hid (itoaI_any (xs.getD k 0) wr hx1.1 hx1.2 (ht.below hbw))
      have HT := Lib.hid (wiS_set xs k)
      generalize intS (xs.getD k 0) = t at *
      generalize xs.getD k 0 = x at *
      go_wp2_with fail
      refine HN.out.mono ?_
      rintro e w1 ⟨rfl, hb1⟩
      have X1 := X.below hb1 hz
      have d0 := X1.str_at (k := k) (by rw [wiS_length]; exact hlt)
      have fz := X1.frozen k
      go_wp2_with fail
      go_roundw
      case rel => exact ⟨k + 1, by omega, by go_num, by rw [← HT.out]; exact X1.str_set k t, (hbw.trans (hb1.mono (by omega))).setCell (Nat.le_refl _) _⟩
      case measure => simp [intOf]; omega
    · obtain rfl : k = xs.length := by omega
      have HJ := Lib.hid (Tryd.strings_Join w.heap.size 0 xs.length (wiS xs xs.length) ⟨#[b]⟩ wr (fun j x hj => by
        have hj2 : j < (wiS xs xs.length).length := (List.getElem?_eq_some_iff.1 hj).1
        rw [Nat.zero_add, X.str_at hj2]
        simp [List.getD_eq_getElem?_getD, hj]) hz (by rw [wiS_length]; omega) (by rw [wiS_length]; exact Nat.le_refl _) (by
          have e : (Lib.join ((wiS xs xs.length).map (·.data.toList)) (⟨#[b]⟩ : ByteArray).data.toList).length = (liS b xs xs.length).size := by rw [wiS_lists, ← liS_join]; rfl
          rw [e]; omega))
      rw [wiS_length, wiS_lists, ← liS_join] at HJ
      go_wp2_with fail
      refine HJ.out.mono ?_
      rintro e w1 ⟨rfl, hb1⟩
      go_wp2_with fail
      go_ret
      exact ⟨rfl, hbw.trans (hb1.mono (by omega))⟩

end Go.Proofs.YtmnljccfcfdjmaaDoor
