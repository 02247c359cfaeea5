/- Contracts: texts of lists of numbers with a byte between them, on both sides. -/
import Derived.Test.YtohimcljobpkjaaDoorOTxNum
import Derived.RegionTactic
import Derived.BigRegion
import Derived.ChangeAlike
import Derived.Test.YtohimcljobpkjaaDoorShelfJ
import Derived.Lib.Join
namespace Go.Proofs.YtohimcljobpkjaaDoor
open Go.RowKit
set_option maxRecDepth 100000

/-- the text of the first k numbers of a list -/
def lsS (b : UInt8) (xs : List Int) : Nat → ByteArray
  | 0 => ⟨#[]⟩
  | k + 1 => (if k = 0 then ⟨#[]⟩ else lsS b xs k ++ ⟨#[b]⟩) ++ numS (xs.getD k 0)
theorem lsS_one (b : UInt8) (xs : List Int) : lsS b xs 1 = numS (xs.getD 0 0) := by
  apply ByteArray.ext
  simp [lsS]
theorem lsS_more (b : UInt8) (xs : List Int) {k : Nat} (h : ¬ k = 0) : lsS b xs (k + 1) = lsS b xs k ++ ⟨#[b]⟩ ++ numS (xs.getD k 0) := by rw [lsS, if_neg h]
theorem lsS_size (b : UInt8) {xs : List Int} (hx : ∀ k, k < xs.length → xs.getD k 0 ≤ 1000000000) : ∀ k, k ≤ xs.length → (lsS b xs k).size ≤ 11 * k
  | 0, _ => by simp [lsS, ByteArray.size]
  | k + 1, h => by
    have h1 := lsS_size b hx k (by omega)
    have h2 := numS_size (hx k (by omega))
    unfold lsS
    split
    · simp only [ByteArray.size_append]
      have : (⟨#[]⟩ : ByteArray).size = 0 := rfl
      omega
    · simp only [ByteArray.size_append, one_size]
      omega
/-- a row of texts -/
def strs (xs : List ByteArray) : Array Value := (xs.map Value.string).toArray
theorem strs_get (xs : List ByteArray) (k : Nat) (h : k < xs.length) : (strs xs)[k]? = some (.string (xs.getD k ⟨#[]⟩)) := by
  simp [strs, List.getD_eq_getElem?_getD, h]
theorem strs_set (ys : List ByteArray) (k : Nat) (v : ByteArray) : (strs ys).setIfInBounds k (.string v) = strs (ys.set k v) := by
  apply Array.ext_getElem?
  intro i
  simp only [strs, Array.getElem?_setIfInBounds, List.getElem?_toArray, List.getElem?_map, List.getElem?_set, List.size_toArray, List.length_map]
  by_cases h : k = i
  · subst h; by_cases h2 : k < ys.length <;> simp [h2]
  · simp [h]
theorem Blk.str_at {w : World} {g : Nat} {t : TypeId} {ys : List ByteArray} (h : Blk w g t (strs ys)) {k : Nat} (hk : k < ys.length) : w.cell? ⟨g, k, none⟩ = some (.string (ys.getD k ⟨#[]⟩)) := by
  rw [h.cell, strs_get _ _ hk]
theorem Blk.str_set {w : World} {g : Nat} {t : TypeId} {ys : List ByteArray} (h : Blk w g t (strs ys)) (k : Nat) (v : ByteArray) : Blk (w.setCell ⟨g, k, none⟩ (.string v)) g t (strs (ys.set k v)) := by
  rw [← strs_set]; exact h.set_ _ _
theorem string_info : (Tryd.prog.info? 9).map (fun i => (i.zero, i.size, i.bytes)) = some (some (.string ⟨#[]⟩), 1, 16) := by kernel_rfl
theorem made_strs (n : Nat) : madeCells (Value.string ⟨#[]⟩).cells (n * 1) = strs (List.replicate n ⟨#[]⟩) := by
  apply Array.ext_getElem?
  intro i
  by_cases h : i < n <;> simp [strs, madeCells, Value.cells, Nat.mod_one, h]
theorem make_strs (n : Nat) (hn : n ≤ 1048576) (u : World) : (Instr.makeSlice 42 (.int .i64 (n : Int)) (.int .i64 (n : Int))).run Tryd.prog u = .ok (.slice (some ⟨u.heap.size, 0, none⟩) n n) (u.alloc (.cells (strs (List.replicate n ⟨#[]⟩)) 9)) := by
  obtain ⟨i0, hi, hz, hs, hby⟩ := info_parts string_info
  have := run_make (P := Tryd.prog) u 42 9 i0 (.string ⟨#[]⟩) Tryd.underlying42 hi hz .i64 .i64 n n (by omega) (Int.le_refl _) (by rw [hby]; omega) (by omega)
  rw [Int.toNat_natCast, hs, made_strs] at this
  exact this
/-- the words of the first k numbers, nothing behind them -/
def wdS (xs : List Int) (k : Nat) : List ByteArray := (List.range xs.length).map fun j => if j < k then numS (xs.getD j 0) else ⟨#[]⟩
theorem wdS_length (xs : List Int) (k : Nat) : (wdS xs k).length = xs.length := by simp [wdS]
theorem wdS_zero (xs : List Int) : List.replicate xs.length ⟨#[]⟩ = wdS xs 0 := by
  apply List.ext_getElem
  · simp [wdS]
  · intro i h1 h2
    simp [wdS]
theorem wdS_set (xs : List Int) (k : Nat) : (wdS xs k).set k (numS (xs.getD k 0)) = wdS xs (k + 1) := by
  apply List.ext_getElem
  · simp [wdS]
  · intro i h1 h2
    simp only [List.getElem_set, wdS, List.getElem_map, List.getElem_range]
    by_cases e : k = i
    · subst e; simp
    · rw [if_neg e]
      by_cases e2 : i < k
      · rw [if_pos e2, if_pos (by omega)]
      · rw [if_neg e2, if_neg (by omega)]
def wdL (xs : List Int) (k : Nat) : List (List UInt8) := (List.range k).map fun j => (numS (xs.getD j 0)).data.toList
theorem joinTail_snoc (sep y : List UInt8) (r : List (List UInt8)) : Lib.joinTail sep (r ++ [y]) = Lib.joinTail sep r ++ (sep ++ y) := by simp [Lib.joinTail]
theorem join_snoc (sep y : List UInt8) : ∀ r : List (List UInt8), r ≠ [] → Lib.join (r ++ [y]) sep = Lib.join r sep ++ sep ++ y
  | [], h => absurd rfl h
  | x :: r, _ => by rw [List.cons_append, Lib.join_cons, Lib.join_cons, joinTail_snoc]; simp
theorem lsS_join (b : UInt8) (xs : List Int) : ∀ k, (lsS b xs k).data.toList = Lib.join (wdL xs k) [b]
  | 0 => by simp [lsS, wdL, Lib.join_nil]
  | k + 1 => by
    have ih := lsS_join b xs k
    have e : wdL xs (k + 1) = wdL xs k ++ [(numS (xs.getD k 0)).data.toList] := by simp [wdL, List.range_succ]
    by_cases h : k = 0
    · subst h
      rw [lsS_one, e, show wdL xs 0 = [] from rfl, List.nil_append, Lib.join_one]
    · rw [lsS_more b xs h, e, join_snoc _ _ _ (by simp [wdL]; omega), ← ih]
      simp
theorem wdS_lists (xs : List Int) : (wdS xs xs.length).map (·.data.toList) = wdL xs xs.length := by
  apply List.ext_getElem
  · simp [wdS, wdL]
  · intro i h1 h2
    have : i < xs.length := by simp [wdL] at h2; exact h2
    simp [wdS, wdL, this]

set_option maxHeartbeats 1000000 in
theorem numbersText_any (A : Option Addr) (n c : Nat) (xs : List Int) (b : UInt8) (B : Nat) (w : World) (hl : n = xs.length) (hr : Rd w B A c xs) (hB : B ≤ w.heap.size) (hn : xs.length ≤ 1000) (hx : ∀ k, k < xs.length → 0 ≤ xs.getD k 0 ∧ xs.getD k 0 ≤ 1000000000) (ht : TabI w) :
    Calls Tryd.prog 19 #[.slice A n c, .string ⟨#[b]⟩] w fun e w' => e = .returned (.string (lsS b xs xs.length)) ∧ Below w.heap.size w w' := by
  subst hl
  have HX := Lib.hid hx
  have HR := Lib.hid hr
  have HSZ := lsS_size b (xs := xs) (fun k hk => (hx k hk).2) xs.length (Nat.le_refl _)
  have HM := make_strs xs.length (by omega)
  rw [wdS_zero] at HM
  clear hx hr
  go_enter Tryd.func19, Tryd.ntmps19
  go_wp2_with fail
  go_loopw [13] (fun i wr => ∃ k : Nat, k ≤ xs.length ∧ i = .int .i64 k ∧ Blk wr w.heap.size 9 (strs (wdS xs k)) ∧ Below w.heap.size w wr) (fun i _ => xs.length - (intOf i).toNat)
  case atStart => exact ⟨0, Nat.zero_le _, rfl, Blk.new _ _ _, below_alloc _ _⟩
  case round =>
    obtain ⟨k, hk, rfl, X, hbw⟩ := hrel
    have hz : w.heap.size < wr.heap.size := X.lt
    by_cases hlt : k < xs.length
    · obtain ⟨b1, o1, rfl, hb0, hcell⟩ := (HR.out.below hbw hB).at_ hlt
      have hx1 := HX.out k hlt
      have HN := Lib.hid (itoa_any (xs.getD k 0) wr hx1.1 hx1.2 (ht.below hbw))
      have HT := Lib.hid (wdS_set xs k)
      generalize numS (xs.getD k 0) = t at *
      generalize xs.getD k 0 = x at *
      go_wp2_with fail
      refine HN.out.mono ?_
      rintro e w1 ⟨rfl, hb1⟩
      have X1 := X.below hb1 hz
      have d0 := X1.str_at (k := k) (by rw [wdS_length]; exact hlt)
      have fz := X1.frozen k
      go_wp2_with fail
      go_roundw
      case rel => exact ⟨k + 1, by omega, by go_num, by rw [← HT.out]; exact X1.str_set k t, (hbw.trans (hb1.mono (by omega))).setCell (Nat.le_refl _) _⟩
      case measure => simp [intOf]; omega
    · obtain rfl : k = xs.length := by omega
      have HJ := Lib.hid (Tryd.strings_Join w.heap.size 0 xs.length (wdS xs xs.length) ⟨#[b]⟩ wr (fun j x hj => by
        have hj2 : j < (wdS xs xs.length).length := (List.getElem?_eq_some_iff.1 hj).1
        rw [Nat.zero_add, X.str_at hj2]
        simp [List.getD_eq_getElem?_getD, hj]) hz (by rw [wdS_length]; omega) (by rw [wdS_length]; exact Nat.le_refl _) (by
          have e : (Lib.join ((wdS xs xs.length).map (·.data.toList)) (⟨#[b]⟩ : ByteArray).data.toList).length = (lsS b xs xs.length).size := by rw [wdS_lists, ← lsS_join]; rfl
          rw [e]; omega))
      rw [wdS_length, wdS_lists, ← lsS_join] at HJ
      go_wp2_with fail
      refine HJ.out.mono ?_
      rintro e w1 ⟨rfl, hb1⟩
      go_wp2_with fail
      go_ret
      exact ⟨rfl, hbw.trans (hb1.mono (by omega))⟩

end Go.Proofs.YtohimcljobpkjaaDoor
