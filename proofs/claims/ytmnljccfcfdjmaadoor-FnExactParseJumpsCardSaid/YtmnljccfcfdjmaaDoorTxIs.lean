/- Texts of lists of numbers with signs: there is one way to read them. No program. -/
import Derived.Test.YtmnljccfcfdjmaaDoorTxInt
import Derived.Test.YtmnljccfcfdjmaaDoorTxLs
namespace Go.Proofs.YtmnljccfcfdjmaaDoor
open Go.RowKit
set_option maxRecDepth 100000

theorem int_list {n : Int} (h : n < 0) : (intS n).data.toList = 45 :: (numS (-n)).data.toList := by
  rw [intS_neg h]; simp
theorem int_none (n : Int) {b : UInt8} (hb : b.toNat < 48 ∨ 57 < b.toNat) (h45 : ¬ b = 45) : b ∉ (intS n).data.toList := by
  by_cases h : n < 0
  · rw [int_list h]
    intro hm
    rcases List.mem_cons.1 hm with e | hm
    · exact h45 e
    · exact num_none _ (by omega) hb hm
  · rw [intS_pos h]; exact num_none _ (by omega) hb
theorem wiL_succ (xs : List Int) (k : Nat) : wiL xs (k + 1) = wiL xs k ++ [(intS (xs.getD k 0)).data.toList] := by simp [wiL, List.range_succ]
theorem wiL_all (xs : List Int) : wiL xs xs.length = (xs.map intS).map (·.data.toList) := by
  apply List.ext_getElem
  · simp [wiL]
  · intro i h1 h2
    have h3 : i < xs.length := by simpa [wiL] using h1
    simp [wiL, List.getD_eq_getElem?_getD, h3]
theorem liS_cat (b : UInt8) (xs : List Int) : ∀ k, (liS b xs (k + 1)).data.toList = catL b (wiL xs k) (intS (xs.getD k 0)).data.toList
  | 0 => by rw [liS_one]; rfl
  | k + 1 => by rw [liS_more b xs (by omega), toList_snoc, liS_cat b xs k, wiL_succ, cat_snoc, cat_app]
/-- what is written is parted so -/
theorem li_split {b : UInt8} (hb : b.toNat < 48 ∨ 57 < b.toNat) (h45 : ¬ b = 45) {xs : List Int} (hl : 1 ≤ xs.length) : splitS (liS b xs xs.length) b = xs.map intS := by
  obtain ⟨k, hk⟩ : ∃ k, xs.length = k + 1 := ⟨xs.length - 1, by omega⟩
  have h := split_is (s := liS b xs xs.length) (b := b) (ws := wiL xs k) (l := (intS (xs.getD k 0)).data.toList) (fun w hw => by
    obtain ⟨j, hj, rfl⟩ := List.mem_map.1 hw
    exact int_none _ hb h45) (int_none _ hb h45) (by rw [hk]; exact (liS_cat b xs k).symm)
  rw [← wiL_succ, ← hk, wiL_all] at h
  exact texts_inj _ _ h
/-- a text is told by its parts -/
theorem split_inj {s t : ByteArray} {b : UInt8} (h : splitS s b = splitS t b) : s = t := by
  obtain ⟨ws, l, e1, e2⟩ := split_cat s b
  obtain ⟨ws', l', e3, e4⟩ := split_cat t b
  rw [e1, e3] at h
  obtain ⟨rfl, e5⟩ := List.append_inj' h rfl
  obtain rfl : l = l' := by simpa using e5
  rw [e2] at e4
  exact bytes_inj e4
theorem dec_bytes {n : Nat} (h : n ≤ 10000000000) : ∃ c r, Lib.decDigits n = c :: r ∧ 48 ≤ c.toNat ∧ c.toNat ≤ 57 ∧ Lib.parseMag (c :: r) = .ok n := by
  have hp := pu_dec (n + 1) n (by omega) h
  cases hd : Lib.decDigits n with
  | nil => exfalso; rw [hd] at hp; simp [Lib.parseUint10] at hp; rw [show n = 0 from hp.symm, dec_one (by omega)] at hd; cases hd
  | cons c r =>
    rw [hd] at hp
    have hc : 48 ≤ c.toNat ∧ c.toNat ≤ 57 := by
      by_cases h : 48 ≤ c.toNat ∧ c.toNat ≤ 57
      · exact h
      · unfold Lib.parseUint10 at hp; rw [if_neg h] at hp; cases hp
    exact ⟨c, r, rfl, hc.1, hc.2, by unfold Lib.parseMag; rw [if_neg (by simp)]; exact hp⟩
theorem atI_int {n : Int} (h0 : -1000000 ≤ n) (h1 : n ≤ 1000000) : atI (intS n) = some n := by
  by_cases h : n < 0
  · obtain ⟨c, r, e1, _, _, hm⟩ := dec_bytes (n := (-n).toNat) (by omega)
    unfold atI
    rw [int_list h, show (numS (-n)).data.toList = Lib.decDigits (-n).toNat by simp [numS], Lib.atoiAll_minus, e1, hm]
    have : Lib.signed (.ok (-n).toNat) = .ok n := by
      unfold Lib.signed
      simp only []
      split
      · omega
      · congr 1; omega
    rw [this]
  · rw [intS_pos h]; exact atI_num (by omega) (by omega)
theorem nin_ints {s : ByteArray} {b : UInt8} {ns : List Int} (h : splitS s b = ns.map intS) (hn : ∀ n ∈ ns, -1000000 ≤ n ∧ n ≤ 1000000) : ninR s b = ns := by
  have hv : ∀ n ∈ ns, atI (intS n) = some n := fun n hm => atI_int (hn n hm).1 (hn n hm).2
  unfold ninR
  rw [h, if_pos (by simp only [List.all_eq_true, List.mem_map]; rintro _ ⟨y, hy, rfl⟩; rw [hv y hy]; rfl), List.map_map]
  conv => rhs; rw [← List.map_id ns]
  exact List.map_congr_left fun n hm => by simp [atV, hv n hm]
theorem liS_len (b : UInt8) {xs : List Int} {m : Nat} (hx : ∀ n ∈ xs, (intS n).size ≤ m) : ∀ k, k ≤ xs.length → (liS b xs k).size ≤ (m + 1) * k
  | 0, _ => by simp [liS, ByteArray.size]
  | k + 1, h => by
    have h1 := liS_len b hx k (by omega)
    have h2 := at_of_mem (P := fun n => (intS n).size ≤ m) hx (k := k) (by omega)
    have h3 : (m + 1) * (k + 1) = (m + 1) * k + (m + 1) := Nat.mul_succ _ _
    unfold liS
    split
    · simp only [ByteArray.size_append]
      have : (⟨#[]⟩ : ByteArray).size = 0 := rfl
      omega
    · simp only [ByteArray.size_append, one_size]
      omega

/-! a word, as the model reads it -/
/-- it begins with a sign -/
def sgB (x : ByteArray) : Bool := decide (1 < x.size) && decide (btS x 0 = 45)
/-- the number without its sign -/
def mgI (x : ByteArray) : Int := if sgB x then rdI (x.extract 1 x.size) else rdI x
def jwB (x : ByteArray) : Bool := decide (0 ≤ mgI x) && !(sgB x && decide (mgI x = 0))
def jwI (x : ByteArray) : Int := if sgB x then -mgI x else mgI x
theorem ext_one (t : ByteArray) : ((⟨#[45]⟩ : ByteArray) ++ t).extract 1 ((⟨#[45]⟩ : ByteArray) ++ t).size = t := by
  apply ByteArray.ext
  rw [ByteArray.data_extract, ByteArray.data_append]
  apply Array.ext_getElem?
  intro i
  have hs : ((⟨#[45]⟩ : ByteArray) ++ t).size = 1 + t.data.size := by rw [ByteArray.size_append, one_size]; rfl
  have hz : t.data.size = t.size := rfl
  rw [hs]
  rw [Array.getElem?_extract]
  by_cases h : i < t.data.size
  · rw [if_pos (by simp; omega), Array.getElem?_append, if_neg (by simp)]
    simp
  · rw [if_neg (by simp; omega), Array.getElem?_eq_none (by omega)]
theorem one_ext {x : ByteArray} (h : 1 < x.size) (hb : btS x 0 = 45) : (⟨#[45]⟩ : ByteArray) ++ x.extract 1 x.size = x := by
  apply ByteArray.ext
  rw [ByteArray.data_append, ByteArray.data_extract]
  apply Array.ext_getElem?
  intro i
  have hs : x.data.size = x.size := rfl
  cases i with
  | zero =>
    rw [Array.getElem?_append, if_pos (by simp)]
    have h0 : 0 < x.data.size := by omega
    rw [Array.getElem?_eq_getElem h0]
    unfold btS at hb
    rw [Array.getD_eq_getD_getElem?, Array.getElem?_eq_getElem h0] at hb
    have : x.data[0] = 45 := UInt8.toNat_inj.1 hb
    simp [this]
  | succ i =>
    rw [Array.getElem?_append, if_neg (by simp), Array.getElem?_extract]
    by_cases h2 : i + 1 < x.size
    · rw [if_pos (by simp; omega)]
      simp [Nat.add_comm]
    · rw [if_neg (by simp; omega), Array.getElem?_eq_none (by omega)]
theorem num_first {n : Int} (h0 : 0 ≤ n) : ¬ btS (numS n) 0 = 45 := by
  obtain ⟨a1, _, a3, _, _⟩ := numS_tells (n.toNat + 1) n h0 (by omega)
  obtain ⟨k, hk⟩ : ∃ k, (numS n).size = k + 1 := ⟨(numS n).size - 1, by omega⟩
  have h1 : dgB (numS n) 1 = true := by
    cases h : dgB (numS n) 1
    · have := dgB_mono h (numS n).size (by omega)
      rw [a1] at this; cases this
    · rfl
  simp only [dgB, Bool.true_and, Bool.and_eq_true, decide_eq_true_eq] at h1
  omega
theorem jw_of_int {n : Int} (h0 : -999999 ≤ n) (h1 : n ≤ 999999) : jwB (intS n) = true ∧ jwI (intS n) = n := by
  by_cases h : n < 0
  · have hz := numS_tells ((-n).toNat + 1) (-n) (by omega) (by omega)
    have hs : sgB (intS n) = true := by
      rw [intS_neg h, sgB]
      have e1 : btS ((⟨#[45]⟩ : ByteArray) ++ numS (-n)) 0 = 45 := by
        unfold btS
        rw [ByteArray.data_append, Array.getD_eq_getD_getElem?, Array.getElem?_append, if_pos (by simp)]
        rfl
      rw [e1]
      simp only [ByteArray.size_append, one_size, decide_true, Bool.and_true, decide_eq_true_eq]
      omega
    have hm : mgI (intS n) = -n := by
      rw [mgI, hs, if_pos rfl, intS_neg h, ext_one]
      exact rdI_numS (by omega) (num_len (k := 5) (by omega))
    refine ⟨?_, by rw [jwI, hs, if_pos rfl, hm]; omega⟩
    rw [jwB, hs, hm, decide_eq_true (by omega), decide_eq_false (by omega)]
    rfl
  · have hs : sgB (intS n) = false := by
      rw [intS_pos h, sgB, decide_eq_false (num_first (by omega)), Bool.and_false]
    have hm : mgI (intS n) = n := by
      rw [mgI, hs, if_neg (by simp), intS_pos h]
      exact rdI_numS (by omega) (num_len (k := 5) (by omega))
    refine ⟨?_, by rw [jwI, hs, if_neg (by simp), hm]⟩
    rw [jwB, hs, hm, decide_eq_true (by omega)]
    rfl
theorem int_of_jw {x : ByteArray} (h : jwB x = true) : intS (jwI x) = x := by
  simp only [jwB, Bool.and_eq_true, decide_eq_true_eq] at h
  obtain ⟨h1, h2⟩ := h
  cases hs : sgB x
  · have hm : mgI x = rdI x := by rw [mgI, hs, if_neg (by simp)]
    rw [jwI, hs, if_neg (by simp), intS_pos (by omega), hm]
    exact numS_rdI (by omega)
  · have hm : mgI x = rdI (x.extract 1 x.size) := by rw [mgI, hs, if_pos rfl]
    have hp := hs
    simp only [sgB, Bool.and_eq_true, decide_eq_true_eq] at hp
    rw [hs] at h2
    simp only [Bool.true_and, Bool.not_eq_true', decide_eq_false_iff_not] at h2
    rw [jwI, hs, if_pos rfl, intS_neg (by omega), Int.neg_neg, hm, numS_rdI (by omega)]
    exact one_ext hp.1 hp.2
theorem jwI_bd {x : ByteArray} (h : jwB x = true) : -999999 ≤ jwI x ∧ jwI x ≤ 999999 := by
  have key : ∀ y : ByteArray, rdI y ≤ 999999 := by
    intro y
    unfold rdI
    cases g : rdB y
    · simp
    · rw [if_pos rfl]
      simp only [rdB, Bool.and_eq_true] at g
      have h1 := inB_le g.1
      have h2 := rdN_in (s := y) y.size g.2.2
      have hp : (10 : Int) ^ y.size ≤ 1000000 := by
        have : y.size = 1 ∨ y.size = 2 ∨ y.size = 3 ∨ y.size = 4 ∨ y.size = 5 ∨ y.size = 6 := by omega
        rcases this with e | e | e | e | e | e <;> rw [e] <;> decide
      omega
  simp only [jwB, Bool.and_eq_true, decide_eq_true_eq] at h
  have h1 : mgI x ≤ 999999 := by unfold mgI; split <;> exact key _
  unfold jwI
  split <;> omega

end Go.Proofs.YtmnljccfcfdjmaaDoor
