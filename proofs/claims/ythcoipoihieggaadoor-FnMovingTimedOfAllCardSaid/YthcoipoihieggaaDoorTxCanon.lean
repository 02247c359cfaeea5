/- What the model reads is what it writes: numerals. -/
import Derived.Test.YthcoipoihieggaaDoorTxRead
namespace Go.Proofs.YthcoipoihieggaaDoor
open Go.RowKit
set_option maxRecDepth 100000

theorem btS_app (s : ByteArray) (c : UInt8) (k : Nat) : btS (s ++ ⟨#[c]⟩) k = if k < s.size then btS s k else if k = s.size then c.toNat else 0 := by
  have e : (s ++ ⟨#[c]⟩).data.getD k 0 = if k < s.size then s.data.getD k 0 else if k = s.size then c else 0 := by
    simp only [ByteArray.data_append, Array.getD_eq_getD_getElem?, Array.getElem?_append]
    show (if k < s.data.size then s.data[k]? else (#[c] : Array UInt8)[k - s.data.size]?).getD 0 = if k < s.data.size then s.data[k]?.getD 0 else if k = s.data.size then c else 0
    by_cases h1 : k < s.data.size
    · rw [if_pos h1, if_pos h1]
    · rw [if_neg h1, if_neg h1]
      by_cases h2 : k = s.data.size
      · rw [if_pos h2, h2]; simp
      · rw [if_neg h2]
        have e9 : (#[c] : Array UInt8)[k - s.data.size]? = none := Array.getElem?_eq_none (by show 1 ≤ k - s.data.size; omega)
        rw [e9]; rfl
  unfold btS
  rw [e]
  split
  · rfl
  · split <;> rfl
theorem rdN_app (s : ByteArray) (c : UInt8) : ∀ k, k ≤ s.size → rdN (s ++ ⟨#[c]⟩) k = rdN s k ∧ dgB (s ++ ⟨#[c]⟩) k = dgB s k
  | 0, _ => ⟨rfl, rfl⟩
  | k + 1, h => by
    have ih := rdN_app s c k (by omega)
    have e : btS (s ++ ⟨#[c]⟩) k = btS s k := by rw [btS_app, if_pos (by omega)]
    exact ⟨by rw [rdN, rdN, ih.1, e], by rw [dgB, dgB, ih.2, e]⟩
theorem size_snoc (s : ByteArray) (c : UInt8) : (s ++ ⟨#[c]⟩ : ByteArray).size = s.size + 1 := by simp only [ByteArray.size_append, one_size]
theorem digit_toNat {d : Nat} (h : d < 10) : (UInt8.ofNat (48 + d)).toNat = 48 + d := by simp; omega
/-- a numeral is digits, tells its number, and does not begin with 0 unless it is 0 -/
theorem numS_tells : ∀ (m : Nat) (n : Int), 0 ≤ n → n < m → dgB (numS n) (numS n).size = true ∧ rdN (numS n) (numS n).size = n ∧ 1 ≤ (numS n).size ∧ (n = 0 ∨ ¬ btS (numS n) 0 = 48) ∧ (n = 0 → (numS n).size = 1)
  | 0, n, h0, h1 => absurd h0 (by omega)
  | m + 1, n, h0, h1 => by
    by_cases hs : n < 10
    · have hd : n.toNat < 10 := by omega
      rw [numS_one h0 hs]
      have b0 : btS ⟨#[UInt8.ofNat (48 + n.toNat)]⟩ 0 = 48 + n.toNat := by show (UInt8.ofNat (48 + n.toNat)).toNat = _; exact digit_toNat hd
      have sz : (⟨#[UInt8.ofNat (48 + n.toNat)]⟩ : ByteArray).size = 1 := rfl
      rw [sz]
      refine ⟨?_, ?_, Nat.le_refl _, ?_, fun _ => rfl⟩
      · simp only [dgB, Bool.true_and, b0, Bool.and_eq_true, decide_eq_true_eq]; omega
      · simp only [rdN, b0]; push_cast; omega
      · rw [b0]; omega
    · obtain ⟨a1, a2, a3, a4, _⟩ := numS_tells m (n / 10) (by omega) (by omega)
      have hd : (n % 10).toNat < 10 := by omega
      rw [numS_more hs]
      have bs : btS (numS (n / 10) ++ ⟨#[UInt8.ofNat (48 + (n % 10).toNat)]⟩) (numS (n / 10)).size = 48 + (n % 10).toNat := by
        rw [btS_app, if_neg (by omega), if_pos rfl]; exact digit_toNat hd
      have ap := rdN_app (numS (n / 10)) (UInt8.ofNat (48 + (n % 10).toNat)) _ (Nat.le_refl _)
      have b0 : btS (numS (n / 10) ++ ⟨#[UInt8.ofNat (48 + (n % 10).toNat)]⟩) 0 = btS (numS (n / 10)) 0 := by rw [btS_app, if_pos (by omega)]
      rw [size_snoc]
      refine ⟨?_, ?_, by omega, ?_, fun h => by omega⟩
      · simp only [dgB, ap.2, a1, bs, Bool.true_and, Bool.and_eq_true, decide_eq_true_eq]; omega
      · simp only [rdN, ap.1, a2, bs]; push_cast; omega
      · rw [b0]
        rcases a4 with h | h
        · omega
        · exact .inr h
theorem rdI_numS {n : Int} (h0 : 0 ≤ n) (h1 : (numS n).size ≤ 6) : rdI (numS n) = n := by
  obtain ⟨a1, a2, a3, a4, a5⟩ := numS_tells (n.toNat + 1) n h0 (by omega)
  have hB : rdB (numS n) = true := by
    have e1 : inB ((numS n).size : Int) 1 6 = true := inB_yes (by omega) (by omega)
    have e2 : (decide (btS (numS n) 0 = 48) && decide (1 < (numS n).size)) = false := by
      simp only [Bool.and_eq_false_iff, decide_eq_false_iff_not]
      rcases a4 with h | h
      · have := a5 h; exact .inr (by omega)
      · exact .inl h
    simp [rdB, e1, e2, a1]
  unfold rdI
  rw [hB]
  exact a2
/-- the first k bytes -/
theorem ext_succ (s : ByteArray) (k : Nat) (h : k < s.size) : s.extract 0 (k + 1) = s.extract 0 k ++ ⟨#[s.data.getD k 0]⟩ := by
  apply ByteArray.ext
  simp only [ByteArray.data_extract, ByteArray.data_append]
  have h' : k < s.data.size := h
  apply Array.ext_getElem?
  intro i
  simp only [Array.getElem?_append, Array.getElem?_extract, Array.size_extract]
  have hs : s.data.size = s.size := rfl
  rw [hs]
  by_cases a : i < k
  · rw [if_pos (by omega), if_pos (by omega), if_pos (by omega)]
  · by_cases b : i = k
    · subst b
      rw [if_pos (by omega), if_neg (by omega), show i - (min i s.size - 0) = 0 by omega, Nat.zero_add, Array.getElem?_eq_getElem h']
      show some (s.data[i]'h') = some (s.data.getD i 0)
      rw [Array.getD_eq_getD_getElem?, Array.getElem?_eq_getElem h']; rfl
    · rw [if_neg (by omega), if_neg (by omega)]
      exact (Array.getElem?_eq_none (by simp; omega)).symm
theorem canon_at {s : ByteArray} (hz : ¬ (btS s 0 = 48 ∧ 1 < s.size)) : ∀ k, k < s.size → dgB s (k + 1) = true → numS (rdN s (k + 1)) = s.extract 0 (k + 1) ∧ (1 < s.size → 1 ≤ rdN s (k + 1))
  | 0, h, hd => by
    simp only [dgB, Bool.true_and, Bool.and_eq_true, decide_eq_true_eq] at hd
    have e : rdN s 1 = ((btS s 0 : Int) - 48) := by simp [rdN]
    rw [e, numS_one (by omega) (by omega), ext_succ s 0 h]
    refine ⟨?_, fun h1 => ?_⟩
    · have : UInt8.ofNat (48 + ((btS s 0 : Int) - 48).toNat) = s.data.getD 0 0 := by
        apply UInt8.toNat_inj.1
        rw [digit_toNat (by omega)]
        show 48 + ((btS s 0 : Int) - 48).toNat = btS s 0
        omega
      rw [this]
      apply ByteArray.ext
      simp
    · omega
  | k + 1, h, hd => by
    have hd' : (dgB s (k + 1) && (decide (48 ≤ btS s (k + 1)) && decide (btS s (k + 1) ≤ 57))) = true := hd
    rw [Bool.and_eq_true, Bool.and_eq_true, decide_eq_true_eq, decide_eq_true_eq] at hd'
    have hd1 := hd'.1
    have hd2 := hd'.2
    obtain ⟨ih1, ih2⟩ := canon_at hz k (by omega) hd1
    have i1 := ih2 (by omega)
    have e : rdN s (k + 1 + 1) = 10 * rdN s (k + 1) + ((btS s (k + 1) : Int) - 48) := rfl
    rw [e]
    have hq : (10 * rdN s (k + 1) + ((btS s (k + 1) : Int) - 48)) / 10 = rdN s (k + 1) := by omega
    have hr : (10 * rdN s (k + 1) + ((btS s (k + 1) : Int) - 48)) % 10 = (btS s (k + 1) : Int) - 48 := by omega
    refine ⟨?_, fun _ => by omega⟩
    rw [numS_more (by omega), hq, hr, ih1, ext_succ s (k + 1) h]
    have : UInt8.ofNat (48 + ((btS s (k + 1) : Int) - 48).toNat) = s.data.getD (k + 1) 0 := by
      apply UInt8.toNat_inj.1
      rw [digit_toNat (by omega)]
      show 48 + ((btS s (k + 1) : Int) - 48).toNat = btS s (k + 1)
      omega
    rw [this]
/-- what is read is written so -/
theorem numS_rdI {s : ByteArray} (h : 0 ≤ rdI s) : numS (rdI s) = s := by
  unfold rdI at h ⊢
  cases g : rdB s
  · rw [g] at h; simp at h
  · rw [if_pos rfl]
    simp only [rdB, Bool.and_eq_true] at g
    have h1 := inB_le g.1
    obtain ⟨k, hk⟩ : ∃ k, s.size = k + 1 := ⟨s.size - 1, by omega⟩
    have := canon_at (s := s) (by have := g.2.1; simp at this; omega) k (by omega) (by rw [← hk]; exact g.2.2)
    rw [hk, this.1, ← hk]
    apply ByteArray.ext
    rw [ByteArray.data_extract]
    have hs : s.data.size = s.size := rfl
    rw [← hs]
    simp

end Go.Proofs.YthcoipoihieggaaDoor
