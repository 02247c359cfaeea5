/- The words of a text are no longer than it; numerals hold digits alone. No program. -/
import Derived.Test.YtohimcljobpkjaaDoorOTxWords
namespace Go.Proofs.YtohimcljobpkjaaDoor
open Go.RowKit
set_option maxRecDepth 100000

theorem word_le (s : ByteArray) (b : UInt8) : ∀ x ∈ splitS s b, x.size ≤ s.size := by
  have key : ∀ i, i ≤ s.size → ∀ x ∈ (spW s b i).1, x.size ≤ s.size := by
    intro i
    induction i with
    | zero => intro _ x hx; simp [spW] at hx
    | succ i ih =>
      intro h x hx
      unfold spW at hx
      split at hx
      · rcases List.mem_append.1 hx with hx | hx
        · exact ih (by omega) x hx
        · obtain rfl : x = _ := List.mem_singleton.1 hx
          simp; omega
      · exact ih (by omega) x hx
  intro x hx
  rcases List.mem_append.1 hx with hx | hx
  · exact key _ (Nat.le_refl _) x hx
  · obtain rfl : x = _ := List.mem_singleton.1 hx
    simp
theorem toList_snoc (a c : ByteArray) (b : UInt8) : (a ++ ⟨#[b]⟩ ++ c).data.toList = a.data.toList ++ b :: c.data.toList := by simp
theorem ext_list {a c : ByteArray} (h : a.data.toList = c.data.toList) : a = c := by
  apply ByteArray.ext
  exact Array.toList_inj.1 h
theorem dg_not {s : ByteArray} {b : UInt8} (hb : 57 < b.toNat) : ∀ k, k ≤ s.size → dgB s k = true → b ∉ s.data.toList.take k
  | 0, _, _ => by simp
  | k + 1, hk, hd => by
    have hd' : (dgB s k && (decide (48 ≤ btS s k) && decide (btS s k ≤ 57))) = true := hd
    rw [Bool.and_eq_true, Bool.and_eq_true, decide_eq_true_eq, decide_eq_true_eq] at hd'
    have ih := dg_not hb k (by omega) hd'.1
    have h2 : k < s.data.size := hk
    have h' : k < s.data.toList.length := by simpa using h2
    rw [List.take_succ_eq_append_getElem h']
    intro hm
    rcases List.mem_append.1 hm with hm | hm
    · exact ih hm
    · have e : b = s.data.toList[k] := List.mem_singleton.1 hm
      have e2 : btS s k = b.toNat := by
        unfold btS
        rw [e]
        simp only [Array.getElem_toList, Array.getD_eq_getD_getElem?]
        rw [Array.getElem?_eq_getElem h2]; rfl
      omega
theorem num_not (n : Int) (h0 : 0 ≤ n) {b : UInt8} (hb : 57 < b.toNat) : b ∉ (numS n).data.toList := by
  have h := (numS_tells (n.toNat + 1) n h0 (by omega)).1
  have := dg_not hb _ (Nat.le_refl _) h
  rwa [List.take_of_length_le (by simp)] at this
theorem num_len {n : Int} {k : Nat} (h : n.toNat < 10 ^ (k + 1)) : (numS n).size ≤ k + 1 := by
  have := dec_len k n.toNat h
  simpa [numS, ByteArray.size] using this

end Go.Proofs.YtohimcljobpkjaaDoor
