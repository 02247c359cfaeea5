/- Contracts: reading a spiral, on both sides. -/
import Derived.Test.YtenhlppijpmdgaaDoorTxLs
import Derived.Test.YtenhlppijpmdgaaDoorTxCut
import Derived.Test.YtenhlppijpmdgaaDoorTxSpi
import Derived.Test.YtenhlppijpmdgaaDoorGApp
import Derived.Deep.RegionHeld3
namespace Go.Proofs.YtenhlppijpmdgaaDoor
open Go.RowKit
set_option maxRecDepth 100000

def pqR (s : ByteArray) : ByteArray := (splitS s 64).getD 1 ⟨#[]⟩
def pqA (s : ByteArray) : Int := rdI ((splitS s 64).getD 0 ⟨#[]⟩)
def pqX (s : ByteArray) : Int := rdI ((splitS (pqR s) 42).getD 0 ⟨#[]⟩)
def pqY (s : ByteArray) : Int := rdI ((splitS (pqR s) 42).getD 1 ⟨#[]⟩)
def pqB (s : ByteArray) : Bool := decide (s.size ≤ 10) && (decide ((splitS s 64).length = 2) && (decide ((splitS (pqR s) 42).length = 2) && spiB (pqA s) (pqX s) (pqY s)))
/-- a number or 0 -/
def orN (b : Bool) (x : Int) : Int := if b then x else 0
theorem orN_no (x : Int) : orN false x = 0 := rfl
theorem orN_yes (x : Int) : orN true x = x := rfl
theorem two_words {s : ByteArray} {b : UInt8} (h : (splitS s b).length = 2) : ∃ x y, splitS s b = [x, y] ∧ s.data.toList = x.data.toList ++ b :: y.data.toList := by
  obtain ⟨ws, l, e1, e2⟩ := split_cat s b
  rw [e1] at h
  have h4 : ws.length = 1 := by simpa using h
  match ws, h4 with
  | [a], _ => exact ⟨a, l, e1, by rw [← e2]; rfl⟩
/-- the text behind the first number -/
def spR (y z : Int) : ByteArray := numS y ++ ⟨#[42]⟩ ++ numS z
theorem spS_toL (x y z : Int) : (spS x y z).data.toList = (numS x).data.toList ++ 64 :: (spR y z).data.toList := by
  simp [spS, spR]
theorem spR_no {y z : Int} (hy : 0 ≤ y) (hz : 0 ≤ z) : (64 : UInt8) ∉ (spR y z).data.toList := by
  unfold spR
  rw [toList_snoc]
  intro h
  rcases List.mem_append.1 h with h | h
  · exact num_none y hy (by decide) h
  · rcases List.mem_cons.1 h with h | h
    · exact absurd h (by decide)
    · exact num_none z hz (by decide) h
theorem spS_split {x y z : Int} (hx : 0 ≤ x) (hy : 0 ≤ y) (hz : 0 ≤ z) : splitS (spS x y z) 64 = [numS x, spR y z] :=
  split_eq (ws := [numS x]) (fun w hw => by obtain rfl := List.mem_singleton.1 hw; exact num_none x hx (by decide)) (spR_no hy hz) (spS_toL x y z).symm
theorem spR_split {y z : Int} (hy : 0 ≤ y) (hz : 0 ≤ z) : splitS (spR y z) 42 = [numS y, numS z] :=
  split_eq (ws := [numS y]) (fun w hw => by obtain rfl := List.mem_singleton.1 hw; exact num_none y hy (by decide)) (num_none z hz (by decide)) (by unfold spR; rw [toList_snoc]; rfl)
theorem pq_of {x y z : Int} (h : spiB x y z = true) : pqB (spS x y z) = true ∧ pqA (spS x y z) = x ∧ pqX (spS x y z) = y ∧ pqY (spS x y z) = z := by
  have b := spiB_le h
  have lx : (numS x).size ≤ 3 := num_len (k := 2) (by omega)
  have ly : (numS y).size ≤ 2 := num_len (k := 1) (by omega)
  have lz : (numS z).size ≤ 3 := num_len (k := 2) (by omega)
  have e1 := spS_split (x := x) (y := y) (z := z) (by omega) (by omega) (by omega)
  have e2 := spR_split (y := y) (z := z) (by omega) (by omega)
  have eR : pqR (spS x y z) = spR y z := by unfold pqR; rw [e1]; rfl
  have eA : pqA (spS x y z) = x := by unfold pqA; rw [e1]; exact rdI_numS (by omega) (by omega)
  have eX : pqX (spS x y z) = y := by unfold pqX; rw [eR, e2]; exact rdI_numS (by omega) (by omega)
  have eY : pqY (spS x y z) = z := by unfold pqY; rw [eR, e2]; exact rdI_numS (by omega) (by omega)
  have sz : (spS x y z).size ≤ 10 := by unfold spS; simp only [ByteArray.size_append, one_size]; omega
  exact ⟨by unfold pqB; rw [eA, eX, eY, h, e1, eR, e2]; simp [sz], eA, eX, eY⟩
theorem pq_to {s : ByteArray} (h : pqB s = true) : spiB (pqA s) (pqX s) (pqY s) = true ∧ spS (pqA s) (pqX s) (pqY s) = s := by
  simp only [pqB, Bool.and_eq_true, decide_eq_true_eq] at h
  obtain ⟨_, h2, h3, h4⟩ := h
  refine ⟨h4, ?_⟩
  have b := spiB_le h4
  obtain ⟨a, r, e1, c1⟩ := two_words h2
  have eR : pqR s = r := by unfold pqR; rw [e1]; rfl
  have eA : pqA s = rdI a := by unfold pqA; rw [e1]; rfl
  rw [eR] at h3
  obtain ⟨p, q, e2, c2⟩ := two_words h3
  have eX : pqX s = rdI p := by unfold pqX; rw [eR, e2]; rfl
  have eY : pqY s = rdI q := by unfold pqY; rw [eR, e2]; rfl
  rw [eA, eX, eY] at b ⊢
  apply ext_list
  rw [spS_toL, c1]
  unfold spR
  rw [toList_snoc, numS_rdI (by omega), numS_rdI (by omega), numS_rdI (by omega), c2]
/-- what the program finds -/
def pqL (s : ByteArray) : List Int := ninR (cutA s 64) 42 ++ ninR (cutZ s 64) 42
theorem pqL_of {x y z : Int} (h : spiB x y z = true) : pqL (spS x y z) = [x, y, z] := by
  have b := spiB_le h
  obtain ⟨c1, c2⟩ := cut_is (s := spS x y z) (x := numS x) (r := spR y z) (b := 64) (spS_toL x y z) (num_none x (by omega) (by decide))
  have s1 : splitS (numS x) 42 = [x].map numS := split_eq (ws := []) (fun w hw => by cases hw) (num_none x (by omega) (by decide)) rfl
  have s2 : splitS (spR y z) 42 = [y, z].map numS := spR_split (by omega) (by omega)
  unfold pqL
  rw [c1, c2, nin_nums s1 (fun n hn => by simp only [List.mem_cons, List.not_mem_nil, or_false] at hn; omega),
    nin_nums s2 (fun n hn => by simp only [List.mem_cons, List.not_mem_nil, or_false] at hn; rcases hn with rfl | rfl <;> omega)]
  rfl
theorem pq_nin {s : ByteArray} (h : pqB s = true) : pqL s = [pqA s, pqX s, pqY s] := by
  obtain ⟨h1, h2⟩ := pq_to h
  have := pqL_of h1
  rwa [h2] at this
theorem pq_none {s : ByteArray} {x y z : Int} (h : spiB x y z = true) (e : spS x y z = s) : pqB s = true := by rw [← e]; exact (pq_of h).1

end Go.Proofs.YtenhlppijpmdgaaDoor
