/- Plain: clues, what stairs tell, hidden stairs in order. No walk. -/
import Derived.Test.YtohimcljobpkjaaDoorStOn
import Derived.Test.YtohimcljobpkjaaDoorStFewS
import Derived.Test.YtohimcljobpkjaaDoorPzC
namespace Go.Proofs.YtohimcljobpkjaaDoor
open Go.RowKit
set_option maxRecDepth 100000

abbrev Rc := Int × List Int × List Int

/-- is a clue -/
def clueB (k a b : Int) : Bool :=
  inB b 0 60 && (if k = 0 ∨ k = 1 ∨ k = 4 ∨ k = 5 then decide (a = 0) else if k = 2 then inB a 1 3 && decide (b < 2) else if k = 3 then inB a 1 7 && decide (b < 2) else false)
def clB (p : Tri) : Bool := clueB p.1 p.2.1 p.2.2
def puzB (ps : List Tri) : Bool := decide (ps.length ≤ 6) && ps.all clB
theorem clueB_kind {k a b : Int} (h : clueB k a b = true) : 0 ≤ k ∧ k ≤ 5 ∧ 0 ≤ b ∧ b ≤ 60 := by
  unfold clueB at h
  rw [Bool.and_eq_true] at h
  have h1 := inB_le h.1
  have h2 := h.2
  refine ⟨?_, ?_, h1.1, h1.2⟩ <;> (split at h2; (· omega); split at h2; (· omega); split at h2; (· omega); cases h2)
theorem clueB_a {k a b : Int} (h : clueB k a b = true) : 0 ≤ a ∧ a ≤ 7 := by
  unfold clueB at h
  rw [Bool.and_eq_true] at h
  have h2 := h.2
  split at h2
  · have : a = 0 := by simpa using h2
    omega
  split at h2
  · rw [Bool.and_eq_true] at h2; have := inB_le h2.1; omega
  split at h2
  · rw [Bool.and_eq_true] at h2; have := inB_le h2.1; omega
  cases h2

def oneI (b : Bool) : Int := if b then 1 else 0
/-- what stairs tell by a kind and a number -/
def toldV (k a st : Int) (ss bs : List Int) : Int :=
  if k = 0 then countN st ss bs else if k = 1 then strV false st ss bs else if k = 2 then oneI (hasB ss a) else if k = 3 then oneI (hasB bs a) else if k = 4 then st else if k = 5 then strV true st ss bs else 0
def fitB (p : Tri) (r : Rc) : Bool := decide (toldV p.1 p.2.1 r.1 r.2.1 r.2.2 = p.2.2)
def fitsB (ps : List Tri) (r : Rc) : Bool := ps.all fun p => fitB p r
theorem fitsB_nil (r : Rc) : fitsB [] r = true := rfl
theorem fitsB_snoc (ps : List Tri) (p : Tri) (r : Rc) : fitsB (ps ++ [p]) r = (fitsB ps r && fitB p r) := by simp [fitsB]

/-- hidden stairs -/
def hidB (st : Int) (ss bs : List Int) : Bool := goodB st ss bs && (decide (st ≤ 7) && (decide (ss.getLastD 0 ≤ 3) && decide (bs.length ≤ 1)))

/-- hidden stairs of n steps with some strides -/
def hidS (n : Nat) (ss : List Int) : List Rc := (List.range n).map fun b : Nat => ((n : Int), ss, if b = 0 then [] else [(b : Int)])
def strL : List (List Int) := [[1], [1, 2], [1, 2, 3], [1, 3], [2], [2, 3], [3]]
def hidN (n : Nat) : List Rc := strL.flatMap (hidS n)
def hidP (n : Nat) : List Rc := (List.range n).flatMap fun i => hidN (i + 1)
def hidL : List Rc := hidP 7
/-- all up to n steps, and of n + 1 steps those of j lists of strides, and b of the next list -/
def preL (n j b : Nat) : List Rc := hidP n ++ (strL.take j).flatMap (hidS (n + 1)) ++ (hidS (n + 1) (strL.getD j [])).take b
theorem hidS_length (n : Nat) (ss : List Int) : (hidS n ss).length = n := by simp [hidS]
theorem preL_zero : preL 0 0 0 = [] := rfl
theorem preL_step {n j b : Nat} (hb : b < n + 1) : preL n j (b + 1) = preL n j b ++ [((n : Int) + 1, strL.getD j [], if b = 0 then [] else [(b : Int)])] := by
  unfold preL
  rw [List.take_add_one, List.getElem?_eq_getElem (by rw [hidS_length]; exact hb)]
  simp [hidS, List.append_assoc]
theorem preL_strides {n j : Nat} (hj : j < strL.length) : preL n j (n + 1) = preL n (j + 1) 0 := by
  unfold preL
  rw [List.take_of_length_le (i := n + 1) (l := hidS (n + 1) (strL.getD j [])) (by rw [hidS_length]; exact Nat.le_refl _), List.take_zero, List.append_nil, List.take_succ_eq_append_getElem hj, List.flatMap_append, List.append_assoc, show strL.getD j [] = strL[j] by simp [List.getD_eq_getElem?_getD, hj]]
  simp
theorem preL_steps {n : Nat} : preL n 7 0 = preL (n + 1) 0 0 := by
  have e : strL.take 7 = strL := rfl
  unfold preL
  rw [e]
  simp [hidP, List.range_succ, hidN]
theorem preL_end : preL 7 0 0 = hidL := by simp [preL, hidL]
theorem hidL_len : hidL.length = 196 := by decide +kernel
theorem hid_good : hidL.all (fun r => hidB r.1 r.2.1 r.2.2) = true := by decide +kernel
theorem hidL_mem {r : Rc} (h : r ∈ hidL) : hidB r.1 r.2.1 r.2.2 = true := List.all_eq_true.1 hid_good r h
/-- each piece of the list is of hidden stairs -/
theorem pre_hid : ∀ n : Nat, n < 7 → ∀ j : Nat, j < 7 → ∀ b : Nat, b < n + 1 → hidB ((n : Int) + 1) (strL.getD j []) (if b = 0 then [] else [(b : Int)]) = true := by decide +kernel

/-- the solutions -/
def solL (ps : List Tri) : List Rc := hidL.filter (fitsB ps)
theorem solL_le (ps : List Tri) : (solL ps).length ≤ 196 := by
  have := List.length_filter_le (fitsB ps) hidL
  rw [hidL_len] at this
  exact this
def solN (ps : List Tri) : Int := if puzB ps then ((solL ps).length : Int) else 0

end Go.Proofs.YtohimcljobpkjaaDoor
