/- Contracts: stairs that are valid, on both sides; copies and comparisons of stairs. -/
import Derived.Test.YtohimcljobpkjaaDoorLeaf
import Derived.Deep.RegionHeld3
namespace Go.Proofs.YtohimcljobpkjaaDoor
set_option maxRecDepth 100000
open Go.RowKit

def inB (n lo hi : Int) : Bool := decide (lo ≤ n) && decide (n ≤ hi)
theorem inB_yes {n lo hi : Int} (h : lo ≤ n) (h' : n ≤ hi) : inB n lo hi = true := by simp [inB, h, h']
theorem inB_no {n lo hi : Int} (h : n < lo ∨ hi < n) : inB n lo hi = false := by
  rcases h with h | h
  · simp [inB, show ¬ lo ≤ n by omega]
  · simp [inB, show ¬ n ≤ hi by omega]
theorem inB_le {n lo hi : Int} (h : inB n lo hi = true) : lo ≤ n ∧ n ≤ hi := by simpa [inB] using h
theorem inB_gt {n lo hi : Int} (h : inB n lo hi = false) : n < lo ∨ hi < n := by
  by_cases h1 : lo ≤ n
  · by_cases h2 : n ≤ hi
    · rw [inB_yes h1 h2] at h; cases h
    · exact .inr (by omega)
  · exact .inl (by omega)

set_option maxHeartbeats 400000 in
theorem l1In_any (n lo hi : Int) (w : World) :
    Calls Tryd.prog 40 #[.int .i64 n, .int .i64 lo, .int .i64 hi] w fun e w' => e = .returned (.bool (inB n lo hi)) ∧ w = w' := by
  by_cases h1 : lo ≤ n
  · by_cases h2 : n ≤ hi
    · rw [inB_yes h1 h2]
      go_enter Tryd.func40, Tryd.ntmps40
      go_wp2
      go_ret
      exact ⟨rfl, rfl⟩
    · rw [inB_no (.inr (by omega))]
      go_enter Tryd.func40, Tryd.ntmps40
      go_wp2
      go_ret
      exact ⟨rfl, rfl⟩
  · rw [inB_no (.inl (by omega))]
    go_enter Tryd.func40, Tryd.ntmps40
    go_wp2
    go_ret
    exact ⟨rfl, rfl⟩

def hasB (xs : List Int) (x : Int) : Bool := xs.contains x
theorem hasB_at {xs : List Int} {k : Nat} {x : Int} (hk : k < xs.length) (h : xs.getD k 0 = x) : true = hasB xs x := by
  symm
  have e : xs.getD k 0 = xs[k] := by simp [List.getD_eq_getElem?_getD, hk]
  simp only [hasB, List.contains_iff_mem]
  rw [← h, e]
  exact List.getElem_mem hk
theorem hasB_none {xs : List Int} {x : Int} (h : ∀ j, j < xs.length → ¬ xs.getD j 0 = x) : false = hasB xs x := by
  symm
  rw [hasB, Bool.eq_false_iff]
  intro hc
  rw [List.contains_iff_mem] at hc
  obtain ⟨j, hj, e⟩ := List.getElem_of_mem hc
  exact h j hj (by simpa [List.getD_eq_getElem?_getD, hj] using e)

/-- the stairs are valid -/
def goodB (st : Int) (ss bs : List Int) : Bool := inB st 1 60 && (inB ss.length 1 5 && (incB 9 0 ss && incB (st - 1) 0 bs))

/-- WHAT A VALUE OF TYPE Stairs HOLDS: the agg of a number and two slices that read as lists, all below B. -/
structure St (w : World) (B : Nat) (st : Int) (A A' : Option Addr) (c c' : Nat) (ss bs : List Int) : Prop where
  rs : Rd w B A c ss
  rb : Rd w B A' c' bs
  ns : ss.length ≤ 1048576
  nb : bs.length ≤ 1048576
theorem St.below {w w' : World} {B B' : Nat} {st : Int} {A A' : Option Addr} {c c' : Nat} {ss bs : List Int} (h : St w B st A A' c c' ss bs) (hb : Below B' w w') (hB : B ≤ B') : St w' B st A A' c c' ss bs :=
  ⟨h.rs.below hb hB, h.rb.below hb hB, h.ns, h.nb⟩
theorem St.alloc {w : World} {B : Nat} {st : Int} {A A' : Option Addr} {c c' : Nat} {ss bs : List Int} (h : St w B st A A' c c' ss bs) (hB : B ≤ w.heap.size) (o : Obj) : St (w.alloc o) B st A A' c c' ss bs :=
  h.below ((Below.refl w.heap.size w).alloc (Nat.le_refl _) o) hB

abbrev stv (st : Int) (A A' : Option Addr) (c c' : Nat) (ss bs : List Int) : Value := .agg #[.int .i64 st, .slice A ss.length c, .slice A' bs.length c']

set_option maxHeartbeats 800000 in
theorem implAre_any (st : Int) (A A' : Option Addr) (c c' : Nat) (ss bs : List Int) (B : Nat) (w : World) (h : St w B st A A' c c' ss bs) (hB : B ≤ w.heap.size) :
    Calls Tryd.prog 81 #[stv st A A' c c' ss bs] w fun e w' => e = .returned (.bool (goodB st ss bs)) ∧ Below w.heap.size w w' := by
  have h1 := h.alloc hB
  have hns := h.ns
  have hnb := h.nb
  by_cases a1 : st < 1
  · rw [show goodB st ss bs = false by simp [goodB, inB_no (.inl a1)]]
    go_enter Tryd.func81, Tryd.ntmps81
    go_wp2_with fail
    go_ret
    exact ⟨rfl, (Below.refl _ _).alloc (Nat.le_refl _) _⟩
  by_cases a2 : 60 < st
  · rw [show goodB st ss bs = false by simp [goodB, inB_no (.inr a2)]]
    go_enter Tryd.func81, Tryd.ntmps81
    go_wp2_with fail
    go_ret
    exact ⟨rfl, (Below.refl _ _).alloc (Nat.le_refl _) _⟩
  by_cases a3 : ss.length < 1
  · rw [show goodB st ss bs = false by simp [goodB, inB_no (n := (ss.length : Int)) (lo := 1) (hi := 5) (.inl (by omega))]]
    go_enter Tryd.func81, Tryd.ntmps81
    go_wp2_with fail
    go_ret
    exact ⟨rfl, (Below.refl _ _).alloc (Nat.le_refl _) _⟩
  by_cases a4 : 5 < ss.length
  · rw [show goodB st ss bs = false by simp [goodB, inB_no (n := (ss.length : Int)) (lo := 1) (hi := 5) (.inr (by omega))]]
    go_enter Tryd.func81, Tryd.ntmps81
    go_wp2_with fail
    go_ret
    exact ⟨rfl, (Below.refl _ _).alloc (Nat.le_refl _) _⟩
  rw [show goodB st ss bs = (incB 9 0 ss && incB (st - 1) 0 bs) by simp [goodB, inB_yes (n := st) (lo := 1) (hi := 60) (by omega) (by omega), inB_yes (n := (ss.length : Int)) (lo := 1) (hi := 5) (by omega) (by omega)]]
  cases g3 : incB 9 0 ss
  · rw [Bool.false_and]
    go_enter Tryd.func81, Tryd.ntmps81
    go_wp2_with fail
    refine (inc_any _ _ _ _ _ _ (h1 _).rs hns).mono ?_
    rintro e w1 ⟨rfl, rfl⟩
    go_wp2_with fail
    go_ret
    exact ⟨rfl, (Below.refl _ _).alloc (Nat.le_refl _) _⟩
  · rw [Bool.true_and]
    go_enter Tryd.func81, Tryd.ntmps81
    go_wp2_with fail
    refine (inc_any _ _ _ _ _ _ (h1 _).rs hns).mono ?_
    rintro e w1 ⟨rfl, rfl⟩
    go_wp2_with fail
    refine (inc_any _ _ _ _ _ _ (h1 _).rb hnb).mono ?_
    rintro e w1 ⟨rfl, rfl⟩
    go_wp2_with fail
    go_ret
    exact ⟨rfl, (Below.refl _ _).alloc (Nat.le_refl _) _⟩

end Go.Proofs.YtohimcljobpkjaaDoor
