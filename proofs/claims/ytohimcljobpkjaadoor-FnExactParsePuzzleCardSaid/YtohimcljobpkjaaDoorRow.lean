/- The step from a walk to a given statement: how the laws' arguments are opened. -/
import Derived.Test.YtohimcljobpkjaaDoorCopy
import Derived.ProofKit
import Derived.OpenShut
import Derived.ChangeOld
import Derived.Lib.SmallJoins
namespace Go.Proofs.YtohimcljobpkjaaDoor
set_option maxRecDepth 100000
open Go.ChangeShapes Go.WideShapes Go.ChangeAt Go.RowKit Go.Joins

theorem own : ownKnob Tryd.prog.godebug = none := by kernel_rfl

theorem laidOut : laidOutB Tryd.prog = true := by kernel_rfl

theorem cellsI : Tryd.prog.cellsOf 3 = 1 := by kernel_rfl

theorem rd_of_trod {H : Type} {enc : TypeId × Value → H} {w : World} {fuel : Nat} {v : Value} {x : DataW H × List MemPlace}
    (h : DataW.trod enc Tryd.prog w 0 (fun _ => true) true fuel 46 [v] = some x) : ∃ A c xs, v = .slice A xs.length c ∧ Rd w w.heap.size A c xs ∧ xs.length ≤ 9223372036854775807 := by
  rcases open_ints Tryd.underlying46 Tryd.underlying3 cellsI h with ⟨hcs, _⟩ | ⟨a, l, c, zs, hcs, _, hl, hm, hz, _, hcell, _⟩
  · simp at hcs
    exact ⟨none, 0, [], by simpa using hcs, Rd.nil, by simp⟩
  · simp at hcs hz
    subst hcs
    have hlen : (zs.take l).length = l := by simp; omega
    have hl' : l ≤ maxLen := by omega
    unfold maxLen at hl'
    refine ⟨some a, c, zs.take l, by rw [hlen], ⟨by omega, fun k hk => ?_⟩, by omega⟩
    rw [hlen] at hk
    obtain ⟨b, o, rfl, hc⟩ := ints_at hcell (by omega)
    have hkc := hc k (by omega)
    refine ⟨b, o, rfl, World.block_lt_of_cell? w _ hkc, ?_⟩
    rw [hkc]
    simp [List.getD_eq_getElem?_getD, hk]

/-- A value of the laws' own type Stairs, as it came in. -/
def InSt (w : World) (v : Value) : Prop :=
  ∃ (st : Int) (A A' : Option Addr) (c c' : Nat) (ss bs : List Int), v = stv st A A' c c' ss bs ∧ Rd w w.heap.size A c ss ∧ Rd w w.heap.size A' c' bs ∧ ss.length ≤ 9223372036854775807 ∧ bs.length ≤ 9223372036854775807 ∧
    -9223372036854775808 ≤ st ∧ st ≤ 9223372036854775807

/-- A slice of ints, as it came in. -/
def InL (w : World) (v : Value) : Prop := ∃ (Z : Option Addr) (dz : Nat) (xs : List Int), v = .slice Z xs.length dz ∧ Rd w w.heap.size Z dz xs ∧ xs.length ≤ 9223372036854775807

theorem inL_of {H : Type} {enc : TypeId × Value → H} {w : World} {r : Reach} {b0 : Nat} {v : Value} {d : DataW H} {p : List MemPlace}
    (hv : Value.okWide Tryd.prog w r b0 46 v) (h : DataW.Trod enc Tryd.prog w 0 (fun _ => true) true 46 v d p) : InL w v := by
  obtain ⟨a, l, c, rfl⟩ := okWide_slice Tryd.underlying46 hv
  obtain ⟨fuel, hf⟩ := h
  obtain ⟨A, c', xs, he, r, n⟩ := rd_of_trod (v := .slice a l c) (by simpa [Value.cells] using hf)
  exact ⟨A, c', xs, he, r, n⟩

end Go.Proofs.YtohimcljobpkjaaDoor
