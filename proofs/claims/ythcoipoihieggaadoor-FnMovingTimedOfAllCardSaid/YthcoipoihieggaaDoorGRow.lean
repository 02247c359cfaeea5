/- The step from a walk to a given statement: how the laws' arguments are opened. -/
import Derived.Test.YthcoipoihieggaaDoorGInts
import Derived.ProofKit
import Derived.OpenShut
import Derived.ChangeOld
import Derived.Lib.SmallJoins
namespace Go.Proofs.YthcoipoihieggaaDoor
open Go.ChangeShapes Go.WideShapes Go.ChangeAt Go.RowKit Go.Joins
set_option maxRecDepth 100000

theorem own : ownKnob Tryd.prog.godebug = none := by kernel_rfl
theorem laidOut : laidOutB Tryd.prog = true := by kernel_rfl
theorem cellsI : Tryd.prog.cellsOf 3 = 1 := by kernel_rfl

theorem rd_of_trod {H : Type} {enc : TypeId × Value → H} {w : World} {fuel : Nat} {v : Value} {x : DataW H × List MemPlace}
    (h : DataW.trod enc Tryd.prog w 0 (fun _ => true) true fuel 26 [v] = some x) : ∃ A c xs, v = .slice A xs.length c ∧ Rd w w.heap.size A c xs ∧ xs.length ≤ 9223372036854775807 := by
  rcases open_ints Tryd.underlying26 Tryd.underlying3 cellsI h with ⟨hcs, _⟩ | ⟨a, l, c, zs, hcs, _, hl, hm, hz, _, hcell, _⟩
  · simp at hcs
    exact ⟨none, 0, [], by simpa using hcs, Rd.nil, by simp⟩
  · simp at hcs hz
    subst hcs
    have hlen : (zs.take l).length = l := by simp; omega
    have hl' : l ≤ maxLen := by omega
    unfold maxLen at hl'
    refine ⟨some a, c, zs.take l, by rw [hlen], ⟨by omega, fun k hk => ?_⟩, by omega⟩
    rw [hlen] at hk
    obtain ⟨b, o, rfl, hc⟩ := ints_at hcell (by omega)
    have hkc := hc k (by omega)
    refine ⟨b, o, rfl, World.block_lt_of_cell? w _ hkc, ?_⟩
    rw [hkc]
    simp [List.getD_eq_getElem?_getD, hk]

/-- A slice of ints, as it came in. -/
def InL (w : World) (v : Value) : Prop := ∃ (Z : Option Addr) (dz : Nat) (xs : List Int), v = .slice Z xs.length dz ∧ Rd w w.heap.size Z dz xs ∧ xs.length ≤ 9223372036854775807

theorem inL_of {H : Type} {enc : TypeId × Value → H} {w : World} {r : Reach} {b0 : Nat} {v : Value} {d : DataW H} {p : List MemPlace}
    (hv : Value.okWide Tryd.prog w r b0 26 v) (h : DataW.Trod enc Tryd.prog w 0 (fun _ => true) true 26 v d p) : InL w v := by
  obtain ⟨a, l, c, rfl⟩ := okWide_slice Tryd.underlying26 hv
  obtain ⟨fuel, hf⟩ := h
  obtain ⟨A, c', xs, he, r, n⟩ := rd_of_trod (v := .slice a l c) (by simpa [Value.cells] using hf)
  exact ⟨A, c', xs, he, r, n⟩

/-- A number, as it came in. -/
theorem inI_of {H : Type} {enc : TypeId × Value → H} {w : World} {r : Reach} {b0 : Nat} {v : Value} {d : DataW H} {p : List MemPlace}
    (hv : Value.okWide Tryd.prog w r b0 3 v) (h : DataW.Trod enc Tryd.prog w 0 (fun _ => true) true 3 v d p) : ∃ n : Int, v = .int .i64 n ∧ (-9223372036854775808 ≤ n ∧ n ≤ 9223372036854775807) := by
  obtain ⟨nx, rfl, _, _, wx⟩ := open_int Tryd.underlying3 hv h
  exact ⟨nx, rfl, bounds_i64 wx⟩


end Go.Proofs.YthcoipoihieggaaDoor
