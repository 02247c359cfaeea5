/- The step from a walk to a given statement: how the laws' arguments are opened. -/
import Derived.Test.YtehffiaobjlpoaaCopy
import Derived.ProofKit
import Derived.OpenShut
import Derived.ChangeOld
import Derived.Lib.SmallJoins
namespace Go.Proofs.Ytehffiaobjlpoaa
set_option maxRecDepth 100000
open Go.ChangeShapes Go.WideShapes Go.ChangeAt Go.RowKit Go.Joins

theorem own : ownKnob Try.prog.godebug = none := by kernel_rfl
theorem laidOut : laidOutB Try.prog = true := by kernel_rfl
theorem cellsI : Try.prog.cellsOf 3 = 1 := by kernel_rfl
theorem cellsS : Try.prog.cellsOf 35 = 3 := by kernel_rfl

theorem rd_of_trod {H : Type} {enc : TypeId × Value → H} {w : World} {fuel : Nat} {v : Value} {x : DataW H × List MemPlace}
    (h : DataW.trod enc Try.prog w 0 (fun _ => true) true fuel 22 [v] = some x) : ∃ A c xs, v = .slice A xs.length c ∧ Rd w w.heap.size A c xs ∧ xs.length ≤ 9223372036854775807 := by
  rcases open_ints Try.underlying22 Try.underlying3 cellsI h with ⟨hcs, _⟩ | ⟨a, l, c, zs, hcs, _, hl, hm, hz, _, hcell, _⟩
  · simp at hcs
    exact ⟨none, 0, [], by simpa using hcs, Rd.nil, by simp⟩
  · simp at hcs hz
    subst hcs
    have hlen : (zs.take l).length = l := by simp; omega
    have hl' : l ≤ maxLen := by omega
    unfold maxLen at hl'
    refine ⟨some a, c, zs.take l, by rw [hlen], ⟨by omega, fun k hk => ?_⟩, by omega⟩
    rw [hlen] at hk
    obtain ⟨b, o, rfl, hc⟩ := ints_at hcell (by omega)
    have hkc := hc k (by omega)
    refine ⟨b, o, rfl, World.block_lt_of_cell? w _ hkc, ?_⟩
    rw [hkc]
    simp [List.getD_eq_getElem?_getD, hk]

/-- A value of the laws' own type Stairs, as it came in. -/
def InSt (w : World) (v : Value) : Prop :=
  ∃ (st : Int) (A A' : Option Addr) (c c' : Nat) (ss bs : List Int), v = stv st A A' c c' ss bs ∧ Rd w w.heap.size A c ss ∧ Rd w w.heap.size A' c' bs ∧ ss.length ≤ 9223372036854775807 ∧ bs.length ≤ 9223372036854775807 ∧
    -9223372036854775808 ≤ st ∧ st ≤ 9223372036854775807

theorem inSt_of {H : Type} {enc : TypeId × Value → H} {w : World} {r : Reach} {b0 : Nat} {v : Value} {d : DataW H} {p : List MemPlace}
    (hv : Value.okWide Try.prog w r b0 35 v) (h : DataW.Trod enc Try.prog w 0 (fun _ => true) true 35 v d p) : InSt w v := by
  obtain ⟨c0, c1, c2, y0, y1, y2, m, rfl, _, _, h0, h1, h2⟩ := open_agg3 Try.underlying35 (by kernel_rfl) cellsS hv h
  obtain ⟨a, e0, _, wa⟩ := DataW.trod_int Try.underlying3 h0
  obtain ⟨A, c, ss, rfl, r1, n1⟩ := rd_of_trod h1
  obtain ⟨A', c', bs, rfl, r2, n2⟩ := rd_of_trod h2
  simp at e0
  subst e0
  have hw := bounds_i64 wa
  exact ⟨a, A, A', c, c', ss, bs, rfl, r1, r2, n1, n2, hw.1, hw.2⟩

/-- A slice of ints, as it came in. -/
def InL (w : World) (v : Value) : Prop := ∃ (Z : Option Addr) (dz : Nat) (xs : List Int), v = .slice Z xs.length dz ∧ Rd w w.heap.size Z dz xs ∧ xs.length ≤ 9223372036854775807

theorem inL_of {H : Type} {enc : TypeId × Value → H} {w : World} {r : Reach} {b0 : Nat} {v : Value} {d : DataW H} {p : List MemPlace}
    (hv : Value.okWide Try.prog w r b0 22 v) (h : DataW.Trod enc Try.prog w 0 (fun _ => true) true 22 v d p) : InL w v := by
  obtain ⟨a, l, c, rfl⟩ := okWide_slice Try.underlying22 hv
  obtain ⟨fuel, hf⟩ := h
  obtain ⟨A, c', xs, he, r, n⟩ := rd_of_trod (v := .slice a l c) (by simpa [Value.cells] using hf)
  exact ⟨A, c', xs, he, r, n⟩

end Go.Proofs.Ytehffiaobjlpoaa
