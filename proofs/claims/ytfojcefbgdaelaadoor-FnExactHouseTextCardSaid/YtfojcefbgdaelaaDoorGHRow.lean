/- How a house comes in. -/
import Derived.Test.YtfojcefbgdaelaaDoorGRow
namespace Go.Proofs.YtfojcefbgdaelaaDoor
set_option maxRecDepth 100000
open Go.ChangeShapes Go.WideShapes Go.ChangeAt Go.RowKit Go.Joins

theorem cellsH : Tryd.prog.cellsOf 62 = 2 := by kernel_rfl
theorem cellsL : Tryd.prog.cellsOf 42 = 1 := by kernel_rfl

/-- A value of the laws' own type House, as it came in. -/
def InHo (w : World) (v : Value) : Prop :=
  ∃ (A A' : Option Addr) (c c' : Nat) (ss bs : List Int), v = .agg #[.slice A ss.length c, .slice A' bs.length c'] ∧ Rd w w.heap.size A c ss ∧ Rd w w.heap.size A' c' bs ∧ ss.length ≤ 9223372036854775807 ∧ bs.length ≤ 9223372036854775807

theorem inHo_of {H : Type} {enc : TypeId × Value → H} {w : World} {r : Reach} {b0 : Nat} {v : Value} {d : DataW H} {p : List MemPlace}
    (hv : Value.okWide Tryd.prog w r b0 62 v) (h : DataW.Trod enc Tryd.prog w 0 (fun _ => true) true 62 v d p) : InHo w v := by
  obtain ⟨c0, c1, y0, y1, m, rfl, _, _, h0, h1⟩ := open_agg2 Tryd.underlying62 (by kernel_rfl) cellsH hv h
  obtain ⟨A, c, ss, rfl, r1, n1⟩ := rd_of_trod h0
  obtain ⟨A', c', bs, rfl, r2, n2⟩ := rd_of_trod h1
  exact ⟨A, A', c, c', ss, bs, rfl, r1, r2, n1, n2⟩

end Go.Proofs.YtfojcefbgdaelaaDoor
