/- A text as an argument: what it is. -/
import Derived.Test.YtkglkknccbjefaaGRow
import Derived.OpenShut
import Derived.LaidMore
namespace Go.Proofs.Ytkglkknccbjefaa
open Go.ChangeShapes Go.WideShapes Go.ChangeAt Go.RowKit

/-- A text, as it came in. -/
theorem inS_of {H : Type} {enc : TypeId × Value → H} {w : World} {r : Reach} {b0 : Nat} {v : Value} {d : DataW H} {p : List MemPlace}
    (hv : Value.okWide Try.prog w r b0 9 v) (h : DataW.Trod enc Try.prog w 0 (fun _ => true) true 9 v d p) : ∃ s : ByteArray, v = .string s ∧ s.size ≤ 9223372036854775807 := by
  obtain ⟨s, rfl⟩ := okWide_string Try.underlying9 hv
  obtain ⟨fuel, hf⟩ := h
  obtain ⟨s', hc, _, hs⟩ := DataW.trod_string Try.underlying9 hf
  have e : s = s' := by simpa [Value.cells] using hc
  subst e
  exact ⟨s, rfl, by unfold maxLen at hs; omega⟩


end Go.Proofs.Ytkglkknccbjefaa
