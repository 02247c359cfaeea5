/- A slice of slices of ints as an argument: how it is opened. -/
import Derived.Test.YtniiiimjgamibaaGRow
import Derived.Test.YtniiiimjgamibaaGSS
import Derived.ChangeArms
import Derived.DataReads
namespace Go.Proofs.Ytniiiimjgamibaa
open Go.ChangeShapes Go.WideShapes Go.ChangeAt Go.RowKit
set_option maxRecDepth 100000

theorem cellsS : Try.prog.cellsOf 22 = 1 := by kernel_rfl
/-- A slice of slices of ints, as it came in. -/
def InSS (w : World) (v : Value) : Prop := ∃ (Z : Option Addr) (dz n : Nat) (F : Nat → Option Addr) (C : Nat → Nat) (xf : Nat → List Int), v = .slice Z n dz ∧ RdSS w w.heap.size Z dz n F C xf ∧ n ≤ 9223372036854775807 ∧ ∀ i, i < n → (xf i).length ≤ 9223372036854775807
theorem plain_addr {w : World} {a : Addr} {v : Value} (h : w.cell? (a.add 0) = some v) : ∃ b o, a = ⟨b, o, none⟩ := by
  obtain ⟨b, off, spot⟩ := a
  have hspot : spot = none := by simpa [Addr.add] using World.cell?_spot h
  subst hspot
  exact ⟨b, off, rfl⟩
theorem inSS_of {H : Type} {enc : TypeId × Value → H} {w : World} {r : Reach} {b0 : Nat} {v : Value} {d : DataW H} {p : List MemPlace}
    (hv : Value.okWide Try.prog w r b0 23 v) (h : DataW.Trod enc Try.prog w 0 (fun _ => true) true 23 v d p) : InSS w v := by
  obtain ⟨a, l, c, rfl⟩ := okWide_slice Try.underlying23 hv
  obtain ⟨fuel, hf⟩ := h
  rcases DataW.trod_slice Try.underlying23 hf with ⟨hcs, _⟩ | ⟨a', len, cap, elems, rest, n, _, hcs, _, _, hl, hm, hlen, hel, _⟩
  · have e : Value.slice a l c = .slice none 0 0 := by simpa [Value.cells] using hcs
    rw [e]
    exact ⟨none, 0, 0, fun _ => none, fun _ => 0, fun _ => [], rfl, ⟨Nat.le_refl _, fun i hi => by omega⟩, by omega, fun i hi => by omega⟩
  · have e : Value.slice a l c = .slice (some a') len cap := by simpa [Value.cells] using hcs
    rw [e]
    have each : ∀ i, ∃ (A : Option Addr) (k : Nat) (xs : List Int), i < len → w.cell? (a'.add i) = some (.slice A xs.length k) ∧ Rd w w.heap.size A k xs ∧ xs.length ≤ 9223372036854775807 := by
      intro i
      by_cases hi : i < len
      · have h1 := hel i hi
        rw [cellsS, Nat.mul_one] at h1
        have hy : ∃ y, elems[i]? = some y := ⟨elems[i]'(by omega), List.getElem?_eq_getElem (by omega)⟩
        obtain ⟨y, hy⟩ := hy
        rw [hy, Option.bind_eq_some_iff] at h1
        obtain ⟨cs, hc, ht⟩ := h1
        obtain ⟨_, hcl, hcc⟩ := World.cells?_some hc
        obtain ⟨u, rfl⟩ : ∃ u, cs = [u] := by
          match cs, hcl with
          | [u], _ => exact ⟨u, rfl⟩
        have hcu : w.cell? (a'.add i) = some u := by
          have := hcc 0 (by omega)
          simpa [Addr.add] using this
        obtain ⟨A, k, xs, rfl, hr, hn⟩ := rd_of_trod ht
        exact ⟨A, k, xs, fun _ => ⟨hcu, hr, hn⟩⟩
      · exact ⟨none, 0, [], fun h => absurd h hi⟩
    have hm' : len ≤ 9223372036854775807 := by unfold maxLen at hm; omega
    obtain ⟨F, C, xf, H5⟩ : ∃ (F : Nat → Option Addr) (C : Nat → Nat) (xf : Nat → List Int), ∀ i, i < len → w.cell? (a'.add i) = some (.slice (F i) (xf i).length (C i)) ∧ Rd w w.heap.size (F i) (C i) (xf i) ∧ (xf i).length ≤ 9223372036854775807 :=
      ⟨fun i => (each i).choose, fun i => (each i).choose_spec.choose, fun i => (each i).choose_spec.choose_spec.choose, fun i hi => (each i).choose_spec.choose_spec.choose_spec hi⟩
    refine ⟨some a', cap, len, F, C, xf, rfl, ⟨hl, fun i hi => ?_⟩, hm', fun i hi => (H5 i hi).2.2⟩
    obtain ⟨h1, h2, _⟩ := H5 i hi
    obtain ⟨h3, _⟩ := H5 0 (by omega)
    obtain ⟨b, o, he⟩ := plain_addr h3
    rw [he, Go.WideShapes.add_plain] at h1
    exact ⟨⟨b, o, by rw [he], World.block_lt_of_cell? w _ h1, h1⟩, h2⟩

end Go.Proofs.Ytniiiimjgamibaa
