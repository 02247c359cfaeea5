/- How the arguments of chapter 9 are opened: numbers, clues, puzzles. -/
import Derived.Test.YtohimcljobpkjaaDoorRow
import Derived.Test.YtohimcljobpkjaaDoorPzC
import Derived.DataReads
namespace Go.Proofs.YtohimcljobpkjaaDoor
open Go.ChangeShapes Go.WideShapes Go.ChangeAt Go.RowKit Go.Joins
set_option maxRecDepth 100000

/-- A number, as it came in. -/
theorem inI_of {H : Type} {enc : TypeId × Value → H} {w : World} {r : Reach} {b0 : Nat} {v : Value} {d : DataW H} {p : List MemPlace}
    (hv : Value.okWide Tryd.prog w r b0 3 v) (h : DataW.Trod enc Tryd.prog w 0 (fun _ => true) true 3 v d p) : ∃ n : Int, v = .int .i64 n ∧ (-9223372036854775808 ≤ n ∧ n ≤ 9223372036854775807) := by
  obtain ⟨nx, rfl, _, _, wx⟩ := open_int Tryd.underlying3 hv h
  exact ⟨nx, rfl, bounds_i64 wx⟩

theorem inClue_of {H : Type} {enc : TypeId × Value → H} {w : World} {r : Reach} {b0 : Nat} {v : Value} {d : DataW H} {p : List MemPlace}
    (hv : Value.okWide Tryd.prog w r b0 57 v) (h : DataW.Trod enc Tryd.prog w 0 (fun _ => true) true 57 v d p) :
    ∃ x y z : Int, v = .agg #[.int .i64 x, .int .i64 y, .int .i64 z] ∧ (-9223372036854775808 ≤ x ∧ x ≤ 9223372036854775807) ∧ (-9223372036854775808 ≤ y ∧ y ≤ 9223372036854775807) ∧ (-9223372036854775808 ≤ z ∧ z ≤ 9223372036854775807) := by
  obtain ⟨c0, c1, c2, y0, y1, y2, m, rfl, _, _, h0, h1, h2⟩ := open_agg3 Tryd.underlying57 (by kernel_rfl) (by kernel_rfl) hv h
  obtain ⟨a, e0, _, wa⟩ := DataW.trod_int Tryd.underlying3 h0
  obtain ⟨b, e1, _, wb⟩ := DataW.trod_int Tryd.underlying3 h1
  obtain ⟨c, e2, _, wc⟩ := DataW.trod_int Tryd.underlying3 h2
  simp at e0 e1 e2
  subst e0 e1 e2
  exact ⟨a, b, c, rfl, bounds_i64 wa, bounds_i64 wb, bounds_i64 wc⟩

theorem cellsC : Tryd.prog.cellsOf 57 = 3 := by kernel_rfl
theorem plain_addr {w : World} {a : Addr} {v : Value} (h : w.cell? (a.add 0) = some v) : ∃ b o, a = ⟨b, o, none⟩ := by
  obtain ⟨b, off, spot⟩ := a
  have hspot : spot = none := by simpa [Addr.add] using World.cell?_spot h
  subst hspot
  exact ⟨b, off, rfl⟩
/-- A puzzle, as it came in. -/
def InP (w : World) (v : Value) : Prop := ∃ (Z : Option Addr) (dz : Nat) (ps : List Tri), v = .agg #[.slice Z ps.length dz] ∧ RdF w w.heap.size Z dz ps ∧ ps.length ≤ 9223372036854775807
theorem inPuzzle_of {H : Type} {enc : TypeId × Value → H} {w : World} {r : Reach} {b0 : Nat} {v : Value} {d : DataW H} {p : List MemPlace}
    (hv : Value.okWide Tryd.prog w r b0 24 v) (h : DataW.Trod enc Tryd.prog w 0 (fun _ => true) true 24 v d p) : InP w v := by
  obtain ⟨cs, rfl, hsz⟩ := okWide_struct Tryd.underlying24 hv
  have hC : Tryd.prog.cellsOf 24 = 1 := by kernel_rfl
  obtain ⟨c0, rfl⟩ : ∃ c0, cs = #[c0] := by
    have h1 : cs.size = 1 := hsz.trans hC
    exact ⟨cs[0], by apply Array.ext; (· simp [h1]); (· intro i h1 h2; simp at h2; subst h2; rfl)⟩
  obtain ⟨fuel, hf⟩ := h
  obtain ⟨y0, n, hx, _, h0⟩ := trod_struct1 Tryd.underlying24 hf
  have hc1 : Tryd.prog.cellsOf 22 = 1 := by kernel_rfl
  have h1 : DataW.trod enc Tryd.prog w 0 (fun _ => true) true n 22 [c0] = some y0 := by simpa [Value.cells, hc1] using h0
  rcases Go.Deep.open_slice Tryd.underlying22 h1 with ⟨hcs, _⟩ | ⟨a, len, cap, m, n', D, Pl, hcs, _, hl, hm, hmm, _, hx1⟩
  · simp at hcs
    subst hcs
    exact ⟨none, 0, [], rfl, RdF.nil, by simp⟩
  · simp at hcs
    subst hcs
    have each : ∀ i, ∃ q : Tri, i < len → w.cell? (a.add (i * 3)) = some (.int .i64 q.1) ∧ w.cell? (a.add (i * 3 + 1)) = some (.int .i64 q.2.1) ∧ w.cell? (a.add (i * 3 + 2)) = some (.int .i64 q.2.2) := by
      intro i
      by_cases hi : i < len
      · obtain ⟨cs', k1, k2⟩ := hx1 i (by rw [hmm]; simp; omega)
        rw [cellsC] at k1
        obtain ⟨_, hlen, hcell⟩ := World.cells?_some k1
        obtain ⟨v0, v1, v2, rfl⟩ : ∃ v0 v1 v2, cs' = [v0, v1, v2] := by
          match cs', hlen with
          | [v0, v1, v2], _ => exact ⟨v0, v1, v2, rfl⟩
        obtain ⟨z0, z1, z2, m', _, _, g0, g1, g2⟩ := Go.Deep.trod_struct3 Tryd.underlying57 k2
        have ci : Tryd.prog.cellsOf 3 = 1 := by kernel_rfl
        simp [ci] at g0 g1 g2
        obtain ⟨x0, f0, _, _⟩ := DataW.trod_int Tryd.underlying3 g0
        obtain ⟨x1, f1, _, _⟩ := DataW.trod_int Tryd.underlying3 g1
        obtain ⟨x2, f2, _, _⟩ := DataW.trod_int Tryd.underlying3 g2
        simp at f0 f1 f2
        subst f0 f1 f2
        have u0 := hcell 0 (by omega)
        have u1 := hcell 1 (by omega)
        have u2 := hcell 2 (by omega)
        rw [Go.Deep.add_add] at u0 u1 u2
        exact ⟨(x0, x1, x2), fun _ => ⟨by simpa using u0, by simpa using u1, by simpa using u2⟩⟩
      · exact ⟨z3, fun h => absurd h hi⟩
    obtain ⟨q, hq⟩ : ∃ q : Nat → Tri, ∀ i, i < len → w.cell? (a.add (i * 3)) = some (.int .i64 (q i).1) ∧ w.cell? (a.add (i * 3 + 1)) = some (.int .i64 (q i).2.1) ∧ w.cell? (a.add (i * 3 + 2)) = some (.int .i64 (q i).2.2) :=
      ⟨fun i => (each i).choose, fun i hi => (each i).choose_spec hi⟩
    have hlen : ((List.range len).map q).length = len := by simp
    have hm' : len ≤ 9223372036854775807 := by unfold maxLen at hm; omega
    refine ⟨some a, cap, (List.range len).map q, by rw [hlen], ⟨by rw [hlen]; exact hl, fun k hk => ?_⟩, by rw [hlen]; exact hm'⟩
    rw [hlen] at hk
    have hg : ((List.range len).map q).getD k (0, 0, 0) = q k := by simp [List.getD_eq_getElem?_getD, hk]
    rw [hg]
    obtain ⟨b, o, he⟩ := plain_addr (hq 0 (by omega)).1
    obtain ⟨q0, q1, q2⟩ := hq k hk
    rw [he, Go.WideShapes.add_plain] at q0 q1 q2
    exact ⟨b, o, by rw [he], World.block_lt_of_cell? w _ q0, q0, by rw [Nat.add_assoc]; exact q1, by rw [Nat.add_assoc]; exact q2⟩

end Go.Proofs.YtohimcljobpkjaaDoor
