/- Rows of twenty numbers as values, kept in a map of the call's own by numbers. -/
import Derived.Test.YtkfacfhneooaiaaGMake
import Derived.Maps.Own
import Derived.Maps.OwnSet
import Derived.Maps.Views
import Derived.Laws.Rows
import Derived.Laws.Tables
import Derived.Laws.CopyOwn
namespace Go.Proofs.Ytkfacfhneooaiaa
open Go.RowKit Go.Maps

def readI : List Value → Option (List Int)
  | [] => some []
  | .int .i64 n :: r => (readI r).map (n :: ·)
  | _ :: _ => none
theorem readI_ints : ∀ L : List Int, readI (L.map (Value.int .i64)) = some L
  | [] => rfl
  | n :: r => by simp [readI, readI_ints r]
theorem readI_inv : ∀ {vs : List Value} {L : List Int}, readI vs = some L → vs = L.map (Value.int .i64)
  | [], L, h => by simp [readI] at h; subst h; rfl
  | v :: r, L, h => by
    cases v with
    | int q n =>
      cases q with
      | i64 =>
        simp only [readI, Option.map_eq_some_iff] at h
        obtain ⟨L', h1, rfl⟩ := h
        simp [readI_inv h1]
      | _ => simp [readI] at h
    | _ => simp [readI] at h
def codeL (L : List Int) : DataW Unit := .agg (L.map fun n => .lit (.int .i64 n))
theorem codeL_inj {L L' : List Int} (h : codeL L = codeL L') : L = L' := by
  simp only [codeL, DataW.agg.injEq] at h
  have : ∀ {L L' : List Int}, L.map (fun n => (DataW.lit (.int .i64 n) : DataW Unit)) = L'.map (fun n => .lit (.int .i64 n)) → L = L' := by
    intro L
    induction L with
    | nil => intro L' h; cases L' with
      | nil => rfl
      | cons _ _ => simp at h
    | cons a r ih => intro L' h; cases L' with
      | nil => simp at h
      | cons b r' =>
        simp at h
        rw [h.1, ih (L' := r') (by simpa using h.2)]
  exact this h
def rowE (v : Value) : Option (DataW Unit × List MemPlace) :=
  match v with
  | .agg cs => (readI cs.toList).map fun L => (codeL L, [])
  | _ => none
theorem rowE_ints (L : List Int) : rowE (.agg (ints L)) = some (codeL L, []) := by simp [rowE, ints, readI_ints]
theorem rowE_inv {v : Value} {L : List Int} {ps : List MemPlace} (h : rowE v = some (codeL L, ps)) : v = .agg (ints L) := by
  cases v with
  | agg cs =>
    simp only [rowE, Option.map_eq_some_iff, Prod.mk.injEq] at h
    obtain ⟨L', h1, h2, _⟩ := h
    rw [codeL_inj h2] at h1
    have := readI_inv h1
    rw [ints, ← this]
  | _ => simp [rowE] at h

def zero20 : List Int := List.replicate 20 0
theorem zero20_ints : ints zero20 = #[.int .i64 0, .int .i64 0, .int .i64 0, .int .i64 0, .int .i64 0, .int .i64 0, .int .i64 0, .int .i64 0, .int .i64 0, .int .i64 0, .int .i64 0, .int .i64 0, .int .i64 0, .int .i64 0, .int .i64 0, .int .i64 0, .int .i64 0, .int .i64 0, .int .i64 0, .int .i64 0] := rfl
theorem zeroPart (w : World) : (zeroValue 43).run Try.prog w = .ok (.agg (ints zero20)) w := by kernel_rfl
theorem partKey : Maps.Keyed Try.prog 3 := Maps.int_keyed Try.underlying3
theorem keyLit (i : Int) : WideAt.IsKeyLit (.int .i64 i) := trivial
/-- block b is a map with the keys 1..m, at i the row F i -/
def IsParts (w : World) (b m : Nat) (F : Nat → List Int) : Prop :=
  ∃ D : DataW Unit, w.ownsMap Try.prog 3 rowE b m D ∧ Tidy D ∧ Maps.size D = m ∧ (∀ i : Nat, 1 ≤ i → i ≤ m → D.atKey (.int .i64 i) (codeL zero20) = codeL (F i)) ∧ (∀ i : Nat, m < i → Maps.has D (.int .i64 i) = false)
theorem IsParts.made (w : World) (F : Nat → List Int) : IsParts (w.alloc (.map #[] 0)) w.heap.size 0 F :=
  ⟨.map [], World.ownsMap_made _ _ _ _, tidy_empty, rfl, fun i h1 h2 => by omega, fun _ _ => rfl⟩
theorem IsParts.below {w w' : World} {b m B : Nat} {F : Nat → List Int} (h : IsParts w b m F) (hb : Below B w w') (hlt : b < B) : IsParts w' b m F := by
  obtain ⟨D, ⟨es, cl, h1, r⟩, h2⟩ := h
  exact ⟨D, ⟨es, cl, (hb.block b hlt).trans h1, r⟩, h2⟩
theorem IsParts.far {w : World} {b m : Nat} {F : Nat → List Int} (h : IsParts w b m F) {p : Addr} (hp : b ≠ p.block) (u : Value) : IsParts (w.setCell p u) b m F := by
  obtain ⟨D, ⟨es, cl, h1, r⟩, h2⟩ := h
  exact ⟨D, ⟨es, cl, (Below.heap_setCell w p u b hp).trans h1, r⟩, h2⟩
theorem IsParts.lt {w : World} {b m : Nat} {F : Nat → List Int} (h : IsParts w b m F) : b < w.heap.size := by
  obtain ⟨D, h1, _⟩ := h
  exact h1.lt
theorem IsParts.look {w : World} {b m : Nat} {F : Nat → List Int} (h : IsParts w b m F) (i : Nat) (h1 : 1 ≤ i) (h2 : i ≤ m) (h3 : i ≤ 1000) :
    (Instr.lookup 40 (.map (some b)) (.int .i64 (i : Int)) false).run Try.prog w = .ok (.agg (ints (F i))) w := by
  obtain ⟨D, ho, _, _, ha, _⟩ := h
  obtain ⟨v, ps, hrun, hv⟩ := ho.lookup partKey Try.underlying40 (zeroPart w) (rowE_ints zero20) (Maps.keyOf_int_mk Try.underlying3 (show (Lit.int .i64 (i : Int)).wf = true from WalkArith.wf_i64 ⟨by omega, by omega⟩))
  rw [ha i h1 h2] at hv
  rw [hrun, rowE_inv hv]
theorem IsParts.put {w' : World} {b m : Nat} {F : Nat → List Int} {D : DataW Unit} (ht : Tidy D) (hs : Maps.size D = m) (ha : ∀ i : Nat, 1 ≤ i → i ≤ m → D.atKey (.int .i64 i) (codeL zero20) = codeL (F i)) (hh : ∀ i : Nat, m < i → Maps.has D (.int .i64 i) = false)
    (h : w'.ownsMap Try.prog 3 rowE b (m + 1) (D.put (.int .i64 ((m + 1 : Nat) : Int)) (codeL (F (m + 1))))) : IsParts w' b (m + 1) F := by
  refine ⟨_, h, ht.put (keyLit _) _, ?_, fun i h1 h2 => ?_, fun i h1 => ?_⟩
  · rw [size_put ht, hh (m + 1) (by omega), if_neg (by simp), hs]
  · by_cases e : i = m + 1
    · subst e; exact atKey_put_same ht.isMap (keyLit _) _ _
    · have ne : (Lit.int .i64 (i : Int)) ≠ Lit.int .i64 ((m + 1 : Nat) : Int) := fun hc => e (by injection hc; omega)
      rw [atKey_put_other ne]; exact ha i h1 (by omega)
  · have ne : (Lit.int .i64 (i : Int)) ≠ Lit.int .i64 ((m + 1 : Nat) : Int) := fun hc => by injection hc; omega
    rw [has_put_other ne]; exact hh i (by omega)

end Go.Proofs.Ytkfacfhneooaiaa
