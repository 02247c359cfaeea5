/- Contracts: solutions, how many there are, whether there is just one: on both sides. -/
import Derived.Test.YtehffiaobjlpoaaPzAl
import Derived.Test.YtehffiaobjlpoaaPzL
namespace Go.Proofs.Ytehffiaobjlpoaa
open Go.RowKit
set_option maxRecDepth 100000

def solR (ps : List Tri) : List Rc := if puzB ps then solL ps else []
theorem solR_le (ps : List Tri) : (solR ps).length ≤ 196 := by
  unfold solR
  split
  · exact solL_le ps
  · simp
theorem solN_eq (ps : List Tri) : solN ps = ((solR ps).length : Int) := by
  unfold solN solR
  split <;> simp
/-- WHAT A CALL LEAVES THAT ANSWERS SOLUTIONS -/
def SolPost (w : World) (ps : List Tri) (e : Ending) (w' : World) : Prop :=
  Below w.heap.size w w' ∧ ∃ v L, e = .returned (.tuple #[v, .bool (puzB ps)]) ∧ recL L = solR ps ∧ Stock w' w.heap.size v L
theorem puz_kinds {ps : List Tri} (h : puzB ps = true) : ∀ p ∈ ps, 0 ≤ p.1 ∧ p.1 ≤ 5 := by
  simp only [puzB, Bool.and_eq_true, List.all_eq_true] at h
  intro p hp
  have := clueB_kind (show clueB p.1 p.2.1 p.2.2 = true from h.2 p hp)
  omega
theorem hid_all {L : Lr} (h : recL L = hidL) : ∀ x ∈ L, x.2.2.1.length ≤ 1048576 ∧ x.2.2.2.length ≤ 1048576 := hid_lens h (fun _ hr => hidL_mem hr)
theorem rec_len {L : Lr} {ps : List Tri} (h : recL L = solR ps) : L.length = (solR ps).length := by rw [← h, recL_len]
theorem hid_len {L : Lr} (h : recL L = hidL) : L.length ≤ 1048576 := by
  have h1 := recL_len L
  rw [h, hidL_len] at h1
  omega
/-- what leftBy leaves of all hidden stairs -/
theorem left_sol {w w1 w2 : World} {ps : List Tri} {v0 : Value} {L : Lr} {e : Ending} (hb : Below w.heap.size w w1) (hst : Stock w1 w.heap.size v0 L) (hL : recL L = hidL) (h : LeftPost w1 v0 ps L e w2) : SolPost w ps e w2 := by
  obtain ⟨hb2, h⟩ := h
  refine ⟨hb.trans (hb2.mono hb.size), ?_⟩
  rcases h with ⟨hp, he⟩ | ⟨hp, v, he, h⟩
  · exact ⟨_, [], by rw [hp]; exact he, by simp [solR, hp, recL], Stock.nil _ _⟩
  · have hR : solR ps = solL ps := by simp [solR, hp]
    rw [hp]
    rcases h with ⟨h0, rfl⟩ | h
    · have : ps = [] := List.eq_nil_of_length_eq_zero h0
      subst this
      have hf : hidL.filter (fitsB []) = hidL := List.filter_eq_self.2 (fun r _ => fitsB_nil r)
      exact ⟨_, L, he, by rw [hL, hR]; exact hf.symm, hst.below hb2 (Nat.le_refl _)⟩
    · exact ⟨v, fitsL ps L, he, by rw [recL_fits, hL, hR]; rfl, Stock.filter _ hst h hb.size hb2⟩
def solvedB (ps : List Tri) : Bool := puzB ps && decide ((solL ps).length = 1)

end Go.Proofs.Ytehffiaobjlpoaa
