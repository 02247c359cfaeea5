/- Solutions: the two contracts as the law takes them. -/
import Derived.Test.YtmiojofeoaocfaaPzO
import Derived.Test.YtmiojofeoaocfaaPzMk
namespace Go.Proofs.Ytmiojofeoaocfaa
open Go.RowKit
set_option maxRecDepth 100000

theorem hid_64 : hidL.all (fun r => decide (r.2.1.length ≤ 64) && decide (r.2.2.length ≤ 64)) = true := by decide +kernel
theorem solR_64 (ps : List Tri) : ∀ r ∈ solR ps, r.2.1.length ≤ 64 ∧ r.2.2.length ≤ 64 := by
  intro r hr
  have hm : r ∈ hidL := by
    unfold solR at hr
    split at hr
    · exact (List.mem_filter.1 hr).1
    · simp at hr
  simpa using List.all_eq_true.1 hid_64 r hm
theorem SolPost.new {w w' : World} {ps : List Tri} {e : Ending} (h : SolPost w ps e w') : NewS w (solR ps) (puzB ps) e w' := by
  obtain ⟨hb, v, L, he, hL, hS⟩ := h
  exact ⟨v, L, he, hL, hS, hb⟩

end Go.Proofs.Ytmiojofeoaocfaa
