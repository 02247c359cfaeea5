/- Contracts: a copy of a list of the call's own (the model), and where an owned row lies. -/
import Derived.Test.YtiacfaeanlkalaaGApp
import Derived.Test.YtiacfaeanlkalaaGMake
namespace Go.Proofs.Ytiacfaeanlkalaa
set_option maxRecDepth 100000
open Go.RowKit

theorem l1Own_any (A : Option Addr) (c : Nat) (xs : List Int) (B : Nat) (w : World) (hr : Rd w B A c xs) (hB : B ≤ w.heap.size) (hn : xs.length ≤ 1048576) :
    Calls Try.prog 63 #[.slice A xs.length c] w fun e w' => ∃ v, e = .returned v ∧ OwnI w' w.heap.size v xs ∧ Below w.heap.size w w' := by
  go_enter Try.func63, Try.ntmps63
  go_wp2_with (at_builtin; refine wpList_append_rd' _ rfl _ _ rfl w.heap.size B (.slice (some ⟨w.heap.size, 0, none⟩) 0 0) [] xs rfl (OwnI.empty rfl) A xs.length c rfl rfl (hr.below (below_alloc _ _) hB) (by simp; omega) (by simp) ?_; intro v1 w1 hv1 hb1)
  go_ret
  exact ⟨v1, rfl, by simpa using hv1, (below_alloc _ _).trans hb1⟩
theorem OwnI.block {w : World} {B : Nat} {v : Value} {xs : List Int} (h : OwnI w B v xs) (h1 : 1 ≤ xs.length) : ∃ g c, v = .slice (some ⟨g, 0, none⟩) xs.length c ∧ B ≤ g ∧ g < w.heap.size := by
  rcases h.2 with ⟨_, h0⟩ | ⟨g, cap, cur, rfl, hg, hh, _⟩
  · omega
  · exact ⟨g, cap, rfl, hg, (Array.getElem?_eq_some_iff.1 hh).1⟩

end Go.Proofs.Ytiacfaeanlkalaa
