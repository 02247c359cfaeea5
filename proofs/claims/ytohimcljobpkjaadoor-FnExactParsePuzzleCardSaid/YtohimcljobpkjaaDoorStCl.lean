/- Contracts: the ways on to the top, on the model's side; how many climbs there are. -/
import Derived.Test.YtohimcljobpkjaaDoorStOn
namespace Go.Proofs.YtohimcljobpkjaaDoor
set_option maxRecDepth 100000
open Go.RowKit

theorem stand_in {n a : Nat} {bs : List Int} (h : a ≤ n) : standB (n : Int) bs (a : Int) = !hasB bs (a : Int) := by
  simp [standB, inB_yes (n := (a : Int)) (lo := 0) (hi := (n : Int)) (by omega) (by omega)]
theorem caS_first (n : Nat) (ss bs : List Int) : caS n ss bs 0 n = 1 := by unfold caS; rw [onS_first]; rfl
theorem caS_rest {n : Nat} {ss bs : List Int} {p : Nat} (h : p ≠ n) : caS n ss bs 0 p = 0 := by unfold caS; rw [onS_rest h]; rfl
theorem caT_zero {n : Nat} {ss bs : List Int} {m p : Nat} : caT n ss bs m 0 p = caS n ss bs m p := by unfold caT caS; rw [onT_zero]
theorem caT_at {n : Nat} {ss bs : List Int} {m k a : Nat} (h : a + (m + 1) = n) : caT n ss bs m k a = capI (pS n ss bs m k) := by unfold caT; rw [onT_at h]
theorem caT_up {n : Nat} {ss bs : List Int} {m k a s : Nat} (h : a + (m + 1) = n) (hs : 1 ≤ s) : caT n ss bs m k (a + s) = capI (sS n ss bs m (s : Int)) := by unfold caT; rw [onT_up h hs]
theorem caT_else {n : Nat} {ss bs : List Int} {m k a p : Nat} (h : a + (m + 1) = n) (hp : p ≠ a) : caT n ss bs m k p = caT n ss bs m (k + 1) p := by unfold caT; rw [onT_else h hp]
theorem caT_skip {n : Nat} {ss bs : List Int} {m k a s p : Nat} (h : a + (m + 1) = n) (hk : k < ss.length) (hs : ss.getD k 0 = (s : Int)) (h1 : 1 ≤ s) (h2 : n < a + s) : caT n ss bs m k p = caT n ss bs m (k + 1) p := by
  by_cases hp : p = a
  · subst hp
    rw [caT_at h, caT_at h, pS_succ hk (by rw [hs]; omega), hs]
    rw [show sS n ss bs m (s : Int) = 0 by unfold sS; rw [Int.toNat_natCast, if_neg (by omega)], Int.add_zero]
  · exact caT_else h hp
/-- WHAT THE MODEL's clWays LEAVES -/
def CaPost (n : Nat) (ss bs : List Int) (T : TypeId) (w : World) (e : Ending) (w' : World) : Prop :=
  ∃ g, e = .returned (.slice (some ⟨g, 0, none⟩) (n + 1) (n + 1)) ∧ w.heap.size ≤ g ∧ Blk w' g T (ints (caL n ss bs)) ∧ Below w.heap.size w w'


end Go.Proofs.YtohimcljobpkjaaDoor
