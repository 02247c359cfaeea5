/- Contracts: catching up, rails, full houses, places, on both sides. -/
import Derived.Test.YthcoipoihieggaaDoorMovI
import Derived.Test.YthcoipoihieggaaDoorMovS
import Derived.Test.YthcoipoihieggaaDoorMovM
import Derived.WalkLawsBesides
namespace Go.Proofs.YthcoipoihieggaaDoor
set_option maxRecDepth 100000
open Go.RowKit

def fullV (x y n : Int) : Bool := movB x y && inB n 1 5
theorem lowN_one (a : Int) : lowN a 1 = a := by unfold lowN; rw [gI_one]; omega
theorem lowD_one (a : Int) : lowD a 1 = 1 := by unfold lowD; rw [gI_one]; omega



def railV (x y r p : Int) : Bool := tellB x y p y && (inB r y 20 && !decide (r < y + p))
theorem railV_le {x y r p : Int} (h : railV x y r p = true) : askB x y p = true ∧ 0 < p + y ∧ r ≤ 20 ∧ y + p ≤ r := by
  simp only [railV, tellB, Bool.and_eq_true, Bool.not_eq_true', decide_eq_false_iff_not, decide_eq_true_eq] at h
  have h1 := inB_le h.2.1
  have h2 := h.2.2
  exact ⟨h.1.1, by omega, by omega, by omega⟩


theorem tellB_two {x y p c : Int} (h : tellB x y p c = true) : askB x y p = true ∧ 0 < p + c := by simpa [tellB] using h
set_option maxHeartbeats 400000 in
theorem speed_wrap (p c : Int) (w : World) :
    Calls Tryd.prog 49 #[.agg #[.int .i64 p, .int .i64 c]] w fun e w' => e = .returned (.int .i64 (wrap64 (p + c))) ∧ Below w.heap.size w w' := by
  go_enter Tryd.func49, Tryd.ntmps49
  go_wp2_with fail
  go_ret
  exact ⟨rfl, below_alloc _ _⟩


end Go.Proofs.YthcoipoihieggaaDoor
