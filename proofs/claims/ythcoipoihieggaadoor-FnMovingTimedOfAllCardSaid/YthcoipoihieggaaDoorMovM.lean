/- Contracts: who meets when, on both sides. -/
import Derived.Test.YthcoipoihieggaaDoorMovT
import Derived.Test.YthcoipoihieggaaDoorWK
import Derived.Deep.DeepCutAuto
namespace Go.Proofs.YthcoipoihieggaaDoor
set_option maxRecDepth 100000
open Go.RowKit

def meetV (x y u d : Int) : Bool := askB x y u && (askB x y d && !decide (2 * y + u + d = 0))




set_option maxHeartbeats 400000 in
theorem speed_lit (p c : Int) (w : World) (h1 : -9223372036854775808 ≤ p + c) (h2 : p + c ≤ 9223372036854775807) :
    Calls Tryd.prog 49 #[.agg #[.int .i64 p, .int .i64 c]] w fun e w' => e = .returned (.int .i64 (p + c)) ∧ w.alloc (.cells #[.int .i64 p, .int .i64 c] 46) = w' := by
  go_enter Tryd.func49, Tryd.ntmps49
  go_wp2_with fail
  go_ret
  exact ⟨rfl, rfl⟩

set_option maxHeartbeats 400000 in
theorem walkerWith_lit (x y p : Int) (w : World) :
    Calls Tryd.prog 36 #[.agg #[.int .i64 x, .int .i64 y], .int .i64 p] w fun e w' => e = .returned (.agg #[.int .i64 p, .int .i64 y]) ∧ (w.alloc (.cells #[.int .i64 x, .int .i64 y] 23)).alloc (.cells #[.int .i64 p, .int .i64 y] 46) = w' := by
  go_enter Tryd.func36, Tryd.ntmps36
  go_wp2_with fail
  exact bodyPost_ret (v := .agg #[.int .i64 p, .int .i64 y]) (by simp [results, Tryd.results36, go_sem]) rfl ⟨rfl, rfl⟩
def MeetCut (x y u d : Int) (w : World) (s9 s10 : Value) (wx : World) : Prop :=
  ∃ g g' : Nat, s9 = .pointer (some ⟨g, 0, none⟩) ∧ s10 = .pointer (some ⟨g', 0, none⟩) ∧ wx.cell? ⟨g, 0, none⟩ = some (.int .i64 u) ∧ wx.cell? ⟨g, 1, none⟩ = some (.int .i64 y) ∧ wx.cell? ⟨g', 0, none⟩ = some (.int .i64 d) ∧ wx.cell? ⟨g', 1, none⟩ = some (.int .i64 y) ∧
    wx.cell? ⟨w.heap.size, 0, none⟩ = some (.int .i64 x) ∧ wx.cell? ⟨w.heap.size, 1, none⟩ = some (.int .i64 y) ∧ Below w.heap.size w wx


theorem meetV_le {x y u d : Int} (h : meetV x y u d = true) : 1 ≤ x ∧ x ≤ 500 ∧ 0 ≤ y ∧ y ≤ 20 ∧ 0 ≤ u ∧ u ≤ 20 ∧ 0 ≤ d ∧ d ≤ 20 ∧ 0 < 2 * y + u + d := by
  simp only [meetV, Bool.and_eq_true, Bool.not_eq_true', decide_eq_false_iff_not] at h
  have h1 := askB_le h.1
  have h2 := askB_le h.2.1
  have h3 := h.2.2
  omega



end Go.Proofs.YthcoipoihieggaaDoor
