/- Contracts: how many stairs the first clues leave, on both sides. -/
import Derived.Test.YtehffiaobjlpoaaPzO
import Derived.Test.YtehffiaobjlpoaaPzS
namespace Go.Proofs.Ytehffiaobjlpoaa
open Go.RowKit
set_option maxRecDepth 100000

theorem RdF.take {w : World} {B c k : Nat} {A : Option Addr} {ps : List Tri} (h : RdF w B A c ps) (hk : k ≤ ps.length) {c' : Nat} (hc : k ≤ c') : RdF w B A c' (ps.take k) := by
  have hl : (ps.take k).length = k := by simp; omega
  refine ⟨by omega, fun j hj => ?_⟩
  rw [hl] at hj
  obtain ⟨b, o, e, hb, r⟩ := h.2 j (by omega)
  have hg : (ps.take k).getD j (0, 0, 0) = ps.getD j (0, 0, 0) := by simp [List.getD_eq_getElem?_getD, hj]
  rw [hg]
  exact ⟨b, o, e, hb, r⟩
theorem puzB_take {ps : List Tri} (h : puzB ps = true) (k : Nat) : puzB (ps.take k) = true := by
  simp only [puzB, Bool.and_eq_true, List.all_eq_true, decide_eq_true_eq] at h ⊢
  exact ⟨by simp; omega, fun p hp => h.2 p (List.mem_of_mem_take hp)⟩
theorem puzB_len {ps : List Tri} (h : puzB ps = true) : ps.length ≤ 6 := by
  simp only [puzB, Bool.and_eq_true, decide_eq_true_eq] at h
  exact h.1
/-- how many the first 0, 1, .. clues leave: k numbers -/
def lbL (ps : List Tri) : Nat → List Int
  | 0 => []
  | k + 1 => lbL ps k ++ [((solL (ps.take k)).length : Int)]
theorem lbL_length (ps : List Tri) : ∀ k, (lbL ps k).length = k
  | 0 => rfl
  | k + 1 => by simp [lbL, lbL_length ps k]
def lbR (ps : List Tri) : List Int := if puzB ps then lbL ps (ps.length + 1) else []
theorem lbR_length (ps : List Tri) : (lbR ps).length ≤ 1048576 := by
  unfold lbR
  split
  · next h => have := puzB_len h; rw [lbL_length]; omega
  · simp

set_option maxHeartbeats 400000 in
theorem firstClues_any (A : Option Addr) (c : Nat) (ps : List Tri) (k : Nat) (B : Nat) (w : World) (hr : RdF w B A c ps) (_hB : B ≤ w.heap.size) (_hn : ps.length ≤ 1048576) (hk : k ≤ ps.length) :
    Calls Try.prog 50 #[pzv A ps.length c, .int .i64 (k : Int)] w fun e w' => e = .returned (.slice A k k) ∧ Below w.heap.size w w' := by
  have hcc := hr.1
  have hki : (k : Int) ≤ (ps.length : Int) := by omega
  go_enter Try.func50, Try.ntmps50
  go_wp2_with fail
  go_ret
  exact ⟨rfl, below_alloc _ _⟩

end Go.Proofs.Ytehffiaobjlpoaa
