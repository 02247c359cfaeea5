/- Contracts: numbers within bounds, on both sides. -/
import Derived.Test.YtkglkknccbjefaaGSpec
namespace Go.Proofs.Ytkglkknccbjefaa
open Go.RowKit

set_option maxHeartbeats 400000 in
theorem isWithin_any (n lo hi : Int) (w : World) :
    Calls Try.prog 19 #[.int .i64 n, .int .i64 lo, .int .i64 hi] w fun e w' => e = .returned (.bool (inB n lo hi)) ∧ w = w' := by
  by_cases h1 : lo ≤ n
  · by_cases h2 : n ≤ hi
    · rw [inB_yes h1 h2]
      go_enter Try.func19, Try.ntmps19
      go_wp2
      go_ret
      exact ⟨rfl, rfl⟩
    · rw [inB_no (.inr (by omega))]
      go_enter Try.func19, Try.ntmps19
      go_wp2
      go_ret
      exact ⟨rfl, rfl⟩
  · rw [inB_no (.inl (by omega))]
    go_enter Try.func19, Try.ntmps19
    go_wp2
    go_ret
    exact ⟨rfl, rfl⟩

/-- all numbers of a list are within bounds -/
def allB (lo hi : Int) : List Int → Bool
  | [] => true
  | x :: r => inB x lo hi && allB lo hi r
theorem allB_go (lo hi : Int) (xs : List Int) (k : Nat) (h : k < xs.length) : allB lo hi (xs.drop k) = (inB (xs.getD k 0) lo hi && allB lo hi (xs.drop (k + 1))) := by
  rw [drop_at xs k h]; rfl
theorem allB_end (lo hi : Int) (xs : List Int) (k : Nat) (h : ¬ k < xs.length) : allB lo hi (xs.drop k) = true := by
  rw [List.drop_eq_nil_of_le (by omega)]; rfl
theorem all_step {C L : Bool} {a : Bool} {b : Bool} (H : C = a) (E : a = (b && L)) (h : b = true) : C = L := by rw [H, E, h]; rfl
theorem all_no {C L : Bool} {a : Bool} {b : Bool} (H : C = a) (E : a = (b && L)) (h : b = false) : false = C := by rw [H, E, h]; rfl
theorem allB_at {lo hi : Int} : ∀ {xs : List Int} {k : Nat}, allB lo hi xs = true → k < xs.length → lo ≤ xs.getD k 0 ∧ xs.getD k 0 ≤ hi
  | [], k, _, hk => absurd hk (by simp)
  | x :: r, 0, h, _ => by
    simp only [allB, Bool.and_eq_true] at h
    exact inB_le h.1
  | x :: r, k + 1, h, hk => by
    simp only [allB, Bool.and_eq_true] at h
    simpa using allB_at h.2 (by simpa using hk)

end Go.Proofs.Ytkglkknccbjefaa
