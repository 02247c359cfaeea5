/- Contracts of the leaves: functions that only read. -/
import Derived.Test.YtohimcljobpkjaaDoorRows
import Derived.Test.YtohimcljobpkjaaDoorMem
import Derived.BigQuiet
import Derived.Deep.QuietTactic
namespace Go.Proofs.YtohimcljobpkjaaDoor
set_option maxRecDepth 100000
open Go.RowKit

theorem int_info : (Tryd.prog.info? 3).map (fun i => (i.zero, i.size, i.bytes)) = some (some (.int .i64 0), 1, 8) := by kernel_rfl

def szF (left n : Int) : Int := if left - n < 0 then -1 else left - n
theorem szF_neg {left n : Int} (h : left - n < 0) : szF left n = -1 := if_pos h
theorem szF_pos {left n : Int} (h : 0 ≤ left - n) : szF left n = left - n := if_neg (by omega)

/-- rising from above last, at most most -/
def incB (most : Int) : Int → List Int → Bool
  | _, [] => true
  | last, x :: r => decide (last < x) && (decide (x ≤ most) && incB most x r)

theorem drop_at (xs : List Int) (k : Nat) (h : k < xs.length) : xs.drop k = xs.getD k 0 :: xs.drop (k + 1) := by
  rw [List.drop_eq_getElem_cons h]; simp [List.getD_eq_getElem?_getD, h]
theorem incB_go (most l : Int) (xs : List Int) (k : Nat) (h : k < xs.length) : incB most l (xs.drop k) = (decide (l < xs.getD k 0) && (decide (xs.getD k 0 ≤ most) && incB most (xs.getD k 0) (xs.drop (k + 1)))) := by
  rw [drop_at xs k h]; rfl
theorem incB_end (most l : Int) (xs : List Int) (k : Nat) (h : ¬ k < xs.length) : incB most l (xs.drop k) = true := by
  rw [List.drop_eq_nil_of_le (by omega)]; rfl

theorem inc_step {a b l x most : Int} {xs r : List Int} {ys : List Int} (h : incB most a xs = incB most l ys) (e : incB most l ys = (decide (l < x) && (decide (x ≤ most) && incB most b r))) (h1 : l < x) (h2 : x ≤ most) : incB most a xs = incB most b r := by
  rw [h, e]; simp [h1, h2]
theorem inc_stop {a b l x most : Int} {xs r : List Int} {ys : List Int} (h : incB most a xs = incB most l ys) (e : incB most l ys = (decide (l < x) && (decide (x ≤ most) && incB most b r))) (h1 : x ≤ l ∨ most < x) : false = incB most a xs := by
  rw [h, e]
  rcases h1 with h1 | h1
  · simp [show ¬ l < x by omega]
  · simp [show ¬ x ≤ most by omega]

set_option maxHeartbeats 400000 in
theorem inc_any (A : Option Addr) (c : Nat) (xs : List Int) (most : Int) (B : Nat) (w : World) (hr : Rd w B A c xs) (hn : xs.length ≤ 1048576) :
    Calls Tryd.prog 95 #[.slice A xs.length c, .int .i64 most] w fun e w' => e = .returned (.bool (incB most 0 xs)) ∧ w = w' := by
  go_enter Tryd.func95, Tryd.ntmps95
  go_wp2
  go_loop [5, 10] (fun l i => ∃ (k : Nat) (v : Int), k ≤ xs.length ∧ i = .int .i64 k ∧ l = .int .i64 v ∧ Hid (incB most 0 xs = incB most v (xs.drop k))) (fun _ i => xs.length - (intOf i).toNat)
  case atStart => exact ⟨0, 0, Nat.zero_le _, rfl, rfl, by simp [Hid]⟩
  case round =>
    obtain ⟨k, v, hk, rfl, rfl, H⟩ := hrel
    by_cases hlt : k < xs.length
    · obtain ⟨b, o, rfl, hb, hcell⟩ := hr.at_ hlt
      have E := Lib.hid (incB_go most v xs k hlt)
      generalize xs.getD k 0 = x at *
      by_cases h1 : v < x
      · by_cases h2 : x ≤ most
        · go_wp2
          go_round
          case rel => exact ⟨k + 1, x, by omega, by go_num, rfl, inc_step H.out E.out h1 h2⟩
          case measure => simp [intOf]; omega
        · go_wp2
          go_ret
          exact ⟨ret_bool (inc_stop H.out E.out (by omega)), rfl⟩
      · go_wp2
        go_ret
        exact ⟨ret_bool (inc_stop H.out E.out (by omega)), rfl⟩
    · go_wp2
      go_ret
      exact ⟨ret_bool (by rw [H.out, incB_end _ _ _ _ hlt]), rfl⟩

/-- the two lists are the same, as the law's own loop decides it -/
def eqB (xs ys : List Int) : Bool := decide (xs = ys)
theorem eqB_self (xs : List Int) : eqB xs xs = true := by simp [eqB]
theorem eqB_at {xs ys : List Int} {k : Nat} (h : ¬ xs.getD k 0 = ys.getD k 0) : false = eqB xs ys := by
  symm
  simp only [eqB, decide_eq_false_iff_not]
  rintro rfl
  exact h rfl
theorem eqB_all {xs ys : List Int} (hl : xs.length = ys.length) (h : ∀ j, j < xs.length → xs.getD j 0 = ys.getD j 0) : true = eqB xs ys := by
  symm
  simp only [eqB, decide_eq_true_eq]
  apply List.ext_getElem hl
  intro i h1 h2
  have := h i h1
  simpa [List.getD_eq_getElem?_getD, h1, h2] using this

end Go.Proofs.YtohimcljobpkjaaDoor
