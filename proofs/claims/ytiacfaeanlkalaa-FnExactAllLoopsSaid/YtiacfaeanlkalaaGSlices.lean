/- Contracts of the library's functions over slices of ints: Index, Max, Min. -/
import Derived.Test.YtiacfaeanlkalaaGSpec
namespace Go.Proofs.Ytiacfaeanlkalaa
set_option maxRecDepth 100000
open Go.RowKit

/-- the first place of a number, or -1 -/
def idxF (x : Int) : List Int → Int → Int
  | [], _ => -1
  | y :: r, k => if x = y then k else idxF x r (k + 1)
theorem idxF_go (x : Int) (xs : List Int) (k : Nat) (h : k < xs.length) : idxF x (xs.drop k) k = if x = xs.getD k 0 then (k : Int) else idxF x (xs.drop (k + 1)) (k + 1) := by
  rw [drop_at xs k h]; rfl
theorem idxF_end (x : Int) (xs : List Int) (k : Nat) (h : ¬ k < xs.length) : idxF x (xs.drop k) k = -1 := by
  rw [List.drop_eq_nil_of_le (by omega)]; rfl
theorem idxF_eq (x : Int) (xs : List Int) (b : Nat) (hb : b < xs.length) (h : xs.getD b 0 = x) : ∀ k : Nat, k ≤ b → (∀ j, k ≤ j → j < b → xs.getD j 0 ≠ x) → idxF x (xs.drop k) k = b := by
  intro k hk
  induction hd : b - k generalizing k with
  | zero =>
    intro _
    obtain rfl : k = b := by omega
    rw [idxF_go _ _ _ hb, if_pos h.symm]
  | succ n ih =>
    intro hn
    rw [idxF_go _ _ _ (by omega), if_neg (fun e => hn k (Nat.le_refl _) (by omega) e.symm)]
    exact ih (k + 1) (by omega) (by omega) (fun j h1 h2 => hn j (by omega) h2)

theorem idxF_bd (x : Int) : ∀ (xs : List Int) (k : Int), (0 ≤ k → -1 ≤ idxF x xs k) ∧ idxF x xs k ≤ max (-1) (k + xs.length)
  | [], k => by simp [idxF]; omega
  | y :: r, k => by
    have ih := idxF_bd x r (k + 1)
    simp only [idxF, List.length_cons]
    split
    · constructor <;> omega
    · constructor
      · intro h; exact ih.1 (by omega)
      · have := ih.2; omega

def maxF : Int → List Int → Int
  | m, [] => m
  | m, y :: r => maxF (if m < y then y else m) r
def minF : Int → List Int → Int
  | m, [] => m
  | m, y :: r => minF (if y < m then y else m) r
theorem maxF_go (m : Int) (xs : List Int) (k : Nat) (h : k < xs.length) : maxF m (xs.drop k) = maxF (if m < xs.getD k 0 then xs.getD k 0 else m) (xs.drop (k + 1)) := by rw [drop_at xs k h]; rfl
theorem maxF_end (m : Int) (xs : List Int) (k : Nat) (h : ¬ k < xs.length) : maxF m (xs.drop k) = m := by rw [List.drop_eq_nil_of_le (by omega)]; rfl
theorem minF_go (m : Int) (xs : List Int) (k : Nat) (h : k < xs.length) : minF m (xs.drop k) = minF (if xs.getD k 0 < m then xs.getD k 0 else m) (xs.drop (k + 1)) := by rw [drop_at xs k h]; rfl
theorem minF_end (m : Int) (xs : List Int) (k : Nat) (h : ¬ k < xs.length) : minF m (xs.drop k) = m := by rw [List.drop_eq_nil_of_le (by omega)]; rfl
theorem maxF_eq : ∀ (ys : List Int) (m v : Int), m ≤ v → (∀ y ∈ ys, y ≤ v) → (m = v ∨ v ∈ ys) → maxF m ys = v
  | [], m, v, h, _, hv => by simpa [maxF] using hv
  | y :: r, m, v, h, ha, hv => by
    have hy := ha y (by simp)
    refine maxF_eq r (if m < y then y else m) v (by split <;> omega) (fun z hz => ha z (by simp [hz])) ?_
    rcases hv with rfl | hv
    · exact .inl (by split <;> omega)
    · rcases List.mem_cons.1 hv with rfl | hv
      · exact .inl (by split <;> omega)
      · exact .inr hv
theorem minF_eq : ∀ (ys : List Int) (m v : Int), v ≤ m → (∀ y ∈ ys, v ≤ y) → (m = v ∨ v ∈ ys) → minF m ys = v
  | [], m, v, h, _, hv => by simpa [minF] using hv
  | y :: r, m, v, h, ha, hv => by
    have hy := ha y (by simp)
    refine minF_eq r (if y < m then y else m) v (by split <;> omega) (fun z hz => ha z (by simp [hz])) ?_
    rcases hv with rfl | hv
    · exact .inl (by split <;> omega)
    · rcases List.mem_cons.1 hv with rfl | hv
      · exact .inl (by split <;> omega)
      · exact .inr hv
/-- the greatest, the least of a list that is not empty -/
def maxL (xs : List Int) : Int := maxF (xs.getD 0 0) (xs.drop 1)
def minL (xs : List Int) : Int := minF (xs.getD 0 0) (xs.drop 1)

set_option maxHeartbeats 400000 in
theorem index_any (A : Option Addr) (c : Nat) (xs : List Int) (x : Int) (B : Nat) (w : World) (hr : Rd w B A c xs) (hn : xs.length ≤ 1048576) :
    Calls Try.prog 56 #[.slice A xs.length c, .int .i64 x] w fun e w' => e = .returned (.int .i64 (idxF x xs 0)) ∧ w = w' := by
  go_enter Try.func56, Try.ntmps56
  go_wp2
  go_loop [8] (fun i => ∃ (k : Nat), k ≤ xs.length ∧ i = .int .i64 k ∧ Hid (idxF x xs 0 = idxF x (xs.drop k) k)) (fun i => xs.length - (intOf i).toNat)
  case atStart => exact ⟨0, Nat.zero_le _, rfl, by simp [Hid]⟩
  case round =>
    obtain ⟨k, hk, rfl, H⟩ := hrel
    by_cases hlt : k < xs.length
    · obtain ⟨b, o, rfl, hb, hcell⟩ := hr.at_ hlt
      have E := Lib.hid (idxF_go x xs k hlt)
      generalize xs.getD k 0 = y at *
      by_cases he : x = y
      · have R : Hid ((k : Int) = idxF x xs 0) := Lib.hid (by rw [H.out, E.out, if_pos he])
        subst he
        clear E H
        go_wp2
        go_ret
        exact ⟨ret_int R.out, rfl⟩
      · have R : Hid (idxF x xs 0 = idxF x (xs.drop (k + 1)) ((k + 1 : Nat) : Int)) := Lib.hid (by rw [H.out, E.out, if_neg he]; rfl)
        clear E H
        go_wp2
        go_round
        case rel => exact ⟨k + 1, by omega, by go_num, R⟩
        case measure => simp [intOf]; omega
    · go_wp2
      go_ret
      exact ⟨ret_int (by rw [H.out, idxF_end _ _ _ hlt]), rfl⟩


set_option maxHeartbeats 400000 in
theorem min_any (A : Option Addr) (c : Nat) (xs : List Int) (B : Nat) (w : World) (hr : Rd w B A c xs) (h1 : 1 ≤ xs.length) (hn : xs.length ≤ 1048576) :
    Calls Try.prog 57 #[.slice A xs.length c] w fun e w' => e = .returned (.int .i64 (minL xs)) ∧ w = w' := by
  obtain ⟨b0, o0, rfl, hb0, hc0⟩ := hr.at_ (k := 0) (by omega)
  rw [Nat.add_zero] at hc0
  have H0 : Hid (minL xs = minF (xs.getD 0 0) (xs.drop 1)) := Lib.hid rfl
  generalize xs.getD 0 0 = v0 at *
  go_enter Try.func57, Try.ntmps57
  go_wp2
  go_loop [3, 4] (fun m i => ∃ (k : Nat) (v : Int), k ≤ xs.length ∧ i = .int .i64 k ∧ m = .int .i64 v ∧ Hid (minL xs = minF v (xs.drop k))) (fun _ i => xs.length - (intOf i).toNat)
  case atStart => exact ⟨1, v0, h1, rfl, rfl, H0⟩
  case round =>
    obtain ⟨k, v, hk, rfl, rfl, H⟩ := hrel
    by_cases hlt : k < xs.length
    · obtain ⟨b, o, hA, hb, hcell⟩ := hr.at_ hlt
      injection hA with hA
      injection hA with e1 e2
      subst e1 e2
      have E := Lib.hid (minF_go v xs k hlt)
      generalize xs.getD k 0 = y at *
      go_wp2
      go_round
      case rel => exact ⟨k + 1, _, by omega, by go_num, rfl, Lib.hid (by rw [H.out, E.out])⟩
      case measure => simp [intOf]; omega
    · go_wp2
      go_ret
      exact ⟨ret_int (by rw [H.out, minF_end _ _ _ hlt]), rfl⟩

end Go.Proofs.Ytiacfaeanlkalaa
