/- Contracts: the text of bears, on both sides. -/
import Derived.Test.YtfojcefbgdaelaaDoorTxList
import Derived.Test.YtfojcefbgdaelaaDoorWearGood
namespace Go.Proofs.YtfojcefbgdaelaaDoor
open Go.RowKit
set_option maxRecDepth 100000

theorem allB_at {lo hi : Int} : ∀ {xs : List Int}, allB lo hi xs = true → ∀ k, k < xs.length → lo ≤ xs.getD k 0 ∧ xs.getD k 0 ≤ hi
  | [], _, k, hk => absurd hk (by simp)
  | x :: r, h, k, hk => by
    simp only [allB, Bool.and_eq_true] at h
    cases k with
    | zero => simpa using inB_le h.1
    | succ k => simpa using allB_at h.2 k (by simpa using hk)
theorem bears_at {xs : List Int} (h : bearsB xs = true) : (1 ≤ xs.length ∧ xs.length ≤ 20) ∧ ∀ k, k < xs.length → 0 ≤ xs.getD k 0 ∧ xs.getD k 0 ≤ 1000000000 := by
  simp only [bearsB, Bool.and_eq_true] at h
  have h1 := inB_le h.1
  exact ⟨by omega, fun k hk => by have := allB_at h.2 k hk; omega⟩
def beS (xs : List Int) : ByteArray := lsS 45 xs xs.length
set_option maxHeartbeats 400000 in
theorem specBearsText_any (A : Option Addr) (c : Nat) (xs : List Int) (B : Nat) (w : World) (hr : Rd w B A c xs) (hB : B ≤ w.heap.size) (hn : xs.length ≤ 1048576) :
    Calls Tryd.prog 34 #[.slice A xs.length c] w fun e w' => e = .returned (.tuple #[.string (orS (bearsB xs) (beS xs)), .bool (bearsB xs)]) ∧ Below w.heap.size w w' := by
  cases g0 : bearsB xs
  · rw [orS_no]
    have H := Lib.hid g0
    clear g0
    go_enter Tryd.func34, Tryd.ntmps34
    go_wp2_with fail
    refine (weGood_any _ _ _ _ _ hr hn).mono ?_
    rintro e w' ⟨rfl, rfl⟩
    rw [H.out]
    go_wp2_with fail
    go_ret2
    exact ⟨rfl, Below.refl _ _⟩
  · rw [orS_yes]
    obtain ⟨hl, hx⟩ := bears_at g0
    have H := Lib.hid g0
    have HX := Lib.hid hx
    clear g0 hx
    go_enter Tryd.func34, Tryd.ntmps34
    go_wp2_with fail
    refine (weGood_any _ _ _ _ _ hr hn).mono ?_
    rintro e w' ⟨rfl, rfl⟩
    rw [H.out]
    go_wp2_with fail
    refine (weText_any _ _ _ xs _ _ rfl hr hB (by omega) HX.out).mono ?_
    rintro e w1 ⟨rfl, hb⟩
    go_wp2_with fail
    go_ret2
    exact ⟨rfl, hb⟩
set_option maxHeartbeats 400000 in
theorem implBearsText_any (A : Option Addr) (c : Nat) (xs : List Int) (B : Nat) (w : World) (hr : Rd w B A c xs) (hB : B ≤ w.heap.size) (hn : xs.length ≤ 1048576) (ht : TabI w) :
    Calls Tryd.prog 36 #[.slice A xs.length c] w fun e w' => e = .returned (.tuple #[.string (orS (bearsB xs) (beS xs)), .bool (bearsB xs)]) ∧ Below w.heap.size w w' := by
  cases g0 : bearsB xs
  · rw [orS_no]
    have H := Lib.hid g0
    clear g0
    go_enter Tryd.func36, Tryd.ntmps36
    go_wp2_with fail
    refine (impBears_any _ _ _ _ _ hr hn).mono ?_
    rintro e w' ⟨rfl, rfl⟩
    rw [H.out]
    go_wp2_with fail
    go_ret2
    exact ⟨rfl, Below.refl _ _⟩
  · rw [orS_yes]
    obtain ⟨hl, hx⟩ := bears_at g0
    have H := Lib.hid g0
    have HX := Lib.hid hx
    clear g0 hx
    go_enter Tryd.func36, Tryd.ntmps36
    go_wp2_with fail
    refine (impBears_any _ _ _ _ _ hr hn).mono ?_
    rintro e w' ⟨rfl, rfl⟩
    rw [H.out]
    go_wp2_with fail
    refine (numbersText_any _ _ _ xs 45 _ _ rfl hr hB (by omega) HX.out ht).mono ?_
    rintro e w1 ⟨rfl, hb⟩
    go_wp2_with fail
    go_ret2
    exact ⟨rfl, hb⟩

end Go.Proofs.YtfojcefbgdaelaaDoor
