/- Contracts: how many climbs over bears there are, on both sides. -/
import Derived.Test.YtkfacfhneooaiaaWearWays
namespace Go.Proofs.Ytkfacfhneooaiaa
open Go.RowKit

def orI (v : Bool) (a : Int) : Int := if v then a else 0
theorem orI_no (a : Int) : orI false a = 0 := rfl
theorem orI_yes (a : Int) : orI true a = a := rfl
def wGround (xs : List Int) (r : Int) : Int := wX xs r.toNat (xs.length + 1)
theorem onL_zero (xs : List Int) (r : Nat) : (onL xs r).getD 0 0 = wX xs r (xs.length + 1) := by
  unfold onL; rw [tell_getD _ _ _ (by omega)]; rfl
theorem outL_zero {xs : List Int} {r : Nat} : (outL xs r).getD 0 0 = wX xs r (xs.length + 1) := by
  unfold outL; rw [tell_getD _ _ _ (by omega), if_neg (by omega), wX_ground]; rfl
theorem allB_at {lo hi : Int} : ∀ {xs : List Int}, allB lo hi xs = true → ∀ b, b < xs.length → lo ≤ xs.getD b 0 ∧ xs.getD b 0 ≤ hi
  | [], _, b, h => by simp at h
  | x :: xs, ha, 0, _ => by
    simp only [allB, Bool.and_eq_true] at ha
    simpa using inB_le ha.1
  | x :: xs, ha, b + 1, h => by
    simp only [allB, Bool.and_eq_true] at ha
    simpa using allB_at ha.2 b (by simpa using h)
theorem bears_at {xs : List Int} (h : bearsB xs = true) (b : Nat) (hb : b < xs.length) : 0 ≤ xs.getD b 0 ∧ xs.getD b 0 ≤ 100 := by
  simp only [bearsB, Bool.and_eq_true] at h
  exact allB_at h.2 b hb

set_option maxHeartbeats 400000 in
theorem specCountW_any (A : Option Addr) (c : Nat) (xs : List Int) (n : Int) (B : Nat) (w : World) (hr : Rd w B A c xs) (hB : B ≤ w.heap.size) (hn : xs.length ≤ 1048576) :
    Calls Try.prog 41 #[.slice A xs.length c, .int .i64 n] w (Plain (.tuple #[.int .i64 (orI (reachB xs n) (wGround xs n)), .bool (reachB xs n)]) w) := by
  cases h : reachB xs n
  · rw [orI_no]
    have H := Lib.hid h
    clear h
    go_enter Try.func41, Try.ntmps41
    go_wp2_with fail
    refine (weReach_any _ _ _ _ _ _ hr hn).mono ?_
    rintro e w' ⟨rfl, rfl⟩
    rw [H.out]
    go_wp2_with fail
    go_ret2
    exact ⟨rfl, Below.refl _ _⟩
  · have hp := reachB_le h
    obtain ⟨r, rfl⟩ : ∃ r : Nat, n = (r : Int) := ⟨n.toNat, by omega⟩
    have bd := wX_bd xs r (d := xs.length + 1) (by omega)
    rw [orI_yes, show wGround xs (r : Int) = wX xs r (xs.length + 1) by simp [wGround]]
    have E := Lib.hid (outL_zero (xs := xs) (r := r))
    have H := Lib.hid h
    have HP := Lib.hid (fun b hb => (bears_at hp.1 b hb).1)
    clear h
    generalize wX xs r (xs.length + 1) = v at *
    go_enter Try.func41, Try.ntmps41
    go_wp2_with fail
    refine (weReach_any _ _ _ _ _ _ hr hn).mono ?_
    rintro e w' ⟨rfl, rfl⟩
    rw [H.out]
    go_wp2_with fail
    refine (weWays_any _ _ _ _ _ _ hr hB (by omega) (by omega) (by omega) (by omega) HP.out).mono ?_
    rintro e w1 ⟨g, rfl, hg, hblk, hb⟩
    have k := hblk.int_at (k := 0) (by unfold outL; rw [tell_length]; omega)
    rw [E.out] at k
    go_wp2_with fail
    go_ret2
    exact ⟨rfl, hb⟩

set_option maxHeartbeats 400000 in
theorem impCountW_any (A : Option Addr) (c : Nat) (xs : List Int) (n : Int) (B : Nat) (w : World) (hr : Rd w B A c xs) (hB : B ≤ w.heap.size) (hn : xs.length ≤ 1048576) :
    Calls Try.prog 42 #[.slice A xs.length c, .int .i64 n] w (Plain (.tuple #[.int .i64 (orI (reachB xs n) (wGround xs n)), .bool (reachB xs n)]) w) := by
  cases h : reachB xs n
  · rw [orI_no]
    have H := Lib.hid h
    clear h
    go_enter Try.func42, Try.ntmps42
    go_wp2_with fail
    refine (canWear_any _ _ _ _ _ _ hr hn).mono ?_
    rintro e w' ⟨rfl, rfl⟩
    rw [H.out]
    go_wp2_with fail
    go_ret2
    exact ⟨rfl, Below.refl _ _⟩
  · have hp := reachB_le h
    obtain ⟨r, rfl⟩ : ∃ r : Nat, n = (r : Int) := ⟨n.toNat, by omega⟩
    have bd := wX_bd xs r (d := xs.length + 1) (by omega)
    rw [orI_yes, show wGround xs (r : Int) = wX xs r (xs.length + 1) by simp [wGround]]
    have E := Lib.hid (onL_zero xs r)
    have H := Lib.hid h
    clear h
    generalize wX xs r (xs.length + 1) = v at *
    go_enter Try.func42, Try.ntmps42
    go_wp2_with fail
    refine (canWear_any _ _ _ _ _ _ hr hn).mono ?_
    rintro e w' ⟨rfl, rfl⟩
    rw [H.out]
    go_wp2_with fail
    refine (waysOn_any _ _ _ _ _ _ hr hB (by omega) (by omega) (by omega) (by omega)).mono ?_
    rintro e w1 ⟨g, rfl, hg, hblk, hb⟩
    have k := hblk.int_at (k := 0) (by unfold onL; rw [tell_length]; omega)
    rw [E.out] at k
    go_wp2_with fail
    go_ret2
    exact ⟨rfl, hb⟩

end Go.Proofs.Ytkfacfhneooaiaa
