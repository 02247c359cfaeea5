/- Contracts: the text of jumps, on both sides. -/
import Derived.Test.YtmnljccfcfdjmaaDoorTxInt
import Derived.Test.YtmnljccfcfdjmaaDoorBaB
namespace Go.Proofs.YtmnljccfcfdjmaaDoor
open Go.RowKit
set_option maxRecDepth 100000

theorem jumps_at {xs : List Int} (h : jumpsB xs = true) : (1 ≤ xs.length ∧ xs.length ≤ 30) ∧ ∀ k, k < xs.length → -1000000000 ≤ xs.getD k 0 ∧ xs.getD k 0 ≤ 1000000000 :=
  ⟨jumpsB_le h, fun k hk => by have := jumpsB_at h k hk; omega⟩
def juS (xs : List Int) : ByteArray := liS 44 xs xs.length
set_option maxHeartbeats 400000 in
theorem specJumpsText_any (A : Option Addr) (c : Nat) (xs : List Int) (B : Nat) (w : World) (hr : Rd w B A c xs) (hB : B ≤ w.heap.size) (hn : xs.length ≤ 1048576) :
    Calls Tryd.prog 5 #[.slice A xs.length c] w fun e w' => e = .returned (.tuple #[.string (orS (jumpsB xs) (juS xs)), .bool (jumpsB xs)]) ∧ Below w.heap.size w w' := by
  cases g0 : jumpsB xs
  · rw [orS_no]
    have H := Lib.hid g0
    clear g0
    go_enter Tryd.func5, Tryd.ntmps5
    go_wp2_with fail
    refine (baGood_any _ _ _ _ _ hr hn).mono ?_
    rintro e w' ⟨rfl, rfl⟩
    rw [H.out]
    go_wp2_with fail
    go_ret2
    exact ⟨rfl, Below.refl _ _⟩
  · rw [orS_yes]
    obtain ⟨hl, hx⟩ := jumps_at g0
    have H := Lib.hid g0
    have HX := Lib.hid hx
    clear g0 hx
    go_enter Tryd.func5, Tryd.ntmps5
    go_wp2_with fail
    refine (baGood_any _ _ _ _ _ hr hn).mono ?_
    rintro e w' ⟨rfl, rfl⟩
    rw [H.out]
    go_wp2_with fail
    refine (baText_any _ _ _ xs _ _ rfl hr hB (by omega) HX.out).mono ?_
    rintro e w1 ⟨rfl, hb⟩
    go_wp2_with fail
    go_ret2
    exact ⟨rfl, hb⟩
set_option maxHeartbeats 400000 in
theorem implJumpsText_any (A : Option Addr) (c : Nat) (xs : List Int) (B : Nat) (w : World) (hr : Rd w B A c xs) (hB : B ≤ w.heap.size) (hn : xs.length ≤ 1048576) (ht : TabI w) :
    Calls Tryd.prog 7 #[.slice A xs.length c] w fun e w' => e = .returned (.tuple #[.string (orS (jumpsB xs) (juS xs)), .bool (jumpsB xs)]) ∧ Below w.heap.size w w' := by
  cases g0 : jumpsB xs
  · rw [orS_no]
    have H := Lib.hid g0
    clear g0
    go_enter Tryd.func7, Tryd.ntmps7
    go_wp2_with fail
    refine (impJumps_any _ _ _ _ _ hr hn).mono ?_
    rintro e w' ⟨rfl, rfl⟩
    rw [H.out]
    go_wp2_with fail
    go_ret2
    exact ⟨rfl, Below.refl _ _⟩
  · rw [orS_yes]
    obtain ⟨hl, hx⟩ := jumps_at g0
    have H := Lib.hid g0
    have HX := Lib.hid hx
    clear g0 hx
    go_enter Tryd.func7, Tryd.ntmps7
    go_wp2_with fail
    refine (impJumps_any _ _ _ _ _ hr hn).mono ?_
    rintro e w' ⟨rfl, rfl⟩
    rw [H.out]
    go_wp2_with fail
    refine (numbersTextI_any _ _ _ xs 44 _ _ rfl hr hB (by omega) HX.out ht).mono ?_
    rintro e w1 ⟨rfl, hb⟩
    go_wp2_with fail
    go_ret2
    exact ⟨rfl, hb⟩

end Go.Proofs.YtmnljccfcfdjmaaDoor
