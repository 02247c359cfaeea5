/- The path of a ball: the model alone. -/
import Derived.Test.YtcnellnpnlcodaaBaY
import Derived.Test.YtcnellnpnlcodaaBaZ
set_option linter.unusedSimpArgs false
namespace Go.Proofs.Ytcnellnpnlcodaa
open Go.Conc Go.RowKit

theorem pathR_length (xs : List Int) (s : Int) : (pathR xs s).length ≤ 1048576 := by
  cases h : ballB xs s
  · rw [path_no h]; simp
  · rw [path_yes h]
    have := course_len (ballB_le h).1 s
    omega
set_option maxHeartbeats 1000000 in
theorem specPathB_any (A : Option Addr) (c : Nat) (xs : List Int) (s : Int) (B : Nat) (w : World) (hr : Rd w B A c xs) (hB : B ≤ w.heap.size) (hn : xs.length ≤ 1048576) :
    Calls Try.prog 13 #[.slice A xs.length c, .int .i64 s] w (Lists w (pathR xs s) (ballB xs s)) := by
  cases hb : ballB xs s
  · rw [path_no hb]
    have H := Lib.hid hb
    clear hb
    go_enter Try.func13, Try.ntmps13
    go_wp2_with fail
    refine (baStep_any A c xs s B w hr hn).mono ?_
    rintro e w' ⟨rfl, rfl⟩
    rw [H.out]
    go_wp2_with fail
    go_ret2
    exact ⟨_, rfl, OwnI.nil _ _, Below.refl _ _⟩
  · rw [path_yes hb]
    have HP := Lib.hid (baPath_any A c xs s B w hr hB (ballB_le hb).1)
    have H := Lib.hid hb
    clear hb
    go_enter Try.func13, Try.ntmps13
    go_wp2_with fail
    refine (baStep_any A c xs s B w hr hn).mono ?_
    rintro e w' ⟨rfl, rfl⟩
    rw [H.out]
    go_wp2_with fail
    refine HP.out.mono ?_
    rintro e w1 ⟨pv, rfl, hown, hb1⟩
    go_wp2_with fail
    go_ret2
    exact ⟨_, rfl, hown, hb1⟩

end Go.Proofs.Ytcnellnpnlcodaa
