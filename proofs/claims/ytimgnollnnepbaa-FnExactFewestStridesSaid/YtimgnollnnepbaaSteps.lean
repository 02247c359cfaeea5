/- Contracts: stairs and a climb of them, on the model's side; how long a climb is. -/
import Derived.Test.YtimgnollnnepbaaPush
namespace Go.Proofs.Ytimgnollnnepbaa
open Go.RowKit

set_option maxHeartbeats 400000 in
theorem clBoth_any (st : Int) (A A' Z : Option Addr) (c c' d : Nat) (ss bs xs : List Int) (B : Nat) (w : World) (h : St w B st A A' c c' ss bs) (hB : B ≤ w.heap.size) (hx : Rd w B Z d xs) (hn : xs.length ≤ 1048576) :
    Calls Try.prog 45 #[stv st A A' c c' ss bs, .slice Z xs.length d] w fun e w' => e = .returned (.bool (goodB st ss bs && climbB st ss bs 0 xs)) ∧ Below w.heap.size w w' := by
  have X0 : Blk (w.alloc (.cells #[.int .i64 st, .slice A ss.length c, .slice A' bs.length c'] 28)) w.heap.size 28 #[.int .i64 st, .slice A ss.length c, .slice A' bs.length c'] := Blk.new _ _ _
  have h1 := h.alloc hB
  cases hg : goodB st ss bs
  · rw [Bool.false_and]
    go_enter Try.func45, Try.ntmps45
    go_wp2_with fail
    refine (clGood_any _ _ _ _ _ _ _ B _ (h1 _) (by simp; omega)).mono ?_
    rintro e w1 ⟨rfl, hb⟩
    rw [hg]
    go_wp2_with fail
    go_ret
    exact ⟨rfl, (below_alloc _ _).trans (hb.mono (by simp))⟩
  · rw [Bool.true_and]
    have G := good_of hg
    have HG := Lib.hid hg
    clear hg
    go_enter Try.func45, Try.ntmps45
    go_wp2_with fail
    refine (clGood_any _ _ _ _ _ _ _ B _ (h1 _) (by simp; omega)).mono ?_
    rintro e w1 ⟨rfl, hb⟩
    rw [HG.out]
    have X1 := X0.below hb (by simp)
    have B1 : Below w.heap.size w w1 := (below_alloc _ _).trans (hb.mono (by simp))
    have hz : w.heap.size < w1.heap.size := by have := hb.size; simp at this; omega
    obtain ⟨p0, p1, p2⟩ := X1.three
    clear hb
    go_wp2_with fail
    refine (clIs_any _ _ _ _ _ _ _ _ _ _ B _ (h.below B1 hB) (by omega) (hx.below B1 hB) hn G).mono ?_
    rintro e w2 ⟨rfl, hb⟩
    go_wp2_with fail
    go_ret
    exact ⟨rfl, B1.trans (hb.mono (by omega))⟩

/-- the steps, if b holds -/
def stepsF (b : Bool) (xs : List Int) : List Int := if b = true then sumsL 0 xs else []
theorem stepsF_true (xs : List Int) : stepsF true xs = sumsL 0 xs := rfl
theorem stepsF_false (xs : List Int) : stepsF false xs = [] := rfl

/-- a climb has at most as many strides as there are steps -/
theorem climb_len (st : Int) (ss bs : List Int) (hs : ∀ x ∈ ss, 1 ≤ x ∧ x ≤ 9) : ∀ (v : Int) (xs : List Int), climbB st ss bs v xs = true → v ≤ st → (xs.length : Int) ≤ st - v
  | v, [], _, h => by simp; omega
  | v, x :: r, h, _ => by
    simp only [climbB, Bool.and_eq_true] at h
    have h2 := stand_le h.2.1
    have := climb_len st ss bs hs (v + x) r h.2.2 h2.2
    have := hs x (mem_of_hasB h.1)
    simp; omega

end Go.Proofs.Ytimgnollnnepbaa
