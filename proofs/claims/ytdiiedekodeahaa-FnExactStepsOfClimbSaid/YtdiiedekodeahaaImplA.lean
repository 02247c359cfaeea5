/- Contracts: the program's IsClimb and StepsOfClimb. -/
import Derived.Test.YtdiiedekodeahaaImplWalk
namespace Go.Proofs.Ytdiiedekodeahaa
open Go.RowKit

set_option maxHeartbeats 1000000 in
theorem implIs_any (st : Int) (A A' Z : Option Addr) (c c' d : Nat) (ss bs xs : List Int) (B : Nat) (w : World) (h : St w B st A A' c c' ss bs) (hB : B ≤ w.heap.size) (hx : Rd w B Z d xs) (hn : xs.length ≤ 1048576) :
    Calls Try.prog 16 #[stv st A A' c c' ss bs, .slice Z xs.length d] w fun e w' => e = .returned (.tuple #[.bool (goodB st ss bs && climbB st ss bs 0 xs), .bool (goodB st ss bs)]) ∧ Below w.heap.size w w' := by
  have X0 : Blk (w.alloc (.cells #[.int .i64 st, .slice A ss.length c, .slice A' bs.length c'] 27)) w.heap.size 27 #[.int .i64 st, .slice A ss.length c, .slice A' bs.length c'] := Blk.new _ _ _
  have h1 := h.alloc hB
  cases hg : goodB st ss bs
  · rw [Bool.false_and]
    go_enter Try.func16, Try.ntmps16
    go_wp2_with fail
    refine (implAre_any _ _ _ _ _ _ _ B _ (h1 _) (by simp; omega)).mono ?_
    rintro e w1 ⟨rfl, hb⟩
    rw [hg]
    go_wp2_with fail
    go_ret2
    exact ⟨rfl, (below_alloc _ _).trans (hb.mono (by simp))⟩
  · rw [Bool.true_and]
    have G := good_of hg
    have HG := Lib.hid hg
    clear hg
    go_enter Try.func16, Try.ntmps16
    go_wp2_with fail
    refine (implAre_any _ _ _ _ _ _ _ B _ (h1 _) (by simp; omega)).mono ?_
    rintro e w1 ⟨rfl, hb⟩
    rw [HG.out]
    have X1 := X0.below hb (by simp)
    have B1 : Below w.heap.size w w1 := (below_alloc _ _).trans (hb.mono (by simp))
    have hz : w.heap.size < w1.heap.size := by have := hb.size; simp at this; omega
    obtain ⟨p0, p1, p2⟩ := X1.three
    clear hb
    go_wp2_with fail
    refine (walk_any _ _ _ _ _ _ _ _ _ _ B _ (h.below B1 hB) (by omega) (hx.below B1 hB) hn G).mono ?_
    rintro e w2 ⟨v, rfl, ho, hb⟩
    go_wp2_with fail
    go_ret2
    exact ⟨rfl, B1.trans (hb.mono (by omega))⟩

set_option maxHeartbeats 1000000 in
theorem implSteps_any (st : Int) (A A' Z : Option Addr) (c c' d : Nat) (ss bs xs : List Int) (B : Nat) (w : World) (h : St w B st A A' c c' ss bs) (hB : B ≤ w.heap.size) (hx : Rd w B Z d xs) (hn : xs.length ≤ 1048576) :
    Calls Try.prog 19 #[stv st A A' c c' ss bs, .slice Z xs.length d] w (Lists w (stepsF (goodB st ss bs && climbB st ss bs 0 xs) xs) (goodB st ss bs && climbB st ss bs 0 xs)) := by
  have X0 : Blk (w.alloc (.cells #[.int .i64 st, .slice A ss.length c, .slice A' bs.length c'] 27)) w.heap.size 27 #[.int .i64 st, .slice A ss.length c, .slice A' bs.length c'] := Blk.new _ _ _
  have h1 := h.alloc hB
  cases hg : goodB st ss bs
  · rw [Bool.false_and, stepsF_false]
    go_enter Try.func19, Try.ntmps19
    go_wp2_with fail
    refine (implAre_any _ _ _ _ _ _ _ B _ (h1 _) (by simp; omega)).mono ?_
    rintro e w1 ⟨rfl, hb⟩
    rw [hg]
    go_wp2_with fail
    go_ret2
    exact ⟨_, rfl, OwnI.nil _ _, (below_alloc _ _).trans (hb.mono (by simp))⟩
  · rw [Bool.true_and]
    have G := good_of hg
    have HG := Lib.hid hg
    clear hg
    go_enter Try.func19, Try.ntmps19
    go_wp2_with fail
    refine (implAre_any _ _ _ _ _ _ _ B _ (h1 _) (by simp; omega)).mono ?_
    rintro e w1 ⟨rfl, hb⟩
    rw [HG.out]
    have X1 := X0.below hb (by simp)
    have B1 : Below w.heap.size w w1 := (below_alloc _ _).trans (hb.mono (by simp))
    have hz : w.heap.size < w1.heap.size := by have := hb.size; simp at this; omega
    obtain ⟨p0, p1, p2⟩ := X1.three
    clear hb
    go_wp2_with fail
    refine (walk_any _ _ _ _ _ _ _ _ _ _ B _ (h.below B1 hB) (by omega) (hx.below B1 hB) hn G).mono ?_
    rintro e w2 ⟨v, rfl, ho, hb⟩
    go_wp2_with fail
    go_ret2
    exact ⟨_, rfl, ho.mono (by omega), B1.trans (hb.mono (by omega))⟩

end Go.Proofs.Ytdiiedekodeahaa
