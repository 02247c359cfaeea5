/- Contracts: houses that are valid, on both sides. -/
import Derived.Test.YtenhlppijpmdgaaDoorGHouse
import Derived.Test.YtenhlppijpmdgaaDoorGAll
namespace Go.Proofs.YtenhlppijpmdgaaDoor
open Go.RowKit

/-- a house is valid -/
def goodH (ss bs : List Int) : Bool := inB bs.length 2 12 && (decide ((ss.length : Int) = (bs.length : Int) - 1) && (allB 1 40 ss && allB 0 20 bs))
theorem goodH_1 {ss bs : List Int} (h : inB bs.length 2 12 = false) : goodH ss bs = false := by simp [goodH, h]
theorem goodH_2 {ss bs : List Int} (h : ¬ (ss.length : Int) = (bs.length : Int) - 1) : goodH ss bs = false := by simp [goodH, h]
theorem goodH_3 {ss bs : List Int} (h : allB 1 40 ss = false) : goodH ss bs = false := by simp [goodH, h]
theorem goodH_4 {ss bs : List Int} (h : inB bs.length 2 12 = true) (h2 : (ss.length : Int) = (bs.length : Int) - 1) (h3 : allB 1 40 ss = true) : goodH ss bs = allB 0 20 bs := by simp [goodH, h, h2, h3]

set_option maxHeartbeats 800000 in
theorem ldGood_any (A A' : Option Addr) (c c' : Nat) (ss bs : List Int) (B : Nat) (w : World) (h : Ho w B A A' c c' ss bs) (hB : B ≤ w.heap.size) :
    Calls Tryd.prog 30 #[.agg #[.slice A ss.length c, .slice A' bs.length c']] w (Plain (.bool (goodH ss bs)) w) := by
  have h1 := h.alloc hB (.cells #[.slice A ss.length c, .slice A' bs.length c'] 38)
  have hns := h.ns
  have hnb := h.nb
  cases g1 : inB bs.length 2 12
  · rw [goodH_1 g1]
    go_enter Tryd.func30, Tryd.ntmps30
    go_wp2_with (go_at_call 39; refine (l1In_any _ _ _ _).mono ?_; rintro e w' ⟨rfl, rfl⟩; rw [g1])
    go_ret
    exact ⟨rfl, below_alloc _ _⟩
  · by_cases g2 : (ss.length : Int) = (bs.length : Int) - 1
    · cases g3 : allB 1 40 ss
      · rw [goodH_3 g3]
        have G2 := Lib.hid g2
        have g4 : (ss.length : Int) ≤ (bs.length : Int) - 1 := by omega
        have g5 : (bs.length : Int) - 1 ≤ ss.length := by omega
        clear g2
        go_enter Tryd.func30, Tryd.ntmps30
        go_wp2_with (first | (go_at_call 39; refine (l1In_any _ _ _ _).mono ?_; rintro e w' ⟨rfl, rfl⟩; rw [g1]) | (go_at_call 49; refine (l1All_any _ _ _ _ _ B _ h1.rs hns).mono ?_; rintro e w' ⟨rfl, rfl⟩; rw [g3]))
        go_ret
        exact ⟨rfl, below_alloc _ _⟩
      · rw [goodH_4 g1 g2 g3]
        have G2 := Lib.hid g2
        have g4 : (ss.length : Int) ≤ (bs.length : Int) - 1 := by omega
        have g5 : (bs.length : Int) - 1 ≤ ss.length := by omega
        clear g2
        go_enter Tryd.func30, Tryd.ntmps30
        go_wp2_with fail
        refine (l1In_any _ _ _ _).mono ?_
        rintro e w' ⟨rfl, rfl⟩
        rw [g1]
        go_wp2_with fail
        refine (l1All_any _ _ _ _ _ B _ h1.rs hns).mono ?_
        rintro e w' ⟨rfl, rfl⟩
        rw [g3]
        go_wp2_with fail
        refine (l1All_any _ _ _ _ _ B _ h1.rb hnb).mono ?_
        rintro e w' ⟨rfl, rfl⟩
        go_wp2_with fail
        go_ret
        exact ⟨rfl, below_alloc _ _⟩
    · rw [goodH_2 g2]
      go_enter Tryd.func30, Tryd.ntmps30
      go_wp2_with (go_at_call 39; refine (l1In_any _ _ _ _).mono ?_; rintro e w' ⟨rfl, rfl⟩; rw [g1])
      go_ret
      exact ⟨rfl, below_alloc _ _⟩

set_option maxHeartbeats 800000 in
theorem impHouse_any (A A' : Option Addr) (c c' : Nat) (ss bs : List Int) (B : Nat) (w : World) (h : Ho w B A A' c c' ss bs) (hB : B ≤ w.heap.size) :
    Calls Tryd.prog 33 #[.agg #[.slice A ss.length c, .slice A' bs.length c']] w (Plain (.bool (goodH ss bs)) w) := by
  have h1 := h.alloc hB (.cells #[.slice A ss.length c, .slice A' bs.length c'] 38)
  have hns := h.ns
  have hnb := h.nb
  cases g1 : inB bs.length 2 12
  · rw [goodH_1 g1]
    go_enter Tryd.func33, Tryd.ntmps33
    go_wp2_with (go_at_call 50; refine (isWithin_any _ _ _ _).mono ?_; rintro e w' ⟨rfl, rfl⟩; rw [g1])
    go_ret
    exact ⟨rfl, below_alloc _ _⟩
  · by_cases g2 : (ss.length : Int) = (bs.length : Int) - 1
    · cases g3 : allB 1 40 ss
      · rw [goodH_3 g3]
        have G2 := Lib.hid g2
        have g4 : (ss.length : Int) ≤ (bs.length : Int) - 1 := by omega
        have g5 : (bs.length : Int) - 1 ≤ ss.length := by omega
        clear g2
        go_enter Tryd.func33, Tryd.ntmps33
        go_wp2_with (first | (go_at_call 50; refine (isWithin_any _ _ _ _).mono ?_; rintro e w' ⟨rfl, rfl⟩; rw [g1]) | (go_at_call 51; refine (allWithin_any _ _ _ _ _ B _ h1.rs hns).mono ?_; rintro e w' ⟨rfl, rfl⟩; rw [g3]))
        go_ret
        exact ⟨rfl, below_alloc _ _⟩
      · rw [goodH_4 g1 g2 g3]
        have G2 := Lib.hid g2
        have g4 : (ss.length : Int) ≤ (bs.length : Int) - 1 := by omega
        have g5 : (bs.length : Int) - 1 ≤ ss.length := by omega
        clear g2
        go_enter Tryd.func33, Tryd.ntmps33
        go_wp2_with fail
        refine (isWithin_any _ _ _ _).mono ?_
        rintro e w' ⟨rfl, rfl⟩
        rw [g1]
        go_wp2_with fail
        refine (allWithin_any _ _ _ _ _ B _ h1.rs hns).mono ?_
        rintro e w' ⟨rfl, rfl⟩
        rw [g3]
        go_wp2_with fail
        refine (allWithin_any _ _ _ _ _ B _ h1.rb hnb).mono ?_
        rintro e w' ⟨rfl, rfl⟩
        go_wp2_with fail
        go_ret
        exact ⟨rfl, below_alloc _ _⟩
    · rw [goodH_2 g2]
      go_enter Tryd.func33, Tryd.ntmps33
      go_wp2_with (go_at_call 50; refine (isWithin_any _ _ _ _).mono ?_; rintro e w' ⟨rfl, rfl⟩; rw [g1])
      go_ret
      exact ⟨rfl, below_alloc _ _⟩

/-- what a valid house is -/
structure GoodH (ss bs : List Int) : Prop where
  n0 : 1 ≤ ss.length
  n1 : ss.length ≤ 11
  nb : bs.length = ss.length + 1
  hs : ∀ k, k < ss.length → 1 ≤ ss.getD k 0 ∧ ss.getD k 0 ≤ 40
  hb : ∀ k, k < bs.length → 0 ≤ bs.getD k 0 ∧ bs.getD k 0 ≤ 20
theorem goodH_of {ss bs : List Int} (h : goodH ss bs = true) : GoodH ss bs := by
  simp only [goodH, Bool.and_eq_true, decide_eq_true_eq] at h
  obtain ⟨h1, h2, h3, h4⟩ := h
  have := inB_le h1
  exact ⟨by omega, by omega, by omega, fun k hk => allB_at h3 hk, fun k hk => allB_at h4 hk⟩


end Go.Proofs.YtenhlppijpmdgaaDoor
