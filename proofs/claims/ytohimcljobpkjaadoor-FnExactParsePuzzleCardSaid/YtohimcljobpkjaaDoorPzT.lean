/- Contracts: what stairs tell by a clue, hidden stairs, on both sides. -/
import Derived.Test.YtohimcljobpkjaaDoorPzK
import Derived.Test.YtohimcljobpkjaaDoorStCl
import Derived.Test.YtohimcljobpkjaaDoorStFewI
import Derived.Test.YtohimcljobpkjaaDoorStMost
namespace Go.Proofs.YtohimcljobpkjaaDoor
open Go.RowKit
set_option maxRecDepth 100000

theorem toldV_0 (a st : Int) (ss bs : List Int) : toldV 0 a st ss bs = countN st ss bs := rfl
theorem toldV_1 (a st : Int) (ss bs : List Int) : toldV 1 a st ss bs = strV false st ss bs := rfl
theorem toldV_2 (a st : Int) (ss bs : List Int) : toldV 2 a st ss bs = oneI (hasB ss a) := rfl
theorem toldV_3 (a st : Int) (ss bs : List Int) : toldV 3 a st ss bs = oneI (hasB bs a) := rfl
theorem toldV_4 (a st : Int) (ss bs : List Int) : toldV 4 a st ss bs = st := rfl
theorem toldV_5 (a st : Int) (ss bs : List Int) : toldV 5 a st ss bs = strV true st ss bs := rfl
theorem toldV_x {k : Int} (h0 : ¬ k = 0) (h1 : ¬ k = 1) (h2 : ¬ k = 2) (h3 : ¬ k = 3) (h4 : ¬ k = 4) (h5 : ¬ k = 5) (a st : Int) (ss bs : List Int) : toldV k a st ss bs = 0 := by simp [toldV, h0, h1, h2, h3, h4, h5]

set_option maxHeartbeats 400000 in
theorem oneIf_any (b : Bool) (w : World) : Calls Tryd.prog 67 #[.bool b] w fun e w' => e = .returned (.int .i64 (oneI b)) ∧ w = w' := by
  cases b
  all_goals
    go_enter Tryd.func67, Tryd.ntmps67
    go_wp2
    go_ret
    exact ⟨rfl, rfl⟩

set_option maxHeartbeats 2000000 in
theorem toldBy_any (k a st : Int) (A A' : Option Addr) (c c' : Nat) (ss bs : List Int) (B : Nat) (w : World) (h : St w B st A A' c c' ss bs) (hB : B ≤ w.heap.size) :
    Calls Tryd.prog 52 #[stv st A A' c c' ss bs, .int .i64 k, .int .i64 a] w (Plain (.int .i64 (toldV k a st ss bs)) w) := by
  have h1 := h.alloc hB
  have hns := h.ns
  have hnb := h.nb
  by_cases k0 : k = 0
  · subst k0
    rw [toldV_0]
    go_enter Tryd.func52, Tryd.ntmps52
    go_wp2_with fail
    refine (implCount_any _ _ _ _ _ _ _ B _ (h1 _) (by simp; omega)).mono ?_
    rintro e w1 ⟨rfl, hb⟩
    go_wp2_with fail
    go_ret
    exact ⟨rfl, (below_alloc _ _).trans (hb.mono (by simp))⟩
  by_cases k1 : k = 1
  · subst k1
    rw [toldV_1]
    go_enter Tryd.func52, Tryd.ntmps52
    go_wp2_with fail
    refine (implFewest_any _ _ _ _ _ _ _ B _ (h1 _) (by simp; omega)).mono ?_
    rintro e w1 ⟨rfl, hb⟩
    go_wp2_with fail
    go_ret
    exact ⟨rfl, (below_alloc _ _).trans (hb.mono (by simp))⟩
  by_cases k5 : k = 5
  · subst k5
    rw [toldV_5]
    go_enter Tryd.func52, Tryd.ntmps52
    go_wp2_with fail
    refine (implMost_any _ _ _ _ _ _ _ B _ (h1 _) (by simp; omega)).mono ?_
    rintro e w1 ⟨rfl, hb⟩
    go_wp2_with fail
    go_ret
    exact ⟨rfl, (below_alloc _ _).trans (hb.mono (by simp))⟩
  by_cases k4 : k = 4
  · subst k4
    rw [toldV_4]
    go_enter Tryd.func52, Tryd.ntmps52
    go_wp2_with fail
    go_ret
    exact ⟨rfl, below_alloc _ _⟩
  by_cases k2 : k = 2
  · subst k2
    rw [toldV_2]
    go_enter Tryd.func52, Tryd.ntmps52
    go_wp2_with fail
    refine (contains_any _ _ _ _ _ _ (h1 _).rs hns).mono ?_
    rintro e w1 ⟨rfl, rfl⟩
    go_wp2_with fail
    refine (oneIf_any _ _).mono ?_
    rintro e w1 ⟨rfl, rfl⟩
    go_wp2_with fail
    go_ret
    exact ⟨rfl, below_alloc _ _⟩
  by_cases k3 : k = 3
  · subst k3
    rw [toldV_3]
    go_enter Tryd.func52, Tryd.ntmps52
    go_wp2_with fail
    refine (contains_any _ _ _ _ _ _ (h1 _).rb hnb).mono ?_
    rintro e w1 ⟨rfl, rfl⟩
    go_wp2_with fail
    refine (oneIf_any _ _).mono ?_
    rintro e w1 ⟨rfl, rfl⟩
    go_wp2_with fail
    go_ret
    exact ⟨rfl, below_alloc _ _⟩
  · rw [toldV_x k0 k1 k2 k3 k4 k5]
    go_enter Tryd.func52, Tryd.ntmps52
    go_wp2_with fail
    go_ret
    exact ⟨rfl, below_alloc _ _⟩

theorem hidB_le {st : Int} {ss bs : List Int} (h : hidB st ss bs = true) : goodB st ss bs = true ∧ st ≤ 7 := by
  simp only [hidB, Bool.and_eq_true, decide_eq_true_eq] at h
  exact ⟨h.1, h.2.1⟩
theorem hid_wS {st : Int} {ss bs : List Int} (h : hidB st ss bs = true) : wS st ss bs st.toNat ≤ 128 := by
  have h1 := hidB_le h
  have G := good_of h1.1
  have hw := W_le (brkS st bs) ss (fun s hs => (G.hs s hs).1) G.ps st.toNat
  have : (2 : Nat) ^ st.toNat ≤ 2 ^ 7 := Nat.pow_le_pow_right (by omega) (by omega)
  have h2 : (2 : Int) ^ st.toNat ≤ 2 ^ 7 := by exact_mod_cast this
  unfold wS
  have h3 : (2 : Int) ^ 7 = 128 := by decide
  omega
theorem hid_count {n : Nat} {ss bs : List Int} (h : hidB n ss bs = true) : countN (n : Int) ss bs = capI (wS n ss bs n) := by
  have h1 := hid_wS h
  have h2 := (hidB_le h).1
  rw [Int.toNat_natCast] at h1
  have hc : countB (n : Int) ss bs = true := by
    simp only [countB, h2, Bool.true_and, Int.toNat_natCast]
    exact decide_eq_true (by omega)
  rw [countN, if_pos hc, Int.toNat_natCast]
  exact (cap_same (by omega)).symm

theorem last_at {ss : List Int} (h : 1 ≤ ss.length) : ss.getLastD 0 = ss.getD (ss.length - 1) 0 := by
  cases ss with
  | nil => simp at h
  | cons x r => simp [List.getLastD, List.getLast_eq_getElem, List.getD_eq_getElem?_getD]

end Go.Proofs.YtohimcljobpkjaaDoor
