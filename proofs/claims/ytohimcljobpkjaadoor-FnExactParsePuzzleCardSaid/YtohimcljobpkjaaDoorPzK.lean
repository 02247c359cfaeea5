/- Contracts: what is a clue, what is a puzzle, on both sides. -/
import Derived.Test.YtohimcljobpkjaaDoorPzP
import Derived.RegionTactic
import Derived.BigRegion
namespace Go.Proofs.YtohimcljobpkjaaDoor
open Go.RowKit
set_option maxRecDepth 100000

theorem bool_iff {a b : Bool} (h : a = true ↔ b = true) : a = b := by cases a <;> cases b <;> simp_all
theorem clueB_2 (a b : Int) : clueB 2 a b = (inB a 1 3 && inB b 0 1) := by
  apply bool_iff; simp [clueB, inB]; omega
theorem clueB_3 (a b : Int) : clueB 3 a b = (inB a 1 7 && inB b 0 1) := by
  apply bool_iff; simp [clueB, inB]; omega
theorem clueB_x {k : Int} (h2 : ¬ k = 2) (h3 : ¬ k = 3) (a b : Int) : clueB k a b = (inB k 0 5 && (inB a 0 0 && inB b 0 60)) := by
  apply bool_iff; simp [clueB, inB, h2, h3]; omega

set_option maxHeartbeats 400000 in
theorem isWithin_any (n lo hi : Int) (w : World) :
    Calls Tryd.prog 63 #[.int .i64 n, .int .i64 lo, .int .i64 hi] w fun e w' => e = .returned (.bool (inB n lo hi)) ∧ w = w' := by
  by_cases h1 : lo ≤ n
  · by_cases h2 : n ≤ hi
    · rw [inB_yes h1 h2]
      go_enter Tryd.func63, Tryd.ntmps63
      go_wp2
      go_ret
      exact ⟨rfl, rfl⟩
    · rw [inB_no (.inr (by omega))]
      go_enter Tryd.func63, Tryd.ntmps63
      go_wp2
      go_ret
      exact ⟨rfl, rfl⟩
  · rw [inB_no (.inl (by omega))]
    go_enter Tryd.func63, Tryd.ntmps63
    go_wp2
    go_ret
    exact ⟨rfl, rfl⟩

set_option maxHeartbeats 2000000 in
theorem pzClue_any (k a b : Int) (w : World) :
    Calls Tryd.prog 27 #[.agg #[.int .i64 k, .int .i64 a, .int .i64 b]] w fun e w' => e = .returned (.bool (clueB k a b)) ∧ Below w.heap.size w w' := by
  have hL := Lib.hid (fun n lo hi u => l1In_any n lo hi u)
  cases hb : inB b 0 60
  · rw [show clueB k a b = false by simp [clueB, hb]]
    have HB := Lib.hid hb
    clear hb
    go_enter Tryd.func27, Tryd.ntmps27
    go_wp2_with fail
    refine (l1In_any _ _ _ _).mono ?_
    rintro e w1 ⟨rfl, rfl⟩
    rw [HB.out]
    go_wp2_with fail
    go_ret
    exact ⟨rfl, below_alloc _ _⟩
  · have HB := Lib.hid hb
    have e0 : ∀ x : Int, (x = 0 ∨ x = 1 ∨ x = 4 ∨ x = 5) → clueB x a b = decide (a = 0) := fun x hx => by simp [clueB, hb, hx]
    have e2 : clueB 2 a b = (inB a 1 3 && decide (b < 2)) := by simp [clueB, hb]
    have e3 : clueB 3 a b = (inB a 1 7 && decide (b < 2)) := by simp [clueB, hb]
    have e4 : (¬ k = 0) → (¬ k = 1) → (¬ k = 4) → (¬ k = 5) → (¬ k = 2) → (¬ k = 3) → clueB k a b = false := fun h0 h1 h4 h5 h2 h3 => by simp [clueB, h0, h1, h2, h3, h4, h5]
    have E0 := Lib.hid e0
    have E2 := Lib.hid e2
    have E3 := Lib.hid e3
    have E4 := Lib.hid e4
    clear e0 e2 e3 e4 hb
    by_cases k0 : k = 0
    · subst k0
      rw [E0.out _ (.inl rfl)]
      go_enter Tryd.func27, Tryd.ntmps27
      go_wp2_with fail
      refine (l1In_any _ _ _ _).mono ?_
      rintro e w1 ⟨rfl, rfl⟩
      rw [HB.out]
      go_wp2_with fail
      go_ret
      exact ⟨rfl, below_alloc _ _⟩
    by_cases k1 : k = 1
    · subst k1
      rw [E0.out _ (.inr (.inl rfl))]
      go_enter Tryd.func27, Tryd.ntmps27
      go_wp2_with fail
      refine (l1In_any _ _ _ _).mono ?_
      rintro e w1 ⟨rfl, rfl⟩
      rw [HB.out]
      go_wp2_with fail
      go_ret
      exact ⟨rfl, below_alloc _ _⟩
    by_cases k4 : k = 4
    · subst k4
      rw [E0.out _ (.inr (.inr (.inl rfl)))]
      go_enter Tryd.func27, Tryd.ntmps27
      go_wp2_with fail
      refine (l1In_any _ _ _ _).mono ?_
      rintro e w1 ⟨rfl, rfl⟩
      rw [HB.out]
      go_wp2_with fail
      go_ret
      exact ⟨rfl, below_alloc _ _⟩
    by_cases k5 : k = 5
    · subst k5
      rw [E0.out _ (.inr (.inr (.inr rfl)))]
      go_enter Tryd.func27, Tryd.ntmps27
      go_wp2_with fail
      refine (l1In_any _ _ _ _).mono ?_
      rintro e w1 ⟨rfl, rfl⟩
      rw [HB.out]
      go_wp2_with fail
      go_ret
      exact ⟨rfl, below_alloc _ _⟩
    by_cases k2 : k = 2
    · subst k2
      rw [E2.out]
      cases ha : inB a 1 3
      all_goals
        have HA := Lib.hid ha
        clear ha
        by_cases hb2 : b < 2
        all_goals
          go_enter Tryd.func27, Tryd.ntmps27
          go_wp2_with fail
          refine (l1In_any _ _ _ _).mono ?_
          rintro e w1 ⟨rfl, rfl⟩
          rw [HB.out]
          go_wp2_with fail
          refine (l1In_any _ _ _ _).mono ?_
          rintro e w1 ⟨rfl, rfl⟩
          rw [HA.out]
          go_wp2_with fail
          go_ret
          exact ⟨ret_bool (by simp [hb2]), below_alloc _ _⟩
    by_cases k3 : k = 3
    · subst k3
      rw [E3.out]
      cases ha : inB a 1 7
      all_goals
        have HA := Lib.hid ha
        clear ha
        by_cases hb2 : b < 2
        all_goals
          go_enter Tryd.func27, Tryd.ntmps27
          go_wp2_with fail
          refine (l1In_any _ _ _ _).mono ?_
          rintro e w1 ⟨rfl, rfl⟩
          rw [HB.out]
          go_wp2_with fail
          refine (l1In_any _ _ _ _).mono ?_
          rintro e w1 ⟨rfl, rfl⟩
          rw [HA.out]
          go_wp2_with fail
          go_ret
          exact ⟨ret_bool (by simp [hb2]), below_alloc _ _⟩
    · rw [E4.out k0 k1 k4 k5 k2 k3]
      go_enter Tryd.func27, Tryd.ntmps27
      go_wp2_with fail
      refine (l1In_any _ _ _ _).mono ?_
      rintro e w1 ⟨rfl, rfl⟩
      rw [HB.out]
      go_wp2_with fail
      go_ret
      exact ⟨rfl, below_alloc _ _⟩

set_option maxHeartbeats 2000000 in
theorem implClue_any (k a b : Int) (w : World) :
    Calls Tryd.prog 51 #[.agg #[.int .i64 k, .int .i64 a, .int .i64 b]] w fun e w' => e = .returned (.bool (clueB k a b)) ∧ Below w.heap.size w w' := by
  by_cases k2 : k = 2
  · subst k2
    rw [clueB_2]
    cases ha : inB a 1 3 <;> cases hb : inB b 0 1
    all_goals
      have HA := Lib.hid ha
      have HB := Lib.hid hb
      clear ha hb
      have HK := Lib.hid (show inB 2 0 5 = true by decide)
      go_enter Tryd.func51, Tryd.ntmps51
      go_wp2_with fail
      refine (isWithin_any _ _ _ _).mono ?_
      rintro e w1 ⟨rfl, rfl⟩
      rw [HK.out]
      go_wp2_with fail
      refine (isWithin_any _ _ _ _).mono ?_
      rintro e w1 ⟨rfl, rfl⟩
      rw [HA.out]
      go_wp2_with (refine (isWithin_any _ _ _ _).mono ?_; rintro e w1 ⟨rfl, rfl⟩; rw [HB.out])
      go_ret
      exact ⟨rfl, below_alloc _ _⟩
  by_cases k3 : k = 3
  · subst k3
    rw [clueB_3]
    cases ha : inB a 1 7 <;> cases hb : inB b 0 1
    all_goals
      have HA := Lib.hid ha
      have HB := Lib.hid hb
      clear ha hb
      have HK := Lib.hid (show inB 3 0 5 = true by decide)
      go_enter Tryd.func51, Tryd.ntmps51
      go_wp2_with fail
      refine (isWithin_any _ _ _ _).mono ?_
      rintro e w1 ⟨rfl, rfl⟩
      rw [HK.out]
      go_wp2_with fail
      refine (isWithin_any _ _ _ _).mono ?_
      rintro e w1 ⟨rfl, rfl⟩
      rw [HA.out]
      go_wp2_with (refine (isWithin_any _ _ _ _).mono ?_; rintro e w1 ⟨rfl, rfl⟩; rw [HB.out])
      go_ret
      exact ⟨rfl, below_alloc _ _⟩
  · rw [clueB_x k2 k3]
    cases hk : inB k 0 5
    · have HK := Lib.hid hk
      clear hk
      rw [Bool.false_and]
      go_enter Tryd.func51, Tryd.ntmps51
      go_wp2_with fail
      refine (isWithin_any _ _ _ _).mono ?_
      rintro e w1 ⟨rfl, rfl⟩
      rw [HK.out]
      go_wp2_with fail
      go_ret
      exact ⟨rfl, below_alloc _ _⟩
    · cases ha : inB a 0 0 <;> cases hb : inB b 0 60
      all_goals
        have HK := Lib.hid hk
        have HA := Lib.hid ha
        have HB := Lib.hid hb
        go_enter Tryd.func51, Tryd.ntmps51
        clear hk ha hb
        go_wp2_with fail
        refine (isWithin_any _ _ _ _).mono ?_
        rintro e w1 ⟨rfl, rfl⟩
        rw [HK.out]
        go_wp2_with fail
        refine (isWithin_any _ _ _ _).mono ?_
        rintro e w1 ⟨rfl, rfl⟩
        rw [HA.out]
        go_wp2_with (refine (isWithin_any _ _ _ _).mono ?_; rintro e w1 ⟨rfl, rfl⟩; rw [HB.out])
        go_ret
        exact ⟨rfl, below_alloc _ _⟩

theorem puz_step {ps : List Tri} {k : Nat} (hk : k < ps.length) : (ps.take (k + 1)).all clB = ((ps.take k).all clB && clB (ps.getD k z3)) := by
  rw [List.take_succ_eq_append_getElem hk, List.all_append, show ps.getD k z3 = ps[k] by simp [List.getD_eq_getElem?_getD, hk]]
  simp
theorem puz_no {ps : List Tri} {k : Nat} (hk : k < ps.length) (h : clB (ps.getD k z3) = false) : puzB ps = false := by
  have : ps.all clB = false := by
    rw [Bool.eq_false_iff]
    intro ha
    have := List.all_eq_true.1 ha (ps.getD k z3) (by simp [List.getD_eq_getElem?_getD, hk])
    rw [h] at this
    cases this
  simp [puzB, this]

set_option maxHeartbeats 2000000 in
theorem pzGood_any (A : Option Addr) (c : Nat) (ps : List Tri) (B : Nat) (w : World) (hr : RdF w B A c ps) (hB : B ≤ w.heap.size) (hn : ps.length ≤ 1048576) :
    Calls Tryd.prog 15 #[pzv A ps.length c] w fun e w' => e = .returned (.bool (puzB ps)) ∧ Below w.heap.size w w' := by
  have X0 : Blk (w.alloc (.cells #[.slice A ps.length c] 30)) w.heap.size 30 #[.slice A ps.length c] := Blk.new _ _ _
  have p0 : (w.alloc (.cells #[.slice A ps.length c] 30)).cell? ⟨w.heap.size, 0, none⟩ = some (.slice A ps.length c) := X0.cell 0
  by_cases h6 : 6 < ps.length
  · rw [show puzB ps = false by simp [puzB, show ¬ ps.length ≤ 6 by omega]]
    clear X0
    go_enter Tryd.func15, Tryd.ntmps15
    go_wp2_with fail
    go_ret
    exact ⟨rfl, below_alloc _ _⟩
  · have HR := Lib.hid hr
    have HN := Lib.hid (fun k (hk : k < ps.length) => puz_no (ps := ps) hk)
    have HS := Lib.hid (fun k (hk : k < ps.length) => puz_step (ps := ps) hk)
    have HP := Lib.hid (show puzB ps = ps.all clB by simp [puzB, show ps.length ≤ 6 by omega])
    clear X0 hr
    generalize puzB ps = PB at *
    go_enter Tryd.func15, Tryd.ntmps15
    go_wp2_with fail
    go_loopw [12] (fun i wr => ∃ k : Nat, k ≤ ps.length ∧ i = .int .i64 k ∧ Hid ((ps.take k).all clB = true) ∧ Below w.heap.size w wr) (fun i _ => ps.length - (intOf i).toNat)
    case atStart => exact ⟨0, Nat.zero_le _, rfl, by simp [Hid], below_alloc _ _⟩
    case round =>
      obtain ⟨k, hk, rfl, HA, hbw⟩ := hrel
      have hz : w.heap.size ≤ wr.heap.size := hbw.size
      by_cases hlt : k < ps.length
      · obtain ⟨g, o, rfl, hg, a0, a1, a2⟩ := (HR.out.below hbw hB).2 k hlt
        have HC := Lib.hid (show clB (ps.getD k z3) = clueB (ps.getD k (0, 0, 0)).1 (ps.getD k (0, 0, 0)).2.1 (ps.getD k (0, 0, 0)).2.2 from rfl)
        have HS1 := Lib.hid (HS.out k hlt)
        have HN1 := Lib.hid (HN.out k hlt)
        generalize clB (ps.getD k z3) = CB at *
        generalize (ps.getD k (0, 0, 0)).1 = x at *
        generalize (ps.getD k (0, 0, 0)).2.1 = y at *
        generalize (ps.getD k (0, 0, 0)).2.2 = z at *
        go_wp2_with fail
        refine (pzClue_any _ _ _ _).mono ?_
        rintro e w1 ⟨rfl, hb1⟩
        rw [← HC.out]
        cases CB
        · have HF := Lib.hid (HN1.out rfl)
          go_wp2_with fail
          go_ret
          exact ⟨ret_bool HF.out.symm, (hbw.trans ((below_alloc wr _).mono hz)).trans (hb1.mono (by simp; omega))⟩
        · go_wp2_with fail
          go_roundw
          case rel => exact ⟨k + 1, by omega, by go_num, by show _ = true; rw [HS1.out, HA.out]; rfl, (hbw.trans ((below_alloc wr _).mono hz)).trans (hb1.mono (by simp; omega))⟩
          case measure => simp [intOf]; omega
      · obtain rfl : k = ps.length := by omega
        have HT := Lib.hid (show PB = true by rw [HP.out]; simpa using HA.out)
        go_wp2_with fail
        go_ret
        exact ⟨ret_bool HT.out.symm, hbw⟩

end Go.Proofs.YtohimcljobpkjaaDoor
