/- Contracts: copies and comparisons of stairs. -/
import Derived.Test.YtehffiaobjlpoaaGood
namespace Go.Proofs.Ytehffiaobjlpoaa
set_option maxRecDepth 100000
open Go.RowKit

/-- WHAT A COPY OF STAIRS LEAVES: a value over two new blocks of its own, known whole. -/
def Copied (w : World) (st : Int) (ss bs : List Int) (e : Ending) (w' : World) : Prop :=
  ∃ g g', e = .returned (stv st (some ⟨g, 0, none⟩) (some ⟨g', 0, none⟩) ss.length bs.length ss bs) ∧ w.heap.size ≤ g ∧ g < g' ∧ Blk w' g 3 (ints ss) ∧ Blk w' g' 3 (ints bs) ∧ Below w.heap.size w w'

set_option maxHeartbeats 800000 in
theorem toStairs_any (st : Int) (A A' : Option Addr) (c c' : Nat) (ss bs : List Int) (B : Nat) (w : World) (h : St w B st A A' c c' ss bs) (hB : B ≤ w.heap.size) :
    Calls Try.prog 26 #[stv st A A' c c' ss bs] w (Copied w st ss bs) := by
  go_enter Try.func26, Try.ntmps26
  go_wp2_with fail
  refine (toIntS_any _ _ ss B _ ?_ ?_ h.ns).mono ?_
  · exact (((h.alloc hB _).alloc (by simp; omega) _).alloc (by simp; omega) _).rs
  · simp; omega
  rintro e w1 ⟨rfl, rfl⟩
  go_wp2_with fail
  refine (toIntS_any _ _ bs B _ ?_ ?_ h.nb).mono ?_
  · exact ((((h.alloc hB _).alloc (by simp; omega) _).alloc (by simp; omega) _).alloc (by simp; omega) _).rb
  · simp; omega
  rintro e w1 ⟨rfl, rfl⟩
  go_wp2_with fail
  refine bodyPost_ret (v := stv st (some ⟨w.heap.size + 3, 0, none⟩) (some ⟨w.heap.size + 4, 0, none⟩) ss.length bs.length ss bs) (by simp [results, Try.results26, go_sem]) rfl ?_
  refine ⟨w.heap.size + 3, w.heap.size + 4, rfl, ?_, ?_, ?_, ?_, ?_⟩
  · omega
  · omega
  · exact (Blk.new' (by simp)).alloc _
  · exact Blk.new' (by simp)
  · exact (((((Below.refl _ _).alloc (Nat.le_refl _) _).alloc (by simp) _).alloc (by simp; omega) _).alloc (by simp; omega) _).alloc (by simp; omega) _

/-- two stairs are the same, as the law's own comparison decides it -/
def eqSt (st : Int) (ss bs : List Int) (st' : Int) (ss' bs' : List Int) : Bool := decide (st = st') && (eqB ss ss' && eqB bs bs')
theorem eqSt_self (st : Int) (ss bs : List Int) : eqSt st ss bs st ss bs = true := by simp [eqSt, eqB_self]

theorem Below.drewN' {B : Nat} {a w : World} (h : Below B a w) (n : Nat) : Below B a (w.drewN n) := ⟨h.os, h.tape, h.output, h.size, h.block⟩

set_option maxHeartbeats 800000 in
theorem eqStairs_any (st st' : Int) (A A' D D' : Option Addr) (c c' d d' : Nat) (ss bs ss' bs' : List Int) (B : Nat) (w : World) (h : St w B st A A' c c' ss bs) (k : St w B st' D D' d d' ss' bs') (hB : B ≤ w.heap.size) :
    Calls Try.prog 28 #[stv st A A' c c' ss bs, stv st' D D' d d' ss' bs'] w fun e w' => e = .returned (.bool (eqSt st ss bs st' ss' bs')) ∧ Below w.heap.size w w' := by
  by_cases h1 : st = st'
  · subst h1
    cases h2 : eqB ss ss'
    · rw [show eqSt st ss bs st ss' bs' = false by simp [eqSt, h2]]
      go_enter Try.func28, Try.ntmps28
      go_wp2_with fail
      refine (eqIntS_any _ _ _ _ _ _ B _ ?_ ?_ h.ns).mono ?_
      · exact ((h.alloc hB _).alloc (by simp; omega) _).rs
      · exact ((k.alloc hB _).alloc (by simp; omega) _).rs
      rintro e w1 ⟨rfl, n, rfl⟩
      go_wp2_with fail
      go_ret
      exact ⟨rfl, Below.drewN' (((Below.refl _ _).alloc (Nat.le_refl _) _).alloc (by simp) _) _⟩
    · rw [show eqSt st ss bs st ss' bs' = eqB bs bs' by simp [eqSt, h2]]
      cases h3 : eqB bs bs'
      all_goals
        go_enter Try.func28, Try.ntmps28
        go_wp2_with fail
        refine (eqIntS_any _ _ _ _ _ _ B _ ?_ ?_ h.ns).mono ?_
        · exact ((h.alloc hB _).alloc (by simp; omega) _).rs
        · exact ((k.alloc hB _).alloc (by simp; omega) _).rs
        rintro e w1 ⟨rfl, n, rfl⟩
        go_wp2_with fail
        refine (eqIntS_any _ _ _ _ _ _ B _ ?_ ?_ h.nb).mono ?_
        · exact ((h.alloc hB _).alloc (by simp; omega) _).rb
        · exact ((k.alloc hB _).alloc (by simp; omega) _).rb
        rintro e w1 ⟨rfl, n', rfl⟩
        go_wp2_with fail
        go_ret
        exact ⟨rfl, Below.drewN' (((Below.refl _ _).alloc (Nat.le_refl _) _).alloc (by simp) _) _⟩
  · rw [show eqSt st ss bs st' ss' bs' = false by simp [eqSt, h1]]
    go_enter Try.func28, Try.ntmps28
    go_wp2_with fail
    go_ret
    exact ⟨rfl, ((Below.refl _ _).alloc (Nat.le_refl _) _).alloc (by simp) _⟩

end Go.Proofs.Ytehffiaobjlpoaa
