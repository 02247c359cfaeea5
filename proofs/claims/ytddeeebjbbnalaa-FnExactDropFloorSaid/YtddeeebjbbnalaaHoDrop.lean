/- Contracts: a house without its last floor, on both sides. -/
import Derived.Test.YtddeeebjbbnalaaHoNew
import Derived.Test.YtddeeebjbbnalaaGOwn
import Derived.Deep.DeepCutAuto
import Derived.Deep.RegionHeld3
import Derived.RegionTactic
import Derived.BigRegion
import Derived.ChangeAlike
namespace Go.Proofs.Ytddeeebjbbnalaa
open Go.RowKit

def dropB (ss bs : List Int) : Bool := goodH ss bs && !decide (ss.length = 1)
def dropU (ss bs : List Int) : List Int := if dropB ss bs then ss.take (ss.length - 1) else []
def dropV (ss bs : List Int) : List Int := if dropB ss bs then bs.take ss.length else []
theorem dropU_length (ss bs : List Int) : (dropU ss bs).length ≤ 1048576 := by
  unfold dropU
  split
  · next h =>
    simp only [dropB, Bool.and_eq_true] at h
    have := (goodH_of h.1).n1
    simp
    omega
  · simp
theorem dropV_length (ss bs : List Int) : (dropV ss bs).length ≤ 1048576 := by
  unfold dropV
  split
  · next h =>
    simp only [dropB, Bool.and_eq_true] at h
    have := (goodH_of h.1).n1
    simp
    omega
  · simp
theorem allB_take (lo hi : Int) : ∀ (xs : List Int) (k : Nat), allB lo hi xs = true → allB lo hi (xs.take k) = true
  | [], k, _ => by simp [allB]
  | x :: r, 0, _ => rfl
  | x :: r, k + 1, h => by
    simp only [allB, Bool.and_eq_true] at h
    simp only [List.take_succ_cons, allB, Bool.and_eq_true]
    exact ⟨h.1, allB_take lo hi r k h.2⟩
theorem drop_good {ss bs : List Int} (g : goodH ss bs = true) : goodH (ss.take (ss.length - 1)) (bs.take ss.length) = !decide (ss.length = 1) := by
  have G := goodH_of g
  have h1 := G.n0
  have h2 := G.n1
  have h3 := G.nb
  simp only [goodH, Bool.and_eq_true, decide_eq_true_eq] at g
  obtain ⟨_, _, g3, g4⟩ := g
  have l1 : (ss.take (ss.length - 1)).length = ss.length - 1 := by simp
  have l2 : (bs.take ss.length).length = ss.length := by simp; omega
  simp only [goodH, l1, l2, allB_take _ _ _ _ g3, allB_take _ _ _ _ g4, Bool.and_true]
  by_cases h : ss.length = 1
  · rw [inB_no (by omega)]; simp [h]
  · rw [inB_yes (by omega) (by omega), decide_eq_true (by omega)]; simp [h]
theorem l1OwnN_any (A : Option Addr) (n c : Nat) (xs : List Int) (B : Nat) (w : World) (hl : n = xs.length) (hr : Rd w B A c xs) (hB : B ≤ w.heap.size) (hn : xs.length ≤ 1048576) :
    Calls Try.prog 67 #[.slice A n c] w fun e w' => ∃ A1 c1, e = .returned (.slice A1 n c1) ∧ OwnI w' w.heap.size (.slice A1 n c1) xs ∧ Below w.heap.size w w' := by
  subst hl
  refine (l1Own_any A c xs B w hr hB hn).mono ?_
  rintro e w' ⟨v, rfl, hv, hb⟩
  obtain ⟨A1, c1, rfl, _⟩ := hv.form
  exact ⟨A1, c1, rfl, hv, hb⟩
theorem keepR {w : World} {g g' : Nat} {t : TypeId} {v0 v1 : Value} (h : Blk w g t #[v0, v1]) (hne : g ≠ g') (u0 u1 : Value) :
    ((w.setCell ⟨g', 0, none⟩ u0).setCell ⟨g', 1, none⟩ u1).cell? ⟨g, 0, none⟩ = some v0 ∧ ((w.setCell ⟨g', 0, none⟩ u0).setCell ⟨g', 1, none⟩ u1).cell? ⟨g, 1, none⟩ = some v1 :=
  ((h.far (p := ⟨g', 0, none⟩) hne u0).far (p := ⟨g', 1, none⟩) hne u1).two
theorem slice_zero (A : Option Addr) (c : Nat) : (if c = 0 then A else A.map (·.add 0)) = A := by
  cases A with
  | none => simp
  | some a => simp [add_zero]

set_option maxRecDepth 100000 in
set_option maxHeartbeats 4000000 in
theorem specDrop_any (A A' : Option Addr) (c c' : Nat) (ss bs : List Int) (B : Nat) (w : World) (h : Ho w B A A' c c' ss bs) (hB : B ≤ w.heap.size) :
    Calls Try.prog 44 #[.agg #[.slice A ss.length c, .slice A' bs.length c']] w (SomeHo (dropU ss bs) (dropV ss bs) (dropB ss bs) w) := by
  cases g : goodH ss bs
  · have hA : dropB ss bs = false := by simp [dropB, g]
    have hns := h.ns
    rw [show dropU ss bs = [] by simp [dropU, hA], show dropV ss bs = [] by simp [dropV, hA], hA]
    have H := Lib.hid g
    clear g hA
    obtain ⟨W2, hW⟩ : ∃ W, W = (w.alloc (.cells #[.slice A ss.length c, .slice A' bs.length c'] 27)).alloc (.cells #[.slice none 0 0, .slice none 0 0] 27) := ⟨_, rfl⟩
    have F0 := Fr.first h hB
    rw [← hW] at F0
    have HW := Lib.hid hW
    clear hW
    go_enter Try.func44, Try.ntmps44
    go_wp2_with fail
    rw [← HW.out]
    clear HW
    obtain ⟨p0, p1⟩ := F0.bx.two
    refine (ldGood_any _ _ _ _ _ _ B _ F0.ho (by have := F0.sz; omega)).mono ?_
    rintro e w1 ⟨rfl, hb⟩
    have F1 := F0.below hb F0.sz
    have hz1 := F1.sz
    clear p0 p1 F0 hb
    obtain ⟨p0, p1⟩ := F1.bx.two
    rw [H.out]
    obtain ⟨s0, s1, f0, f1⟩ := F1.rs.four
    go_wp2_with fail
    obtain ⟨t0, t1⟩ := (F1.rs.full2 (.slice none 0 0) (.slice none 0 0)).two
    refine bodyPost_ret (v := .tuple #[.agg #[.slice none 0 0, .slice none 0 0], .bool false]) (by simp [results, Try.results44, go_sem, t0, t1]) rfl ?_
    exact ⟨none, none, 0, 0, rfl, ⟨Rd.nil, Rd.nil, by simp, by simp⟩, F1.be.trans ((turned_full2 _ _ _ _).frame (by omega) (by have := F1.sz; omega))⟩
  · have G := goodH_of g
    have hns := h.ns
    have hnb := h.nb
    have hcs := h.rs.1
    have hcb := h.rb.1
    have hl1 := G.n1
    have hl0 := G.n0
    have hl2 := G.nb
    have hl3 : ss.length + 1 ≤ bs.length := by omega
    have hl4 : bs.length ≤ ss.length + 1 := by omega
    clear hl2
    have H := Lib.hid g
    by_cases h1l : ss.length = 1
    · have hA : dropB ss bs = false := by simp [dropB, h1l]
      rw [show dropU ss bs = [] by simp [dropU, hA], show dropV ss bs = [] by simp [dropV, hA], hA]
      have hq : ((ss.length : Int) == 1) = true := by simp [h1l]
      have HQ := Lib.hid h1l
      clear g hA h1l G
      obtain ⟨W2, hW⟩ : ∃ W, W = (w.alloc (.cells #[.slice A ss.length c, .slice A' bs.length c'] 27)).alloc (.cells #[.slice none 0 0, .slice none 0 0] 27) := ⟨_, rfl⟩
      have F0 := Fr.first h hB
      rw [← hW] at F0
      have HW := Lib.hid hW
      clear hW
      go_enter Try.func44, Try.ntmps44
      go_wp2_with fail
      rw [← HW.out]
      clear HW
      obtain ⟨p0, p1⟩ := F0.bx.two
      refine (ldGood_any _ _ _ _ _ _ B _ F0.ho (by have := F0.sz; omega)).mono ?_
      rintro e w1 ⟨rfl, hb⟩
      have F1 := F0.below hb F0.sz
      have hz1 := F1.sz
      clear p0 p1 F0 hb
      obtain ⟨p0, p1⟩ := F1.bx.two
      rw [H.out]
      obtain ⟨s0, s1, f0, f1⟩ := F1.rs.four
      go_wp2_with fail
      obtain ⟨t0, t1⟩ := (F1.rs.full2 (.slice none 0 0) (.slice none 0 0)).two
      refine bodyPost_ret (v := .tuple #[.agg #[.slice none 0 0, .slice none 0 0], .bool false]) (by simp [results, Try.results44, go_sem, t0, t1]) rfl ?_
      exact ⟨none, none, 0, 0, rfl, ⟨Rd.nil, Rd.nil, by simp, by simp⟩, F1.be.trans ((turned_full2 _ _ _ _).frame (by omega) (by have := F1.sz; omega))⟩
    · have hA : dropB ss bs = true := by simp [dropB, g, h1l]
      rw [show dropU ss bs = ss.take (ss.length - 1) by simp [dropU, hA], show dropV ss bs = bs.take ss.length by simp [dropV, hA], hA]
      have hq : ((ss.length : Int) == 1) = false := by simp; omega
      obtain ⟨m, hm⟩ : ∃ m, m = ss.length - 1 := ⟨_, rfl⟩
      rw [← hm]
      have e1 : IntKind.i64.wrap ((ss.length : Int) - 1) = (m : Int) := by rw [IntWalk.i64_in _ (by omega)]; omega
      have e4 : (m : Int) ≤ (c : Int) := by omega
      have e5 : (ss.length : Int) ≤ (c' : Int) := by omega
      have e7 : m ≤ c := by omega
      have e8 : ss.length ≤ c' := by omega
      have l1 : m = (ss.take m).length := by simp; omega
      have l2 : ss.length = (bs.take ss.length).length := by simp; omega
      have L1 := Lib.hid l1
      have L2 := Lib.hid l2
      have T1 := Lib.hid (show m ≤ ss.length by omega)
      have T2 := Lib.hid (show ss.length ≤ bs.length by omega)
      have T3 := Lib.hid (show (ss.take m).length ≤ 1048576 by simp; omega)
      have T4 := Lib.hid (show (bs.take ss.length).length ≤ 1048576 by simp; omega)
      have hni : ¬ (ss.length : Int) = 1 := by omega
      have HM := Lib.hid hm
      clear g hA h1l G hm l1 l2
      obtain ⟨W2, hW⟩ : ∃ W, W = (w.alloc (.cells #[.slice A ss.length c, .slice A' bs.length c'] 27)).alloc (.cells #[.slice none 0 0, .slice none 0 0] 27) := ⟨_, rfl⟩
      have F0 := Fr.first h hB
      rw [← hW] at F0
      have HW := Lib.hid hW
      clear hW
      go_enter Try.func44, Try.ntmps44
      go_wp2_with fail
      rw [← HW.out]
      clear HW
      obtain ⟨p0, p1⟩ := F0.bx.two
      refine (ldGood_any _ _ _ _ _ _ B _ F0.ho (by have := F0.sz; omega)).mono ?_
      rintro e w1 ⟨rfl, hb⟩
      have F1 := F0.below hb F0.sz
      have hz1 := F1.sz
      clear p0 p1 F0 hb
      obtain ⟨p0, p1⟩ := F1.bx.two
      rw [H.out]
      have hBw := F1.bd
      obtain ⟨s0, s1, f0, f1⟩ := F1.rs.four
      go_wp2_with fail
      go_region_held3 (fun w' => w'.cell? ⟨w.heap.size, 0, none⟩ = some (.slice A ss.length c) ∧ w'.cell? ⟨w.heap.size, 1, none⟩ = some (.slice A' bs.length c'))
        (first | exact ⟨p0, p1⟩ | exact ⟨q0, q1⟩ | exact ⟨r0, r1⟩ | exact keepR F3.bx (by omega) _ _ | go_keep)
        (first | (go_at_call 67; (refine (l1OwnN_any _ m c (ss.take m) B w1.drew L1.out (F1.drew.ho.rs.take T1.out) (by show B ≤ w1.heap.size; omega) T3.out).mono ?_); rintro e w2 ⟨A1, c1, rfl, hv1, hb0⟩; have hb2 : Below w1.heap.size w1 w2 := below_undrew hb0; replace hv1 : OwnI w2 w1.heap.size (.slice A1 m c1) (ss.take m) := hv1; have F2 := F1.below hb2 hz1; have fz2 := F2.sz; obtain ⟨q0, q1⟩ := F2.bx.two) | (go_at_call 67; (refine (l1OwnN_any _ ss.length c' (bs.take ss.length) B w2 L2.out (F2.ho.rb.take T2.out) (by omega) T4.out).mono ?_); rintro e w3 ⟨A2, c2, rfl, hv2, hb4⟩; have F3 := F2.below hb4 fz2; have fz3 := F3.sz; obtain ⟨r0, r1⟩ := F3.bx.two; have hv3 := hv1.below hb4 (Nat.le_refl _); have hz3 := hb4.size; obtain ⟨t0, t1, tf0, tf1⟩ := F3.rs.four))
      all_goals
        go_wp2_with fail
        obtain ⟨u0, u1⟩ := (F3.rs.full2 (.slice A1 m c1) (.slice A2 ss.length c2)).two
        refine bodyPost_ret (v := .tuple #[.agg #[.slice A1 m c1, .slice A2 ss.length c2], .bool true]) (by simp [results, Try.results44, go_sem, u0, u1]) rfl ?_
        have g1 := fun k h => (hv3.lt k h).1
        have g2 := fun k h => (hv2.lt k h).1
        have ht := turned_full2 w3 (w.heap.size + 1) (.slice A1 m c1) (.slice A2 ss.length c2)
        have o1 := hv3.turned ht (fun k hk hm => by have := g1 k hk; simp at hm; omega)
        have o2 := hv2.turned ht (fun k hk hm => by have := g2 k hk; simp at hm; omega)
        refine ⟨A1, A2, c1, c2, ?_, ⟨o1.rd, o2.rd, T3.out, T4.out⟩, F3.be.trans (ht.frame (by omega) (by omega))⟩
        rw [← L1.out, ← L2.out]
end Go.Proofs.Ytddeeebjbbnalaa
