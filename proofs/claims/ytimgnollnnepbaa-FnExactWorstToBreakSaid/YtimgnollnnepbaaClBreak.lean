/- Contracts: the model's clBreak. -/
import Derived.Test.YtimgnollnnepbaaSpecB
import Derived.Test.YtimgnollnnepbaaWith
namespace Go.Proofs.Ytimgnollnnepbaa
open Go.RowKit

/-- WHAT A CALL LEAVES THAT ANSWERS STAIRS ALONE, in whatever memory -/
def AnySt (B : Nat) (st : Int) (us vs : List Int) (w : World) (e : Ending) (w' : World) : Prop :=
  ∃ A A' c c', e = .returned (stv st A A' c c' us vs) ∧ St w' w'.heap.size st A A' c c' us vs ∧ (∀ a, A = some a → a.block < B ∨ w.heap.size ≤ a.block) ∧ (∀ a, A' = some a → a.block < B ∨ w.heap.size ≤ a.block) ∧ Below w.heap.size w w'
theorem putL_len (x : Int) : ∀ xs : List Int, (putL xs x).length ≤ xs.length + 1
  | [] => by simp [putL]
  | y :: r => by
    have := putL_len x r
    simp only [putL]
    split
    · simp; omega
    · split <;> simp
theorem below_full {w : World} {B g : Nat} (hg : B ≤ g) (u0 u1 u2 : Value) : Below B w (((w.setCell ⟨g, 0, none⟩ u0).setCell ⟨g, 1, none⟩ u1).setCell ⟨g, 2, none⟩ u2) :=
  (((Below.refl _ w).setCell (p := ⟨g, 0, none⟩) hg u0).setCell (p := ⟨g, 1, none⟩) hg u1).setCell (p := ⟨g, 2, none⟩) hg u2
theorem size_full {w : World} {g : Nat} (u0 u1 u2 : Value) : (((w.setCell ⟨g, 0, none⟩ u0).setCell ⟨g, 1, none⟩ u1).setCell ⟨g, 2, none⟩ u2).heap.size = w.heap.size := by simp [World.setCell]
theorem Rd.full {w : World} {B g c : Nat} {A : Option Addr} {xs : List Int} (h : Rd w B A c xs) (hne : ∀ a, A = some a → a.block ≠ g) (u0 u1 u2 : Value) :
    Rd (((w.setCell ⟨g, 0, none⟩ u0).setCell ⟨g, 1, none⟩ u1).setCell ⟨g, 2, none⟩ u2) B A c xs := by
  refine ⟨h.1, fun k hk => ?_⟩
  obtain ⟨b, o, e, hlt, hc⟩ := h.2 k hk
  have hn : b ≠ g := hne _ e
  refine ⟨b, o, e, hlt, ?_⟩
  rw [World.cell?_setCell_other _ _ _ _ (fun e => by injection e with e; exact hn e.symm), World.cell?_setCell_other _ _ _ _ (fun e => by injection e with e; exact hn e.symm), World.cell?_setCell_other _ _ _ _ (fun e => by injection e with e; exact hn e.symm), hc]

set_option maxHeartbeats 2000000 in
theorem clBreak_any (st : Int) (A A' : Option Addr) (c c' : Nat) (ss bs : List Int) (x : Int) (B : Nat) (w : World) (h : St w B st A A' c c' ss bs) (hB : B ≤ w.heap.size) (hbl : bs.length ≤ 1000) :
    Calls Try.prog 65 #[stv st A A' c c' ss bs, .int .i64 x] w (AnySt B st ss (putL bs x) w) := by
  obtain ⟨W2, hW⟩ : ∃ W, W = (w.alloc (.cells #[.int .i64 st, .slice A ss.length c, .slice A' bs.length c'] 28)).alloc (.cells #[.int .i64 0, .slice none 0 0, .slice none 0 0] 28) := ⟨_, rfl⟩
  have hWs : W2.heap.size = w.heap.size + 2 := by rw [hW]; simp
  have XB : Blk W2 w.heap.size 28 #[.int .i64 st, .slice A ss.length c, .slice A' bs.length c'] := by rw [hW]; exact (Blk.new _ _ _).alloc _
  have XR : Blk W2 (w.heap.size + 1) 28 #[.int .i64 0, .slice none 0 0, .slice none 0 0] := by rw [hW]; exact Blk.new' (by simp)
  have h2 : St W2 B st A A' c c' ss bs := by rw [hW]; exact (h.alloc (by omega) _).alloc (by simp; omega) _
  have B2 : Below w.heap.size w W2 := by rw [hW]; exact (below_alloc _ _).trans ((Below.refl _ _).alloc (by simp) _)
  have hWl : w.heap.size + 2 ≤ W2.heap.size := by omega
  have hWg : W2.heap.size ≤ w.heap.size + 2 := by omega
  have HW := Lib.hid hW
  clear hW hWs
  go_enter Try.func65, Try.ntmps65
  go_wp2_with fail
  rw [← HW.out]
  clear HW
  obtain ⟨p0, p1, p2⟩ := XB.three
  have hns := h.ns
  have hnb := h.nb
  go_region_held3 (fun w' => w'.cell? ⟨w.heap.size, 0, none⟩ = some (.int .i64 st) ∧ w'.cell? ⟨w.heap.size, 1, none⟩ = some (.slice A ss.length c) ∧ w'.cell? ⟨w.heap.size, 2, none⟩ = some (.slice A' bs.length c'))
    (first | exact ⟨p0, p1, p2⟩ | exact ⟨q0, q1, q2⟩ | exact ⟨r0, r1, r2⟩ | go_keep)
    (first
      | (go_at_call 77; go_must (refine (l1Own_any _ _ ss B W2.drew h2.drew.rs (by show B ≤ W2.heap.size; omega) hns).mono ?_; rintro e w1 ⟨v1, he, hv1, hb1'⟩; have hb1 : Below W2.heap.size W2 w1 := below_undrew hb1'; obtain ⟨A1, c1, hvv, _⟩ := hv1.form; subst hvv; subst he; obtain ⟨q0, q1, q2⟩ := (XB.below hb1 (by omega)).three))
      | (go_at_call 78; go_must (refine (l1Put_any _ _ bs x B w1 (h2.below hb1 (by omega)).rb (by have := hb1.size; omega) hnb).mono ?_; rintro e w2 ⟨A2, c2, rfl, hr2, hd2, hb2⟩; have z2 := hb1.size; obtain ⟨r0, r1, r2⟩ := ((XB.below hb1 (by omega)).below hb2 (by omega)).three; obtain ⟨s0, s1, s2, f0, f1, f2⟩ := ((XR.below hb1 (by omega)).below hb2 (by omega)).six)))
  go_wp2
  have XR2 := (XR.below hb1 (by omega)).below hb2 (by omega)
  have XF := XR2.full (.int .i64 st) (.slice A1 ss.length c1) (.slice A2 (putL bs x).length c2)
  obtain ⟨t0, t1, t2⟩ := XF.three
  have g1 : ∀ k, (Value.slice A1 ss.length c1).ownBlock = some k → W2.heap.size ≤ k := fun k h => (hv1.lt k h).1
  refine bodyPost_ret (v := stv st A1 A2 c1 c2 ss (putL bs x)) (by simp [results, Try.results65, go_sem, t0, t1, t2]) rfl ?_
  have hr1 := (hv1.rd).below hb2 (Nat.le_refl _)
  have z3 := hb2.size
  have hpl := putL_len x bs
  refine ⟨A1, A2, c1, c2, rfl, ⟨?_, ?_, hns, by omega⟩, fun a ha => by subst ha; have := g1 _ rfl; exact .inr (by omega), fun a ha => by have := hd2 a ha; omega, B2.trans ((hb1.mono (by omega)).trans ((hb2.mono (by omega)).trans (below_full (by omega) _ _ _)))⟩
  · rw [size_full]
    exact (hr1.more (by omega)).full (fun a ha e => by subst ha; have := g1 _ rfl; omega) _ _ _
  · rw [size_full]
    exact hr2.full (fun a ha e => by have := hd2 a ha; omega) _ _ _

end Go.Proofs.Ytimgnollnnepbaa
