/- Contract: stairs with other broken steps, in new memory. -/
import Derived.Test.YtimgnollnnepbaaApp
import Derived.Test.YtimgnollnnepbaaDrain
import Derived.Test.YtimgnollnnepbaaKit
import Derived.Deep.RegionHeld3
namespace Go.Proofs.Ytimgnollnnepbaa
open Go.RowKit

theorem OwnI.drew {w : World} {B : Nat} {v : Value} {xs : List Int} (h : OwnI w B v xs) : OwnI w.drew B v xs := h
theorem Turned.undrew {a b : World} {L : List Nat} (h : Turned a.drew b L) : Turned a b L := ⟨h.os, h.tape, h.output, h.size, h.block⟩
theorem Turned.trans' {a b c : World} {L : List Nat} (h : Turned a b L) (k : Turned b c L) : Turned a c L := h.trans k
theorem IsSet.drew {w : World} {b n : Nat} {S : Int → Bool} (h : IsSet w b n S) : IsSet w.drew b n S := h

theorem Blk.full {w : World} {g : Nat} {t : TypeId} {v0 v1 v2 : Value} (h : Blk w g t #[v0, v1, v2]) (u0 u1 u2 : Value) : Blk (((w.setCell ⟨g, 0, none⟩ u0).setCell ⟨g, 1, none⟩ u1).setCell ⟨g, 2, none⟩ u2) g t #[u0, u1, u2] :=
  ((h.set_ 0 u0).set_ 1 u1).set_ 2 u2
theorem turned_full {a w : World} {g : Nat} {L : List Nat} (h : Turned a w L) (hg : a.heap.size ≤ g) (u0 u1 u2 : Value) : Turned a (((w.setCell ⟨g, 0, none⟩ u0).setCell ⟨g, 1, none⟩ u1).setCell ⟨g, 2, none⟩ u2) L :=
  h.step_below (B := a.heap.size) (((((Below.refl _ w).setCell (p := ⟨g, 0, none⟩) hg u0).setCell (p := ⟨g, 1, none⟩) hg u1).setCell (p := ⟨g, 2, none⟩) hg u2)) (Nat.le_refl _)
theorem own_full {w : World} {B g : Nat} {v : Value} {xs : List Int} (h : OwnI w B v xs) (hg : ∀ k, v.ownBlock = some k → k ≠ g) (u0 u1 u2 : Value) : OwnI (((w.setCell ⟨g, 0, none⟩ u0).setCell ⟨g, 1, none⟩ u1).setCell ⟨g, 2, none⟩ u2) B v xs := by
  have s : ∀ (w : World) (i : Nat) (u : Value), Turned w (w.setCell ⟨g, i, none⟩ u) [g] := fun w i u =>
    ⟨rfl, rfl, rfl, by simp [World.setCell], fun k _ hk => Below.heap_setCell _ _ _ _ (fun e => hk (by simp [e]))⟩
  exact ((h.turned (s _ _ _) (fun k hk hm => hg k hk (by simpa using hm))).turned (s _ _ _) (fun k hk hm => hg k hk (by simpa using hm))).turned (s _ _ _) (fun k hk hm => hg k hk (by simpa using hm))
theorem Blk.six {w : World} {g : Nat} {t : TypeId} {v0 v1 v2 : Value} (h : Blk w g t #[v0, v1, v2]) : w.cell? ⟨g, 0, none⟩ = some v0 ∧ w.cell? ⟨g, 1, none⟩ = some v1 ∧ w.cell? ⟨g, 2, none⟩ = some v2 ∧
    w.frozen? ⟨g, 0, none⟩ = false ∧ w.frozen? ⟨g, 1, none⟩ = false ∧ w.frozen? ⟨g, 2, none⟩ = false :=
  ⟨h.cell 0, h.cell 1, h.cell 2, h.frozen 0, h.frozen 1, h.frozen 2⟩

set_option maxHeartbeats 2000000 in
theorem withBroken_any (st : Int) (A A' : Option Addr) (c c' : Nat) (ss bs : List Int) (b n : Nat) (S : Int → Bool) (B : Nat) (w : World) (h : St w B st A A' c c' ss bs) (hB : B ≤ b) (hset : IsSet w b n S) (hS : ∀ i, S i = true → 1 ≤ i ∧ i ≤ 60) :
    Calls Try.prog 81 #[stv st A A' c c' ss bs, .map (some b)] w fun e w' => ∃ v v', e = .returned (.agg #[.int .i64 st, v, v']) ∧ OwnI w' w.heap.size v ss ∧ OwnI w' w.heap.size v' (els S 60) ∧ Apart v v' ∧ Turned w w' [b] := by
  have hbl := hset.lt
  have HS := Lib.hid hS
  have hns := h.ns
  clear hS
  obtain ⟨W2, hW⟩ : ∃ W, W = (w.alloc (.cells #[.int .i64 st, .slice A ss.length c, .slice A' bs.length c'] 28)).alloc (.cells #[.int .i64 0, .slice none 0 0, .slice none 0 0] 28) := ⟨_, rfl⟩
  have hWs : W2.heap.size = w.heap.size + 2 := by rw [hW]; simp
  have XB : Blk W2 w.heap.size 28 #[.int .i64 st, .slice A ss.length c, .slice A' bs.length c'] := by rw [hW]; exact (Blk.new _ _ _).alloc _
  have XR : Blk W2 (w.heap.size + 1) 28 #[.int .i64 0, .slice none 0 0, .slice none 0 0] := by rw [hW]; exact Blk.new' (by simp)
  have hset2 : IsSet W2 b n S := by rw [hW]; exact (hset.alloc _).alloc _
  have h2 : St W2 B st A A' c c' ss bs := by rw [hW]; exact (h.alloc (by omega) _).alloc (by simp; omega) _
  have HW := Lib.hid hW
  clear hW
  go_enter Try.func81, Try.ntmps81
  go_wp2_with fail
  rw [← HW.out]
  have hbl2 : b < W2.heap.size := by rw [hWs]; omega
  obtain ⟨p0, p1, _⟩ := XB.three
  have B2 : Below w.heap.size w W2 := by rw [HW.out]; exact (below_alloc _ _).trans ((Below.refl _ _).alloc (by simp) _)
  have hWl : w.heap.size + 2 ≤ W2.heap.size := by omega
  have hWg : W2.heap.size ≤ w.heap.size + 2 := by omega
  clear HW hWs hset h
  go_region_held3 (fun w' => w'.cell? ⟨w.heap.size, 0, none⟩ = some (.int .i64 st) ∧ w'.cell? ⟨w.heap.size, 1, none⟩ = some (.slice A ss.length c))
    (first | exact ⟨p0, p1⟩ | exact ⟨q0, q1⟩ | exact ⟨r0, r1⟩ | exact ⟨q0', q1'⟩ | exact ⟨r0', r1'⟩ | go_keep)
    (first
      | (refine step_append_rd W2.drew (by rfl) _ _ (by rfl) W2.heap.size B (.slice none 0 0) [] ss (by rfl) (OwnI.nil _ _) A c (by rfl) h2.drew.rs (by simp; omega) (Nat.le_refl _) ?_; intro v1 w1 hv1 hb1 hg1 hat1; rw [List.nil_append] at hv1; obtain ⟨A1, c1, hvv, _⟩ := hv1.form; subst hvv; obtain ⟨q0, q1, _⟩ := (XB.below (below_undrew hb1) (by omega)).three)
      | (refine step_append_rd w1' (by rfl) _ _ (by rfl) w1'.heap.size B (.slice none 0 0) [] ss (by rfl) (OwnI.nil _ _) A c (by rfl) h3'.rs (by simp; omega) (Nat.le_refl _) ?_; intro v1' w2' hv1' hb2' hg2' hat2'; rw [List.nil_append] at hv1'; obtain ⟨A1', c1', hvv, _⟩ := hv1'.form; subst hvv; obtain ⟨r0', r1', _⟩ := (XB1'.below hb2' XB1'.lt).three; have XR2' := (XR.turned ht (by simp; omega)).below hb2' (by have := ht.size; omega); obtain ⟨s0', s1', s2', f0', f1', f2'⟩ := XR2'.six)
      | (go_at_call 82; refine (drained_any b n S W2.drew hset2.drew HS.out).mono ?_; rintro e w1' ⟨v2', he, hv2', ht1'⟩; obtain ⟨A2', c2', hvv, _⟩ := hv2'.form; subst hvv; subst he; have ht := Turned.undrew ht1'; have XB1' := XB.turned ht (by simp; omega); obtain ⟨q0', q1', _⟩ := XB1'.three; have h3' := h2.turned ht (by omega) (by simp; omega))
      | (go_at_call 82; refine (drained_any b n S w1 (hset2.below (below_undrew hb1) hbl2) HS.out).mono ?_; rintro e w2 ⟨v2, he, hv2, ht⟩; obtain ⟨A2, c2, hvv, _⟩ := hv2.form; subst hvv; subst he; obtain ⟨r0, r1, _⟩ := ((XB.below (below_undrew hb1) (by omega)).turned ht (by simp; omega)).three; have XR2 := (XR.below (below_undrew hb1) (by omega)).turned ht (by simp; omega); obtain ⟨s0, s1, s2, f0, f1, f2⟩ := XR2.six))
  go_wp2
  have XR3 := XR2.full (.int .i64 st) (.slice A1 ss.length c1) (.slice A2 (els S 60).length c2)
  obtain ⟨t0, t1, t2⟩ := XR3.three
  refine bodyPost_ret (v := .agg #[.int .i64 st, .slice A1 ss.length c1, .slice A2 (els S 60).length c2]) (by simp [results, Try.results81, go_sem, t0, t1, t2]) rfl ?_
  have g1 := fun k h => (hv1.lt k h).1
  have g2 := fun k h => (hv2.lt k h).1
  have l1 := fun k h => (hv1.lt k h).2
  have hz1 : W2.heap.size ≤ w1.heap.size := hb1.size
  refine ⟨_, _, rfl, ?_, ?_, ?_, ?_⟩
  · exact (own_full (hv1.turned ht (fun k hk hm => by have := g1 k hk; simp at hm; omega)) (fun k hk e => by have := g1 k hk; omega) _ _ _).mono (by omega)
  · exact (own_full hv2 (fun k hk e => by have := g2 k hk; omega) _ _ _).mono (by omega)
  · intro k h1 h2
    have := l1 k h1
    have := g2 k h2
    omega
  · exact turned_full (((Turned.of_below B2 [b]).step_below (below_undrew hb1) (by omega)).trans' ht) (by omega) _ _ _

end Go.Proofs.Ytimgnollnnepbaa
