/- Contracts: the lists of strides, stairs made of their parts (the model). -/
import Derived.Test.YteljaafehnhmcaaPzX
namespace Go.Proofs.Yteljaafehnhmcaa
open Go.RowKit
set_option maxRecDepth 100000

/-- three cells of a block written -/
abbrev set3 (w : World) (g : Nat) (x y z : Value) : World := ((w.setCell ⟨g, 0, none⟩ x).setCell ⟨g, 1, none⟩ y).setCell ⟨g, 2, none⟩ z
theorem set3_blk {w : World} {g : Nat} {T : TypeId} {a b c x y z : Value} (h : Blk w g T #[a, b, c]) : Blk (set3 w g x y z) g T #[x, y, z] := ((h.set_ 0 x).set_ 1 y).set_ 2 z
theorem set3_heap {w : World} {g : Nat} {x y z : Value} {k : Nat} (hk : k ≠ g) : (set3 w g x y z).heap[k]? = w.heap[k]? :=
  (Below.heap_setCell _ ⟨g, 2, none⟩ z k hk).trans ((Below.heap_setCell _ ⟨g, 1, none⟩ y k hk).trans (Below.heap_setCell _ ⟨g, 0, none⟩ x k hk))
theorem set3_below {B g : Nat} {w0 w : World} {x y z : Value} (h : Below B w0 w) (hg : B ≤ g) : Below B w0 (set3 w g x y z) :=
  ((h.setCell (p := ⟨g, 0, none⟩) hg x).setCell (p := ⟨g, 1, none⟩) hg y).setCell (p := ⟨g, 2, none⟩) hg z
theorem set3_mid {w : World} {g : Nat} {T : TypeId} {a b c : Value} (x y : Value) (h : Blk w g T #[a, b, c]) :
    w.cell? ⟨g, 0, none⟩ = some a ∧ w.frozen? ⟨g, 0, none⟩ = false ∧ (w.setCell ⟨g, 0, none⟩ x).cell? ⟨g, 1, none⟩ = some b ∧ (w.setCell ⟨g, 0, none⟩ x).frozen? ⟨g, 1, none⟩ = false ∧ ((w.setCell ⟨g, 0, none⟩ x).setCell ⟨g, 1, none⟩ y).cell? ⟨g, 2, none⟩ = some c ∧ ((w.setCell ⟨g, 0, none⟩ x).setCell ⟨g, 1, none⟩ y).frozen? ⟨g, 2, none⟩ = false :=
  ⟨h.cell 0, h.frozen 0, (h.set_ 0 x).cell 1, (h.set_ 0 x).frozen 1, ((h.set_ 0 x).set_ 1 y).cell 2, ((h.set_ 0 x).set_ 1 y).frozen 2⟩

set_option maxHeartbeats 1000000 in
theorem strides_any (w : World) :
    Calls Try.prog 50 #[] w fun e w' => e = .returned (.slice (some ⟨w.heap.size + 7, 0, none⟩) 7 7) ∧ Strd w' w.heap.size 37 ∧ Below w.heap.size w w' := by
  go_enter Try.func50, Try.ntmps50
  go_wp2
  go_ret
  exact ⟨rfl, strW_strd w 37, strW_below w 37⟩

/-- WHAT STAIRS MADE OF THEIR PARTS ARE -/
def MadeS (st : Int) (ss bs : List Int) (w : World) (e : Ending) (w' : World) : Prop :=
  ∃ v v', e = .returned (.agg #[.int .i64 st, v, v']) ∧ OwnI w' w.heap.size v ss ∧ OwnI w' w.heap.size v' bs ∧ Apart v v' ∧ Below w.heap.size w w'
set_option maxHeartbeats 2000000 in
theorem pzStairs_any (st : Int) (A : Option Addr) (c : Nat) (ss : List Int) (b : Nat) (B : Nat) (w : World) (hr : Rd w B A c ss) (hB : B ≤ w.heap.size) (hn : ss.length ≤ 1048576) :
    Calls Try.prog 51 #[.int .i64 st, .slice A ss.length c, .int .i64 (b : Int)] w (MadeS st ss (if b = 0 then [] else [(b : Int)]) w) := by
  have X0 : Blk (w.alloc (.cells #[.int .i64 0, .slice none 0 0, .slice none 0 0] 42)) w.heap.size 42 #[.int .i64 0, .slice none 0 0, .slice none 0 0] := Blk.new _ _ _
  have hr1 := hr.below (below_alloc w (.cells #[.int .i64 0, .slice none 0 0, .slice none 0 0] 42)) hB
  by_cases h0 : b = 0
  · subst h0
    go_enter Try.func51, Try.ntmps51
    go_wp2_with fail
    refine (l1Own9_any A c ss B _ hr1 (by simp; omega) hn).mono ?_
    rintro e w1 ⟨v, rfl, ho, hb⟩
    obtain ⟨A1, c1, hv, _⟩ := ho.form
    subst hv
    have X1 := X0.below hb (by simp)
    have B1 := (below_alloc w (.cells #[.int .i64 0, .slice none 0 0, .slice none 0 0] 42)).trans (hb.mono (by simp))
    have hz := X1.lt
    have hl := fun k hk => (ho.lt k hk).1
    have hg2 : w.heap.size + 1 ≤ (w.alloc (.cells #[.int .i64 0, .slice none 0 0, .slice none 0 0] 42)).heap.size := by simp
    have X2 := X1.alloc (.cells #[.int .i64 st, .slice A1 ss.length c1, .slice none 0 0] 42)
    have hoF := ((ho.alloc (.cells #[.int .i64 st, .slice A1 ss.length c1, .slice none 0 0] 42)).keep fun k hk => set3_heap (x := .int .i64 st) (y := .slice A1 ss.length c1) (z := .slice none 0 0) (show k ≠ w.heap.size by have := hl k hk; omega)).mono (show w.heap.size ≤ (w.alloc (.cells #[.int .i64 0, .slice none 0 0, .slice none 0 0] 42)).heap.size by simp)
    have B3 := set3_below (x := .int .i64 st) (y := .slice A1 ss.length c1) (z := .slice none 0 0) (B1.alloc B1.size (.cells #[.int .i64 st, .slice A1 ss.length c1, .slice none 0 0] 42)) (Nat.le_refl w.heap.size)
    obtain ⟨r0, r1, r2⟩ := (set3_blk (x := .int .i64 st) (y := .slice A1 ss.length c1) (z := .slice none 0 0) X2).three
    obtain ⟨q0, f0, q1, f1, q2, f2⟩ := set3_mid (.int .i64 st) (.slice A1 ss.length c1) X2
    have HZ := Lib.hid hz
    clear X0 hr1 hb ho B1 X1 X2 hr hB hz hl hg2
    simp only [set3] at r0 r1 r2
    go_wp2_with fail
    refine bodyPost_ret (v := .agg #[.int .i64 st, .slice A1 ss.length c1, .slice none 0 0]) (by simp [results, Try.results51, go_sem, r0, r1, r2]) rfl ?_
    exact ⟨_, _, rfl, hoF, OwnI.nil _ _, (fun k _ e2 => by cases e2), B3⟩
  · have hb0 : (0 : Int) < (b : Int) := by omega
    rw [if_neg h0]
    go_enter Try.func51, Try.ntmps51
    go_wp2_with fail
    refine (l1Own9_any A c ss B _ hr1 (by simp; omega) hn).mono ?_
    rintro e w1 ⟨v, rfl, ho, hb⟩
    obtain ⟨A1, c1, hv, _⟩ := ho.form
    subst hv
    have X1 := X0.below hb (by simp)
    have B1 := (below_alloc w (.cells #[.int .i64 0, .slice none 0 0, .slice none 0 0] 42)).trans (hb.mono (by simp))
    have hz := X1.lt
    have hl := fun k hk => (ho.lt k hk).1
    have hg2 : w.heap.size + 1 ≤ (w.alloc (.cells #[.int .i64 0, .slice none 0 0, .slice none 0 0] 42)).heap.size := by simp
    have V1 : Blk ((w1.alloc (.cells #[.int .i64 st, .slice A1 ss.length c1, .slice (some ⟨w1.heap.size + 1, 0, none⟩) 1 1] 42)).alloc (.cells #[.int .i64 (b : Int)] 3)) w1.heap.size 42 #[.int .i64 st, .slice A1 ss.length c1, .slice (some ⟨w1.heap.size + 1, 0, none⟩) 1 1] := (Blk.new _ _ _).alloc _
    have N1 : Blk ((w1.alloc (.cells #[.int .i64 st, .slice A1 ss.length c1, .slice (some ⟨w1.heap.size + 1, 0, none⟩) 1 1] 42)).alloc (.cells #[.int .i64 (b : Int)] 3)) (w1.heap.size + 1) 3 (ints [(b : Int)]) := Blk.new' (by simp)
    have X3 := (X1.alloc (.cells #[.int .i64 st, .slice A1 ss.length c1, .slice (some ⟨w1.heap.size + 1, 0, none⟩) 1 1] 42)).alloc (.cells #[.int .i64 (b : Int)] 3)
    have B2 := (B1.alloc B1.size (.cells #[.int .i64 st, .slice A1 ss.length c1, .slice (some ⟨w1.heap.size + 1, 0, none⟩) 1 1] 42)).alloc (by have := B1.size; simp; omega) (.cells #[.int .i64 (b : Int)] 3)
    have hu := fun k hk => (ho.lt k hk).2
    have ho2 := (ho.alloc (.cells #[.int .i64 st, .slice A1 ss.length c1, .slice (some ⟨w1.heap.size + 1, 0, none⟩) 1 1] 42)).alloc (.cells #[.int .i64 (b : Int)] 3)
    obtain ⟨t0, t1, t2⟩ := V1.three
    clear X0 hr1 hb ho B1 X1 hr hB
    have B3 := set3_below (x := .int .i64 st) (y := .slice A1 ss.length c1) (z := .slice (some ⟨w1.heap.size + 1, 0, none⟩) 1 1) B2 (Nat.le_refl w.heap.size)
    have ho3 := (ho2.keep fun k hk => set3_heap (x := .int .i64 st) (y := .slice A1 ss.length c1) (z := .slice (some ⟨w1.heap.size + 1, 0, none⟩) 1 1) (show k ≠ w.heap.size by have := hl k hk; omega)).mono (show w.heap.size ≤ (w.alloc (.cells #[.int .i64 0, .slice none 0 0, .slice none 0 0] 42)).heap.size by simp)
    have N4 : Blk _ (w1.heap.size + 1) 3 (ints [(b : Int)]) := (set3_heap (x := .int .i64 st) (y := .slice A1 ss.length c1) (z := .slice (some ⟨w1.heap.size + 1, 0, none⟩) 1 1) (show w1.heap.size + 1 ≠ w.heap.size by omega)).trans N1
    have hn4 := (N4.own (by simp)).mono (show w.heap.size ≤ w1.heap.size + 1 by omega)
    obtain ⟨r0, r1, r2⟩ := (set3_blk (x := .int .i64 st) (y := .slice A1 ss.length c1) (z := .slice (some ⟨w1.heap.size + 1, 0, none⟩) 1 1) X3).three
    obtain ⟨q0, f0, q1, f1, q2, f2⟩ := set3_mid (.int .i64 st) (.slice A1 ss.length c1) X3
    have HZ := Lib.hid hz
    have HU := Lib.hid hu
    clear V1 N1 B2 ho2 X3 N4 hz hu hl hg2
    simp only [set3] at r0 r1 r2
    go_wp2_with fail
    refine bodyPost_ret (v := .agg #[.int .i64 st, .slice A1 ss.length c1, .slice (some ⟨w1.heap.size + 1, 0, none⟩) 1 1]) (by simp [results, Try.results51, go_sem, r0, r1, r2]) rfl ?_
    exact ⟨_, _, rfl, ho3, hn4, (fun k e1 e2 => by have := HU.out k e1; have := HZ.out; simp [Value.ownBlock] at e2; omega), B3⟩

end Go.Proofs.Yteljaafehnhmcaa
