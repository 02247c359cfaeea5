/- The law FnExactAddClue: its walk, given what the two functions leave. -/
import Derived.Test.YtehffiaobjlpoaaPzM
import Derived.Deep.RegionHeld3
import Derived.Deep.DeepCutAuto
namespace Go.Proofs.Ytehffiaobjlpoaa
open Go.RowKit
set_option maxRecDepth 100000

/-- behind a copy of an answer into a variable's cell: the cell, the row, the bool -/
def CutP (w : World) (qs : List Tri) (ok : Bool) (sa sb : Value) (wx : World) : Prop :=
  ∃ g A c, sa = .pointer (some ⟨g, 0, none⟩) ∧ sb = .bool ok ∧ w.heap.size ≤ g ∧ Blk wx g 52 #[.slice A qs.length c] ∧ OwnF wx w.heap.size (.slice A qs.length c) qs ∧ (∀ k, (Value.slice A qs.length c).ownBlock = some k → k ≠ g) ∧ Below w.heap.size w wx
theorem cutP_new {w u u' : World} {qs : List Tri} {ok : Bool} {c : Nat} {A : Option Addr} (h : Below w.heap.size w u') (O : OwnF u' u.heap.size (.slice A qs.length c) qs) (hu : w.heap.size ≤ u.heap.size) :
    CutP w qs ok (.pointer (some ⟨u'.heap.size, 0, none⟩)) (.bool ok) (u'.alloc (.cells #[.slice A qs.length c] 52)) :=
  ⟨_, A, c, rfl, rfl, h.size, Blk.new _ _ _, (O.mono hu).alloc _, fun k hk => by have := (O.lt k hk).2; omega, h.alloc h.size _⟩
theorem cutP_set {w u u' : World} {qs : List Tri} {ok : Bool} {g c : Nat} {x : Value} {A : Option Addr} (h : Below w.heap.size w u') (N : Blk u' g 52 #[x]) (O : OwnF u' u.heap.size (.slice A qs.length c) qs) (hg : w.heap.size ≤ g) (hu : g < u.heap.size) :
    CutP w qs ok (.pointer (some ⟨g, 0, none⟩)) (.bool ok) (u'.setCell ⟨g, 0, none⟩ (.slice A qs.length c)) := by
  have hne : ∀ k, (Value.slice A qs.length c).ownBlock = some k → k ≠ g := fun k hk => by have := (O.lt k hk).1; omega
  have b := (Below.refl g u').setCell (p := ⟨g, 0, none⟩) (Nat.le_refl g) (.slice A qs.length c)
  have T : Turned u' (u'.setCell ⟨g, 0, none⟩ (.slice A qs.length c)) [g] := ⟨b.os, b.tape, b.output, b.size, fun i _ hi => Below.heap_setCell u' _ _ i (by simpa using hi)⟩
  exact ⟨g, A, c, rfl, rfl, hg, N.set_ 0 _, OwnF.turned (O.mono (by omega)) T (fun k hk h2 => hne k hk (by simpa using h2)), hne, h.setCell (p := ⟨g, 0, none⟩) hg _⟩

set_option maxHeartbeats 8000000 in
theorem addClue_walk (Z0 : Option Addr) (d0 : Nat) (ps0 : List Tri) (ka aa ba : Int) (qs : List Tri) (r1 : Bool) (hz0 : qs.length ≤ 1048576) (w0 : World) (R0 : RdF w0 w0.heap.size Z0 d0 ps0) (hn0 : ps0.length ≤ 1048576)
    (hf : ∀ (A : Option Addr) (c B : Nat) (w : World), RdF w B A c ps0 → B ≤ w.heap.size → Calls Try.prog 17 #[pzv A ps0.length c, .agg #[.int .i64 ka, .int .i64 aa, .int .i64 ba]] w (NewP w qs r1))
    (hg : ∀ (A : Option Addr) (c B : Nat) (w : World), RdF w B A c ps0 → B ≤ w.heap.size → Calls Try.prog 20 #[pzv A ps0.length c, .agg #[.int .i64 ka, .int .i64 aa, .int .i64 ba]] w (NewP w qs r1)) :
    Calls Try.prog 5 #[pzv Z0 ps0.length d0, .agg #[.int .i64 ka, .int .i64 aa, .int .i64 ba]] w0 fun e w' => e = .returned (.bool true) ∧ Below w0.heap.size w0 w' := by
  have X0 : Blk ((w0.alloc (.cells #[.slice Z0 ps0.length d0] 46)).alloc (.cells #[.int .i64 ka, .int .i64 aa, .int .i64 ba] 48)) w0.heap.size 46 #[.slice Z0 ps0.length d0] := (Blk.new' (by simp)).alloc _
  have C0 : Blk ((w0.alloc (.cells #[.slice Z0 ps0.length d0] 46)).alloc (.cells #[.int .i64 ka, .int .i64 aa, .int .i64 ba] 48)) (w0.heap.size + 1) 48 #[.int .i64 ka, .int .i64 aa, .int .i64 ba] := Blk.new' (by simp)
  have bu : Below w0.heap.size w0 ((w0.alloc (.cells #[.slice Z0 ps0.length d0] 46)).alloc (.cells #[.int .i64 ka, .int .i64 aa, .int .i64 ba] 48)) := (below_alloc _ _).alloc (by simp) _
  have Bt : Below w0.heap.size w0 w0 := Below.refl _ _
  go_enter Try.func5, Try.ntmps5
  go_wp2_with fail
  refine (szPuzzle_yes _ _ _ _ hn0).mono ?_
  rintro e w1 ⟨rfl, hb0⟩
  have hb : Below w0.heap.size w0 w1 := bu.trans (hb0.mono bu.size)
  replace X0 := X0.below hb0 X0.lt
  replace C0 := C0.below hb0 C0.lt
  have z1 : w0.heap.size + 2 ≤ w1.heap.size := by have := C0.lt; omega
  replace R0 := R0.below hb (Nat.le_refl _)
  replace Bt := Bt.trans hb
  clear hb hb0 bu
  have pX0 := X0.cell 0
  have lX0 := X0.lt
  obtain ⟨pC00, pC01, pC02⟩ := C0.three
  have lC0 := C0.lt
  go_upto_region 5 with fail
  go_cut [6, 7] (fun sa sb wx => CutP w1 qs r1 sa sb wx)
  case first =>
    go_region_held3 (fun u => u.cell? ⟨w0.heap.size, 0, none⟩ = some (.slice Z0 ps0.length d0) ∧ u.cell? ⟨w0.heap.size + 1, 0, none⟩ = some (.int .i64 ka) ∧ u.cell? ⟨w0.heap.size + 1, 1, none⟩ = some (.int .i64 aa) ∧ u.cell? ⟨w0.heap.size + 1, 2, none⟩ = some (.int .i64 ba)) (first | exact ⟨pX0, pC00, pC01, pC02⟩ | exact ⟨qX0, qC00, qC01, qC02⟩ | exact ⟨rX0, rC00, rC01, rC02⟩ | exact ⟨tX0, tC00, tC01, tC02⟩ | exact ⟨(X0.below (h3.setCell (p := ⟨_, 0, none⟩) (by omega) _) X0.lt).cell 0, (C0.below (h3.setCell (p := ⟨_, 0, none⟩) (by omega) _) C0.lt).cell 0, (C0.below (h3.setCell (p := ⟨_, 0, none⟩) (by omega) _) C0.lt).cell 1, (C0.below (h3.setCell (p := ⟨_, 0, none⟩) (by omega) _) C0.lt).cell 2⟩ | exact ⟨(X0.below (h3.setCell (p := ⟨w1.heap.size, 0, none⟩) (Nat.le_refl _) (.slice AN qs.length cN)) X0.lt).cell 0, (C0.below (h3.setCell (p := ⟨w1.heap.size, 0, none⟩) (Nat.le_refl _) (.slice AN qs.length cN)) C0.lt).cell 0, (C0.below (h3.setCell (p := ⟨w1.heap.size, 0, none⟩) (Nat.le_refl _) (.slice AN qs.length cN)) C0.lt).cell 1, (C0.below (h3.setCell (p := ⟨w1.heap.size, 0, none⟩) (Nat.le_refl _) (.slice AN qs.length cN)) C0.lt).cell 2⟩ | go_keep)
      (first | (go_at_call 18; (refine (toPuzzle_any Z0 d0 ps0 w0.heap.size w1.drew (R0.below (Below.refl w1.heap.size w1).drew (by omega)) (by have := (Below.refl w1.heap.size w1).size; show w0.heap.size ≤ w1.heap.size; omega) hn0).mono ?_); rintro e u1 ⟨a0, rfl, a0g, Ha0, kk⟩; have g1 : Below w1.heap.size w1 u1 := below_undrew kk; clear kk; have h1 : Below w1.heap.size w1 u1 := (Below.refl w1.heap.size w1).trans (g1.mono (Below.refl w1.heap.size w1).size); (first | (have N := Blk.below (g := _) N g1 N.lt) | skip); (first | (have n0 := N.cell 0; have nf := N.frozen 0; have nl := N.lt) | skip); have y1 : w1.heap.size ≤ u1.heap.size := h1.size; have x1 : w1.heap.size ≤ u1.heap.size := g1.size; (try simp at x1); have qX0 := (X0.below h1 X0.lt).cell 0; obtain ⟨qC00, qC01, qC02⟩ := (C0.below h1 C0.lt).three) | (go_at_call 18; (refine (toPuzzle_any Z0 d0 ps0 w0.heap.size (w1.alloc (.cells #[.slice none 0 0] 52)).drew (R0.below (below_alloc w1 (.cells #[.slice none 0 0] 52)).drew (by omega)) (by have := (below_alloc w1 (.cells #[.slice none 0 0] 52)).size; show w0.heap.size ≤ (w1.alloc (.cells #[.slice none 0 0] 52)).heap.size; omega) hn0).mono ?_); rintro e u1 ⟨a0, rfl, a0g, Ha0, kk⟩; have g1 : Below (w1.alloc (.cells #[.slice none 0 0] 52)).heap.size (w1.alloc (.cells #[.slice none 0 0] 52)) u1 := below_undrew kk; clear kk; have h1 : Below w1.heap.size w1 u1 := (below_alloc w1 (.cells #[.slice none 0 0] 52)).trans (g1.mono (below_alloc w1 (.cells #[.slice none 0 0] 52)).size); have N := Blk.below (w := (w1.alloc (.cells #[.slice none 0 0] 52))) (Blk.new' rfl : Blk (w1.alloc (.cells #[.slice none 0 0] 52)) w1.heap.size 52 #[.slice none 0 0]) g1 (by simp); (first | (have n0 := N.cell 0; have nf := N.frozen 0; have nl := N.lt) | skip); have y1 : w1.heap.size ≤ u1.heap.size := h1.size; have x1 : (w1.alloc (.cells #[.slice none 0 0] 52)).heap.size ≤ u1.heap.size := g1.size; (try simp at x1); have qX0 := (X0.below h1 X0.lt).cell 0; obtain ⟨qC00, qC01, qC02⟩ := (C0.below h1 C0.lt).three) | (go_at_call 19; (refine (toClue_any ka aa ba u1).mono ?_); rintro e u2 ⟨rfl, kk⟩; have g2 : Below u1.heap.size u1 u2 := kk; clear kk; have h2 : Below w1.heap.size w1 u2 := h1.trans (g2.mono h1.size); (first | (have N := Blk.below (g := _) N g2 N.lt) | skip); (first | (have n0 := N.cell 0; have nf := N.frozen 0; have nl := N.lt) | skip); have y2 : w1.heap.size ≤ u2.heap.size := h2.size; have x2 : u1.heap.size ≤ u2.heap.size := g2.size; (try simp at x2); have rX0 := (X0.below h2 X0.lt).cell 0; obtain ⟨rC00, rC01, rC02⟩ := (C0.below h2 C0.lt).three; have Ha0 := Ha0.below g2 Ha0.lt) | (go_at_call 19; (refine (toClue_any ka aa ba (u1.alloc (.cells #[.slice none 0 0] 52))).mono ?_); rintro e u2 ⟨rfl, kk⟩; have g2 : Below (u1.alloc (.cells #[.slice none 0 0] 52)).heap.size (u1.alloc (.cells #[.slice none 0 0] 52)) u2 := kk; clear kk; have h2 : Below w1.heap.size w1 u2 := (h1.alloc h1.size (.cells #[.slice none 0 0] 52)).trans (g2.mono (h1.alloc h1.size (.cells #[.slice none 0 0] 52)).size); have N := Blk.below (w := (u1.alloc (.cells #[.slice none 0 0] 52))) (Blk.new' rfl : Blk (u1.alloc (.cells #[.slice none 0 0] 52)) u1.heap.size 52 #[.slice none 0 0]) g2 (by simp); (first | (have n0 := N.cell 0; have nf := N.frozen 0; have nl := N.lt) | skip); have y2 : w1.heap.size ≤ u2.heap.size := h2.size; have x2 : (u1.alloc (.cells #[.slice none 0 0] 52)).heap.size ≤ u2.heap.size := g2.size; (try simp at x2); have rX0 := (X0.below h2 X0.lt).cell 0; obtain ⟨rC00, rC01, rC02⟩ := (C0.below h2 C0.lt).three; have Ha0 := (Ha0.alloc (.cells #[.slice none 0 0] 52)).below g2 (Ha0.alloc (.cells #[.slice none 0 0] 52)).lt) | (go_at_call 17; (refine (hf _ _ _ u2 (blk_rd Ha0 hn0) (Nat.le_refl _)).mono ?_); rintro e u3 ⟨vv, rfl, ON, kk⟩; have g3 : Below u2.heap.size u2 u3 := kk; clear kk; have h3 : Below w1.heap.size w1 u3 := h2.trans (g3.mono h2.size); (first | (have N := Blk.below (g := _) N g3 N.lt) | skip); (first | (have n0 := N.cell 0; have nf := N.frozen 0; have nl := N.lt) | skip); have y3 : w1.heap.size ≤ u3.heap.size := h3.size; have x3 : u2.heap.size ≤ u3.heap.size := g3.size; (try simp at x3); have tX0 := (X0.below h3 X0.lt).cell 0; obtain ⟨tC00, tC01, tC02⟩ := (C0.below h3 C0.lt).three; obtain ⟨AN, cN, hvN⟩ := ON.form; subst hvN) | (go_at_call 17; (refine (hf _ _ _ (u2.alloc (.cells #[.slice none 0 0] 52)) (blk_rd (Ha0.alloc (.cells #[.slice none 0 0] 52)) hn0) (Nat.le_refl _)).mono ?_); rintro e u3 ⟨vv, rfl, ON, kk⟩; have g3 : Below (u2.alloc (.cells #[.slice none 0 0] 52)).heap.size (u2.alloc (.cells #[.slice none 0 0] 52)) u3 := kk; clear kk; have h3 : Below w1.heap.size w1 u3 := (h2.alloc h2.size (.cells #[.slice none 0 0] 52)).trans (g3.mono (h2.alloc h2.size (.cells #[.slice none 0 0] 52)).size); have N := Blk.below (w := (u2.alloc (.cells #[.slice none 0 0] 52))) (Blk.new' rfl : Blk (u2.alloc (.cells #[.slice none 0 0] 52)) u2.heap.size 52 #[.slice none 0 0]) g3 (by simp); (first | (have n0 := N.cell 0; have nf := N.frozen 0; have nl := N.lt) | skip); have y3 : w1.heap.size ≤ u3.heap.size := h3.size; have x3 : (u2.alloc (.cells #[.slice none 0 0] 52)).heap.size ≤ u3.heap.size := g3.size; (try simp at x3); have tX0 := (X0.below h3 X0.lt).cell 0; obtain ⟨tC00, tC01, tC02⟩ := (C0.below h3 C0.lt).three; obtain ⟨AN, cN, hvN⟩ := ON.form; subst hvN) | fail)
    all_goals (go_wp2_with fail; go_meet; first | exact cutP_new h3 ON (by first | omega | (simp; done) | (simp; omega)) | exact cutP_set h3 N ON (by omega) (by first | omega | (simp; done) | (simp; omega)))
  case rest =>
    obtain ⟨w2, hww⟩ : ∃ x, x = wc := ⟨_, rfl⟩
    subst hww
    obtain ⟨g0, A0, c0, rfl, rfl, gz0, XW, O0, gn0, hb⟩ := hcut
    have lg0 := XW.lt
    have og0 := fun k h => (O0.lt k h).1
    have ol0 := fun k h => (O0.lt k h).2
    replace R0 := R0.below hb (by omega)
    replace X0 := X0.below hb (by omega)
    replace C0 := C0.below hb (by omega)
    replace Bt := Bt.trans (hb.mono (by omega))
    have z2 : w1.heap.size ≤ w2.heap.size := hb.size
    clear hb
    clear pX0 lX0
    have pX0 := X0.cell 0
    have lX0 := X0.lt
    clear pC00 pC01 pC02 lC0
    obtain ⟨pC00, pC01, pC02⟩ := C0.three
    have lC0 := C0.lt
    have pXW := XW.cell 0
    have lXW := XW.lt
    go_wp2_with fail
    refine (toPuzzle_any Z0 d0 ps0 w0.heap.size w2 R0 (by omega) hn0).mono ?_
    rintro e w3 ⟨b0, rfl, b0g, Hb0, hb0⟩
    have hb : Below w2.heap.size w2 w3 := hb0
    have z3 : w2.heap.size ≤ w3.heap.size := hb.size
    replace R0 := R0.below hb (by omega)
    replace X0 := X0.below hb (by omega)
    replace C0 := C0.below hb (by omega)
    replace XW := XW.below hb (by omega)
    replace O0 := O0.below hb (Nat.le_refl _)
    replace Bt := Bt.trans (hb.mono (by omega))
    have b0l := Hb0.lt
    clear hb hb0
    clear pX0 lX0
    have pX0 := X0.cell 0
    have lX0 := X0.lt
    clear pC00 pC01 pC02 lC0
    obtain ⟨pC00, pC01, pC02⟩ := C0.three
    have lC0 := C0.lt
    clear pXW lXW
    have pXW := XW.cell 0
    have lXW := XW.lt
    have X1 : Blk (w3.alloc (.cells #[.slice (some ⟨b0, 0, none⟩) ps0.length ps0.length] 52)) w3.heap.size 52 #[.slice (some ⟨b0, 0, none⟩) ps0.length ps0.length] := Blk.new _ _ _
    have hb : Below w3.heap.size w3 (w3.alloc (.cells #[.slice (some ⟨b0, 0, none⟩) ps0.length ps0.length] 52)) := below_alloc _ _
    replace R0 := R0.below hb (by omega)
    replace X0 := X0.below hb (by omega)
    replace C0 := C0.below hb (by omega)
    replace XW := XW.below hb (by omega)
    replace O0 := O0.below hb (Nat.le_refl _)
    replace Hb0 := Hb0.below hb (by omega)
    replace Bt := Bt.trans (hb.mono (by omega))
    clear pX0 lX0
    have pX0 := X0.cell 0
    have lX0 := X0.lt
    clear pC00 pC01 pC02 lC0
    obtain ⟨pC00, pC01, pC02⟩ := C0.three
    have lC0 := C0.lt
    clear pXW lXW
    have pXW := XW.cell 0
    have lXW := XW.lt
    go_wp2_with fail
    generalize hWe : (w3.alloc (.cells #[.slice (some ⟨b0, 0, none⟩) ps0.length ps0.length] 52)) = w4 at *
    replace hWe := trivial
    clear hWe
    have z4 : w3.heap.size + 1 ≤ w4.heap.size := by have := X1.lt; omega
    clear hb
    clear pX0 lX0
    have pX0 := X0.cell 0
    have lX0 := X0.lt
    clear pC00 pC01 pC02 lC0
    obtain ⟨pC00, pC01, pC02⟩ := C0.three
    have lC0 := C0.lt
    clear pXW lXW
    have pXW := XW.cell 0
    have lXW := XW.lt
    have pX1 := X1.cell 0
    have lX1 := X1.lt
    go_upto_region 7 with fail
    go_cut [9, 10] (fun sa sb wx => CutP w4 qs r1 sa sb wx)
    case first =>
      go_region_held3 (fun u => u.cell? ⟨w0.heap.size, 0, none⟩ = some (.slice Z0 ps0.length d0) ∧ u.cell? ⟨w0.heap.size + 1, 0, none⟩ = some (.int .i64 ka) ∧ u.cell? ⟨w0.heap.size + 1, 1, none⟩ = some (.int .i64 aa) ∧ u.cell? ⟨w0.heap.size + 1, 2, none⟩ = some (.int .i64 ba) ∧ u.cell? ⟨w3.heap.size, 0, none⟩ = some (.slice (some ⟨b0, 0, none⟩) ps0.length ps0.length)) (first | exact ⟨pX0, pC00, pC01, pC02, pX1⟩ | exact ⟨qX0, qC00, qC01, qC02, qX1⟩ | exact ⟨rX0, rC00, rC01, rC02, rX1⟩ | exact ⟨(X0.below (h2.setCell (p := ⟨_, 0, none⟩) (by omega) _) X0.lt).cell 0, (C0.below (h2.setCell (p := ⟨_, 0, none⟩) (by omega) _) C0.lt).cell 0, (C0.below (h2.setCell (p := ⟨_, 0, none⟩) (by omega) _) C0.lt).cell 1, (C0.below (h2.setCell (p := ⟨_, 0, none⟩) (by omega) _) C0.lt).cell 2, (X1.below (h2.setCell (p := ⟨_, 0, none⟩) (by omega) _) X1.lt).cell 0⟩ | exact ⟨(X0.below (h2.setCell (p := ⟨w4.heap.size, 0, none⟩) (Nat.le_refl _) (.slice AN qs.length cN)) X0.lt).cell 0, (C0.below (h2.setCell (p := ⟨w4.heap.size, 0, none⟩) (Nat.le_refl _) (.slice AN qs.length cN)) C0.lt).cell 0, (C0.below (h2.setCell (p := ⟨w4.heap.size, 0, none⟩) (Nat.le_refl _) (.slice AN qs.length cN)) C0.lt).cell 1, (C0.below (h2.setCell (p := ⟨w4.heap.size, 0, none⟩) (Nat.le_refl _) (.slice AN qs.length cN)) C0.lt).cell 2, (X1.below (h2.setCell (p := ⟨w4.heap.size, 0, none⟩) (Nat.le_refl _) (.slice AN qs.length cN)) X1.lt).cell 0⟩ | go_keep)
        (first | (go_at_call 19; (refine (toClue_any ka aa ba w4.drew).mono ?_); rintro e u1 ⟨rfl, kk⟩; have g1 : Below w4.heap.size w4 u1 := below_undrew kk; clear kk; have h1 : Below w4.heap.size w4 u1 := (Below.refl w4.heap.size w4).trans (g1.mono (Below.refl w4.heap.size w4).size); (first | (have N := Blk.below (g := _) N g1 N.lt) | skip); (first | (have n0 := N.cell 0; have nf := N.frozen 0; have nl := N.lt) | skip); have y1 : w4.heap.size ≤ u1.heap.size := h1.size; have x1 : w4.heap.size ≤ u1.heap.size := g1.size; (try simp at x1); have qX0 := (X0.below h1 X0.lt).cell 0; obtain ⟨qC00, qC01, qC02⟩ := (C0.below h1 C0.lt).three; have qX1 := (X1.below h1 X1.lt).cell 0) | (go_at_call 19; (refine (toClue_any ka aa ba (w4.alloc (.cells #[.slice none 0 0] 52)).drew).mono ?_); rintro e u1 ⟨rfl, kk⟩; have g1 : Below (w4.alloc (.cells #[.slice none 0 0] 52)).heap.size (w4.alloc (.cells #[.slice none 0 0] 52)) u1 := below_undrew kk; clear kk; have h1 : Below w4.heap.size w4 u1 := (below_alloc w4 (.cells #[.slice none 0 0] 52)).trans (g1.mono (below_alloc w4 (.cells #[.slice none 0 0] 52)).size); have N := Blk.below (w := (w4.alloc (.cells #[.slice none 0 0] 52))) (Blk.new' rfl : Blk (w4.alloc (.cells #[.slice none 0 0] 52)) w4.heap.size 52 #[.slice none 0 0]) g1 (by simp); (first | (have n0 := N.cell 0; have nf := N.frozen 0; have nl := N.lt) | skip); have y1 : w4.heap.size ≤ u1.heap.size := h1.size; have x1 : (w4.alloc (.cells #[.slice none 0 0] 52)).heap.size ≤ u1.heap.size := g1.size; (try simp at x1); have qX0 := (X0.below h1 X0.lt).cell 0; obtain ⟨qC00, qC01, qC02⟩ := (C0.below h1 C0.lt).three; have qX1 := (X1.below h1 X1.lt).cell 0) | (go_at_call 20; (refine (hg _ _ _ u1 (blk_rd (Hb0.below h1 Hb0.lt) hn0) (Nat.le_refl _)).mono ?_); rintro e u2 ⟨vv, rfl, ON, kk⟩; have g2 : Below u1.heap.size u1 u2 := kk; clear kk; have h2 : Below w4.heap.size w4 u2 := h1.trans (g2.mono h1.size); (first | (have N := Blk.below (g := _) N g2 N.lt) | skip); (first | (have n0 := N.cell 0; have nf := N.frozen 0; have nl := N.lt) | skip); have y2 : w4.heap.size ≤ u2.heap.size := h2.size; have x2 : u1.heap.size ≤ u2.heap.size := g2.size; (try simp at x2); have rX0 := (X0.below h2 X0.lt).cell 0; obtain ⟨rC00, rC01, rC02⟩ := (C0.below h2 C0.lt).three; have rX1 := (X1.below h2 X1.lt).cell 0; obtain ⟨AN, cN, hvN⟩ := ON.form; subst hvN) | (go_at_call 20; (refine (hg _ _ _ (u1.alloc (.cells #[.slice none 0 0] 52)) (blk_rd ((Hb0.below h1 Hb0.lt).alloc (.cells #[.slice none 0 0] 52)) hn0) (Nat.le_refl _)).mono ?_); rintro e u2 ⟨vv, rfl, ON, kk⟩; have g2 : Below (u1.alloc (.cells #[.slice none 0 0] 52)).heap.size (u1.alloc (.cells #[.slice none 0 0] 52)) u2 := kk; clear kk; have h2 : Below w4.heap.size w4 u2 := (h1.alloc h1.size (.cells #[.slice none 0 0] 52)).trans (g2.mono (h1.alloc h1.size (.cells #[.slice none 0 0] 52)).size); have N := Blk.below (w := (u1.alloc (.cells #[.slice none 0 0] 52))) (Blk.new' rfl : Blk (u1.alloc (.cells #[.slice none 0 0] 52)) u1.heap.size 52 #[.slice none 0 0]) g2 (by simp); (first | (have n0 := N.cell 0; have nf := N.frozen 0; have nl := N.lt) | skip); have y2 : w4.heap.size ≤ u2.heap.size := h2.size; have x2 : (u1.alloc (.cells #[.slice none 0 0] 52)).heap.size ≤ u2.heap.size := g2.size; (try simp at x2); have rX0 := (X0.below h2 X0.lt).cell 0; obtain ⟨rC00, rC01, rC02⟩ := (C0.below h2 C0.lt).three; have rX1 := (X1.below h2 X1.lt).cell 0; obtain ⟨AN, cN, hvN⟩ := ON.form; subst hvN) | fail)
      all_goals (go_wp2_with fail; go_meet; first | exact cutP_new h2 ON (by first | omega | (simp; done) | (simp; omega)) | exact cutP_set h2 N ON (by omega) (by first | omega | (simp; done) | (simp; omega)))
    case rest =>
      obtain ⟨w5, hww⟩ : ∃ x, x = wc := ⟨_, rfl⟩
      subst hww
      obtain ⟨g1, A1, c1, rfl, rfl, gz1, XG, O1, gn1, hb⟩ := hcut
      have lg1 := XG.lt
      have og1 := fun k h => (O1.lt k h).1
      have ol1 := fun k h => (O1.lt k h).2
      replace R0 := R0.below hb (by omega)
      replace X0 := X0.below hb (by omega)
      replace C0 := C0.below hb (by omega)
      replace XW := XW.below hb (by omega)
      replace O0 := O0.below hb (Nat.le_refl _)
      replace Hb0 := Hb0.below hb (by omega)
      replace X1 := X1.below hb (by omega)
      replace Bt := Bt.trans (hb.mono (by omega))
      have z5 : w4.heap.size ≤ w5.heap.size := hb.size
      clear hb
      clear pX0 lX0
      have pX0 := X0.cell 0
      have lX0 := X0.lt
      clear pC00 pC01 pC02 lC0
      obtain ⟨pC00, pC01, pC02⟩ := C0.three
      have lC0 := C0.lt
      clear pXW lXW
      have pXW := XW.cell 0
      have lXW := XW.lt
      clear pX1 lX1
      have pX1 := X1.cell 0
      have lX1 := X1.lt
      have pXG := XG.cell 0
      have lXG := XG.lt
      go_wp2_with fail
      refine (eqPuzzle_rd _ _ _ _ qs _ _ w5 O1.rd O0.rd (Nat.le_refl _) (Nat.le_refl _) hz0).mono ?_
      rintro e w6 ⟨rfl, hb0⟩
      have hb : Below w5.heap.size w5 w6 := hb0
      have z6 : w5.heap.size ≤ w6.heap.size := hb.size
      replace R0 := R0.below hb (by omega)
      replace X0 := X0.below hb (by omega)
      replace C0 := C0.below hb (by omega)
      replace XW := XW.below hb (by omega)
      replace O0 := O0.below hb (Nat.le_refl _)
      replace Hb0 := Hb0.below hb (by omega)
      replace X1 := X1.below hb (by omega)
      replace XG := XG.below hb (by omega)
      replace O1 := O1.below hb (Nat.le_refl _)
      replace Bt := Bt.trans (hb.mono (by omega))
      clear hb hb0
      clear pX0 lX0
      have pX0 := X0.cell 0
      have lX0 := X0.lt
      clear pC00 pC01 pC02 lC0
      obtain ⟨pC00, pC01, pC02⟩ := C0.three
      have lC0 := C0.lt
      clear pXW lXW
      have pXW := XW.cell 0
      have lXW := XW.lt
      clear pX1 lX1
      have pX1 := X1.cell 0
      have lX1 := X1.lt
      clear pXG lXG
      have pXG := XG.cell 0
      have lXG := XG.lt
      go_wp2_with fail
      go_region_held3 (fun u => u.cell? ⟨w3.heap.size, 0, none⟩ = some (.slice (some ⟨b0, 0, none⟩) ps0.length ps0.length) ∧ u.cell? ⟨w0.heap.size, 0, none⟩ = some (.slice Z0 ps0.length d0)) (first | exact ⟨pX1, pX0⟩ | exact ⟨q1, q0⟩ | exact ⟨r1, r0⟩)
        (first
        | (go_at_call 18; (refine (toPuzzle_any Z0 d0 ps0 w0.heap.size w6.drew R0.drew (by show _ ≤ w6.heap.size; omega) hn0).mono ?_); rintro e u1 ⟨m, rfl, mg, Hm, k1⟩; have h1 : Below w6.heap.size w6 u1 := below_undrew k1; have q1 := (X1.below h1 X1.lt).cell 0; have q0 := (X0.below h1 X0.lt).cell 0)
        | (go_at_call 21; (refine (eqPuzzle_rd _ _ _ _ ps0 _ _ u1 (blk_rd (Hb0.below h1 Hb0.lt) hn0) (blk_rd Hm hn0) (Nat.le_refl _) (Nat.le_refl _) hn0).mono ?_); rintro e w7 ⟨rfl, k2⟩; have hb0 := h1.trans (k2.mono h1.size); have r1 := (X1.below hb0 X1.lt).cell 0; have r0 := (X0.below hb0 X0.lt).cell 0)
        | fail)
      have hb : Below w6.heap.size w6 w7 := hb0
      have z7 : w6.heap.size ≤ w7.heap.size := hb.size
      clear q1 q0 r1 r0 mg Hm k1 k2 h1
      replace R0 := R0.below hb (by omega)
      replace X0 := X0.below hb (by omega)
      replace C0 := C0.below hb (by omega)
      replace XW := XW.below hb (by omega)
      replace O0 := O0.below hb (Nat.le_refl _)
      replace Hb0 := Hb0.below hb (by omega)
      replace X1 := X1.below hb (by omega)
      replace XG := XG.below hb (by omega)
      replace O1 := O1.below hb (Nat.le_refl _)
      replace Bt := Bt.trans (hb.mono (by omega))
      clear hb hb0
      clear pX0 lX0
      have pX0 := X0.cell 0
      have lX0 := X0.lt
      clear pC00 pC01 pC02 lC0
      obtain ⟨pC00, pC01, pC02⟩ := C0.three
      have lC0 := C0.lt
      clear pXW lXW
      have pXW := XW.cell 0
      have lXW := XW.lt
      clear pX1 lX1
      have pX1 := X1.cell 0
      have lX1 := X1.lt
      clear pXG lXG
      have pXG := XG.cell 0
      have lXG := XG.lt
      go_wp2_with fail
      refine (markPz_new _ ps0 1 b0 w7 (blk_own Hb0 hn0) hn0 (by omega) (by omega)).mono ?_
      rintro e w8 ⟨rfl, _, ht⟩
      have hge : ∀ k ∈ rowL (.slice (some ⟨b0, 0, none⟩) ps0.length ps0.length), k = b0 := fun k hk => by simpa [rowL_some] using hk
      clear Hb0
      clear pX1 lX1
      clear X1
      have z8 : w7.heap.size ≤ w8.heap.size := ht.size
      replace R0 := R0.turned ht (by omega) (fun k hk => by have := hge k hk; omega)
      replace X0 := X0.turned ht (fun hk => by have := hge _ hk; omega)
      replace C0 := C0.turned ht (fun hk => by have := hge _ hk; omega)
      replace XW := XW.turned ht (fun hk => by have := hge _ hk; omega)
      replace O0 := O0.turned ht (fun k hv hk => by have := hge k hk; have := ol0 k hv; omega)
      replace XG := XG.turned ht (fun hk => by have := hge _ hk; omega)
      replace O1 := O1.turned ht (fun k hv hk => by have := hge k hk; have := og1 k hv; omega)
      replace Bt := Bt.trans (ht.below (by omega) (fun k hk => by have := hge k hk; omega))
      clear ht hge
      clear pX0 lX0
      have pX0 := X0.cell 0
      have lX0 := X0.lt
      clear pC00 pC01 pC02 lC0
      obtain ⟨pC00, pC01, pC02⟩ := C0.three
      have lC0 := C0.lt
      clear pXW lXW
      have pXW := XW.cell 0
      have lXW := XW.lt
      clear pXG lXG
      have pXG := XG.cell 0
      have lXG := XG.lt
      go_wp2_with fail
      refine (eqPuzzle_rd _ _ _ _ qs _ _ w8 O1.rd O0.rd (Nat.le_refl _) (Nat.le_refl _) hz0).mono ?_
      rintro e w9 ⟨rfl, hb0⟩
      have hb : Below w8.heap.size w8 w9 := hb0
      have z9 : w8.heap.size ≤ w9.heap.size := hb.size
      replace R0 := R0.below hb (by omega)
      replace X0 := X0.below hb (by omega)
      replace C0 := C0.below hb (by omega)
      replace XW := XW.below hb (by omega)
      replace O0 := O0.below hb (Nat.le_refl _)
      replace XG := XG.below hb (by omega)
      replace O1 := O1.below hb (Nat.le_refl _)
      replace Bt := Bt.trans (hb.mono (by omega))
      clear hb hb0
      clear pX0 lX0
      have pX0 := X0.cell 0
      have lX0 := X0.lt
      clear pC00 pC01 pC02 lC0
      obtain ⟨pC00, pC01, pC02⟩ := C0.three
      have lC0 := C0.lt
      clear pXW lXW
      have pXW := XW.cell 0
      have lXW := XW.lt
      clear pXG lXG
      have pXG := XG.cell 0
      have lXG := XG.lt
      go_wp2_with fail
      refine (markPz_new _ qs 1 _ w9 O1 hz0 (by omega) (by omega)).mono ?_
      rintro e w10 ⟨rfl, M1, ht⟩
      have hge := fun k hk => og1 k (mem_rowL.1 hk)
      have hlt := fun k hk => ol1 k (mem_rowL.1 hk)
      have hxg : ∀ k, k ∈ rowL (.slice A1 qs.length c1) → k ≠ g1 := fun k hk => gn1 k (mem_rowL.1 hk)
      clear O1
      have XG2 := XG.turned ht (fun hk => hxg _ hk rfl)
      clear pXG lXG
      clear XG
      have z10 : w9.heap.size ≤ w10.heap.size := ht.size
      replace R0 := R0.turned ht (by omega) (fun k hk => by have := hge k hk; omega)
      replace X0 := X0.turned ht (fun hk => by have := hge _ hk; have := hlt _ hk; omega)
      replace C0 := C0.turned ht (fun hk => by have := hge _ hk; have := hlt _ hk; omega)
      replace XW := XW.turned ht (fun hk => by have := hge _ hk; have := hlt _ hk; omega)
      replace O0 := O0.turned ht (fun k hv hk => by have := hge k hk; have := ol0 k hv; omega)
      replace Bt := Bt.trans (ht.below (by omega) (fun k hk => by have := hge k hk; omega))
      clear ht hge
      clear pX0 lX0
      have pX0 := X0.cell 0
      have lX0 := X0.lt
      clear pC00 pC01 pC02 lC0
      obtain ⟨pC00, pC01, pC02⟩ := C0.three
      have lC0 := C0.lt
      clear pXW lXW
      have pXW := XW.cell 0
      have lXW := XW.lt
      clear hlt
      have XG := XG2
      clear XG2
      clear pX0 lX0
      have pX0 := X0.cell 0
      have lX0 := X0.lt
      clear pC00 pC01 pC02 lC0
      obtain ⟨pC00, pC01, pC02⟩ := C0.three
      have lC0 := C0.lt
      clear pXW lXW
      have pXW := XW.cell 0
      have lXW := XW.lt
      have pXG := XG.cell 0
      have lXG := XG.lt
      go_wp2_with fail
      refine (heldPz_any _ _ 1 _ w10 M1 hz0 (by omega) (by omega)).mono ?_
      rintro e w11 ⟨rfl, hb0⟩
      have hb : Below w10.heap.size w10 w11 := hb0
      have z11 : w10.heap.size ≤ w11.heap.size := hb.size
      replace R0 := R0.below hb (by omega)
      replace X0 := X0.below hb (by omega)
      replace C0 := C0.below hb (by omega)
      replace XW := XW.below hb (by omega)
      replace O0 := O0.below hb (Nat.le_refl _)
      replace M1 := M1.below hb (Nat.le_refl _)
      replace XG := XG.below hb (by omega)
      replace Bt := Bt.trans (hb.mono (by omega))
      clear hb hb0
      clear pX0 lX0
      have pX0 := X0.cell 0
      have lX0 := X0.lt
      clear pC00 pC01 pC02 lC0
      obtain ⟨pC00, pC01, pC02⟩ := C0.three
      have lC0 := C0.lt
      clear pXW lXW
      have pXW := XW.cell 0
      have lXW := XW.lt
      clear pXG lXG
      have pXG := XG.cell 0
      have lXG := XG.lt
      go_upto_region 24 with fail
      go_cut [14, 15] (fun sa sb wx => CutP w11 qs r1 sa sb wx)
      case first =>
        go_region_held3 (fun u => u.cell? ⟨w0.heap.size, 0, none⟩ = some (.slice Z0 ps0.length d0) ∧ u.cell? ⟨w0.heap.size + 1, 0, none⟩ = some (.int .i64 ka) ∧ u.cell? ⟨w0.heap.size + 1, 1, none⟩ = some (.int .i64 aa) ∧ u.cell? ⟨w0.heap.size + 1, 2, none⟩ = some (.int .i64 ba)) (first | exact ⟨pX0, pC00, pC01, pC02⟩ | exact ⟨qX0, qC00, qC01, qC02⟩ | exact ⟨rX0, rC00, rC01, rC02⟩ | exact ⟨tX0, tC00, tC01, tC02⟩ | exact ⟨(X0.below (h3.setCell (p := ⟨_, 0, none⟩) (by omega) _) X0.lt).cell 0, (C0.below (h3.setCell (p := ⟨_, 0, none⟩) (by omega) _) C0.lt).cell 0, (C0.below (h3.setCell (p := ⟨_, 0, none⟩) (by omega) _) C0.lt).cell 1, (C0.below (h3.setCell (p := ⟨_, 0, none⟩) (by omega) _) C0.lt).cell 2⟩ | exact ⟨(X0.below (h3.setCell (p := ⟨w11.heap.size, 0, none⟩) (Nat.le_refl _) (.slice AN qs.length cN)) X0.lt).cell 0, (C0.below (h3.setCell (p := ⟨w11.heap.size, 0, none⟩) (Nat.le_refl _) (.slice AN qs.length cN)) C0.lt).cell 0, (C0.below (h3.setCell (p := ⟨w11.heap.size, 0, none⟩) (Nat.le_refl _) (.slice AN qs.length cN)) C0.lt).cell 1, (C0.below (h3.setCell (p := ⟨w11.heap.size, 0, none⟩) (Nat.le_refl _) (.slice AN qs.length cN)) C0.lt).cell 2⟩ | go_keep)
          (first | (go_at_call 18; (refine (toPuzzle_any Z0 d0 ps0 w0.heap.size w11.drew (R0.below (Below.refl w11.heap.size w11).drew (by omega)) (by have := (Below.refl w11.heap.size w11).size; show w0.heap.size ≤ w11.heap.size; omega) hn0).mono ?_); rintro e u1 ⟨d0, rfl, d0g, Hd0, kk⟩; have g1 : Below w11.heap.size w11 u1 := below_undrew kk; clear kk; have h1 : Below w11.heap.size w11 u1 := (Below.refl w11.heap.size w11).trans (g1.mono (Below.refl w11.heap.size w11).size); (first | (have N := Blk.below (g := _) N g1 N.lt) | skip); (first | (have n0 := N.cell 0; have nf := N.frozen 0; have nl := N.lt) | skip); have y1 : w11.heap.size ≤ u1.heap.size := h1.size; have x1 : w11.heap.size ≤ u1.heap.size := g1.size; (try simp at x1); have qX0 := (X0.below h1 X0.lt).cell 0; obtain ⟨qC00, qC01, qC02⟩ := (C0.below h1 C0.lt).three) | (go_at_call 18; (refine (toPuzzle_any Z0 d0 ps0 w0.heap.size (w11.alloc (.cells #[.slice none 0 0] 52)).drew (R0.below (below_alloc w11 (.cells #[.slice none 0 0] 52)).drew (by omega)) (by have := (below_alloc w11 (.cells #[.slice none 0 0] 52)).size; show w0.heap.size ≤ (w11.alloc (.cells #[.slice none 0 0] 52)).heap.size; omega) hn0).mono ?_); rintro e u1 ⟨d0, rfl, d0g, Hd0, kk⟩; have g1 : Below (w11.alloc (.cells #[.slice none 0 0] 52)).heap.size (w11.alloc (.cells #[.slice none 0 0] 52)) u1 := below_undrew kk; clear kk; have h1 : Below w11.heap.size w11 u1 := (below_alloc w11 (.cells #[.slice none 0 0] 52)).trans (g1.mono (below_alloc w11 (.cells #[.slice none 0 0] 52)).size); have N := Blk.below (w := (w11.alloc (.cells #[.slice none 0 0] 52))) (Blk.new' rfl : Blk (w11.alloc (.cells #[.slice none 0 0] 52)) w11.heap.size 52 #[.slice none 0 0]) g1 (by simp); (first | (have n0 := N.cell 0; have nf := N.frozen 0; have nl := N.lt) | skip); have y1 : w11.heap.size ≤ u1.heap.size := h1.size; have x1 : (w11.alloc (.cells #[.slice none 0 0] 52)).heap.size ≤ u1.heap.size := g1.size; (try simp at x1); have qX0 := (X0.below h1 X0.lt).cell 0; obtain ⟨qC00, qC01, qC02⟩ := (C0.below h1 C0.lt).three) | (go_at_call 19; (refine (toClue_any ka aa ba u1).mono ?_); rintro e u2 ⟨rfl, kk⟩; have g2 : Below u1.heap.size u1 u2 := kk; clear kk; have h2 : Below w11.heap.size w11 u2 := h1.trans (g2.mono h1.size); (first | (have N := Blk.below (g := _) N g2 N.lt) | skip); (first | (have n0 := N.cell 0; have nf := N.frozen 0; have nl := N.lt) | skip); have y2 : w11.heap.size ≤ u2.heap.size := h2.size; have x2 : u1.heap.size ≤ u2.heap.size := g2.size; (try simp at x2); have rX0 := (X0.below h2 X0.lt).cell 0; obtain ⟨rC00, rC01, rC02⟩ := (C0.below h2 C0.lt).three; have Hd0 := Hd0.below g2 Hd0.lt) | (go_at_call 19; (refine (toClue_any ka aa ba (u1.alloc (.cells #[.slice none 0 0] 52))).mono ?_); rintro e u2 ⟨rfl, kk⟩; have g2 : Below (u1.alloc (.cells #[.slice none 0 0] 52)).heap.size (u1.alloc (.cells #[.slice none 0 0] 52)) u2 := kk; clear kk; have h2 : Below w11.heap.size w11 u2 := (h1.alloc h1.size (.cells #[.slice none 0 0] 52)).trans (g2.mono (h1.alloc h1.size (.cells #[.slice none 0 0] 52)).size); have N := Blk.below (w := (u1.alloc (.cells #[.slice none 0 0] 52))) (Blk.new' rfl : Blk (u1.alloc (.cells #[.slice none 0 0] 52)) u1.heap.size 52 #[.slice none 0 0]) g2 (by simp); (first | (have n0 := N.cell 0; have nf := N.frozen 0; have nl := N.lt) | skip); have y2 : w11.heap.size ≤ u2.heap.size := h2.size; have x2 : (u1.alloc (.cells #[.slice none 0 0] 52)).heap.size ≤ u2.heap.size := g2.size; (try simp at x2); have rX0 := (X0.below h2 X0.lt).cell 0; obtain ⟨rC00, rC01, rC02⟩ := (C0.below h2 C0.lt).three; have Hd0 := (Hd0.alloc (.cells #[.slice none 0 0] 52)).below g2 (Hd0.alloc (.cells #[.slice none 0 0] 52)).lt) | (go_at_call 20; (refine (hg _ _ _ u2 (blk_rd Hd0 hn0) (Nat.le_refl _)).mono ?_); rintro e u3 ⟨vv, rfl, ON, kk⟩; have g3 : Below u2.heap.size u2 u3 := kk; clear kk; have h3 : Below w11.heap.size w11 u3 := h2.trans (g3.mono h2.size); (first | (have N := Blk.below (g := _) N g3 N.lt) | skip); (first | (have n0 := N.cell 0; have nf := N.frozen 0; have nl := N.lt) | skip); have y3 : w11.heap.size ≤ u3.heap.size := h3.size; have x3 : u2.heap.size ≤ u3.heap.size := g3.size; (try simp at x3); have tX0 := (X0.below h3 X0.lt).cell 0; obtain ⟨tC00, tC01, tC02⟩ := (C0.below h3 C0.lt).three; obtain ⟨AN, cN, hvN⟩ := ON.form; subst hvN) | (go_at_call 20; (refine (hg _ _ _ (u2.alloc (.cells #[.slice none 0 0] 52)) (blk_rd (Hd0.alloc (.cells #[.slice none 0 0] 52)) hn0) (Nat.le_refl _)).mono ?_); rintro e u3 ⟨vv, rfl, ON, kk⟩; have g3 : Below (u2.alloc (.cells #[.slice none 0 0] 52)).heap.size (u2.alloc (.cells #[.slice none 0 0] 52)) u3 := kk; clear kk; have h3 : Below w11.heap.size w11 u3 := (h2.alloc h2.size (.cells #[.slice none 0 0] 52)).trans (g3.mono (h2.alloc h2.size (.cells #[.slice none 0 0] 52)).size); have N := Blk.below (w := (u2.alloc (.cells #[.slice none 0 0] 52))) (Blk.new' rfl : Blk (u2.alloc (.cells #[.slice none 0 0] 52)) u2.heap.size 52 #[.slice none 0 0]) g3 (by simp); (first | (have n0 := N.cell 0; have nf := N.frozen 0; have nl := N.lt) | skip); have y3 : w11.heap.size ≤ u3.heap.size := h3.size; have x3 : (u2.alloc (.cells #[.slice none 0 0] 52)).heap.size ≤ u3.heap.size := g3.size; (try simp at x3); have tX0 := (X0.below h3 X0.lt).cell 0; obtain ⟨tC00, tC01, tC02⟩ := (C0.below h3 C0.lt).three; obtain ⟨AN, cN, hvN⟩ := ON.form; subst hvN) | fail)
        all_goals (go_wp2_with fail; go_meet; first | exact cutP_new h3 ON (by first | omega | (simp; done) | (simp; omega)) | exact cutP_set h3 N ON (by omega) (by first | omega | (simp; done) | (simp; omega)))
      case rest =>
        obtain ⟨w12, hww⟩ : ∃ x, x = wc := ⟨_, rfl⟩
        subst hww
        obtain ⟨g2, A2, c2, rfl, rfl, gz2, XH, O2, gn2, hb⟩ := hcut
        have lg2 := XH.lt
        have og2 := fun k h => (O2.lt k h).1
        have ol2 := fun k h => (O2.lt k h).2
        replace R0 := R0.below hb (by omega)
        replace X0 := X0.below hb (by omega)
        replace C0 := C0.below hb (by omega)
        replace XW := XW.below hb (by omega)
        replace O0 := O0.below hb (Nat.le_refl _)
        replace M1 := M1.below hb (Nat.le_refl _)
        replace XG := XG.below hb (by omega)
        replace Bt := Bt.trans (hb.mono (by omega))
        have z12 : w11.heap.size ≤ w12.heap.size := hb.size
        clear hb
        clear pX0 lX0
        have pX0 := X0.cell 0
        have lX0 := X0.lt
        clear pC00 pC01 pC02 lC0
        obtain ⟨pC00, pC01, pC02⟩ := C0.three
        have lC0 := C0.lt
        clear pXW lXW
        have pXW := XW.cell 0
        have lXW := XW.lt
        clear pXG lXG
        have pXG := XG.cell 0
        have lXG := XG.lt
        have pXH := XH.cell 0
        have lXH := XH.lt
        go_wp2_with fail
        refine (eqPuzzle_rd _ _ _ _ qs _ _ w12 O2.rd O0.rd (Nat.le_refl _) (Nat.le_refl _) hz0).mono ?_
        rintro e w13 ⟨rfl, hb0⟩
        have hb : Below w12.heap.size w12 w13 := hb0
        have z13 : w12.heap.size ≤ w13.heap.size := hb.size
        replace R0 := R0.below hb (by omega)
        replace X0 := X0.below hb (by omega)
        replace C0 := C0.below hb (by omega)
        replace XW := XW.below hb (by omega)
        replace O0 := O0.below hb (Nat.le_refl _)
        replace M1 := M1.below hb (Nat.le_refl _)
        replace XG := XG.below hb (by omega)
        replace XH := XH.below hb (by omega)
        replace O2 := O2.below hb (Nat.le_refl _)
        replace Bt := Bt.trans (hb.mono (by omega))
        clear hb hb0
        clear pX0 lX0
        have pX0 := X0.cell 0
        have lX0 := X0.lt
        clear pC00 pC01 pC02 lC0
        obtain ⟨pC00, pC01, pC02⟩ := C0.three
        have lC0 := C0.lt
        clear pXW lXW
        have pXW := XW.cell 0
        have lXW := XW.lt
        clear pXG lXG
        have pXG := XG.cell 0
        have lXG := XG.lt
        clear pXH lXH
        have pXH := XH.cell 0
        have lXH := XH.lt
        go_wp2_with fail
        refine (heldPz_any _ _ 1 _ w13 M1 hz0 (by omega) (by omega)).mono ?_
        rintro e w14 ⟨rfl, hb0⟩
        have hb : Below w13.heap.size w13 w14 := hb0
        have z14 : w13.heap.size ≤ w14.heap.size := hb.size
        replace R0 := R0.below hb (by omega)
        replace X0 := X0.below hb (by omega)
        replace C0 := C0.below hb (by omega)
        replace XW := XW.below hb (by omega)
        replace O0 := O0.below hb (Nat.le_refl _)
        replace M1 := M1.below hb (Nat.le_refl _)
        replace XG := XG.below hb (by omega)
        replace XH := XH.below hb (by omega)
        replace O2 := O2.below hb (Nat.le_refl _)
        replace Bt := Bt.trans (hb.mono (by omega))
        clear hb hb0
        clear pX0 lX0
        have pX0 := X0.cell 0
        have lX0 := X0.lt
        clear pC00 pC01 pC02 lC0
        obtain ⟨pC00, pC01, pC02⟩ := C0.three
        have lC0 := C0.lt
        clear pXW lXW
        have pXW := XW.cell 0
        have lXW := XW.lt
        clear pXG lXG
        have pXG := XG.cell 0
        have lXG := XG.lt
        clear pXH lXH
        have pXH := XH.cell 0
        have lXH := XH.lt
        go_wp2_with fail
        go_ret
        exact ⟨rfl, Bt⟩

end Go.Proofs.Ytehffiaobjlpoaa
