/- Desks: sizes and copies of the laws' own; a desk as an argument. -/
import Derived.Test.YtehffiaobjlpoaaDkG
import Derived.Deep.Strs
import Derived.Deep.DeepCutAuto
namespace Go.Proofs.Ytehffiaobjlpoaa
set_option maxRecDepth 100000
open Go.RowKit

set_option maxHeartbeats 1000000 in
theorem szDesk_yes (st x y r s t : Int) (A A' A'' : Option Addr) (n n' n'' c c' c'' : Nat) (w : World) (h : n + n' + n'' ≤ 1048576) :
    Calls Try.prog 12 #[dkv st (.slice A n c) (.slice A' n' c') x y r s t (.slice A'' n'' c''), .int .i64 1048576] w fun e w' => e = .returned (.int .i64 (1048576 - n - n' - n'')) ∧ Below w.heap.size w w' := by
  have X0 : Blk (w.alloc (.cells (dkc st (.slice A n c) (.slice A' n' c') x y r s t (.slice A'' n'' c'')) 39)) w.heap.size 39 (dkc st (.slice A n c) (.slice A' n' c') x y r s t (.slice A'' n'' c'')) := Blk.new _ _ _
  have e1 : ¬ ((1048576 : Int) - n - n') < 0 := by omega
  have e2 : ¬ ((1048576 : Int) - n - n' - n'') < 0 := by omega
  have HS := Lib.hid (szF_pos (left := 1048576 - (n : Int) - n') (n := (n'' : Int)) (by omega))
  go_enter Try.func12, Try.ntmps12
  go_wp2_with fail
  refine (szStairs_yes st A A' n c n' c' _ (by omega)).mono ?_
  rintro e w1 ⟨rfl, hb⟩
  have X1 := X0.below hb (by simp)
  obtain ⟨p0, p1, p2, p3, p4, p5, p6, p7, p8⟩ := X1.nine
  have lX := X1.lt
  have b1 : Below w.heap.size w w1 := (below_alloc _ _).trans (hb.mono (by simp))
  clear X0 hb
  go_wp2_with fail
  refine (szIntS_any A'' n'' c'' _ w1 (by omega) (by omega) (by omega)).mono ?_
  rintro e w2 ⟨rfl, rfl⟩
  rw [HS.out]
  go_wp2_with fail
  go_ret
  exact ⟨rfl, b1⟩

set_option maxHeartbeats 1000000 in
theorem szDesk_no (st x y r s t : Int) (A A' A'' : Option Addr) (n n' n'' c c' c'' : Nat) (w : World) (hn : n ≤ 9223372036854775807) (hn' : n' ≤ 9223372036854775807) (hn'' : n'' ≤ 9223372036854775807) (h : 1048576 < n + n' + n'') :
    Calls Try.prog 12 #[dkv st (.slice A n c) (.slice A' n' c') x y r s t (.slice A'' n'' c''), .int .i64 1048576] w fun e w' => e = .returned (.int .i64 (-1)) ∧ Below w.heap.size w w' := by
  have X0 : Blk (w.alloc (.cells (dkc st (.slice A n c) (.slice A' n' c') x y r s t (.slice A'' n'' c'')) 39)) w.heap.size 39 (dkc st (.slice A n c) (.slice A' n' c') x y r s t (.slice A'' n'' c'')) := Blk.new _ _ _
  by_cases hs : n + n' ≤ 1048576
  · have e1 : ¬ ((1048576 : Int) - n - n') < 0 := by omega
    have HS := Lib.hid (szF_neg (left := 1048576 - (n : Int) - n') (n := (n'' : Int)) (by omega))
    go_enter Try.func12, Try.ntmps12
    go_wp2_with fail
    refine (szStairs_yes st A A' n c n' c' _ (by omega)).mono ?_
    rintro e w1 ⟨rfl, hb⟩
    have X1 := X0.below hb (by simp)
    obtain ⟨p0, p1, p2, p3, p4, p5, p6, p7, p8⟩ := X1.nine
    have lX := X1.lt
    have b1 : Below w.heap.size w w1 := (below_alloc _ _).trans (hb.mono (by simp))
    clear X0 hb
    go_wp2_with fail
    refine (szIntS_any A'' n'' c'' _ w1 hn'' (by omega) (by omega)).mono ?_
    rintro e w2 ⟨rfl, rfl⟩
    rw [HS.out]
    go_wp2_with fail
    go_ret
    exact ⟨rfl, b1⟩
  · go_enter Try.func12, Try.ntmps12
    go_wp2_with fail
    refine (szStairs_no st A A' n c n' c' _ hn hn' (by omega)).mono ?_
    rintro e w1 ⟨rfl, hb⟩
    go_wp2_with fail
    go_ret
    exact ⟨rfl, (below_alloc _ _).trans (hb.mono (by simp))⟩

set_option maxHeartbeats 400000 in
theorem toMovingD_any (x y : Int) (w : World) :
    Calls Try.prog 38 #[.agg #[.int .i64 x, .int .i64 y]] w fun e w' => e = .returned (.agg #[.int .i64 x, .int .i64 y]) ∧ Below w.heap.size w w' := by
  go_enter Try.func38, Try.ntmps38
  go_wp2_with fail
  refine bodyPost_ret (v := .agg #[.int .i64 x, .int .i64 y]) (by simp [results, Try.results38, go_sem]) rfl ⟨rfl, ?_⟩
  exact (((Below.refl _ _).alloc (Nat.le_refl _) _).alloc (by simp) _).alloc (by simp; omega) _
set_option maxHeartbeats 400000 in
theorem toFlightD_any (x y z : Int) (w : World) :
    Calls Try.prog 39 #[.agg #[.int .i64 x, .int .i64 y, .int .i64 z]] w fun e w' => e = .returned (.agg #[.int .i64 x, .int .i64 y, .int .i64 z]) ∧ Below w.heap.size w w' := by
  go_enter Try.func39, Try.ntmps39
  go_wp2_with fail
  refine bodyPost_ret (v := .agg #[.int .i64 x, .int .i64 y, .int .i64 z]) (by simp [results, Try.results39, go_sem]) rfl ⟨rfl, ?_⟩
  exact (((Below.refl _ _).alloc (Nat.le_refl _) _).alloc (by simp) _).alloc (by simp; omega) _

theorem tset (w : World) (g i : Nat) (v : Value) : Turned w (w.setCell ⟨g, i, none⟩ v) [g] := by
  have b := (Below.refl g w).setCell (p := ⟨g, i, none⟩) (Nat.le_refl g) v
  exact ⟨b.os, b.tape, b.output, b.size, fun k _ hk => Below.heap_setCell w _ _ k (by simpa using hk)⟩

/-- a copy of a desk, in rows of its own -/
def CopiedD (w : World) (st x y r s t : Int) (ss bs js : List Int) (e : Ending) (w' : World) : Prop :=
  ∃ g g' g'', e = .returned (dkv st (.slice (some ⟨g, 0, none⟩) ss.length ss.length) (.slice (some ⟨g', 0, none⟩) bs.length bs.length) x y r s t (.slice (some ⟨g'', 0, none⟩) js.length js.length)) ∧ Blk w' g 3 (ints ss) ∧ Blk w' g' 3 (ints bs) ∧ Blk w' g'' 3 (ints js) ∧
    w.heap.size ≤ g ∧ w.heap.size ≤ g' ∧ w.heap.size ≤ g'' ∧ Below w.heap.size w w'

set_option maxHeartbeats 2000000 in
theorem toDesk_any (st x y r s t : Int) (A A' A'' : Option Addr) (c c' c'' : Nat) (ss bs js : List Int) (B : Nat) (w : World) (S : St w B st A A' c c' ss bs) (R : Rd w B A'' c'' js) (hB : B ≤ w.heap.size) (hn : js.length ≤ 1048576) :
    Calls Try.prog 14 #[dkv st (.slice A ss.length c) (.slice A' bs.length c') x y r s t (.slice A'' js.length c'')] w (CopiedD w st x y r s t ss bs js) := by
  have X0 : Blk (((w.alloc (.cells (dkc st (.slice A ss.length c) (.slice A' bs.length c') x y r s t (.slice A'' js.length c'')) 39)).alloc (.cells (dkc 0 (.slice none 0 0) (.slice none 0 0) 0 0 0 0 0 (.slice none 0 0)) 30)).alloc (.cells (dkc 0 (.slice none 0 0) (.slice none 0 0) 0 0 0 0 0 (.slice none 0 0)) 30)) w.heap.size 39 (dkc st (.slice A ss.length c) (.slice A' bs.length c') x y r s t (.slice A'' js.length c'')) := ((Blk.new' (by simp)).alloc _).alloc _
  have R0 : Blk (((w.alloc (.cells (dkc st (.slice A ss.length c) (.slice A' bs.length c') x y r s t (.slice A'' js.length c'')) 39)).alloc (.cells (dkc 0 (.slice none 0 0) (.slice none 0 0) 0 0 0 0 0 (.slice none 0 0)) 30)).alloc (.cells (dkc 0 (.slice none 0 0) (.slice none 0 0) 0 0 0 0 0 (.slice none 0 0)) 30)) (w.heap.size + 1) 30 (dkc 0 (.slice none 0 0) (.slice none 0 0) 0 0 0 0 0 (.slice none 0 0)) := (Blk.new' (by simp)).alloc _
  have O0 : Blk (((w.alloc (.cells (dkc st (.slice A ss.length c) (.slice A' bs.length c') x y r s t (.slice A'' js.length c'')) 39)).alloc (.cells (dkc 0 (.slice none 0 0) (.slice none 0 0) 0 0 0 0 0 (.slice none 0 0)) 30)).alloc (.cells (dkc 0 (.slice none 0 0) (.slice none 0 0) 0 0 0 0 0 (.slice none 0 0)) 30)) (w.heap.size + 2) 30 (dkc 0 (.slice none 0 0) (.slice none 0 0) 0 0 0 0 0 (.slice none 0 0)) := Blk.new' (by simp)
  have b0 : Below w.heap.size w (((w.alloc (.cells (dkc st (.slice A ss.length c) (.slice A' bs.length c') x y r s t (.slice A'' js.length c'')) 39)).alloc (.cells (dkc 0 (.slice none 0 0) (.slice none 0 0) 0 0 0 0 0 (.slice none 0 0)) 30)).alloc (.cells (dkc 0 (.slice none 0 0) (.slice none 0 0) 0 0 0 0 0 (.slice none 0 0)) 30)) := ((below_alloc _ _).alloc (by simp) _).alloc (by simp; omega) _
  have S0 := S.below b0 hB
  have Q0 := R.below b0 hB
  have zz : w.heap.size + 3 ≤ (((w.alloc (.cells (dkc st (.slice A ss.length c) (.slice A' bs.length c') x y r s t (.slice A'' js.length c'')) 39)).alloc (.cells (dkc 0 (.slice none 0 0) (.slice none 0 0) 0 0 0 0 0 (.slice none 0 0)) 30)).alloc (.cells (dkc 0 (.slice none 0 0) (.slice none 0 0) 0 0 0 0 0 (.slice none 0 0)) 30)).heap.size := by simp
  clear S R
  go_enter Try.func14, Try.ntmps14
  go_wp2_with fail
  generalize (((w.alloc (.cells (dkc st (.slice A ss.length c) (.slice A' bs.length c') x y r s t (.slice A'' js.length c'')) 39)).alloc (.cells (dkc 0 (.slice none 0 0) (.slice none 0 0) 0 0 0 0 0 (.slice none 0 0)) 30)).alloc (.cells (dkc 0 (.slice none 0 0) (.slice none 0 0) 0 0 0 0 0 (.slice none 0 0)) 30)) = u at *
  refine (toStairs_any st A A' c c' ss bs B u S0 (by omega)).mono ?_
  rintro e w1 ⟨a, a', rfl, ag, agg, Ha, Ha', hb⟩
  have z1 := Nat.le_trans zz hb.size
  replace X0 := X0.below hb (by omega)
  replace R0 := R0.below hb (by omega)
  replace O0 := O0.below hb (by omega)
  replace Q0 := Q0.below hb (by omega)
  replace b0 := b0.trans (hb.mono b0.size)
  clear hb S0
  obtain ⟨p0, p1, p2, p3, p4, p5, p6, p7, p8⟩ := X0.nine
  have lX := X0.lt
  have q0 := O0.cell 0
  have f0 := O0.frozen 0
  have q1 := O0.cell 1
  have f1 := O0.frozen 1
  have q2 := O0.cell 2
  have f2 := O0.frozen 2
  have lO := O0.lt
  have O1 : Blk (((w1.setCell ⟨w.heap.size + 2, 0, none⟩ (.int .i64 st)).setCell ⟨w.heap.size + 2, 1, none⟩ (.slice (some ⟨a, 0, none⟩) ss.length ss.length)).setCell ⟨w.heap.size + 2, 2, none⟩ (.slice (some ⟨a', 0, none⟩) bs.length bs.length)) (w.heap.size + 2) 30 #[.int .i64 st, .slice (some ⟨a, 0, none⟩) ss.length ss.length, .slice (some ⟨a', 0, none⟩) bs.length bs.length, .int .i64 0, .int .i64 0, .int .i64 0, .int .i64 0, .int .i64 0, .slice none 0 0] := (((O0.set_ 0 (.int .i64 st)).set_ 1 (.slice (some ⟨a, 0, none⟩) ss.length ss.length)).set_ 2 (.slice (some ⟨a', 0, none⟩) bs.length bs.length))
  have ht : Turned w1 (((w1.setCell ⟨w.heap.size + 2, 0, none⟩ (.int .i64 st)).setCell ⟨w.heap.size + 2, 1, none⟩ (.slice (some ⟨a, 0, none⟩) ss.length ss.length)).setCell ⟨w.heap.size + 2, 2, none⟩ (.slice (some ⟨a', 0, none⟩) bs.length bs.length)) [w.heap.size + 2] := ((tset w1 (w.heap.size + 2) 0 (.int .i64 st)).trans (tset _ (w.heap.size + 2) 1 (.slice (some ⟨a, 0, none⟩) ss.length ss.length))).trans (tset _ (w.heap.size + 2) 2 (.slice (some ⟨a', 0, none⟩) bs.length bs.length))
  replace X0 := X0.turned ht (by simp)
  replace R0 := R0.turned ht (by simp)
  replace Ha := Ha.turned ht (by simp; omega)
  replace Ha' := Ha'.turned ht (by simp; omega)
  replace Q0 := Q0.turned ht (by omega) (fun k hk => by simp at hk; omega)
  replace b0 := b0.trans (ht.below (by omega) (fun k hk => by simp at hk; omega))
  have z2 := Nat.le_trans z1 ht.size
  clear ht
  go_wp2_with fail
  generalize (((w1.setCell ⟨w.heap.size + 2, 0, none⟩ (.int .i64 st)).setCell ⟨w.heap.size + 2, 1, none⟩ (.slice (some ⟨a, 0, none⟩) ss.length ss.length)).setCell ⟨w.heap.size + 2, 2, none⟩ (.slice (some ⟨a', 0, none⟩) bs.length bs.length)) = w2 at *
  clear p0 p1 p2 p3 p4 p5 p6 p7 p8 lX q0 q1 q2 f0 f1 f2 lO O0
  refine (toMovingD_any x y w2).mono ?_
  rintro e w3 ⟨rfl, hb⟩
  have z3 := Nat.le_trans z2 hb.size
  replace X0 := X0.below hb X0.lt
  replace R0 := R0.below hb R0.lt
  replace O1 := O1.below hb O1.lt
  replace Ha := Ha.below hb Ha.lt
  replace Ha' := Ha'.below hb Ha'.lt
  replace Q0 := Q0.below hb (by omega)
  replace b0 := b0.trans (hb.mono b0.size)
  clear hb
  obtain ⟨p0, p1, p2, p3, p4, p5, p6, p7, p8⟩ := X0.nine
  have lX := X0.lt
  have q3 := O1.cell 3
  have f3 := O1.frozen 3
  have q4 := O1.cell 4
  have f4 := O1.frozen 4
  have lO := O1.lt
  have O2 : Blk ((w3.setCell ⟨w.heap.size + 2, 3, none⟩ (.int .i64 x)).setCell ⟨w.heap.size + 2, 4, none⟩ (.int .i64 y)) (w.heap.size + 2) 30 #[.int .i64 st, .slice (some ⟨a, 0, none⟩) ss.length ss.length, .slice (some ⟨a', 0, none⟩) bs.length bs.length, .int .i64 x, .int .i64 y, .int .i64 0, .int .i64 0, .int .i64 0, .slice none 0 0] := ((O1.set_ 3 (.int .i64 x)).set_ 4 (.int .i64 y))
  have ht : Turned w3 ((w3.setCell ⟨w.heap.size + 2, 3, none⟩ (.int .i64 x)).setCell ⟨w.heap.size + 2, 4, none⟩ (.int .i64 y)) [w.heap.size + 2] := (tset w3 (w.heap.size + 2) 3 (.int .i64 x)).trans (tset _ (w.heap.size + 2) 4 (.int .i64 y))
  replace X0 := X0.turned ht (by simp)
  replace R0 := R0.turned ht (by simp)
  replace Ha := Ha.turned ht (by simp; omega)
  replace Ha' := Ha'.turned ht (by simp; omega)
  replace Q0 := Q0.turned ht (by omega) (fun k hk => by simp at hk; omega)
  replace b0 := b0.trans (ht.below (by omega) (fun k hk => by simp at hk; omega))
  have z4 := Nat.le_trans z3 ht.size
  clear ht
  go_wp2_with fail
  generalize ((w3.setCell ⟨w.heap.size + 2, 3, none⟩ (.int .i64 x)).setCell ⟨w.heap.size + 2, 4, none⟩ (.int .i64 y)) = w4 at *
  clear p0 p1 p2 p3 p4 p5 p6 p7 p8 lX q3 q4 f3 f4 lO O1
  refine (toFlightD_any r s t w4).mono ?_
  rintro e w5 ⟨rfl, hb⟩
  have z5 := Nat.le_trans z4 hb.size
  replace X0 := X0.below hb X0.lt
  replace R0 := R0.below hb R0.lt
  replace O2 := O2.below hb O2.lt
  replace Ha := Ha.below hb Ha.lt
  replace Ha' := Ha'.below hb Ha'.lt
  replace Q0 := Q0.below hb (by omega)
  replace b0 := b0.trans (hb.mono b0.size)
  clear hb
  obtain ⟨p0, p1, p2, p3, p4, p5, p6, p7, p8⟩ := X0.nine
  have lX := X0.lt
  have q5 := O2.cell 5
  have f5 := O2.frozen 5
  have q6 := O2.cell 6
  have f6 := O2.frozen 6
  have q7 := O2.cell 7
  have f7 := O2.frozen 7
  have lO := O2.lt
  have O3 : Blk (((w5.setCell ⟨w.heap.size + 2, 5, none⟩ (.int .i64 r)).setCell ⟨w.heap.size + 2, 6, none⟩ (.int .i64 s)).setCell ⟨w.heap.size + 2, 7, none⟩ (.int .i64 t)) (w.heap.size + 2) 30 #[.int .i64 st, .slice (some ⟨a, 0, none⟩) ss.length ss.length, .slice (some ⟨a', 0, none⟩) bs.length bs.length, .int .i64 x, .int .i64 y, .int .i64 r, .int .i64 s, .int .i64 t, .slice none 0 0] := (((O2.set_ 5 (.int .i64 r)).set_ 6 (.int .i64 s)).set_ 7 (.int .i64 t))
  have ht : Turned w5 (((w5.setCell ⟨w.heap.size + 2, 5, none⟩ (.int .i64 r)).setCell ⟨w.heap.size + 2, 6, none⟩ (.int .i64 s)).setCell ⟨w.heap.size + 2, 7, none⟩ (.int .i64 t)) [w.heap.size + 2] := ((tset w5 (w.heap.size + 2) 5 (.int .i64 r)).trans (tset _ (w.heap.size + 2) 6 (.int .i64 s))).trans (tset _ (w.heap.size + 2) 7 (.int .i64 t))
  replace X0 := X0.turned ht (by simp)
  replace R0 := R0.turned ht (by simp)
  replace Ha := Ha.turned ht (by simp; omega)
  replace Ha' := Ha'.turned ht (by simp; omega)
  replace Q0 := Q0.turned ht (by omega) (fun k hk => by simp at hk; omega)
  replace b0 := b0.trans (ht.below (by omega) (fun k hk => by simp at hk; omega))
  have z6 := Nat.le_trans z5 ht.size
  clear ht
  go_wp2_with fail
  generalize (((w5.setCell ⟨w.heap.size + 2, 5, none⟩ (.int .i64 r)).setCell ⟨w.heap.size + 2, 6, none⟩ (.int .i64 s)).setCell ⟨w.heap.size + 2, 7, none⟩ (.int .i64 t)) = w6 at *
  clear p0 p1 p2 p3 p4 p5 p6 p7 p8 lX q5 q6 q7 f5 f6 f7 lO O2
  refine (toIntS_new A'' c'' js B w6 Q0 (by omega) hn).mono ?_
  rintro e w7 ⟨a'', rfl, ag2, Ha'', hb⟩
  have z7 := Nat.le_trans z6 hb.size
  replace X0 := X0.below hb X0.lt
  replace R0 := R0.below hb R0.lt
  replace O3 := O3.below hb O3.lt
  replace Ha := Ha.below hb Ha.lt
  replace Ha' := Ha'.below hb Ha'.lt
  replace Q0 := Q0.below hb (by omega)
  replace b0 := b0.trans (hb.mono b0.size)
  clear hb
  obtain ⟨p0, p1, p2, p3, p4, p5, p6, p7, p8⟩ := X0.nine
  have lX := X0.lt
  have q8 := O3.cell 8
  have f8 := O3.frozen 8
  have lO := O3.lt
  have O4 : Blk (w7.setCell ⟨w.heap.size + 2, 8, none⟩ (.slice (some ⟨a'', 0, none⟩) js.length js.length)) (w.heap.size + 2) 30 #[.int .i64 st, .slice (some ⟨a, 0, none⟩) ss.length ss.length, .slice (some ⟨a', 0, none⟩) bs.length bs.length, .int .i64 x, .int .i64 y, .int .i64 r, .int .i64 s, .int .i64 t, .slice (some ⟨a'', 0, none⟩) js.length js.length] := (O3.set_ 8 (.slice (some ⟨a'', 0, none⟩) js.length js.length))
  have ht : Turned w7 (w7.setCell ⟨w.heap.size + 2, 8, none⟩ (.slice (some ⟨a'', 0, none⟩) js.length js.length)) [w.heap.size + 2] := tset w7 (w.heap.size + 2) 8 (.slice (some ⟨a'', 0, none⟩) js.length js.length)
  replace X0 := X0.turned ht (by simp)
  replace R0 := R0.turned ht (by simp)
  replace Ha := Ha.turned ht (by simp; omega)
  replace Ha' := Ha'.turned ht (by simp; omega)
  replace Ha'' := Ha''.turned ht (by simp; omega)
  replace Q0 := Q0.turned ht (by omega) (fun k hk => by simp at hk; omega)
  replace b0 := b0.trans (ht.below (by omega) (fun k hk => by simp at hk; omega))
  have z8 := Nat.le_trans z7 ht.size
  clear ht
  go_upto_region 6 with fail
  have O5 : Blk (w7.setCell ⟨w.heap.size + 2, 8, none⟩ (.slice (some ⟨a'', 0, none⟩) js.length js.length)) (w.heap.size + 2) 30 (dkc st (.slice (some ⟨a, 0, none⟩) ss.length ss.length) (.slice (some ⟨a', 0, none⟩) bs.length bs.length) x y r s t (.slice (some ⟨a'', 0, none⟩) js.length js.length)) := O4
  generalize (w7.setCell ⟨w.heap.size + 2, 8, none⟩ (.slice (some ⟨a'', 0, none⟩) js.length js.length)) = w8 at *
  clear p0 p1 p2 p3 p4 p5 p6 p7 p8 lX q8 f8 lO O3 O4
  obtain ⟨o0, o1, o2, o3, o4, o5, o6, o7, o8⟩ := O5.nine
  have l5 := O5.lt
  clear O5 X0 Q0
  have r0 := R0.cell 0
  have g0 := R0.frozen 0
  have r1 := R0.cell 1
  have g1 := R0.frozen 1
  have r2 := R0.cell 2
  have g2 := R0.frozen 2
  have r3 := R0.cell 3
  have g3 := R0.frozen 3
  have r4 := R0.cell 4
  have g4 := R0.frozen 4
  have r5 := R0.cell 5
  have g5 := R0.frozen 5
  have r6 := R0.cell 6
  have g6 := R0.frozen 6
  have r7 := R0.cell 7
  have g7 := R0.frozen 7
  have r8 := R0.cell 8
  have g8 := R0.frozen 8
  have lR := R0.lt
  have Q0 : Blk (w8.setCell ⟨w.heap.size + 1, 0, none⟩ (.int .i64 st)) (w.heap.size + 1) 30 #[.int .i64 st, .slice none 0 0, .slice none 0 0, .int .i64 0, .int .i64 0, .int .i64 0, .int .i64 0, .int .i64 0, .slice none 0 0] := R0.set_ 0 (.int .i64 st)
  have Q1 : Blk ((w8.setCell ⟨w.heap.size + 1, 0, none⟩ (.int .i64 st)).setCell ⟨w.heap.size + 1, 1, none⟩ (.slice (some ⟨a, 0, none⟩) ss.length ss.length)) (w.heap.size + 1) 30 #[.int .i64 st, .slice (some ⟨a, 0, none⟩) ss.length ss.length, .slice none 0 0, .int .i64 0, .int .i64 0, .int .i64 0, .int .i64 0, .int .i64 0, .slice none 0 0] := Q0.set_ 1 (.slice (some ⟨a, 0, none⟩) ss.length ss.length)
  have Q2 : Blk (((w8.setCell ⟨w.heap.size + 1, 0, none⟩ (.int .i64 st)).setCell ⟨w.heap.size + 1, 1, none⟩ (.slice (some ⟨a, 0, none⟩) ss.length ss.length)).setCell ⟨w.heap.size + 1, 2, none⟩ (.slice (some ⟨a', 0, none⟩) bs.length bs.length)) (w.heap.size + 1) 30 #[.int .i64 st, .slice (some ⟨a, 0, none⟩) ss.length ss.length, .slice (some ⟨a', 0, none⟩) bs.length bs.length, .int .i64 0, .int .i64 0, .int .i64 0, .int .i64 0, .int .i64 0, .slice none 0 0] := Q1.set_ 2 (.slice (some ⟨a', 0, none⟩) bs.length bs.length)
  have Q3 : Blk ((((w8.setCell ⟨w.heap.size + 1, 0, none⟩ (.int .i64 st)).setCell ⟨w.heap.size + 1, 1, none⟩ (.slice (some ⟨a, 0, none⟩) ss.length ss.length)).setCell ⟨w.heap.size + 1, 2, none⟩ (.slice (some ⟨a', 0, none⟩) bs.length bs.length)).setCell ⟨w.heap.size + 1, 3, none⟩ (.int .i64 x)) (w.heap.size + 1) 30 #[.int .i64 st, .slice (some ⟨a, 0, none⟩) ss.length ss.length, .slice (some ⟨a', 0, none⟩) bs.length bs.length, .int .i64 x, .int .i64 0, .int .i64 0, .int .i64 0, .int .i64 0, .slice none 0 0] := Q2.set_ 3 (.int .i64 x)
  have Q4 : Blk (((((w8.setCell ⟨w.heap.size + 1, 0, none⟩ (.int .i64 st)).setCell ⟨w.heap.size + 1, 1, none⟩ (.slice (some ⟨a, 0, none⟩) ss.length ss.length)).setCell ⟨w.heap.size + 1, 2, none⟩ (.slice (some ⟨a', 0, none⟩) bs.length bs.length)).setCell ⟨w.heap.size + 1, 3, none⟩ (.int .i64 x)).setCell ⟨w.heap.size + 1, 4, none⟩ (.int .i64 y)) (w.heap.size + 1) 30 #[.int .i64 st, .slice (some ⟨a, 0, none⟩) ss.length ss.length, .slice (some ⟨a', 0, none⟩) bs.length bs.length, .int .i64 x, .int .i64 y, .int .i64 0, .int .i64 0, .int .i64 0, .slice none 0 0] := Q3.set_ 4 (.int .i64 y)
  have Q5 : Blk ((((((w8.setCell ⟨w.heap.size + 1, 0, none⟩ (.int .i64 st)).setCell ⟨w.heap.size + 1, 1, none⟩ (.slice (some ⟨a, 0, none⟩) ss.length ss.length)).setCell ⟨w.heap.size + 1, 2, none⟩ (.slice (some ⟨a', 0, none⟩) bs.length bs.length)).setCell ⟨w.heap.size + 1, 3, none⟩ (.int .i64 x)).setCell ⟨w.heap.size + 1, 4, none⟩ (.int .i64 y)).setCell ⟨w.heap.size + 1, 5, none⟩ (.int .i64 r)) (w.heap.size + 1) 30 #[.int .i64 st, .slice (some ⟨a, 0, none⟩) ss.length ss.length, .slice (some ⟨a', 0, none⟩) bs.length bs.length, .int .i64 x, .int .i64 y, .int .i64 r, .int .i64 0, .int .i64 0, .slice none 0 0] := Q4.set_ 5 (.int .i64 r)
  have Q6 : Blk (((((((w8.setCell ⟨w.heap.size + 1, 0, none⟩ (.int .i64 st)).setCell ⟨w.heap.size + 1, 1, none⟩ (.slice (some ⟨a, 0, none⟩) ss.length ss.length)).setCell ⟨w.heap.size + 1, 2, none⟩ (.slice (some ⟨a', 0, none⟩) bs.length bs.length)).setCell ⟨w.heap.size + 1, 3, none⟩ (.int .i64 x)).setCell ⟨w.heap.size + 1, 4, none⟩ (.int .i64 y)).setCell ⟨w.heap.size + 1, 5, none⟩ (.int .i64 r)).setCell ⟨w.heap.size + 1, 6, none⟩ (.int .i64 s)) (w.heap.size + 1) 30 #[.int .i64 st, .slice (some ⟨a, 0, none⟩) ss.length ss.length, .slice (some ⟨a', 0, none⟩) bs.length bs.length, .int .i64 x, .int .i64 y, .int .i64 r, .int .i64 s, .int .i64 0, .slice none 0 0] := Q5.set_ 6 (.int .i64 s)
  have Q7 : Blk ((((((((w8.setCell ⟨w.heap.size + 1, 0, none⟩ (.int .i64 st)).setCell ⟨w.heap.size + 1, 1, none⟩ (.slice (some ⟨a, 0, none⟩) ss.length ss.length)).setCell ⟨w.heap.size + 1, 2, none⟩ (.slice (some ⟨a', 0, none⟩) bs.length bs.length)).setCell ⟨w.heap.size + 1, 3, none⟩ (.int .i64 x)).setCell ⟨w.heap.size + 1, 4, none⟩ (.int .i64 y)).setCell ⟨w.heap.size + 1, 5, none⟩ (.int .i64 r)).setCell ⟨w.heap.size + 1, 6, none⟩ (.int .i64 s)).setCell ⟨w.heap.size + 1, 7, none⟩ (.int .i64 t)) (w.heap.size + 1) 30 #[.int .i64 st, .slice (some ⟨a, 0, none⟩) ss.length ss.length, .slice (some ⟨a', 0, none⟩) bs.length bs.length, .int .i64 x, .int .i64 y, .int .i64 r, .int .i64 s, .int .i64 t, .slice none 0 0] := Q6.set_ 7 (.int .i64 t)
  have Q8 : Blk (((((((((w8.setCell ⟨w.heap.size + 1, 0, none⟩ (.int .i64 st)).setCell ⟨w.heap.size + 1, 1, none⟩ (.slice (some ⟨a, 0, none⟩) ss.length ss.length)).setCell ⟨w.heap.size + 1, 2, none⟩ (.slice (some ⟨a', 0, none⟩) bs.length bs.length)).setCell ⟨w.heap.size + 1, 3, none⟩ (.int .i64 x)).setCell ⟨w.heap.size + 1, 4, none⟩ (.int .i64 y)).setCell ⟨w.heap.size + 1, 5, none⟩ (.int .i64 r)).setCell ⟨w.heap.size + 1, 6, none⟩ (.int .i64 s)).setCell ⟨w.heap.size + 1, 7, none⟩ (.int .i64 t)).setCell ⟨w.heap.size + 1, 8, none⟩ (.slice (some ⟨a'', 0, none⟩) js.length js.length)) (w.heap.size + 1) 30 #[.int .i64 st, .slice (some ⟨a, 0, none⟩) ss.length ss.length, .slice (some ⟨a', 0, none⟩) bs.length bs.length, .int .i64 x, .int .i64 y, .int .i64 r, .int .i64 s, .int .i64 t, .slice (some ⟨a'', 0, none⟩) js.length js.length] := Q7.set_ 8 (.slice (some ⟨a'', 0, none⟩) js.length js.length)
  have R9 := Q8
  clear Q0 Q1 Q2 Q3 Q4 Q5 Q6 Q7 Q8
  have ht : Turned w8 (((((((((w8.setCell ⟨w.heap.size + 1, 0, none⟩ (.int .i64 st)).setCell ⟨w.heap.size + 1, 1, none⟩ (.slice (some ⟨a, 0, none⟩) ss.length ss.length)).setCell ⟨w.heap.size + 1, 2, none⟩ (.slice (some ⟨a', 0, none⟩) bs.length bs.length)).setCell ⟨w.heap.size + 1, 3, none⟩ (.int .i64 x)).setCell ⟨w.heap.size + 1, 4, none⟩ (.int .i64 y)).setCell ⟨w.heap.size + 1, 5, none⟩ (.int .i64 r)).setCell ⟨w.heap.size + 1, 6, none⟩ (.int .i64 s)).setCell ⟨w.heap.size + 1, 7, none⟩ (.int .i64 t)).setCell ⟨w.heap.size + 1, 8, none⟩ (.slice (some ⟨a'', 0, none⟩) js.length js.length)) [w.heap.size + 1] := ((((((((tset w8 (w.heap.size + 1) 0 (.int .i64 st)).trans (tset _ (w.heap.size + 1) 1 (.slice (some ⟨a, 0, none⟩) ss.length ss.length))).trans (tset _ (w.heap.size + 1) 2 (.slice (some ⟨a', 0, none⟩) bs.length bs.length))).trans (tset _ (w.heap.size + 1) 3 (.int .i64 x))).trans (tset _ (w.heap.size + 1) 4 (.int .i64 y))).trans (tset _ (w.heap.size + 1) 5 (.int .i64 r))).trans (tset _ (w.heap.size + 1) 6 (.int .i64 s))).trans (tset _ (w.heap.size + 1) 7 (.int .i64 t))).trans (tset _ (w.heap.size + 1) 8 (.slice (some ⟨a'', 0, none⟩) js.length js.length))
  have hx : CopiedD w st x y r s t ss bs js (.returned (dkv st (.slice (some ⟨a, 0, none⟩) ss.length ss.length) (.slice (some ⟨a', 0, none⟩) bs.length bs.length) x y r s t (.slice (some ⟨a'', 0, none⟩) js.length js.length))) (((((((((w8.setCell ⟨w.heap.size + 1, 0, none⟩ (.int .i64 st)).setCell ⟨w.heap.size + 1, 1, none⟩ (.slice (some ⟨a, 0, none⟩) ss.length ss.length)).setCell ⟨w.heap.size + 1, 2, none⟩ (.slice (some ⟨a', 0, none⟩) bs.length bs.length)).setCell ⟨w.heap.size + 1, 3, none⟩ (.int .i64 x)).setCell ⟨w.heap.size + 1, 4, none⟩ (.int .i64 y)).setCell ⟨w.heap.size + 1, 5, none⟩ (.int .i64 r)).setCell ⟨w.heap.size + 1, 6, none⟩ (.int .i64 s)).setCell ⟨w.heap.size + 1, 7, none⟩ (.int .i64 t)).setCell ⟨w.heap.size + 1, 8, none⟩ (.slice (some ⟨a'', 0, none⟩) js.length js.length)) := ⟨a, a', a'', rfl, Ha.turned ht (by simp; omega), Ha'.turned ht (by simp; omega), Ha''.turned ht (by simp; omega), by omega, by omega, by omega, b0.trans (ht.below (by omega) (fun k hk => by simp at hk; omega))⟩
  obtain ⟨k0, k1, k2, k3, k4, k5, k6, k7, k8⟩ := R9.nine
  have HX := Lib.hid hx
  clear hx ht R9 R0 Ha Ha' Ha'' b0
  go_wp2_with fail
  refine bodyPost_ret (v := dkv st (.slice (some ⟨a, 0, none⟩) ss.length ss.length) (.slice (some ⟨a', 0, none⟩) bs.length bs.length) x y r s t (.slice (some ⟨a'', 0, none⟩) js.length js.length)) (by simp [results, Try.results14, go_sem, k0, k1, k2, k3, k4, k5, k6, k7, k8]) rfl ?_
  exact HX.out

end Go.Proofs.Ytehffiaobjlpoaa
