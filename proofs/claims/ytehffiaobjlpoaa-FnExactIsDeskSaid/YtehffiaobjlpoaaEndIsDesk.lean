/- FnExactIsDesk returns true for every input and leaves its argument as it was. No conditions. -/
import Derived.Test.YtehffiaobjlpoaaDkR
import Derived.Test.YtehffiaobjlpoaaRow
import Derived.Deep.RegionHeld3
namespace Go.Proofs.Ytehffiaobjlpoaa
set_option maxRecDepth 100000
open Go.ChangeShapes Go.WideShapes Go.ChangeAt Go.RowKit Go.Joins

/-- A value of the laws' own type Desk, as it came in. -/
def InD (w : World) (v : Value) : Prop :=
  ∃ (st x y r s t : Int) (A A' A'' : Option Addr) (c c' c'' : Nat) (ss bs js : List Int), v = dkv st (.slice A ss.length c) (.slice A' bs.length c') x y r s t (.slice A'' js.length c'') ∧ Rd w w.heap.size A c ss ∧ Rd w w.heap.size A' c' bs ∧ Rd w w.heap.size A'' c'' js ∧ ss.length ≤ 9223372036854775807 ∧ bs.length ≤ 9223372036854775807 ∧ js.length ≤ 9223372036854775807
theorem array9 {α : Type} {cs : Array α} (h : cs.size = 9) : ∃ c0 c1 c2 c3 c4 c5 c6 c7 c8, cs = #[c0, c1, c2, c3, c4, c5, c6, c7, c8] := by
  obtain ⟨l⟩ := cs
  match l, h with
  | [c0, c1, c2, c3, c4, c5, c6, c7, c8], _ => exact ⟨c0, c1, c2, c3, c4, c5, c6, c7, c8, rfl⟩
theorem inDesk_of {H : Type} {enc : TypeId × Value → H} {w : World} {r : Reach} {b0 : Nat} {v : Value} {d : DataW H} {p : List MemPlace}
    (hv : Value.okWide Try.prog w r b0 39 v) (h : DataW.Trod enc Try.prog w 0 (fun _ => true) true 39 v d p) : InD w v := by
  obtain ⟨cs, rfl, hsz⟩ := okWide_struct Try.underlying39 hv
  have hC : Try.prog.cellsOf 39 = 9 := by kernel_rfl
  obtain ⟨c0, c1, c2, c3, c4, c5, c6, c7, c8, rfl⟩ := array9 (hsz.trans hC)
  obtain ⟨fuel, hf⟩ := h
  obtain ⟨y0, y1, y2, y3, n, _, _, h0, h1, h2, h3⟩ := trod_struct4 Try.underlying39 hf
  have kS : Try.prog.cellsOf 35 = 3 := by kernel_rfl
  have kM : Try.prog.cellsOf 36 = 2 := by kernel_rfl
  have kF : Try.prog.cellsOf 37 = 3 := by kernel_rfl
  have kL : Try.prog.cellsOf 22 = 1 := by kernel_rfl
  replace h0 : DataW.trod enc Try.prog w 0 (fun _ => true) true n 35 [c0, c1, c2] = some y0 := by simpa [Value.cells, kS] using h0
  replace h1 : DataW.trod enc Try.prog w 0 (fun _ => true) true n 36 [c3, c4] = some y1 := by simpa [Value.cells, kM] using h1
  replace h2 : DataW.trod enc Try.prog w 0 (fun _ => true) true n 37 [c5, c6, c7] = some y2 := by simpa [Value.cells, kF] using h2
  replace h3 : DataW.trod enc Try.prog w 0 (fun _ => true) true n 22 [c8] = some y3 := by simpa [Value.cells, kL] using h3
  obtain ⟨s0, s1, s2, n1, _, _, g0, g1, g2⟩ := Go.Deep.trod_struct3 Try.underlying35 h0
  obtain ⟨m0, m1, n2, _, _, g3, g4⟩ := trod_struct2 Try.underlying36 h1
  obtain ⟨f0, f1, f2, n3, _, _, g5, g6, g7⟩ := Go.Deep.trod_struct3 Try.underlying37 h2
  obtain ⟨i0, e0, _, _⟩ := DataW.trod_int Try.underlying3 (by simpa [cellsI] using g0)
  obtain ⟨A, c, ss, rfl, r1, l1⟩ := rd_of_trod (v := c1) (by simpa [kL] using g1)
  obtain ⟨A', c', bs, rfl, r2, l2⟩ := rd_of_trod (v := c2) (by simpa [kL] using g2)
  obtain ⟨i3, e3, _, _⟩ := DataW.trod_int Try.underlying3 (by simpa [cellsI] using g3)
  obtain ⟨i4, e4, _, _⟩ := DataW.trod_int Try.underlying3 (by simpa [cellsI] using g4)
  obtain ⟨i5, e5, _, _⟩ := DataW.trod_int Try.underlying3 (by simpa [cellsI] using g5)
  obtain ⟨i6, e6, _, _⟩ := DataW.trod_int Try.underlying3 (by simpa [cellsI] using g6)
  obtain ⟨i7, e7, _, _⟩ := DataW.trod_int Try.underlying3 (by simpa [cellsI] using g7)
  obtain ⟨A'', c'', js, rfl, r3, l3⟩ := rd_of_trod h3
  simp at e0 e3 e4 e5 e6 e7
  subst e0 e3 e4 e5 e6 e7
  exact ⟨i0, i3, i4, i5, i6, i7, A, A', A'', c, c', c'', ss, bs, js, rfl, r1, r2, r3, l1, l2, l3⟩

set_option maxHeartbeats 4000000 in
theorem isDesk_walk (st x y r s t : Int) (A A' A'' : Option Addr) (c c' c'' : Nat) (ss bs js : List Int) (w0 : World) (S : St w0 w0.heap.size st A A' c c' ss bs) (R : Rd w0 w0.heap.size A'' c'' js) (hs : ss.length + bs.length + js.length ≤ 1048576) :
    Calls Try.prog 4 #[dkv st (.slice A ss.length c) (.slice A' bs.length c') x y r s t (.slice A'' js.length c'')] w0 fun e w' => e = .returned (.bool true) ∧ Below w0.heap.size w0 w' := by
  have X0 : Blk (w0.alloc (.cells (dkc st (.slice A ss.length c) (.slice A' bs.length c') x y r s t (.slice A'' js.length c'')) 39)) w0.heap.size 39 (dkc st (.slice A ss.length c) (.slice A' bs.length c') x y r s t (.slice A'' js.length c'')) := Blk.new _ _ _
  have Bt : Below w0.heap.size w0 (w0.alloc (.cells (dkc st (.slice A ss.length c) (.slice A' bs.length c') x y r s t (.slice A'' js.length c'')) 39)) := below_alloc _ _
  have hns := S.ns
  have hnb := S.nb
  have hnj : js.length ≤ 1048576 := by omega
  replace S := S.below Bt (Nat.le_refl _)
  replace R := R.below Bt (Nat.le_refl _)
  have z0 : w0.heap.size + 1 ≤ (w0.alloc (.cells (dkc st (.slice A ss.length c) (.slice A' bs.length c') x y r s t (.slice A'' js.length c'')) 39)).heap.size := by simp
  have e9 : ¬ ((1048576 : Int) - ss.length - bs.length - js.length) < 0 := by omega
  go_enter Try.func4, Try.ntmps4
  go_wp2_with fail
  generalize (w0.alloc (.cells (dkc st (.slice A ss.length c) (.slice A' bs.length c') x y r s t (.slice A'' js.length c'')) 39)) = u at *
  refine (szDesk_yes st x y r s t A A' A'' _ _ _ c c' c'' u hs).mono ?_
  rintro e w1 ⟨rfl, hb⟩
  have z1 : w0.heap.size + 1 ≤ w1.heap.size := Nat.le_trans z0 hb.size
  replace S := S.below hb (by omega)
  replace R := R.below hb (by omega)
  replace Bt := Bt.trans (hb.mono Bt.size)
  replace X0 := X0.below hb X0.lt
  clear hb
  obtain ⟨p0, p1, p2, p3, p4, p5, p6, p7, p8⟩ := X0.nine
  have lX0 := X0.lt
  go_wp2_with fail
  refine (toDesk_any st x y r s t A A' A'' c c' c'' ss bs js w0.heap.size w1 S R (by omega) hnj).mono ?_
  rintro e w2 ⟨a, a', a'', rfl, Ha, Ha', Ha'', ag, ag', ag'', hb⟩
  have z2 : w0.heap.size + 1 ≤ w2.heap.size := Nat.le_trans z1 hb.size
  replace S := S.below hb (by omega)
  replace R := R.below hb (by omega)
  replace Bt := Bt.trans (hb.mono Bt.size)
  replace X0 := X0.below hb X0.lt
  clear hb
  clear p0 p1 p2 p3 p4 p5 p6 p7 p8 lX0
  obtain ⟨p0, p1, p2, p3, p4, p5, p6, p7, p8⟩ := X0.nine
  have lX0 := X0.lt
  go_wp2_with fail
  refine (specIsDesk_any st x y r s t _ _ _ _ _ _ ss bs js w2.heap.size w2 (st_of_blks (st := st) Ha Ha' hns hnb) (Ha''.rd Ha''.lt (Nat.le_refl _)) (Nat.le_refl _) hnj).mono ?_
  rintro e w3 ⟨rfl, hb⟩
  have z3 : w0.heap.size + 1 ≤ w3.heap.size := Nat.le_trans z2 hb.size
  replace S := S.below hb (by omega)
  replace R := R.below hb (by omega)
  replace Bt := Bt.trans (hb.mono Bt.size)
  replace X0 := X0.below hb X0.lt
  clear hb Ha Ha' Ha''
  clear p0 p1 p2 p3 p4 p5 p6 p7 p8 lX0
  obtain ⟨p0, p1, p2, p3, p4, p5, p6, p7, p8⟩ := X0.nine
  have lX0 := X0.lt
  go_wp2_with fail
  refine (toDesk_any st x y r s t A A' A'' c c' c'' ss bs js w0.heap.size w3 S R (by omega) hnj).mono ?_
  rintro e w4 ⟨b, b', b'', rfl, Hb, Hb', Hb'', bg, bg', bg'', hb⟩
  have z4 : w0.heap.size + 1 ≤ w4.heap.size := Nat.le_trans z3 hb.size
  replace S := S.below hb (by omega)
  replace R := R.below hb (by omega)
  replace Bt := Bt.trans (hb.mono Bt.size)
  replace X0 := X0.below hb X0.lt
  clear hb
  clear p0 p1 p2 p3 p4 p5 p6 p7 p8 lX0
  obtain ⟨p0, p1, p2, p3, p4, p5, p6, p7, p8⟩ := X0.nine
  have lX0 := X0.lt
  go_wp2_with fail
  have X1 : Blk (w4.alloc (.cells (dkc st (.slice (some ⟨b, 0, none⟩) ss.length ss.length) (.slice (some ⟨b', 0, none⟩) bs.length bs.length) x y r s t (.slice (some ⟨b'', 0, none⟩) js.length js.length)) 30)) w4.heap.size 30 (dkc st (.slice (some ⟨b, 0, none⟩) ss.length ss.length) (.slice (some ⟨b', 0, none⟩) bs.length bs.length) x y r s t (.slice (some ⟨b'', 0, none⟩) js.length js.length)) := Blk.new _ _ _
  have hb : Below w4.heap.size w4 (w4.alloc (.cells (dkc st (.slice (some ⟨b, 0, none⟩) ss.length ss.length) (.slice (some ⟨b', 0, none⟩) bs.length bs.length) x y r s t (.slice (some ⟨b'', 0, none⟩) js.length js.length)) 30)) := below_alloc _ _
  generalize (w4.alloc (.cells (dkc st (.slice (some ⟨b, 0, none⟩) ss.length ss.length) (.slice (some ⟨b', 0, none⟩) bs.length bs.length) x y r s t (.slice (some ⟨b'', 0, none⟩) js.length js.length)) 30)) = w5 at *
  have z5 : w0.heap.size + 1 ≤ w5.heap.size := Nat.le_trans z4 hb.size
  replace S := S.below hb (by omega)
  replace R := R.below hb (by omega)
  replace Bt := Bt.trans (hb.mono Bt.size)
  replace X0 := X0.below hb X0.lt
  replace Hb := Hb.below hb Hb.lt
  replace Hb' := Hb'.below hb Hb'.lt
  replace Hb'' := Hb''.below hb Hb''.lt
  clear hb
  clear p0 p1 p2 p3 p4 p5 p6 p7 p8 lX0
  obtain ⟨p0, p1, p2, p3, p4, p5, p6, p7, p8⟩ := X0.nine
  have lX0 := X0.lt
  obtain ⟨q0, q1, q2, q3, q4, q5, q6, q7, q8⟩ := X1.nine
  have lX1 := X1.lt
  refine (implIsDesk_any st x y r s t _ _ _ _ _ _ ss bs js w5.heap.size w5 (st_of_blks (st := st) Hb Hb' hns hnb) (Hb''.rd Hb''.lt (Nat.le_refl _)) (Nat.le_refl _) hnj).mono ?_
  rintro e w6 ⟨rfl, hb⟩
  have z6 : w0.heap.size + 1 ≤ w6.heap.size := Nat.le_trans z5 hb.size
  replace S := S.below hb (by omega)
  replace R := R.below hb (by omega)
  replace Bt := Bt.trans (hb.mono Bt.size)
  replace X0 := X0.below hb X0.lt
  replace X1 := X1.below hb X1.lt
  replace Hb := Hb.below hb Hb.lt
  replace Hb' := Hb'.below hb Hb'.lt
  replace Hb'' := Hb''.below hb Hb''.lt
  clear hb
  clear p0 p1 p2 p3 p4 p5 p6 p7 p8 lX0
  obtain ⟨p0, p1, p2, p3, p4, p5, p6, p7, p8⟩ := X0.nine
  have lX0 := X0.lt
  clear q0 q1 q2 q3 q4 q5 q6 q7 q8 lX1
  obtain ⟨q0, q1, q2, q3, q4, q5, q6, q7, q8⟩ := X1.nine
  have lX1 := X1.lt
  go_wp2_with fail
  go_region_held3 (fun u => u.cell? ⟨w4.heap.size, 0, none⟩ = some (.int .i64 st) ∧ u.cell? ⟨w4.heap.size, 1, none⟩ = some (.slice (some ⟨b, 0, none⟩) ss.length ss.length) ∧ u.cell? ⟨w4.heap.size, 2, none⟩ = some (.slice (some ⟨b', 0, none⟩) bs.length bs.length) ∧ u.cell? ⟨w4.heap.size, 3, none⟩ = some (.int .i64 x) ∧ u.cell? ⟨w4.heap.size, 4, none⟩ = some (.int .i64 y) ∧ u.cell? ⟨w4.heap.size, 5, none⟩ = some (.int .i64 r) ∧ u.cell? ⟨w4.heap.size, 6, none⟩ = some (.int .i64 s) ∧ u.cell? ⟨w4.heap.size, 7, none⟩ = some (.int .i64 t) ∧ u.cell? ⟨w4.heap.size, 8, none⟩ = some (.slice (some ⟨b'', 0, none⟩) js.length js.length) ∧ u.cell? ⟨w0.heap.size, 0, none⟩ = some (.int .i64 st) ∧ u.cell? ⟨w0.heap.size, 1, none⟩ = some (.slice A ss.length c) ∧ u.cell? ⟨w0.heap.size, 2, none⟩ = some (.slice A' bs.length c') ∧ u.cell? ⟨w0.heap.size, 3, none⟩ = some (.int .i64 x) ∧ u.cell? ⟨w0.heap.size, 4, none⟩ = some (.int .i64 y) ∧ u.cell? ⟨w0.heap.size, 5, none⟩ = some (.int .i64 r) ∧ u.cell? ⟨w0.heap.size, 6, none⟩ = some (.int .i64 s) ∧ u.cell? ⟨w0.heap.size, 7, none⟩ = some (.int .i64 t) ∧ u.cell? ⟨w0.heap.size, 8, none⟩ = some (.slice A'' js.length c'')) (first | exact ⟨q0, q1, q2, q3, q4, q5, q6, q7, q8, p0, p1, p2, p3, p4, p5, p6, p7, p8⟩ | exact ⟨k0, k1, k2, k3, k4, k5, k6, k7, k8, m0, m1, m2, m3, m4, m5, m6, m7, m8⟩ | exact ⟨f0, f1, f2, f3, f4, f5, f6, f7, f8, h0, h1, h2, h3, h4, h5, h6, h7, h8⟩)
    (first
    | (go_at_call 14; (refine (toDesk_any st x y r s t A A' A'' c c' c'' ss bs js w0.heap.size w6.drew (show St w6.drew w0.heap.size st A A' c c' ss bs from S.drew) (show Rd w6.drew w0.heap.size A'' c'' js from R) (by show w0.heap.size ≤ w6.heap.size; omega) hnj).mono ?_); rintro e v1 ⟨d, d', d'', rfl, Hd, Hd', Hd'', dg, dg', dg'', k1⟩; have j1 : Below w6.heap.size w6 v1 := below_undrew k1; obtain ⟨k0, k1, k2, k3, k4, k5, k6, k7, k8⟩ := (X1.below j1 X1.lt).nine; obtain ⟨m0, m1, m2, m3, m4, m5, m6, m7, m8⟩ := (X0.below j1 X0.lt).nine)
    | (go_at_call 9; (refine (eqDesk_same st x y r s t _ _ _ _ _ _ _ _ _ _ _ _ ss bs js v1.heap.size v1 (st_of_blks (st := st) (Hb.below j1 Hb.lt) (Hb'.below j1 Hb'.lt) hns hnb) (st_of_blks (st := st) Hd Hd' hns hnb) ((Hb''.below j1 Hb''.lt).rd (Hb''.below j1 Hb''.lt).lt (Nat.le_refl _)) (Hd''.rd Hd''.lt (Nat.le_refl _)) (Nat.le_refl _) hnj).mono ?_); rintro e v2 ⟨rfl, k2⟩; have j2 : Below w6.heap.size w6 v2 := j1.trans (k2.mono j1.size); obtain ⟨f0, f1, f2, f3, f4, f5, f6, f7, f8⟩ := (X1.below j2 X1.lt).nine; obtain ⟨h0, h1, h2, h3, h4, h5, h6, h7, h8⟩ := (X0.below j2 X0.lt).nine)
    | fail)
  replace Bt := Bt.trans (j2.mono Bt.size)
  go_wp2_with fail
  go_ret
  exact ⟨rfl, Bt⟩

theorem isDesk_long (st x y r s t : Int) (A A' A'' : Option Addr) (n n' n'' c c' c'' : Nat) (w : World) (hn : n ≤ 9223372036854775807) (hn' : n' ≤ 9223372036854775807) (hn'' : n'' ≤ 9223372036854775807) (h : 1048576 < n + n' + n'') :
    Calls Try.prog 4 #[dkv st (.slice A n c) (.slice A' n' c') x y r s t (.slice A'' n'' c'')] w fun e w' => e = .returned (.bool true) ∧ Below w.heap.size w w' := by
  go_enter Try.func4, Try.ntmps4
  go_wp2_with fail
  refine (szDesk_no st x y r s t A A' A'' n n' n'' c c' c'' _ hn hn' hn'' h).mono ?_
  rintro e w1 ⟨rfl, hb⟩
  go_wp2_with fail
  go_ret
  exact ⟨rfl, (below_alloc _ _).trans (hb.mono (by simp))⟩

theorem isDesk_all (v : Value) (w : World) (h : InD w v) :
    Calls Try.prog 4 #[v] w fun e w' => e = .returned (.bool true) ∧ Below w.heap.size w w' := by
  obtain ⟨st, x, y, r, s, t, A, A', A'', c, c', c'', ss, bs, js, rfl, r1, r2, r3, l1, l2, l3⟩ := h
  by_cases hs : ss.length + bs.length + js.length ≤ 1048576
  · exact isDesk_walk st x y r s t A A' A'' c c' c'' ss bs js w ⟨r1, r2, by omega, by omega⟩ r3 hs
  · exact isDesk_long st x y r s t A A' A'' _ _ _ c c' c'' w l1 l2 l3 (by omega)

theorem isDesk_lifted (os : Os) (started : os.Started) (H : Type) (enc : TypeId × Value → H) :
    ReturnsInHanded {} Try.checked os 4 .any (Rows.fnExactIsDeskSpec.pre6 enc Try.prog Try.f4 Rows.fnExactIsDeskRow.domain false) (Rows.fnExactIsDeskSpec.post enc Try.prog Try.f4 false true false false) := by
  refine returnsInHanded_of_change (C := Try.checked) own started (by kernel_rfl) Try.func4
    (ChangeSpec.witness6 (enc := enc) (C := Try.checked) false ⟨#[], #[.agg #[.int .i64 0, .slice none 0 0, .slice none 0 0, .int .i64 0, .int .i64 0, .int .i64 0, .int .i64 0, .int .i64 0, .slice none 0 0]], []⟩ 8 (by kernel_rfl) (by kernel_rfl) (by kernel_rfl) (by kernel_rfl)) ?_
  intro W base args ds gs before hval0 hW _ _
  have hval : ∀ (j : Nat) t v, Try.f4.params[j]? = some t → args[j]? = some v → Value.okWide Try.prog W .any base t v := hval0
  have hW' := hW
  obtain ⟨p, q, hA0, hV, rfl, _, _⟩ := hW
  have hA : DataW.TrodAll enc Try.prog W 0 (fun _ => true) true Try.f4.params.toList args.toList ds p := hA0
  rw [Try.params4] at hA hval
  obtain ⟨v0, vs0, d0, ds0, p0, q0, hargs, rfl, rfl, h0, r0⟩ := trodAll_cons hA
  obtain ⟨rfl, rfl, rfl⟩ := trodAll_nil r0
  obtain rfl : args = #[v0] := by cases args; simp_all
  obtain ⟨rfl, rfl⟩ := trodVars_none hV
  have k0 := h0
  have lt0 : ∀ x ∈ p0, x.block < W.heap.size := by obtain ⟨m, hm⟩ := k0; exact DataW.trod_lt m _ _ _ hm
  have hin := inDesk_of (hval 0 39 v0 rfl rfl) h0
  clear hA0 hval0
  refine (isDesk_all v0 W hin).mono fun e W' ⟨he, bel⟩ => ?_
  subst he
  exact ⟨_, rfl, _, _, _, [], _, [], hW', trodAll_mk1 (shut_bool Try.underlying4 _), (trodAll_cons_mk (Below.trod laidOut (by kernel_rfl) (of_decide_eq_true (by kernel_rfl)) k0 bel lt0) trodAll_mk0), rfl, bel.frame _, fun h => by cases h⟩

theorem isDesk_holds : Rows.FnExactIsDeskSaid :=
  OpenClaim.holds_of_wide 4 Try.f4 rfl rfl rfl rfl rfl rfl rfl ⟨rfl, rfl, rfl, rfl, rfl⟩ rfl rfl rfl rfl rfl (by kernel_rfl) Try.func4 (by kernel_rfl)
    (of_decide_eq_true (by kernel_rfl)) (by unfold Func.isWrapper; first | (rw [if_pos (by decide +kernel)]; kernel_rfl) | (rw [if_neg (by decide +kernel)]; exact ⟨rfl, rfl⟩))
    (fun os started H enc _ => isDesk_lifted os started H enc)
#print axioms isDesk_holds

end Go.Proofs.Ytehffiaobjlpoaa
