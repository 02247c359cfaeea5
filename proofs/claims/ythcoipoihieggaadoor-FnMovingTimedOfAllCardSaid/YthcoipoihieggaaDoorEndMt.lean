/- FnMovingTimedOfAll returns true for every input and leaves its arguments as they were.  No conditions. -/
import Derived.Test.YthcoipoihieggaaDoorGRow
import Derived.Test.YthcoipoihieggaaDoorMtF
import Derived.Test.YthcoipoihieggaaDoorMtW
import Derived.Test.YthcoipoihieggaaDoorMovC
import Derived.Test.YthcoipoihieggaaDoorMovL
import Derived.Test.YthcoipoihieggaaDoorMovP
import Derived.Test.YthcoipoihieggaaDoorMovTwo
import Derived.Test.YthcoipoihieggaaDoorTxParI
import Derived.Test.YthcoipoihieggaaDoorGDoor7
import Derived.Test.YthcoipoihieggaaDoorCards
import Derived.Test.YthcoipoihieggaaDoorTie
import Derived.SevenTiedAt
namespace Go.Proofs.YthcoipoihieggaaDoor
set_option maxRecDepth 100000
open Go.ChangeShapes Go.WideShapes Go.ChangeAt Go.RowKit Go.Joins

theorem inMoving_of {H : Type} {enc : TypeId × Value → H} {w : World} {r : Reach} {b0 : Nat} {v : Value} {d : DataW H} {p : List MemPlace}
    (hv : Value.okWide Tryd.prog w r b0 23 v) (h : DataW.Trod enc Tryd.prog w 0 (fun _ => true) true 23 v d p) :
    ∃ x y : Int, v = .agg #[.int .i64 x, .int .i64 y] ∧ (-9223372036854775808 ≤ x ∧ x ≤ 9223372036854775807) ∧ (-9223372036854775808 ≤ y ∧ y ≤ 9223372036854775807) := by
  obtain ⟨c0, c1, y0, y1, m, rfl, _, _, h0, h1⟩ := open_agg2 Tryd.underlying23 (by kernel_rfl) (by kernel_rfl) hv h
  obtain ⟨a, e0, _, wa⟩ := DataW.trod_int Tryd.underlying3 h0
  obtain ⟨b, e1, _, wb⟩ := DataW.trod_int Tryd.underlying3 h1
  simp at e0 e1
  subst e0 e1
  exact ⟨a, b, rfl, bounds_i64 wa, bounds_i64 wb⟩

theorem movingTimedOfAll_all (a0_0 a0_1 : Int) (n1 : Int) (n2 : Int) (n3 : Int) (n4 : Int) (n5 : Int) (n6 : Int) (n7 : Int) (n8 : Int) (a9_0 a9_1 : Int) (n10 : Int) (w : World) (hT : TabI w) (hE : ErrI w) (_lo0_0 : -9223372036854775808 ≤ a0_0) (_hi0_0 : a0_0 ≤ 9223372036854775807) (_lo0_1 : -9223372036854775808 ≤ a0_1) (_hi0_1 : a0_1 ≤ 9223372036854775807) (_lo1 : -9223372036854775808 ≤ n1) (_hi1 : n1 ≤ 9223372036854775807) (_lo2 : -9223372036854775808 ≤ n2) (_hi2 : n2 ≤ 9223372036854775807) (_lo3 : -9223372036854775808 ≤ n3) (_hi3 : n3 ≤ 9223372036854775807) (_lo4 : -9223372036854775808 ≤ n4) (_hi4 : n4 ≤ 9223372036854775807) (_lo5 : -9223372036854775808 ≤ n5) (_hi5 : n5 ≤ 9223372036854775807) (_lo6 : -9223372036854775808 ≤ n6) (_hi6 : n6 ≤ 9223372036854775807) (_lo7 : -9223372036854775808 ≤ n7) (_hi7 : n7 ≤ 9223372036854775807) (_lo8 : -9223372036854775808 ≤ n8) (_hi8 : n8 ≤ 9223372036854775807) (_lo9_0 : -9223372036854775808 ≤ a9_0) (_hi9_0 : a9_0 ≤ 9223372036854775807) (_lo9_1 : -9223372036854775808 ≤ a9_1) (_hi9_1 : a9_1 ≤ 9223372036854775807) (_lo10 : -9223372036854775808 ≤ n10) (_hi10 : n10 ≤ 9223372036854775807) :
    Calls Tryd.prog 3 #[.agg #[.int .i64 a0_0, .int .i64 a0_1], .int .i64 n1, .int .i64 n2, .int .i64 n3, .int .i64 n4, .int .i64 n5, .int .i64 n6, .int .i64 n7, .int .i64 n8, .agg #[.int .i64 a9_0, .int .i64 a9_1], .int .i64 n10] w fun e w' => e = .returned (.bool true) ∧ Below w.heap.size w w' := by
  exact mt_walk a0_0 a0_1 n1 n2 n3 n4 n5 n6 n7 n8 a9_0 a9_1 n10 (frN (tellB a0_0 a0_1 n1 a0_1) (a0_0) (n1 + a0_1)) (frD (tellB a0_0 a0_1 n1 a0_1) (a0_0) (n1 + a0_1)) (frN (tellB a0_0 a0_1 n1 a0_1) (a0_0 * n1) (n1 + a0_1)) (frD (tellB a0_0 a0_1 n1 a0_1) (a0_0 * n1) (n1 + a0_1)) (frN (tellB a0_0 a0_1 n1 (-a0_1)) (a0_0) (n1 + (-a0_1))) (frD (tellB a0_0 a0_1 n1 (-a0_1)) (a0_0) (n1 + (-a0_1))) (frN (tellB a0_0 a0_1 n1 (-a0_1)) (a0_0 * n1) (n1 + (-a0_1))) (frD (tellB a0_0 a0_1 n1 (-a0_1)) (a0_0 * n1) (n1 + (-a0_1))) (frN (tellB a0_0 a0_1 n1 a0_1) (2 * a0_0) (n1 + a0_1)) (frD (tellB a0_0 a0_1 n1 a0_1) (2 * a0_0) (n1 + a0_1)) (frN (twoV n2 n3 n4 n5) (n3 * n5 * (n4 - n2)) (n3 * n4 - n5 * n2)) (frD (twoV n2 n3 n4 n5) (n3 * n5 * (n4 - n2)) (n3 * n4 - n5 * n2)) (frN (twoV n2 n3 n4 n5) ((n5 - n3) * n2 * n4) (n3 * n4 - n5 * n2)) (frD (twoV n2 n3 n4 n5) ((n5 - n3) * n2 * n4) (n3 * n4 - n5 * n2)) (frN (bothV n6 n7 n8) (2 * n7 * n8) (n7 + n8)) (frD (bothV n6 n7 n8) (2 * n7 * n8) (n7 + n8)) (frN (paceV a9_0 a9_1 n10) (n10 * a9_1) (a9_0 - n10)) (frD (paceV a9_0 a9_1 n10) (n10 * a9_1) (a9_0 - n10)) (tellB a0_0 a0_1 n1 a0_1) (tellB a0_0 a0_1 n1 (-a0_1)) (movB a0_0 a0_1) (twoV n2 n3 n4 n5) (bothV n6 n7 n8) (paceV a9_0 a9_1 n10) (wholeR a0_0 a0_1) (orS (movB a0_0 a0_1) (moS a0_0 a0_1)) w hT hE
    (iTimeWith := Lib.hid (fun w => impTimeWith_any a0_0 a0_1 n1 w))
    (sTimeWith := Lib.hid (fun w => specTimeWith_any a0_0 a0_1 n1 w))
    (iStepsWith := Lib.hid (fun w => impStepsWith_any a0_0 a0_1 n1 w))
    (sStepsWith := Lib.hid (fun w => specStepsWith_any a0_0 a0_1 n1 w))
    (iTimeAgainst := Lib.hid (fun w => impTimeAgainst_any a0_0 a0_1 n1 w))
    (sTimeAgainst := Lib.hid (fun w => specTimeAgainst_any a0_0 a0_1 n1 w))
    (iStepsAgainst := Lib.hid (fun w => impStepsAgainst_any a0_0 a0_1 n1 w))
    (sStepsAgainst := Lib.hid (fun w => specStepsAgainst_any a0_0 a0_1 n1 w))
    (iRoundTrip := Lib.hid (fun w => impRoundTrip_any a0_0 a0_1 n1 w))
    (sRoundTrip := Lib.hid (fun w => specRoundTrip_any a0_0 a0_1 n1 w))
    (iWholeTimes := Lib.hid (fun w => impWhole_any a0_0 a0_1 w))
    (sWholeTimes := Lib.hid (fun w => specWhole_any a0_0 a0_1 w))
    (iMovingText := Lib.hid (fun w ht => implMovingText_any a0_0 a0_1 w ht))
    (sMovingText := Lib.hid (fun w => specMovingText_any a0_0 a0_1 w))
    (iIsMoving := Lib.hid (fun w => impMov_any a0_0 a0_1 w))
    (sIsMoving := Lib.hid (fun w => specMov_any a0_0 a0_1 w))
    (iVisibleFromTwo := Lib.hid (fun w => implVisibleFromTwo_any n2 n3 n4 n5 w))
    (iSpeedFromTwo := Lib.hid (fun w => implSpeedFromTwo_any n2 n3 n4 n5 w))
    (iVisibleFromBoth := Lib.hid (fun w => implVisibleFromBoth_any n6 n7 n8 w))
    (iPaceForSteps := Lib.hid (fun w => implPaceForSteps_any a9_0 a9_1 n10 w))
    (sVisibleFromTwo := Lib.hid (fun w => specVisibleFromTwo_any n2 n3 n4 n5 w))
    (sSpeedFromTwo := Lib.hid (fun w => specSpeedFromTwo_any n2 n3 n4 n5 w))
    (sVisibleFromBoth := Lib.hid (fun w => specVisibleFromBoth_any n6 n7 n8 w))
    (sPaceForSteps := Lib.hid (fun w => specPaceForSteps_any a9_0 a9_1 n10 w))
    (hok := Lib.hid (fun h => mt_ok h))
    (hag := Lib.hid (fun h => mt_3 h))
    (hwr := rises_R a0_0 a0_1) (hwn := wholeR_21 a0_0 a0_1)
    (hpc := Lib.hid (fun h h1 h2 h3 => by
      rw [h, frD_yes] at h1; rw [h, frN_yes] at h2; rw [h, frN_yes]
      exact mt_pace h h1 h2 h3))
    (hpl := Lib.hid (fun h w => by
      rw [h, frN_yes, frD_yes]
      exact mt_place h w))
    (hbo := Lib.hid (fun h h1 h2 h3 => by
      have hw := (against_tell h).1
      rw [hw, frD_yes] at h1; rw [h, frD_yes] at h2; rw [hw, frN_yes] at h3; rw [hw, h, frN_yes, frN_yes]
      exact mt_both h h1 h2 h3))
    (hrd := Lib.hid (fun h w ht he => by
      have hp := implParMov2_any (moS a0_0 a0_1) w (moS_size h) ht he
      obtain ⟨e1, e2, e3⟩ := mp_of h
      rw [e1, e2, e3] at hp
      rw [h, orS_yes]
      exact hp))
    (htwo := Lib.hid (fun h => mt_two h))
    (hbth := Lib.hid (fun h => mt_mean h))
    (hpac := Lib.hid (fun h => mt_steps h))

set_option maxRecDepth 100000 in
theorem movingTimedOfAll_lifted (os : Os) (started : os.Started) (H : Type) (enc : TypeId × Value → H) :
    ReturnsInHanded {} Tryd.checked os 3 .any (fun w args => (Rows.fnMovingTimedOfAllSpec.pre enc Tryd.prog Tryd.f3 [] false w args ∧ laidMetH Tryd.prog laid7 w) ∧ sizedMet enc Tryd.prog Tryd.f3 (OpenSpec.ofChange Rows.fnMovingTimedOfAllSpec) false w args)
      (Rows.fnMovingTimedOfAllSpec.post enc Tryd.prog Tryd.f3 false true false false) := by
  refine returnsInHanded_of_change_and (C := Tryd.checked) (X := fun w _ => laidMetH Tryd.prog laid7 w) (fun _ _ _ hh h => h.of_heap hh) own started (by kernel_rfl) Tryd.func3
    (ChangeSpec.witness_shaped (enc := enc) (C := Tryd.checked) (os := os) (X := fun w _ => laidMetH Tryd.prog laid7 w) false (World.laidAll Tryd.prog os laid7) #[.agg #[.int .i64 0, .int .i64 0], .int .i64 0, .int .i64 0, .int .i64 0, .int .i64 0, .int .i64 0, .int .i64 0, .int .i64 0, .int .i64 0, .agg #[.int .i64 0, .int .i64 0], .int .i64 0] 8 (World.laidAll_os _ _ _) (World.shaped_of_ZipB (by kernel_rfl) (by kernel_rfl)) (by kernel_rfl) (by kernel_rfl) (by kernel_rfl) (door_met7 os _)) ?_
  intro W base args ds gs before hval0 hW _ _ hL _
  have hval : ∀ (j : Nat) t v, Tryd.f3.params[j]? = some t → args[j]? = some v → Value.okWide Tryd.prog W .any base t v := hval0
  have hW' := hW
  obtain ⟨p, q, hA0, hV, rfl, _, _⟩ := hW
  have hA : DataW.TrodAll enc Tryd.prog W 0 (fun _ => true) true Tryd.f3.params.toList args.toList ds p := hA0
  rw [Tryd.params3] at hA hval
  obtain ⟨v0, vs0, d0, ds0, p0, q0, hargs, rfl, rfl, h0, r0⟩ := trodAll_cons hA
  obtain ⟨v1, vs1, d1, ds1, p1, q1, rfl, rfl, rfl, h1, r1⟩ := trodAll_cons r0
  obtain ⟨v2, vs2, d2, ds2, p2, q2, rfl, rfl, rfl, h2, r2⟩ := trodAll_cons r1
  obtain ⟨v3, vs3, d3, ds3, p3, q3, rfl, rfl, rfl, h3, r3⟩ := trodAll_cons r2
  obtain ⟨v4, vs4, d4, ds4, p4, q4, rfl, rfl, rfl, h4, r4⟩ := trodAll_cons r3
  obtain ⟨v5, vs5, d5, ds5, p5, q5, rfl, rfl, rfl, h5, r5⟩ := trodAll_cons r4
  obtain ⟨v6, vs6, d6, ds6, p6, q6, rfl, rfl, rfl, h6, r6⟩ := trodAll_cons r5
  obtain ⟨v7, vs7, d7, ds7, p7, q7, rfl, rfl, rfl, h7, r7⟩ := trodAll_cons r6
  obtain ⟨v8, vs8, d8, ds8, p8, q8, rfl, rfl, rfl, h8, r8⟩ := trodAll_cons r7
  obtain ⟨v9, vs9, d9, ds9, p9, q9, rfl, rfl, rfl, h9, r9⟩ := trodAll_cons r8
  obtain ⟨v10, vs10, d10, ds10, p10, q10, rfl, rfl, rfl, h10, r10⟩ := trodAll_cons r9
  obtain ⟨rfl, rfl, rfl⟩ := trodAll_nil r10
  obtain rfl : args = #[v0, v1, v2, v3, v4, v5, v6, v7, v8, v9, v10] := by cases args; simp_all
  obtain ⟨rfl, rfl⟩ := trodVars_none hV
  have k0 := h0
  have lt0 : ∀ x ∈ p0, x.block < W.heap.size := by obtain ⟨m, hm⟩ := k0; exact DataW.trod_lt m _ _ _ hm
  obtain ⟨a0_0, a0_1, e0, wb0_0, wb0_1⟩ := inMoving_of (hval 0 23 v0 rfl rfl) h0
  subst e0
  have k1 := h1
  have lt1 : ∀ x ∈ p1, x.block < W.heap.size := by obtain ⟨m, hm⟩ := k1; exact DataW.trod_lt m _ _ _ hm
  obtain ⟨n1, e1, wb1⟩ := inI_of (hval 1 3 v1 rfl rfl) h1
  subst e1
  have k2 := h2
  have lt2 : ∀ x ∈ p2, x.block < W.heap.size := by obtain ⟨m, hm⟩ := k2; exact DataW.trod_lt m _ _ _ hm
  obtain ⟨n2, e2, wb2⟩ := inI_of (hval 2 3 v2 rfl rfl) h2
  subst e2
  have k3 := h3
  have lt3 : ∀ x ∈ p3, x.block < W.heap.size := by obtain ⟨m, hm⟩ := k3; exact DataW.trod_lt m _ _ _ hm
  obtain ⟨n3, e3, wb3⟩ := inI_of (hval 3 3 v3 rfl rfl) h3
  subst e3
  have k4 := h4
  have lt4 : ∀ x ∈ p4, x.block < W.heap.size := by obtain ⟨m, hm⟩ := k4; exact DataW.trod_lt m _ _ _ hm
  obtain ⟨n4, e4, wb4⟩ := inI_of (hval 4 3 v4 rfl rfl) h4
  subst e4
  have k5 := h5
  have lt5 : ∀ x ∈ p5, x.block < W.heap.size := by obtain ⟨m, hm⟩ := k5; exact DataW.trod_lt m _ _ _ hm
  obtain ⟨n5, e5, wb5⟩ := inI_of (hval 5 3 v5 rfl rfl) h5
  subst e5
  have k6 := h6
  have lt6 : ∀ x ∈ p6, x.block < W.heap.size := by obtain ⟨m, hm⟩ := k6; exact DataW.trod_lt m _ _ _ hm
  obtain ⟨n6, e6, wb6⟩ := inI_of (hval 6 3 v6 rfl rfl) h6
  subst e6
  have k7 := h7
  have lt7 : ∀ x ∈ p7, x.block < W.heap.size := by obtain ⟨m, hm⟩ := k7; exact DataW.trod_lt m _ _ _ hm
  obtain ⟨n7, e7, wb7⟩ := inI_of (hval 7 3 v7 rfl rfl) h7
  subst e7
  have k8 := h8
  have lt8 : ∀ x ∈ p8, x.block < W.heap.size := by obtain ⟨m, hm⟩ := k8; exact DataW.trod_lt m _ _ _ hm
  obtain ⟨n8, e8, wb8⟩ := inI_of (hval 8 3 v8 rfl rfl) h8
  subst e8
  have k9 := h9
  have lt9 : ∀ x ∈ p9, x.block < W.heap.size := by obtain ⟨m, hm⟩ := k9; exact DataW.trod_lt m _ _ _ hm
  obtain ⟨a9_0, a9_1, e9, wb9_0, wb9_1⟩ := inMoving_of (hval 9 23 v9 rfl rfl) h9
  subst e9
  have k10 := h10
  have lt10 : ∀ x ∈ p10, x.block < W.heap.size := by obtain ⟨m, hm⟩ := k10; exact DataW.trod_lt m _ _ _ hm
  obtain ⟨n10, e10, wb10⟩ := inI_of (hval 10 3 v10 rfl rfl) h10
  subst e10
  clear hA0 hval0
  refine (movingTimedOfAll_all a0_0 a0_1 n1 n2 n3 n4 n5 n6 n7 n8 a9_0 a9_1 n10 W (tabI_of_laid7 hL) (errI_of_laid7 hL) wb0_0.1 wb0_0.2 wb0_1.1 wb0_1.2 wb1.1 wb1.2 wb2.1 wb2.2 wb3.1 wb3.2 wb4.1 wb4.2 wb5.1 wb5.2 wb6.1 wb6.2 wb7.1 wb7.2 wb8.1 wb8.2 wb9_0.1 wb9_0.2 wb9_1.1 wb9_1.2 wb10.1 wb10.2).mono fun e W' ⟨he, bel⟩ => ?_
  subst he
  exact ⟨_, rfl, _, _, _, [], _, [], hW', trodAll_mk1 (shut_bool Tryd.underlying4 _), (trodAll_cons_mk (Below.trod laidOut (by kernel_rfl) (of_decide_eq_true (by kernel_rfl)) k0 bel lt0) (trodAll_cons_mk (Below.trod laidOut (by kernel_rfl) (of_decide_eq_true (by kernel_rfl)) k1 bel lt1) (trodAll_cons_mk (Below.trod laidOut (by kernel_rfl) (of_decide_eq_true (by kernel_rfl)) k2 bel lt2) (trodAll_cons_mk (Below.trod laidOut (by kernel_rfl) (of_decide_eq_true (by kernel_rfl)) k3 bel lt3) (trodAll_cons_mk (Below.trod laidOut (by kernel_rfl) (of_decide_eq_true (by kernel_rfl)) k4 bel lt4) (trodAll_cons_mk (Below.trod laidOut (by kernel_rfl) (of_decide_eq_true (by kernel_rfl)) k5 bel lt5) (trodAll_cons_mk (Below.trod laidOut (by kernel_rfl) (of_decide_eq_true (by kernel_rfl)) k6 bel lt6) (trodAll_cons_mk (Below.trod laidOut (by kernel_rfl) (of_decide_eq_true (by kernel_rfl)) k7 bel lt7) (trodAll_cons_mk (Below.trod laidOut (by kernel_rfl) (of_decide_eq_true (by kernel_rfl)) k8 bel lt8) (trodAll_cons_mk (Below.trod laidOut (by kernel_rfl) (of_decide_eq_true (by kernel_rfl)) k9 bel lt9) (trodAll_cons_mk (Below.trod laidOut (by kernel_rfl) (of_decide_eq_true (by kernel_rfl)) k10 bel lt10) trodAll_mk0))))))))))), rfl, bel.frame _, fun h => by cases h⟩

theorem movingTimedOfAll_row : Rows.FnMovingTimedOfAllSaid :=
  OpenClaim.holds_of_wide 3 Tryd.f3 rfl rfl rfl rfl rfl rfl rfl ⟨rfl, rfl, rfl, rfl, rfl⟩ rfl rfl rfl rfl rfl (by kernel_rfl) Tryd.func3 (by kernel_rfl)
    (of_decide_eq_true (by kernel_rfl)) (by unfold Func.isWrapper; first | (rw [if_pos (by decide +kernel)]; kernel_rfl) | (rw [if_neg (by decide +kernel)]; exact ⟨rfl, rfl⟩))
    (fun os started H enc _ => movingTimedOfAll_lifted os started H enc)
theorem movingTimedOfAll_holds : Rows.FnMovingTimedOfAllCardSaid :=
  Claim7.holds_tied_plain_at .later [] [.data, .data, .data, .data, .sentinel, .sentinel, .pinned] true Rows.fnMovingTimedOfAllCard.stood.harness true
    movingTimedOfAll_row (fun _ h => by cases h) (by kernel_rfl) (fun _ h => by cases h) fnMovingTimedOfAll_row_tie rfl ⟨rfl, rfl⟩ (by kernel_rfl) rfl
    (fun f fn hf hfn => by
      obtain rfl : f = 3 := Option.some.inj ((show Tryd.prog.funcNamed "loop.example/g01374/laws.FnMovingTimedOfAll" = some 3 by kernel_rfl).symm.trans hf) |>.symm
      obtain rfl : fn = Tryd.f3 := (Option.some.inj (Tryd.func3.symm.trans hfn)).symm
      exact ⟨by kernel_rfl, fun j t ht => by
        have hm : t ∈ Tryd.f3.params.toList := by simpa using Array.mem_of_getElem? ht
        have hall : (Tryd.f3.params.toList.all fun u => !Tryd.prog.wantsStandIn u) = true := by kernel_rfl
        exact (show Tryd.prog.wantsStandIn t = false by simpa using List.all_eq_true.1 hall t hm)⟩)
    (by kernel_rfl)
#print axioms movingTimedOfAll_holds

end Go.Proofs.YthcoipoihieggaaDoor
