/- The law FnMovingTimedOfAll: its walk, given what the functions leave and what is known of their answers. -/
import Derived.Test.YthcoipoihieggaaDoorMtSt
import Derived.Test.YthcoipoihieggaaDoorGBw
import Derived.Test.YthcoipoihieggaaDoorGCalm
import Derived.Test.YthcoipoihieggaaDoorTxNin
import Derived.Deep.CutRange
import Derived.Deep.RegionHeld3
namespace Go.Proofs.YthcoipoihieggaaDoor
open Go.RowKit Go.BigFrame
set_option maxRecDepth 100000

set_option maxHeartbeats 16000000 in
theorem mt_walk (x y p p1 s1 p2 s2 z wi ag x2 y2 many t1 d1 t2 d2 t3 d3 t4 d4 t5 d5 v1 k1 v2 k2 v3 k3 v4 k4 : Int) (b1 b3 b9 b13 b17 b19 : Bool) (ws : List Int) (tx : ByteArray) (w0 : World) (hT : TabI w0) (hE : ErrI w0)
    (iTimeWith : Hid (∀ (w : World), Calls Tryd.prog 4 #[.agg #[.int .i64 x, .int .i64 y], .int .i64 p] w (Plain (.tuple #[.int .i64 t1, .int .i64 d1, .bool b1]) w)))
    (sTimeWith : Hid (∀ (w : World), Calls Tryd.prog 5 #[.agg #[.int .i64 x, .int .i64 y], .int .i64 p] w (Plain (.tuple #[.int .i64 t1, .int .i64 d1, .bool b1]) w)))
    (iStepsWith : Hid (∀ (w : World), Calls Tryd.prog 6 #[.agg #[.int .i64 x, .int .i64 y], .int .i64 p] w (Plain (.tuple #[.int .i64 t2, .int .i64 d2, .bool b1]) w)))
    (sStepsWith : Hid (∀ (w : World), Calls Tryd.prog 7 #[.agg #[.int .i64 x, .int .i64 y], .int .i64 p] w (Plain (.tuple #[.int .i64 t2, .int .i64 d2, .bool b1]) w)))
    (iTimeAgainst : Hid (∀ (w : World), Calls Tryd.prog 8 #[.agg #[.int .i64 x, .int .i64 y], .int .i64 p] w (Plain (.tuple #[.int .i64 t3, .int .i64 d3, .bool b3]) w)))
    (sTimeAgainst : Hid (∀ (w : World), Calls Tryd.prog 9 #[.agg #[.int .i64 x, .int .i64 y], .int .i64 p] w (Plain (.tuple #[.int .i64 t3, .int .i64 d3, .bool b3]) w)))
    (iStepsAgainst : Hid (∀ (w : World), Calls Tryd.prog 10 #[.agg #[.int .i64 x, .int .i64 y], .int .i64 p] w (Plain (.tuple #[.int .i64 t4, .int .i64 d4, .bool b3]) w)))
    (sStepsAgainst : Hid (∀ (w : World), Calls Tryd.prog 11 #[.agg #[.int .i64 x, .int .i64 y], .int .i64 p] w (Plain (.tuple #[.int .i64 t4, .int .i64 d4, .bool b3]) w)))
    (iRoundTrip : Hid (∀ (w : World), Calls Tryd.prog 12 #[.agg #[.int .i64 x, .int .i64 y], .int .i64 p] w (Plain (.tuple #[.int .i64 t5, .int .i64 d5, .bool b1]) w)))
    (sRoundTrip : Hid (∀ (w : World), Calls Tryd.prog 13 #[.agg #[.int .i64 x, .int .i64 y], .int .i64 p] w (Plain (.tuple #[.int .i64 t5, .int .i64 d5, .bool b1]) w)))
    (iWholeTimes : Hid (∀ (w : World), Calls Tryd.prog 14 #[.agg #[.int .i64 x, .int .i64 y]] w (Lists w ws b9)))
    (sWholeTimes : Hid (∀ (w : World), Calls Tryd.prog 15 #[.agg #[.int .i64 x, .int .i64 y]] w (Lists w ws b9)))
    (iMovingText : Hid (∀ (w : World), TabI w → Calls Tryd.prog 16 #[.agg #[.int .i64 x, .int .i64 y]] w (Plain (.tuple #[.string tx, .bool b9]) w)))
    (sMovingText : Hid (∀ (w : World), Calls Tryd.prog 17 #[.agg #[.int .i64 x, .int .i64 y]] w (Plain (.tuple #[.string tx, .bool b9]) w)))
    (iIsMoving : Hid (∀ (w : World), Calls Tryd.prog 19 #[.agg #[.int .i64 x, .int .i64 y]] w (Plain (.bool b9) w)))
    (sIsMoving : Hid (∀ (w : World), Calls Tryd.prog 20 #[.agg #[.int .i64 x, .int .i64 y]] w (Plain (.bool b9) w)))
    (iVisibleFromTwo : Hid (∀ (w : World), Calls Tryd.prog 28 #[.int .i64 p1, .int .i64 s1, .int .i64 p2, .int .i64 s2] w (Plain (.tuple #[.int .i64 v1, .int .i64 k1, .bool b13]) w)))
    (iSpeedFromTwo : Hid (∀ (w : World), Calls Tryd.prog 30 #[.int .i64 p1, .int .i64 s1, .int .i64 p2, .int .i64 s2] w (Plain (.tuple #[.int .i64 v2, .int .i64 k2, .bool b13]) w)))
    (iVisibleFromBoth : Hid (∀ (w : World), Calls Tryd.prog 25 #[.int .i64 z, .int .i64 wi, .int .i64 ag] w (Plain (.tuple #[.int .i64 v3, .int .i64 k3, .bool b17]) w)))
    (iPaceForSteps : Hid (∀ (w : World), Calls Tryd.prog 23 #[.agg #[.int .i64 x2, .int .i64 y2], .int .i64 many] w (Plain (.tuple #[.int .i64 v4, .int .i64 k4, .bool b19]) w)))
    (sVisibleFromTwo : Hid (∀ (w : World), Calls Tryd.prog 29 #[.int .i64 p1, .int .i64 s1, .int .i64 p2, .int .i64 s2] w (Plain (.tuple #[.int .i64 v1, .int .i64 k1, .bool b13]) w)))
    (sSpeedFromTwo : Hid (∀ (w : World), Calls Tryd.prog 31 #[.int .i64 p1, .int .i64 s1, .int .i64 p2, .int .i64 s2] w (Plain (.tuple #[.int .i64 v2, .int .i64 k2, .bool b13]) w)))
    (sVisibleFromBoth : Hid (∀ (w : World), Calls Tryd.prog 32 #[.int .i64 z, .int .i64 wi, .int .i64 ag] w (Plain (.tuple #[.int .i64 v3, .int .i64 k3, .bool b17]) w)))
    (sPaceForSteps : Hid (∀ (w : World), Calls Tryd.prog 33 #[.agg #[.int .i64 x2, .int .i64 y2], .int .i64 many] w (Plain (.tuple #[.int .i64 v4, .int .i64 k4, .bool b19]) w)))
    (hok : Hid (b1 = true → MtOk x y p t1 d1 t2 d2 t5 d5 ws ∧ b9 = true))
    (hag : Hid (b3 = true → Mt3 x y p t1 d1 t3 d3 t4 d4 ∧ b1 = true))
    (hwr : Rising ws) (hwn : ws.length ≤ 21)
    (hpc : Hid (b1 = true → d2 = 1 → t2 < x → 0 < y → ∃ q1 q2, lowB q1 q2 = true ∧ q1 * 1 = p * q2 ∧ q1 ≤ 2147483647 ∧ q2 ≤ 2147483647 ∧ (∀ (w : World), Calls Tryd.prog 23 #[.agg #[.int .i64 x, .int .i64 y], .int .i64 t2] w (Plain (.tuple #[.int .i64 q1, .int .i64 q2, .bool true]) w))))
    (hpl : Hid (b1 = true → (∀ (w : World), Calls Tryd.prog 24 #[.agg #[.int .i64 x, .int .i64 y], .int .i64 p, .int .i64 ((t1 + d1 - 1) / d1)] w (Plain (.tuple #[.int .i64 x, .bool true]) w))))
    (hbo : Hid (b3 = true → d2 = 1 → d4 = 1 → 1 ≤ t2 → ∃ q1 q2, lowB q1 q2 = true ∧ q1 * 1 = x * q2 ∧ q1 ≤ 2147483647 ∧ q2 ≤ 2147483647 ∧ (∀ (w : World), Calls Tryd.prog 25 #[.int .i64 p, .int .i64 t2, .int .i64 t4] w (Plain (.tuple #[.int .i64 q1, .int .i64 q2, .bool true]) w))))
    (hrd : Hid (b9 = true → (∀ (w : World), TabI w → ErrI w → Calls Tryd.prog 26 #[.string tx] w (Plain (.tuple #[.agg #[.int .i64 x, .int .i64 y], .bool true]) w))))
    (htwo : Hid (b13 = true → MtTwo p1 s1 p2 s2 v1 k1 v2 k2))
    (hbth : Hid (b17 = true → MtBoth wi ag v3 k3))
    (hpac : Hid (b19 = true → MtPace x2 y2 many v4 k4)) :
    Calls Tryd.prog 3 #[.agg #[.int .i64 x, .int .i64 y], .int .i64 p, .int .i64 p1, .int .i64 s1, .int .i64 p2, .int .i64 s2, .int .i64 z, .int .i64 wi, .int .i64 ag, .agg #[.int .i64 x2, .int .i64 y2], .int .i64 many] w0 fun e w' => e = .returned (.bool true) ∧ Below w0.heap.size w0 w' := by
  have a0 : Blk ((w0.alloc (.cells #[.int .i64 x, .int .i64 y] 23)).alloc (.cells #[.int .i64 x2, .int .i64 y2] 23)) w0.heap.size 23 #[.int .i64 x, .int .i64 y] := (Blk.new _ _ _).alloc _
  have a1 : Blk ((w0.alloc (.cells #[.int .i64 x, .int .i64 y] 23)).alloc (.cells #[.int .i64 x2, .int .i64 y2] 23)) (w0.heap.size + 1) 23 #[.int .i64 x2, .int .i64 y2] := Blk.new' (by simp)
  have B : Below w0.heap.size w0 ((w0.alloc (.cells #[.int .i64 x, .int .i64 y] 23)).alloc (.cells #[.int .i64 x2, .int .i64 y2] 23)) := (below_alloc _ _).alloc (by simp) _
  have hw21 : ws.length ≤ 1048576 := by omega
  go_enter Tryd.func3, Tryd.ntmps3
  go_upto_region 1 with fail
  generalize hW : (w0.alloc (.cells #[.int .i64 x, .int .i64 y] 23)).alloc (.cells #[.int .i64 x2, .int .i64 y2] 23) = w1 at *
  clear hW
  have X0 := a0
  have X1 := a1
  clear a0 a1
  obtain ⟨c00, c01⟩ := X0.two
  obtain ⟨c10, c11⟩ := X1.two
  go_wp2_with fail
  refine (iTimeWith.out _).mono ?_
  rintro e w2 ⟨rfl, hb⟩
  replace B := B.trans (hb.mono B.size)
  replace X0 := X0.below hb X0.lt
  replace X1 := X1.below hb X1.lt
  clear hb
  try clear c00 c01
  obtain ⟨c00, c01⟩ := X0.two
  try clear c10 c11
  obtain ⟨c10, c11⟩ := X1.two
  go_wp2_with fail
  refine (sTimeWith.out _).mono ?_
  rintro e w3 ⟨rfl, hb⟩
  replace B := B.trans (hb.mono B.size)
  replace X0 := X0.below hb X0.lt
  replace X1 := X1.below hb X1.lt
  clear hb
  try clear c00 c01
  obtain ⟨c00, c01⟩ := X0.two
  try clear c10 c11
  obtain ⟨c10, c11⟩ := X1.two
  go_wp2_with fail
  refine (iStepsWith.out _).mono ?_
  rintro e w4 ⟨rfl, hb⟩
  replace B := B.trans (hb.mono B.size)
  replace X0 := X0.below hb X0.lt
  replace X1 := X1.below hb X1.lt
  clear hb
  try clear c00 c01
  obtain ⟨c00, c01⟩ := X0.two
  try clear c10 c11
  obtain ⟨c10, c11⟩ := X1.two
  go_wp2_with fail
  refine (sStepsWith.out _).mono ?_
  rintro e w5 ⟨rfl, hb⟩
  replace B := B.trans (hb.mono B.size)
  replace X0 := X0.below hb X0.lt
  replace X1 := X1.below hb X1.lt
  clear hb
  try clear c00 c01
  obtain ⟨c00, c01⟩ := X0.two
  try clear c10 c11
  obtain ⟨c10, c11⟩ := X1.two
  as_aux_lemma =>
    go_wp2_with fail
    refine (iTimeAgainst.out _).mono ?_
    rintro e w6 ⟨rfl, hb⟩
    replace B := B.trans (hb.mono B.size)
    replace X0 := X0.below hb X0.lt
    replace X1 := X1.below hb X1.lt
    clear hb
    try clear c00 c01
    obtain ⟨c00, c01⟩ := X0.two
    try clear c10 c11
    obtain ⟨c10, c11⟩ := X1.two
    go_wp2_with fail
    refine (sTimeAgainst.out _).mono ?_
    rintro e w7 ⟨rfl, hb⟩
    replace B := B.trans (hb.mono B.size)
    replace X0 := X0.below hb X0.lt
    replace X1 := X1.below hb X1.lt
    clear hb
    try clear c00 c01
    obtain ⟨c00, c01⟩ := X0.two
    try clear c10 c11
    obtain ⟨c10, c11⟩ := X1.two
    go_wp2_with fail
    refine (iStepsAgainst.out _).mono ?_
    rintro e w8 ⟨rfl, hb⟩
    replace B := B.trans (hb.mono B.size)
    replace X0 := X0.below hb X0.lt
    replace X1 := X1.below hb X1.lt
    clear hb
    try clear c00 c01
    obtain ⟨c00, c01⟩ := X0.two
    try clear c10 c11
    obtain ⟨c10, c11⟩ := X1.two
    go_wp2_with fail
    refine (sStepsAgainst.out _).mono ?_
    rintro e w9 ⟨rfl, hb⟩
    replace B := B.trans (hb.mono B.size)
    replace X0 := X0.below hb X0.lt
    replace X1 := X1.below hb X1.lt
    clear hb
    try clear c00 c01
    obtain ⟨c00, c01⟩ := X0.two
    try clear c10 c11
    obtain ⟨c10, c11⟩ := X1.two
    as_aux_lemma =>
      go_wp2_with fail
      refine (iRoundTrip.out _).mono ?_
      rintro e w10 ⟨rfl, hb⟩
      replace B := B.trans (hb.mono B.size)
      replace X0 := X0.below hb X0.lt
      replace X1 := X1.below hb X1.lt
      clear hb
      try clear c00 c01
      obtain ⟨c00, c01⟩ := X0.two
      try clear c10 c11
      obtain ⟨c10, c11⟩ := X1.two
      go_wp2_with fail
      refine (sRoundTrip.out _).mono ?_
      rintro e w11 ⟨rfl, hb⟩
      replace B := B.trans (hb.mono B.size)
      replace X0 := X0.below hb X0.lt
      replace X1 := X1.below hb X1.lt
      clear hb
      try clear c00 c01
      obtain ⟨c00, c01⟩ := X0.two
      try clear c10 c11
      obtain ⟨c10, c11⟩ := X1.two
      go_wp2_with fail
      refine (iWholeTimes.out _).mono ?_
      rintro e w12 ⟨v1_, rfl, o, hb⟩
      replace B := B.trans (hb.mono B.size)
      replace X0 := X0.below hb X0.lt
      replace X1 := X1.below hb X1.lt
      clear hb
      try clear c00 c01
      obtain ⟨c00, c01⟩ := X0.two
      try clear c10 c11
      obtain ⟨c10, c11⟩ := X1.two
      obtain ⟨A1, e1, rfl, R1⟩ := o.form
      clear o
      go_wp2_with fail
      refine (sWholeTimes.out _).mono ?_
      rintro e w13 ⟨v2_, rfl, o, hb⟩
      replace B := B.trans (hb.mono B.size)
      replace X0 := X0.below hb X0.lt
      replace X1 := X1.below hb X1.lt
      replace R1 := (R1.below hb (Nat.le_refl _)).more hb.size
      clear hb
      try clear c00 c01
      obtain ⟨c00, c01⟩ := X0.two
      try clear c10 c11
      obtain ⟨c10, c11⟩ := X1.two
      obtain ⟨A2, e2, rfl, R2⟩ := o.form
      clear o
      as_aux_lemma =>
        go_wp2_with fail
        refine (iMovingText.out _ (hT.below B)).mono ?_
        rintro e w14 ⟨rfl, hb⟩
        replace B := B.trans (hb.mono B.size)
        replace X0 := X0.below hb X0.lt
        replace X1 := X1.below hb X1.lt
        replace R1 := (R1.below hb (Nat.le_refl _)).more hb.size
        replace R2 := (R2.below hb (Nat.le_refl _)).more hb.size
        clear hb
        try clear c00 c01
        obtain ⟨c00, c01⟩ := X0.two
        try clear c10 c11
        obtain ⟨c10, c11⟩ := X1.two
        go_wp2_with fail
        refine (sMovingText.out _).mono ?_
        rintro e w15 ⟨rfl, hb⟩
        replace B := B.trans (hb.mono B.size)
        replace X0 := X0.below hb X0.lt
        replace X1 := X1.below hb X1.lt
        replace R1 := (R1.below hb (Nat.le_refl _)).more hb.size
        replace R2 := (R2.below hb (Nat.le_refl _)).more hb.size
        clear hb
        try clear c00 c01
        obtain ⟨c00, c01⟩ := X0.two
        try clear c10 c11
        obtain ⟨c10, c11⟩ := X1.two
        go_upto_region 15 with fail
        go_cut [325] from 95 to 325 (fun q325 wc => q325 = .bool false ∧ Below w15.heap.size w15 wc)
        case first =>
          as_aux_lemma =>
            have Bc : Below w15.heap.size w15 w15 := Below.refl _ _
            simp only [List.append]
            refine wp_region_bw w15 (Below.refl _ _) (by kernel_rfl) (lexB_calm (by kernel_rfl) (by kernel_rfl)) ?_
            have hok' := hok.out
            have hag' := hag.out
            have hc : (b1 = false ∧ b3 = false ∧ b9 = false) ∨ (b1 = false ∧ b3 = false ∧ b9 = true) ∨ (b1 = true ∧ b3 = false ∧ b9 = true) ∨ (b1 = true ∧ b3 = true ∧ b9 = true) := by
              cases b1 <;> cases b3 <;> cases b9 <;> simp at hok' hag' ⊢
            clear hok' hag'
            rcases hc with ⟨rfl, rfl, rfl⟩ | ⟨rfl, rfl, rfl⟩ | ⟨rfl, rfl, rfl⟩ | ⟨rfl, rfl, rfl⟩
            case inl =>
              as_aux_lemma =>
                have b00 := fun n : Bw w15 => n.cell c00 X0.lt
                have b01 := fun n : Bw w15 => n.cell c01 X0.lt
                have b10 := fun n : Bw w15 => n.cell c10 X1.lt
                have b11 := fun n : Bw w15 => n.cell c11 X1.lt
                have R1b := fun n : Bw w15 => R1.below n.h (Nat.le_refl _)
                have R2b := fun n : Bw w15 => R2.below n.h (Nat.le_refl _)
                repeat (go_big_quiet_step (first | exact Bw.call _ (lSame_yes _ _ _ _ ws _ _ _ (R1b _) (R2b _) hw21) | exact Bw.call _ (iIsMoving.out _) | exact Bw.call _ (sIsMoving.out _) | fail))
                refine wpQuiet_nil ?_
                intro w16 hw9
                obtain ⟨⟨u9, hb⟩, hw8⟩ := hw9
                dsimp only at hw8
                subst hw8
                clear b00 b01 b10 b11 R1b R2b
                replace B := B.trans (hb.mono B.size)
                replace Bc := Bc.trans (hb.mono Bc.size)
                replace X0 := X0.below hb X0.lt
                replace X1 := X1.below hb X1.lt
                replace R1 := (R1.below hb (Nat.le_refl _)).more hb.size
                replace R2 := (R2.below hb (Nat.le_refl _)).more hb.size
                clear hb
                try clear c00 c01
                obtain ⟨c00, c01⟩ := X0.two
                try clear c10 c11
                obtain ⟨c10, c11⟩ := X1.two
                go_wp2_with fail
                go_meet
                exact ⟨rfl, Bc⟩
            case inr.inl =>
              as_aux_lemma =>
                have b00 := fun n : Bw w15 => n.cell c00 X0.lt
                have b01 := fun n : Bw w15 => n.cell c01 X0.lt
                have b10 := fun n : Bw w15 => n.cell c10 X1.lt
                have b11 := fun n : Bw w15 => n.cell c11 X1.lt
                have R1b := fun n : Bw w15 => R1.below n.h (Nat.le_refl _)
                have R2b := fun n : Bw w15 => R2.below n.h (Nat.le_refl _)
                repeat (go_big_quiet_step (first | exact Bw.call _ (lSame_yes _ _ _ _ ws _ _ _ (R1b _) (R2b _) hw21) | exact Bw.call _ (iIsMoving.out _) | exact Bw.call _ (sIsMoving.out _) | fail))
                refine wpQuiet_nil ?_
                intro w16 hw9
                obtain ⟨⟨u9, hb⟩, hw8⟩ := hw9
                dsimp only at hw8
                subst hw8
                clear b00 b01 b10 b11 R1b R2b
                replace B := B.trans (hb.mono B.size)
                replace Bc := Bc.trans (hb.mono Bc.size)
                replace X0 := X0.below hb X0.lt
                replace X1 := X1.below hb X1.lt
                replace R1 := (R1.below hb (Nat.le_refl _)).more hb.size
                replace R2 := (R2.below hb (Nat.le_refl _)).more hb.size
                clear hb
                try clear c00 c01
                obtain ⟨c00, c01⟩ := X0.two
                try clear c10 c11
                obtain ⟨c10, c11⟩ := X1.two
                go_wp2_with fail
                go_meet
                exact ⟨rfl, Bc⟩
            case inr.inr.inl =>
              as_aux_lemma =>
                have b00 := fun n : Bw w15 => n.cell c00 X0.lt
                have b01 := fun n : Bw w15 => n.cell c01 X0.lt
                have b10 := fun n : Bw w15 => n.cell c10 X1.lt
                have b11 := fun n : Bw w15 => n.cell c11 X1.lt
                have R1b := fun n : Bw w15 => R1.below n.h (Nat.le_refl _)
                have R2b := fun n : Bw w15 => R2.below n.h (Nat.le_refl _)
                repeat (go_big_quiet_step (first | exact Bw.call _ (lSame_yes _ _ _ _ ws _ _ _ (R1b _) (R2b _) hw21) | exact Bw.call _ (iIsMoving.out _) | exact Bw.call _ (sIsMoving.out _) | fail))
                refine wpQuiet_nil ?_
                intro w16 hw9
                obtain ⟨⟨u9, hb⟩, hw8⟩ := hw9
                dsimp only at hw8
                subst hw8
                clear b00 b01 b10 b11 R1b R2b
                replace B := B.trans (hb.mono B.size)
                replace Bc := Bc.trans (hb.mono Bc.size)
                replace X0 := X0.below hb X0.lt
                replace X1 := X1.below hb X1.lt
                replace R1 := (R1.below hb (Nat.le_refl _)).more hb.size
                replace R2 := (R2.below hb (Nat.le_refl _)).more hb.size
                clear hb
                try clear c00 c01
                obtain ⟨c00, c01⟩ := X0.two
                try clear c10 c11
                obtain ⟨c10, c11⟩ := X1.two
                go_wp2_with fail
                go_meet
                exact ⟨rfl, Bc⟩
            case inr.inr.inr =>
              as_aux_lemma =>
                have b00 := fun n : Bw w15 => n.cell c00 X0.lt
                have b01 := fun n : Bw w15 => n.cell c01 X0.lt
                have b10 := fun n : Bw w15 => n.cell c10 X1.lt
                have b11 := fun n : Bw w15 => n.cell c11 X1.lt
                have R1b := fun n : Bw w15 => R1.below n.h (Nat.le_refl _)
                have R2b := fun n : Bw w15 => R2.below n.h (Nat.le_refl _)
                repeat (go_big_quiet_step (first | exact Bw.call _ (lSame_yes _ _ _ _ ws _ _ _ (R1b _) (R2b _) hw21) | exact Bw.call _ (iIsMoving.out _) | exact Bw.call _ (sIsMoving.out _) | fail))
                refine wpQuiet_nil ?_
                intro w16 hw9
                obtain ⟨⟨u9, hb⟩, hw8⟩ := hw9
                dsimp only at hw8
                subst hw8
                clear b00 b01 b10 b11 R1b R2b
                replace B := B.trans (hb.mono B.size)
                replace Bc := Bc.trans (hb.mono Bc.size)
                replace X0 := X0.below hb X0.lt
                replace X1 := X1.below hb X1.lt
                replace R1 := (R1.below hb (Nat.le_refl _)).more hb.size
                replace R2 := (R2.below hb (Nat.le_refl _)).more hb.size
                clear hb
                try clear c00 c01
                obtain ⟨c00, c01⟩ := X0.two
                try clear c10 c11
                obtain ⟨c10, c11⟩ := X1.two
                go_wp2_with fail
                go_meet
                exact ⟨rfl, Bc⟩
        case rest =>
          obtain ⟨w16, hw9⟩ : ∃ u, u = wc := ⟨_, rfl⟩
          subst hw9
          obtain ⟨rfl, hb⟩ := hcut
          replace B := B.trans (hb.mono B.size)
          replace X0 := X0.below hb X0.lt
          replace X1 := X1.below hb X1.lt
          replace R1 := (R1.below hb (Nat.le_refl _)).more hb.size
          replace R2 := (R2.below hb (Nat.le_refl _)).more hb.size
          clear hb
          try clear c00 c01
          obtain ⟨c00, c01⟩ := X0.two
          try clear c10 c11
          obtain ⟨c10, c11⟩ := X1.two
          as_aux_lemma =>
            go_upto_if 326 with fail
            go_cut [] from 326 to 421 (fun  wc => Below w16.heap.size w16 wc)
            case first =>
              as_aux_lemma =>
                have Bc : Below w16.heap.size w16 w16 := Below.refl _ _
                cases b1
                case false =>
                  go_wp2_with fail
                  go_meet
                  exact Bc
                case true =>
                  have K := (hok.out rfl).1
                  obtain ⟨⟨kx0, kx1⟩, ⟨ky0, ky1⟩, kp0, kp1⟩ := K.r
                  obtain ⟨⟨ka0, ka1⟩, kb0, kb1⟩ := K.q1
                  obtain ⟨⟨kc0, kc1⟩, kd0, kd1⟩ := K.q2
                  obtain ⟨⟨ke0, ke1⟩, kf0, kf1⟩ := K.q5
                  have m1 := mul_bd (a := p) (A := 20) (b := t1) (B := 500) (by omega) (by omega) (by omega) (by omega)
                  have HL1 := Lib.hid (fun w => lIs_yes t1 d1 x (y + p) w K.l1 K.e1 (by omega) (by omega) (by omega))
                  have HL2 := Lib.hid (fun w => lIs_yes t2 d2 (p * t1) d1 w K.l2 K.e2 (by omega) (by omega) (by omega))
                  have HL5 := Lib.hid (fun w => lIs_yes t5 d5 (2 * t1) d1 w K.l5 K.e5 (by omega) (by omega) (by omega))
                  have HE := Lib.hid K.eh
                  clear K
                  have HPL := Lib.hid (hpl.out rfl)
                  have HPC := Lib.hid (hpc.out rfl)
                  clear hpc hpl hok hag hbo hrd htwo hbth hpac
                  go_wp2_with fail
                  refine (HL1.out _).mono ?_
                  rintro e w17 ⟨rfl, hb⟩
                  replace B := B.trans (hb.mono B.size)
                  replace Bc := Bc.trans (hb.mono Bc.size)
                  replace X0 := X0.below hb X0.lt
                  replace X1 := X1.below hb X1.lt
                  replace R1 := (R1.below hb (Nat.le_refl _)).more hb.size
                  replace R2 := (R2.below hb (Nat.le_refl _)).more hb.size
                  clear hb
                  try clear c00 c01
                  obtain ⟨c00, c01⟩ := X0.two
                  try clear c10 c11
                  obtain ⟨c10, c11⟩ := X1.two
                  go_wp2_with fail
                  refine (HL2.out _).mono ?_
                  rintro e w18 ⟨rfl, hb⟩
                  replace B := B.trans (hb.mono B.size)
                  replace Bc := Bc.trans (hb.mono Bc.size)
                  replace X0 := X0.below hb X0.lt
                  replace X1 := X1.below hb X1.lt
                  replace R1 := (R1.below hb (Nat.le_refl _)).more hb.size
                  replace R2 := (R2.below hb (Nat.le_refl _)).more hb.size
                  clear hb
                  try clear c00 c01
                  obtain ⟨c00, c01⟩ := X0.two
                  try clear c10 c11
                  obtain ⟨c10, c11⟩ := X1.two
                  go_wp2_with fail
                  refine (HL5.out _).mono ?_
                  rintro e w19 ⟨rfl, hb⟩
                  replace B := B.trans (hb.mono B.size)
                  replace Bc := Bc.trans (hb.mono Bc.size)
                  replace X0 := X0.below hb X0.lt
                  replace X1 := X1.below hb X1.lt
                  replace R1 := (R1.below hb (Nat.le_refl _)).more hb.size
                  replace R2 := (R2.below hb (Nat.le_refl _)).more hb.size
                  clear hb
                  try clear c00 c01
                  obtain ⟨c00, c01⟩ := X0.two
                  try clear c10 c11
                  obtain ⟨c10, c11⟩ := X1.two
                  go_wp2_with fail
                  refine (lHas_any _ _ ws p _ _ R1 hw21).mono ?_
                  rintro e w20 ⟨rfl, hw⟩
                  have hb : Below w19.heap.size w19 w20 := hw ▸ Below.refl _ _
                  clear hw
                  replace B := B.trans (hb.mono B.size)
                  replace Bc := Bc.trans (hb.mono Bc.size)
                  replace X0 := X0.below hb X0.lt
                  replace X1 := X1.below hb X1.lt
                  replace R1 := (R1.below hb (Nat.le_refl _)).more hb.size
                  replace R2 := (R2.below hb (Nat.le_refl _)).more hb.size
                  clear hb
                  try clear c00 c01
                  obtain ⟨c00, c01⟩ := X0.two
                  try clear c10 c11
                  obtain ⟨c10, c11⟩ := X1.two
                  rw [HE.out]
                  have hq : (t1 + d1 - 1).tdiv d1 = (t1 + d1 - 1) / d1 := Int.tdiv_eq_ediv_of_nonneg (by omega)
                  have hq0 : 0 ≤ (t1 + d1 - 1) / d1 := Int.ediv_nonneg (by omega) (by omega)
                  have hq1 : (t1 + d1 - 1) / d1 ≤ 1000 := Int.le_trans (Int.ediv_le_self _ (by omega)) (by omega)
                  have hd0 : ¬ d1 = 0 := by omega
                  have hd1 : ¬ d1 = -1 := by omega
                  by_cases zA : d2 = 1
                  case neg =>
                    as_aux_lemma =>
                      have zA2 : (d2 == 1) = false := by simpa using (by omega : ¬ d2 = 1)
                      go_upto_region 24 with fail
                      refine wp_region_bw w20 (Below.refl _ _) (by kernel_rfl) (lexB_calm (by kernel_rfl) (by kernel_rfl)) ?_
                      have b00 := fun n : Bw w20 => n.cell c00 X0.lt
                      have b01 := fun n : Bw w20 => n.cell c01 X0.lt
                      have b10 := fun n : Bw w20 => n.cell c10 X1.lt
                      have b11 := fun n : Bw w20 => n.cell c11 X1.lt
                      have R1b := fun n : Bw w20 => R1.below n.h (Nat.le_refl _)
                      have R2b := fun n : Bw w20 => R2.below n.h (Nat.le_refl _)
                      repeat (go_big_quiet_step (first | exact Bw.call _ (HPL.out _) | fail))
                      refine wpQuiet_nil ?_
                      intro w21 hw9
                      obtain ⟨⟨u9, hb⟩, hw8⟩ := hw9
                      dsimp only at hw8
                      subst hw8
                      clear b00 b01 b10 b11 R1b R2b
                      replace B := B.trans (hb.mono B.size)
                      replace Bc := Bc.trans (hb.mono Bc.size)
                      replace X0 := X0.below hb X0.lt
                      replace X1 := X1.below hb X1.lt
                      replace R1 := (R1.below hb (Nat.le_refl _)).more hb.size
                      replace R2 := (R2.below hb (Nat.le_refl _)).more hb.size
                      clear hb
                      try clear c00 c01
                      obtain ⟨c00, c01⟩ := X0.two
                      try clear c10 c11
                      obtain ⟨c10, c11⟩ := X1.two
                      go_wp2_with fail
                      go_meet
                      exact Bc
                  case pos =>
                    as_aux_lemma =>
                      subst zA
                      by_cases zB : t2 < x
                      case neg =>
                        as_aux_lemma =>
                          go_upto_region 24 with fail
                          refine wp_region_bw w20 (Below.refl _ _) (by kernel_rfl) (lexB_calm (by kernel_rfl) (by kernel_rfl)) ?_
                          have b00 := fun n : Bw w20 => n.cell c00 X0.lt
                          have b01 := fun n : Bw w20 => n.cell c01 X0.lt
                          have b10 := fun n : Bw w20 => n.cell c10 X1.lt
                          have b11 := fun n : Bw w20 => n.cell c11 X1.lt
                          have R1b := fun n : Bw w20 => R1.below n.h (Nat.le_refl _)
                          have R2b := fun n : Bw w20 => R2.below n.h (Nat.le_refl _)
                          repeat (go_big_quiet_step (first | exact Bw.call _ (HPL.out _) | fail))
                          refine wpQuiet_nil ?_
                          intro w21 hw9
                          obtain ⟨⟨u9, hb⟩, hw8⟩ := hw9
                          dsimp only at hw8
                          subst hw8
                          clear b00 b01 b10 b11 R1b R2b
                          replace B := B.trans (hb.mono B.size)
                          replace Bc := Bc.trans (hb.mono Bc.size)
                          replace X0 := X0.below hb X0.lt
                          replace X1 := X1.below hb X1.lt
                          replace R1 := (R1.below hb (Nat.le_refl _)).more hb.size
                          replace R2 := (R2.below hb (Nat.le_refl _)).more hb.size
                          clear hb
                          try clear c00 c01
                          obtain ⟨c00, c01⟩ := X0.two
                          try clear c10 c11
                          obtain ⟨c10, c11⟩ := X1.two
                          go_wp2_with fail
                          go_meet
                          exact Bc
                      case pos =>
                        as_aux_lemma =>
                          by_cases zC : 0 < y
                          case neg =>
                            as_aux_lemma =>
                              go_upto_region 24 with fail
                              refine wp_region_bw w20 (Below.refl _ _) (by kernel_rfl) (lexB_calm (by kernel_rfl) (by kernel_rfl)) ?_
                              have b00 := fun n : Bw w20 => n.cell c00 X0.lt
                              have b01 := fun n : Bw w20 => n.cell c01 X0.lt
                              have b10 := fun n : Bw w20 => n.cell c10 X1.lt
                              have b11 := fun n : Bw w20 => n.cell c11 X1.lt
                              have R1b := fun n : Bw w20 => R1.below n.h (Nat.le_refl _)
                              have R2b := fun n : Bw w20 => R2.below n.h (Nat.le_refl _)
                              repeat (go_big_quiet_step (first | exact Bw.call _ (HPL.out _) | fail))
                              refine wpQuiet_nil ?_
                              intro w21 hw9
                              obtain ⟨⟨u9, hb⟩, hw8⟩ := hw9
                              dsimp only at hw8
                              subst hw8
                              clear b00 b01 b10 b11 R1b R2b
                              replace B := B.trans (hb.mono B.size)
                              replace Bc := Bc.trans (hb.mono Bc.size)
                              replace X0 := X0.below hb X0.lt
                              replace X1 := X1.below hb X1.lt
                              replace R1 := (R1.below hb (Nat.le_refl _)).more hb.size
                              replace R2 := (R2.below hb (Nat.le_refl _)).more hb.size
                              clear hb
                              try clear c00 c01
                              obtain ⟨c00, c01⟩ := X0.two
                              try clear c10 c11
                              obtain ⟨c10, c11⟩ := X1.two
                              go_wp2_with fail
                              go_meet
                              exact Bc
                          case pos =>
                            as_aux_lemma =>
                              obtain ⟨q1, q2, g1, g2, g3, g4, HP⟩ := HPC.out rfl zB zC
                              have HP2 := Lib.hid HP
                              clear HP
                              have HQ := Lib.hid (fun w => lIs_yes q1 q2 p 1 w g1 g2 (by omega) (by omega) (by omega))
                              clear g1 g2 HPC
                              go_wp2_with fail
                              refine (HP2.out _).mono ?_
                              rintro e w21 ⟨rfl, hb⟩
                              replace B := B.trans (hb.mono B.size)
                              replace Bc := Bc.trans (hb.mono Bc.size)
                              replace X0 := X0.below hb X0.lt
                              replace X1 := X1.below hb X1.lt
                              replace R1 := (R1.below hb (Nat.le_refl _)).more hb.size
                              replace R2 := (R2.below hb (Nat.le_refl _)).more hb.size
                              clear hb
                              try clear c00 c01
                              obtain ⟨c00, c01⟩ := X0.two
                              try clear c10 c11
                              obtain ⟨c10, c11⟩ := X1.two
                              go_wp2_with fail
                              refine (HQ.out _).mono ?_
                              rintro e w22 ⟨rfl, hb⟩
                              replace B := B.trans (hb.mono B.size)
                              replace Bc := Bc.trans (hb.mono Bc.size)
                              replace X0 := X0.below hb X0.lt
                              replace X1 := X1.below hb X1.lt
                              replace R1 := (R1.below hb (Nat.le_refl _)).more hb.size
                              replace R2 := (R2.below hb (Nat.le_refl _)).more hb.size
                              clear hb
                              try clear c00 c01
                              obtain ⟨c00, c01⟩ := X0.two
                              try clear c10 c11
                              obtain ⟨c10, c11⟩ := X1.two
                              go_upto_region 24 with fail
                              refine wp_region_bw w22 (Below.refl _ _) (by kernel_rfl) (lexB_calm (by kernel_rfl) (by kernel_rfl)) ?_
                              have b00 := fun n : Bw w22 => n.cell c00 X0.lt
                              have b01 := fun n : Bw w22 => n.cell c01 X0.lt
                              have b10 := fun n : Bw w22 => n.cell c10 X1.lt
                              have b11 := fun n : Bw w22 => n.cell c11 X1.lt
                              have R1b := fun n : Bw w22 => R1.below n.h (Nat.le_refl _)
                              have R2b := fun n : Bw w22 => R2.below n.h (Nat.le_refl _)
                              repeat (go_big_quiet_step (first | exact Bw.call _ (HPL.out _) | fail))
                              refine wpQuiet_nil ?_
                              intro w23 hw9
                              obtain ⟨⟨u9, hb⟩, hw8⟩ := hw9
                              dsimp only at hw8
                              subst hw8
                              clear b00 b01 b10 b11 R1b R2b
                              replace B := B.trans (hb.mono B.size)
                              replace Bc := Bc.trans (hb.mono Bc.size)
                              replace X0 := X0.below hb X0.lt
                              replace X1 := X1.below hb X1.lt
                              replace R1 := (R1.below hb (Nat.le_refl _)).more hb.size
                              replace R2 := (R2.below hb (Nat.le_refl _)).more hb.size
                              clear hb
                              try clear c00 c01
                              obtain ⟨c00, c01⟩ := X0.two
                              try clear c10 c11
                              obtain ⟨c10, c11⟩ := X1.two
                              go_wp2_with fail
                              go_meet
                              exact Bc
            case rest =>
              obtain ⟨w17, hw9⟩ : ∃ u, u = wc := ⟨_, rfl⟩
              subst hw9
              have hb := hcut
              replace B := B.trans (hb.mono B.size)
              replace X0 := X0.below hb X0.lt
              replace X1 := X1.below hb X1.lt
              replace R1 := (R1.below hb (Nat.le_refl _)).more hb.size
              replace R2 := (R2.below hb (Nat.le_refl _)).more hb.size
              clear hb
              try clear c00 c01
              obtain ⟨c00, c01⟩ := X0.two
              try clear c10 c11
              obtain ⟨c10, c11⟩ := X1.two
              as_aux_lemma =>
                go_upto_if 422 with fail
                go_cut [] from 422 to 483 (fun  wc => Below w17.heap.size w17 wc)
                case first =>
                  as_aux_lemma =>
                    have Bc : Below w17.heap.size w17 w17 := Below.refl _ _
                    cases b3
                    case false =>
                      go_wp2_with fail
                      go_meet
                      exact Bc
                    case true =>
                      obtain ⟨K3, rfl⟩ := hag.out rfl
                      have K := (hok.out rfl).1
                      obtain ⟨⟨kx0, kx1⟩, ⟨ky0, ky1⟩, kp0, kp1⟩ := K.r
                      obtain ⟨⟨ka0, ka1⟩, kb0, kb1⟩ := K.q1
                      obtain ⟨⟨kc0, kc1⟩, kd0, kd1⟩ := K.q2
                      obtain ⟨⟨ke0, ke1⟩, kf0, kf1⟩ := K.q5
                      obtain ⟨⟨na0, na1⟩, nb0, nb1⟩ := K3.q3
                      obtain ⟨⟨nc0, nc1⟩, nd0, nd1⟩ := K3.q4
                      have hp := K3.hp
                      have lo := K3.lo
                      have m1 := mul_bd (a := p) (A := 20) (b := t3) (B := 500) (by omega) (by omega) (by omega) (by omega)
                      have m2 := mul_bd (a := t3) (A := 500) (b := d1) (B := 500) (by omega) (by omega) (by omega) (by omega)
                      have m3 := mul_bd (a := t1) (A := 500) (b := d3) (B := 500) (by omega) (by omega) (by omega) (by omega)
                      have HL1 := Lib.hid (fun w => lIs_yes t3 d3 x (p - y) w K3.l3 K3.e3 (by omega) (by omega) (by omega))
                      have HL2 := Lib.hid (fun w => lIs_yes t4 d4 (p * t3) d3 w K3.l4 K3.e4 (by omega) (by omega) (by omega))
                      have HBO := Lib.hid (hbo.out rfl)
                      clear K K3 hpc hpl hok hag hbo hrd htwo hbth hpac
                      go_wp2_with fail
                      refine (HL1.out _).mono ?_
                      rintro e w18 ⟨rfl, hb⟩
                      replace B := B.trans (hb.mono B.size)
                      replace Bc := Bc.trans (hb.mono Bc.size)
                      replace X0 := X0.below hb X0.lt
                      replace X1 := X1.below hb X1.lt
                      replace R1 := (R1.below hb (Nat.le_refl _)).more hb.size
                      replace R2 := (R2.below hb (Nat.le_refl _)).more hb.size
                      clear hb
                      try clear c00 c01
                      obtain ⟨c00, c01⟩ := X0.two
                      try clear c10 c11
                      obtain ⟨c10, c11⟩ := X1.two
                      go_wp2_with fail
                      refine (HL2.out _).mono ?_
                      rintro e w19 ⟨rfl, hb⟩
                      replace B := B.trans (hb.mono B.size)
                      replace Bc := Bc.trans (hb.mono Bc.size)
                      replace X0 := X0.below hb X0.lt
                      replace X1 := X1.below hb X1.lt
                      replace R1 := (R1.below hb (Nat.le_refl _)).more hb.size
                      replace R2 := (R2.below hb (Nat.le_refl _)).more hb.size
                      clear hb
                      try clear c00 c01
                      obtain ⟨c00, c01⟩ := X0.two
                      try clear c10 c11
                      obtain ⟨c10, c11⟩ := X1.two
                      by_cases zA : d2 = 1
                      case neg =>
                        as_aux_lemma =>
                          have zA2 : (d2 == 1) = false := by simpa using (by omega : ¬ d2 = 1)
                          go_wp2_with fail
                          go_meet
                          exact Bc
                      case pos =>
                        as_aux_lemma =>
                          subst zA
                          by_cases zB : d4 = 1
                          case neg =>
                            as_aux_lemma =>
                              have zB2 : (d4 == 1) = false := by simpa using (by omega : ¬ d4 = 1)
                              go_wp2_with fail
                              go_meet
                              exact Bc
                          case pos =>
                            as_aux_lemma =>
                              subst zB
                              by_cases zC : 1 ≤ t2
                              case neg =>
                                as_aux_lemma =>
                                  go_wp2_with fail
                                  go_meet
                                  exact Bc
                              case pos =>
                                as_aux_lemma =>
                                  obtain ⟨q1, q2, g1, g2, g3, g4, HP⟩ := HBO.out rfl rfl zC
                                  have HP2 := Lib.hid HP
                                  clear HP
                                  have HQ := Lib.hid (fun w => lIs_yes q1 q2 x 1 w g1 g2 (by omega) (by omega) (by omega))
                                  clear g1 g2 HBO
                                  go_wp2_with fail
                                  refine (HP2.out _).mono ?_
                                  rintro e w20 ⟨rfl, hb⟩
                                  replace B := B.trans (hb.mono B.size)
                                  replace Bc := Bc.trans (hb.mono Bc.size)
                                  replace X0 := X0.below hb X0.lt
                                  replace X1 := X1.below hb X1.lt
                                  replace R1 := (R1.below hb (Nat.le_refl _)).more hb.size
                                  replace R2 := (R2.below hb (Nat.le_refl _)).more hb.size
                                  clear hb
                                  try clear c00 c01
                                  obtain ⟨c00, c01⟩ := X0.two
                                  try clear c10 c11
                                  obtain ⟨c10, c11⟩ := X1.two
                                  go_wp2_with fail
                                  refine (HQ.out _).mono ?_
                                  rintro e w21 ⟨rfl, hb⟩
                                  replace B := B.trans (hb.mono B.size)
                                  replace Bc := Bc.trans (hb.mono Bc.size)
                                  replace X0 := X0.below hb X0.lt
                                  replace X1 := X1.below hb X1.lt
                                  replace R1 := (R1.below hb (Nat.le_refl _)).more hb.size
                                  replace R2 := (R2.below hb (Nat.le_refl _)).more hb.size
                                  clear hb
                                  try clear c00 c01
                                  obtain ⟨c00, c01⟩ := X0.two
                                  try clear c10 c11
                                  obtain ⟨c10, c11⟩ := X1.two
                                  go_wp2_with fail
                                  go_meet
                                  exact Bc
                case rest =>
                  obtain ⟨w18, hw9⟩ : ∃ u, u = wc := ⟨_, rfl⟩
                  subst hw9
                  have hb := hcut
                  replace B := B.trans (hb.mono B.size)
                  replace X0 := X0.below hb X0.lt
                  replace X1 := X1.below hb X1.lt
                  replace R1 := (R1.below hb (Nat.le_refl _)).more hb.size
                  replace R2 := (R2.below hb (Nat.le_refl _)).more hb.size
                  clear hb
                  try clear c00 c01
                  obtain ⟨c00, c01⟩ := X0.two
                  try clear c10 c11
                  obtain ⟨c10, c11⟩ := X1.two
                  as_aux_lemma =>
                    go_upto_if 484 with fail
                    go_cut [] from 484 to 501 (fun  wc => Below w18.heap.size w18 wc)
                    case first =>
                      as_aux_lemma =>
                        have Bc : Below w18.heap.size w18 w18 := Below.refl _ _
                        cases b9
                        case false =>
                          go_wp2_with fail
                          go_meet
                          exact Bc
                        case true =>
                          have HRD := Lib.hid (hrd.out rfl)
                          clear hpc hpl hok hag hbo hrd htwo hbth hpac
                          go_wp2_with fail
                          refine (HRD.out _ (hT.below B) (hE.below B (Nat.le_refl _))).mono ?_
                          rintro e w19 ⟨rfl, hb⟩
                          replace B := B.trans (hb.mono B.size)
                          replace Bc := Bc.trans (hb.mono Bc.size)
                          replace X0 := X0.below hb X0.lt
                          replace X1 := X1.below hb X1.lt
                          replace R1 := (R1.below hb (Nat.le_refl _)).more hb.size
                          replace R2 := (R2.below hb (Nat.le_refl _)).more hb.size
                          clear hb
                          try clear c00 c01
                          obtain ⟨c00, c01⟩ := X0.two
                          try clear c10 c11
                          obtain ⟨c10, c11⟩ := X1.two
                          have X2 : Blk (w19.alloc (.cells #[.int .i64 x, .int .i64 y] 23)) w19.heap.size 23 #[.int .i64 x, .int .i64 y] := Blk.new _ _ _
                          have hb : Below w19.heap.size w19 (w19.alloc (.cells #[.int .i64 x, .int .i64 y] 23)) := below_alloc _ _
                          go_upto_region 36 with fail
                          generalize hW9 : w19.alloc (.cells #[.int .i64 x, .int .i64 y] 23) = w20 at *
                          clear hW9
                          replace B := B.trans (hb.mono B.size)
                          replace Bc := Bc.trans (hb.mono Bc.size)
                          replace X0 := X0.below hb X0.lt
                          replace X1 := X1.below hb X1.lt
                          replace R1 := (R1.below hb (Nat.le_refl _)).more hb.size
                          replace R2 := (R2.below hb (Nat.le_refl _)).more hb.size
                          clear hb
                          try clear c00 c01
                          obtain ⟨c00, c01⟩ := X0.two
                          try clear c10 c11
                          obtain ⟨c10, c11⟩ := X1.two
                          obtain ⟨c20, c21⟩ := X2.two
                          go_wp2_with fail
                          refine (lRises_yes _ _ ws _ _ R1 hw21 hwr).mono ?_
                          rintro e w21 ⟨rfl, hb⟩
                          replace B := B.trans (hb.mono B.size)
                          replace Bc := Bc.trans (hb.mono Bc.size)
                          replace X0 := X0.below hb X0.lt
                          replace X1 := X1.below hb X1.lt
                          replace X2 := X2.below hb X2.lt
                          replace R1 := (R1.below hb (Nat.le_refl _)).more hb.size
                          replace R2 := (R2.below hb (Nat.le_refl _)).more hb.size
                          clear hb
                          try clear c00 c01
                          obtain ⟨c00, c01⟩ := X0.two
                          try clear c10 c11
                          obtain ⟨c10, c11⟩ := X1.two
                          try clear c20 c21
                          obtain ⟨c20, c21⟩ := X2.two
                          go_wp2_with fail
                          go_meet
                          exact Bc
                    case rest =>
                      obtain ⟨w19, hw9⟩ : ∃ u, u = wc := ⟨_, rfl⟩
                      subst hw9
                      have hb := hcut
                      replace B := B.trans (hb.mono B.size)
                      replace X0 := X0.below hb X0.lt
                      replace X1 := X1.below hb X1.lt
                      replace R1 := (R1.below hb (Nat.le_refl _)).more hb.size
                      replace R2 := (R2.below hb (Nat.le_refl _)).more hb.size
                      clear hb
                      try clear c00 c01
                      obtain ⟨c00, c01⟩ := X0.two
                      try clear c10 c11
                      obtain ⟨c10, c11⟩ := X1.two
                      as_aux_lemma =>
                        go_wp2_with fail
                        refine (iVisibleFromTwo.out _).mono ?_
                        rintro e w20 ⟨rfl, hb⟩
                        replace B := B.trans (hb.mono B.size)
                        replace X0 := X0.below hb X0.lt
                        replace X1 := X1.below hb X1.lt
                        replace R1 := (R1.below hb (Nat.le_refl _)).more hb.size
                        replace R2 := (R2.below hb (Nat.le_refl _)).more hb.size
                        clear hb
                        try clear c00 c01
                        obtain ⟨c00, c01⟩ := X0.two
                        try clear c10 c11
                        obtain ⟨c10, c11⟩ := X1.two
                        go_wp2_with fail
                        refine (sVisibleFromTwo.out _).mono ?_
                        rintro e w21 ⟨rfl, hb⟩
                        replace B := B.trans (hb.mono B.size)
                        replace X0 := X0.below hb X0.lt
                        replace X1 := X1.below hb X1.lt
                        replace R1 := (R1.below hb (Nat.le_refl _)).more hb.size
                        replace R2 := (R2.below hb (Nat.le_refl _)).more hb.size
                        clear hb
                        try clear c00 c01
                        obtain ⟨c00, c01⟩ := X0.two
                        try clear c10 c11
                        obtain ⟨c10, c11⟩ := X1.two
                        go_wp2_with fail
                        refine (iSpeedFromTwo.out _).mono ?_
                        rintro e w22 ⟨rfl, hb⟩
                        replace B := B.trans (hb.mono B.size)
                        replace X0 := X0.below hb X0.lt
                        replace X1 := X1.below hb X1.lt
                        replace R1 := (R1.below hb (Nat.le_refl _)).more hb.size
                        replace R2 := (R2.below hb (Nat.le_refl _)).more hb.size
                        clear hb
                        try clear c00 c01
                        obtain ⟨c00, c01⟩ := X0.two
                        try clear c10 c11
                        obtain ⟨c10, c11⟩ := X1.two
                        go_wp2_with fail
                        refine (sSpeedFromTwo.out _).mono ?_
                        rintro e w23 ⟨rfl, hb⟩
                        replace B := B.trans (hb.mono B.size)
                        replace X0 := X0.below hb X0.lt
                        replace X1 := X1.below hb X1.lt
                        replace R1 := (R1.below hb (Nat.le_refl _)).more hb.size
                        replace R2 := (R2.below hb (Nat.le_refl _)).more hb.size
                        clear hb
                        try clear c00 c01
                        obtain ⟨c00, c01⟩ := X0.two
                        try clear c10 c11
                        obtain ⟨c10, c11⟩ := X1.two
                        as_aux_lemma =>
                          go_wp2_with fail
                          refine (iVisibleFromBoth.out _).mono ?_
                          rintro e w24 ⟨rfl, hb⟩
                          replace B := B.trans (hb.mono B.size)
                          replace X0 := X0.below hb X0.lt
                          replace X1 := X1.below hb X1.lt
                          replace R1 := (R1.below hb (Nat.le_refl _)).more hb.size
                          replace R2 := (R2.below hb (Nat.le_refl _)).more hb.size
                          clear hb
                          try clear c00 c01
                          obtain ⟨c00, c01⟩ := X0.two
                          try clear c10 c11
                          obtain ⟨c10, c11⟩ := X1.two
                          go_wp2_with fail
                          refine (sVisibleFromBoth.out _).mono ?_
                          rintro e w25 ⟨rfl, hb⟩
                          replace B := B.trans (hb.mono B.size)
                          replace X0 := X0.below hb X0.lt
                          replace X1 := X1.below hb X1.lt
                          replace R1 := (R1.below hb (Nat.le_refl _)).more hb.size
                          replace R2 := (R2.below hb (Nat.le_refl _)).more hb.size
                          clear hb
                          try clear c00 c01
                          obtain ⟨c00, c01⟩ := X0.two
                          try clear c10 c11
                          obtain ⟨c10, c11⟩ := X1.two
                          go_wp2_with fail
                          refine (iPaceForSteps.out _).mono ?_
                          rintro e w26 ⟨rfl, hb⟩
                          replace B := B.trans (hb.mono B.size)
                          replace X0 := X0.below hb X0.lt
                          replace X1 := X1.below hb X1.lt
                          replace R1 := (R1.below hb (Nat.le_refl _)).more hb.size
                          replace R2 := (R2.below hb (Nat.le_refl _)).more hb.size
                          clear hb
                          try clear c00 c01
                          obtain ⟨c00, c01⟩ := X0.two
                          try clear c10 c11
                          obtain ⟨c10, c11⟩ := X1.two
                          go_wp2_with fail
                          refine (sPaceForSteps.out _).mono ?_
                          rintro e w27 ⟨rfl, hb⟩
                          replace B := B.trans (hb.mono B.size)
                          replace X0 := X0.below hb X0.lt
                          replace X1 := X1.below hb X1.lt
                          replace R1 := (R1.below hb (Nat.le_refl _)).more hb.size
                          replace R2 := (R2.below hb (Nat.le_refl _)).more hb.size
                          clear hb
                          try clear c00 c01
                          obtain ⟨c00, c01⟩ := X0.two
                          try clear c10 c11
                          obtain ⟨c10, c11⟩ := X1.two
                          as_aux_lemma =>
                            go_upto_region 48 with fail
                            go_cut [677] from 631 to 677 (fun q677 wc => q677 = .bool false ∧ Below w27.heap.size w27 wc)
                            case first =>
                              as_aux_lemma =>
                                have Bc : Below w27.heap.size w27 w27 := Below.refl _ _
                                cases b13
                                case false =>
                                  go_wp2_with fail
                                  go_meet
                                  exact ⟨rfl, Bc⟩
                                case true =>
                                  have K := htwo.out rfl
                                  clear hpc hpl hok hag hbo hrd htwo hbth hpac
                                  obtain ⟨⟨ka0, ka1⟩, ⟨kb0, kb1⟩, ⟨kc0, kc1⟩, kd0, kd1⟩ := K.r
                                  obtain ⟨⟨ke0, ke1⟩, kf0, kf1⟩ := K.qv
                                  obtain ⟨⟨kg0, kg1⟩, kh0, kh1⟩ := K.qu
                                  have ma0 := mul_bd (a := v1) (A := 2000000000) (b := p1) (B := 20) (by omega) (by omega) (by omega) (by omega)
                                  have mb0 := mul_bd (a := v1 * p1) (A := 40000000000) (b := k2) (B := 200000) (by omega) (by omega) (by omega) (by omega)
                                  have mc0 := mul_bd (a := p1) (A := 20) (b := k2) (B := 200000) (by omega) (by omega) (by omega) (by omega)
                                  have md0 := mul_bd (a := s1) (A := 10000) (b := (p1 * k2 + v2)) (B := 8000000) (by omega) (by omega) (by omega) (by omega)
                                  have me0 := mul_bd (a := s1 * (p1 * k2 + v2)) (A := 80000000000) (b := k1) (B := 200000) (by omega) (by omega) (by omega) (by omega)
                                  have ma1 := mul_bd (a := v1) (A := 2000000000) (b := p2) (B := 20) (by omega) (by omega) (by omega) (by omega)
                                  have mb1 := mul_bd (a := v1 * p2) (A := 40000000000) (b := k2) (B := 200000) (by omega) (by omega) (by omega) (by omega)
                                  have mc1 := mul_bd (a := p2) (A := 20) (b := k2) (B := 200000) (by omega) (by omega) (by omega) (by omega)
                                  have md1 := mul_bd (a := s2) (A := 10000) (b := (p2 * k2 + v2)) (B := 8000000) (by omega) (by omega) (by omega) (by omega)
                                  have me1 := mul_bd (a := s2 * (p2 * k2 + v2)) (A := 80000000000) (b := k1) (B := 200000) (by omega) (by omega) (by omega) (by omega)
                                  have HL1 := Lib.hid (fun w => lLow_yes v1 k1 w K.l1 (by omega) (by omega))
                                  have HL2 := Lib.hid (fun w => lLow_yes v2 k2 w K.l2 (by omega) (by omega))
                                  have q1 := K.e1
                                  have q2 := K.e2
                                  clear K
                                  go_wp2_with fail
                                  refine (HL1.out _).mono ?_
                                  rintro e w28 ⟨rfl, kk, rfl⟩
                                  have hb : Below w27.heap.size w27 (w27.drewN kk) := Below.drewN' (Below.refl _ _) _
                                  generalize hW9 : w27.drewN kk = w28 at *
                                  clear hW9
                                  replace B := B.trans (hb.mono B.size)
                                  replace Bc := Bc.trans (hb.mono Bc.size)
                                  replace X0 := X0.below hb X0.lt
                                  replace X1 := X1.below hb X1.lt
                                  replace R1 := (R1.below hb (Nat.le_refl _)).more hb.size
                                  replace R2 := (R2.below hb (Nat.le_refl _)).more hb.size
                                  clear hb
                                  try clear c00 c01
                                  obtain ⟨c00, c01⟩ := X0.two
                                  try clear c10 c11
                                  obtain ⟨c10, c11⟩ := X1.two
                                  go_wp2_with fail
                                  refine (HL2.out _).mono ?_
                                  rintro e w29 ⟨rfl, kk, rfl⟩
                                  have hb : Below w28.heap.size w28 (w28.drewN kk) := Below.drewN' (Below.refl _ _) _
                                  generalize hW9 : w28.drewN kk = w29 at *
                                  clear hW9
                                  replace B := B.trans (hb.mono B.size)
                                  replace Bc := Bc.trans (hb.mono Bc.size)
                                  replace X0 := X0.below hb X0.lt
                                  replace X1 := X1.below hb X1.lt
                                  replace R1 := (R1.below hb (Nat.le_refl _)).more hb.size
                                  replace R2 := (R2.below hb (Nat.le_refl _)).more hb.size
                                  clear hb
                                  try clear c00 c01
                                  obtain ⟨c00, c01⟩ := X0.two
                                  try clear c10 c11
                                  obtain ⟨c10, c11⟩ := X1.two
                                  go_wp2_with fail
                                  go_meet
                                  exact ⟨rfl, Bc⟩
                            case rest =>
                              obtain ⟨w28, hw9⟩ : ∃ u, u = wc := ⟨_, rfl⟩
                              subst hw9
                              obtain ⟨rfl, hb⟩ := hcut
                              replace B := B.trans (hb.mono B.size)
                              replace X0 := X0.below hb X0.lt
                              replace X1 := X1.below hb X1.lt
                              replace R1 := (R1.below hb (Nat.le_refl _)).more hb.size
                              replace R2 := (R2.below hb (Nat.le_refl _)).more hb.size
                              clear hb
                              try clear c00 c01
                              obtain ⟨c00, c01⟩ := X0.two
                              try clear c10 c11
                              obtain ⟨c10, c11⟩ := X1.two
                              as_aux_lemma =>
                                go_upto_region 50 with fail
                                go_cut [705] from 678 to 705 (fun q705 wc => q705 = .bool false ∧ Below w28.heap.size w28 wc)
                                case first =>
                                  as_aux_lemma =>
                                    have Bc : Below w28.heap.size w28 w28 := Below.refl _ _
                                    cases b17
                                    case false =>
                                      go_wp2_with fail
                                      go_meet
                                      exact ⟨rfl, Bc⟩
                                    case true =>
                                      have K := hbth.out rfl
                                      clear hpc hpl hok hag hbo hrd htwo hbth hpac
                                      obtain ⟨⟨ka0, ka1⟩, kb0, kb1⟩ := K.r
                                      obtain ⟨⟨ke0, ke1⟩, kf0, kf1⟩ := K.q
                                      have ma := mul_bd (a := 2 * wi) (A := 20000) (b := ag) (B := 10000) (by omega) (by omega) (by omega) (by omega)
                                      have mb := mul_bd (a := wi) (A := 10000) (b := k3) (B := 20000) (by omega) (by omega) (by omega) (by omega)
                                      have mc := mul_bd (a := ag) (A := 10000) (b := k3) (B := 20000) (by omega) (by omega) (by omega) (by omega)
                                      have HL1 := Lib.hid (fun w => lIs_yes v3 k3 (2 * wi * ag) (wi + ag) w K.l K.e (by omega) (by omega) (by omega))
                                      have q1 := K.lo
                                      have q2 := K.hi
                                      clear K
                                      have n1 : decide (v3 < wi * k3) = false := decide_eq_false (by omega)
                                      have n2 : decide (ag * k3 < v3) = false := decide_eq_false (by omega)
                                      go_wp2_with fail
                                      refine (HL1.out _).mono ?_
                                      rintro e w29 ⟨rfl, hb⟩
                                      replace B := B.trans (hb.mono B.size)
                                      replace Bc := Bc.trans (hb.mono Bc.size)
                                      replace X0 := X0.below hb X0.lt
                                      replace X1 := X1.below hb X1.lt
                                      replace R1 := (R1.below hb (Nat.le_refl _)).more hb.size
                                      replace R2 := (R2.below hb (Nat.le_refl _)).more hb.size
                                      clear hb
                                      try clear c00 c01
                                      obtain ⟨c00, c01⟩ := X0.two
                                      try clear c10 c11
                                      obtain ⟨c10, c11⟩ := X1.two
                                      go_wp2_with fail
                                      go_meet
                                      exact ⟨rfl, Bc⟩
                                case rest =>
                                  obtain ⟨w29, hw9⟩ : ∃ u, u = wc := ⟨_, rfl⟩
                                  subst hw9
                                  obtain ⟨rfl, hb⟩ := hcut
                                  replace B := B.trans (hb.mono B.size)
                                  replace X0 := X0.below hb X0.lt
                                  replace X1 := X1.below hb X1.lt
                                  replace R1 := (R1.below hb (Nat.le_refl _)).more hb.size
                                  replace R2 := (R2.below hb (Nat.le_refl _)).more hb.size
                                  clear hb
                                  try clear c00 c01
                                  obtain ⟨c00, c01⟩ := X0.two
                                  try clear c10 c11
                                  obtain ⟨c10, c11⟩ := X1.two
                                  as_aux_lemma =>
                                    go_upto_region 52 with fail
                                    go_cut [727] from 706 to 727 (fun q727 wc => q727 = .bool false ∧ Below w29.heap.size w29 wc)
                                    case first =>
                                      as_aux_lemma =>
                                        have Bc : Below w29.heap.size w29 w29 := Below.refl _ _
                                        cases b19
                                        case false =>
                                          go_wp2_with fail
                                          go_meet
                                          exact ⟨rfl, Bc⟩
                                        case true =>
                                          have K := hpac.out rfl
                                          clear hpc hpl hok hag hbo hrd htwo hbth hpac
                                          obtain ⟨⟨ka0, ka1⟩, ⟨kb0, kb1⟩, kc0, kc1⟩ := K.r
                                          obtain ⟨⟨ke0, ke1⟩, kf0, kf1⟩ := K.q
                                          have ma := mul_bd (a := v4) (A := 10000) (b := x2) (B := 500) (by omega) (by omega) (by omega) (by omega)
                                          have mb := mul_bd (a := y2) (A := 20) (b := k4) (B := 500) (by omega) (by omega) (by omega) (by omega)
                                          have mc := mul_bd (a := many) (A := 500) (b := (y2 * k4 + v4)) (B := 20000) (by omega) (by omega) (by omega) (by omega)
                                          have HL1 := Lib.hid (fun w => lLow_yes v4 k4 w K.l (by omega) (by omega))
                                          have q1 := K.e
                                          clear K
                                          go_wp2_with fail
                                          refine (HL1.out _).mono ?_
                                          rintro e w30 ⟨rfl, kk, rfl⟩
                                          have hb : Below w29.heap.size w29 (w29.drewN kk) := Below.drewN' (Below.refl _ _) _
                                          generalize hW9 : w29.drewN kk = w30 at *
                                          clear hW9
                                          replace B := B.trans (hb.mono B.size)
                                          replace Bc := Bc.trans (hb.mono Bc.size)
                                          replace X0 := X0.below hb X0.lt
                                          replace X1 := X1.below hb X1.lt
                                          replace R1 := (R1.below hb (Nat.le_refl _)).more hb.size
                                          replace R2 := (R2.below hb (Nat.le_refl _)).more hb.size
                                          clear hb
                                          try clear c00 c01
                                          obtain ⟨c00, c01⟩ := X0.two
                                          try clear c10 c11
                                          obtain ⟨c10, c11⟩ := X1.two
                                          go_wp2_with fail
                                          go_meet
                                          exact ⟨rfl, Bc⟩
                                    case rest =>
                                      obtain ⟨w30, hw9⟩ : ∃ u, u = wc := ⟨_, rfl⟩
                                      subst hw9
                                      obtain ⟨rfl, hb⟩ := hcut
                                      replace B := B.trans (hb.mono B.size)
                                      replace X0 := X0.below hb X0.lt
                                      replace X1 := X1.below hb X1.lt
                                      replace R1 := (R1.below hb (Nat.le_refl _)).more hb.size
                                      replace R2 := (R2.below hb (Nat.le_refl _)).more hb.size
                                      clear hb
                                      try clear c00 c01
                                      obtain ⟨c00, c01⟩ := X0.two
                                      try clear c10 c11
                                      obtain ⟨c10, c11⟩ := X1.two
                                      as_aux_lemma =>
                                        go_wp2_with fail
                                        go_ret
                                        exact ⟨rfl, B⟩

end Go.Proofs.YthcoipoihieggaaDoor
