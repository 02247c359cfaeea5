/- Contracts of MakePuzzle: the program. -/
import Derived.Test.YtehffiaobjlpoaaPzMp
namespace Go.Proofs.Ytehffiaobjlpoaa
open Go.RowKit
set_option maxRecDepth 100000

set_option maxHeartbeats 4000000 in
theorem implMake9_any (st : Int) (A A' : Option Addr) (c c' : Nat) (ss bs : List Int) (cl sd : Int) (B : Nat) (w : World) (h : St w B st A A' c c' ss bs) (hB : B ≤ w.heap.size) :
    Calls Try.prog 27 #[stv st A A' c c' ss bs, .int .i64 cl, .int .i64 sd] w (NewP w (mpL st ss bs cl sd) (mpB st ss bs cl sd)) := by
  have X0 : Blk ((w.alloc (.cells #[.int .i64 st, .slice A ss.length c, .slice A' bs.length c'] 24)).alloc (.cells #[.slice none 0 0] 52)) w.heap.size 24 #[.int .i64 st, .slice A ss.length c, .slice A' bs.length c'] := (Blk.new' (by simp)).alloc _
  have R0 : Blk ((w.alloc (.cells #[.int .i64 st, .slice A ss.length c, .slice A' bs.length c'] 24)).alloc (.cells #[.slice none 0 0] 52)) (w.heap.size + 1) 52 #[.slice none 0 0] := Blk.new' (by simp)
  have b0 : Below w.heap.size w ((w.alloc (.cells #[.int .i64 st, .slice A ss.length c, .slice A' bs.length c'] 24)).alloc (.cells #[.slice none 0 0] 52)) := (below_alloc _ _).alloc (by simp) _
  have S0 := h.below b0 hB
  have zz : w.heap.size + 2 ≤ ((w.alloc (.cells #[.int .i64 st, .slice A ss.length c, .slice A' bs.length c'] 24)).alloc (.cells #[.slice none 0 0] 52)).heap.size := by simp
  have z0 : B ≤ ((w.alloc (.cells #[.int .i64 st, .slice A ss.length c, .slice A' bs.length c'] 24)).alloc (.cells #[.slice none 0 0] 52)).heap.size := by omega
  clear h
  cases hp : hidB st ss bs
  · have HD := Lib.hid (show mpB st ss bs cl sd = false ∧ mpL st ss bs cl sd = [] by simp [mpB, mpL, hp])
    have HP := Lib.hid hp
    clear hp
    go_enter Try.func27, Try.ntmps27
    go_wp2_with fail
    generalize hu : ((w.alloc (.cells #[.int .i64 st, .slice A ss.length c, .slice A' bs.length c'] 24)).alloc (.cells #[.slice none 0 0] 52)) = u at *
    clear hu
    refine (areHidden_any st A A' c c' ss bs B u S0 z0).mono ?_
    rintro e w1 ⟨rfl, hb1⟩
    rw [HP.out]
    have R1 := R0.below hb1 R0.lt
    have q0 := R1.cell 0
    have f0 := R1.frozen 0
    have lR := R1.lt
    go_wp2_with fail
    have r0 := (R1.set_ 0 (.slice none 0 0)).cell 0
    refine bodyPost_ret (v := .tuple #[.agg #[.slice none 0 0], .bool false]) (by simp [results, Try.results27, go_sem, r0]) rfl ?_
    exact ⟨_, by rw [HD.out.1], by rw [HD.out.2]; exact OwnF.nil _ _, (b0.trans (hb1.mono b0.size)).setCell (p := ⟨w.heap.size + 1, 0, none⟩) (by simp) _⟩
  · have HP := Lib.hid hp
    cases hc : inB cl 0 6
    · have HD := Lib.hid (show mpB st ss bs cl sd = false ∧ mpL st ss bs cl sd = [] by simp [mpB, mpL, hc])
      have HC := Lib.hid hc
      clear hc hp
      go_enter Try.func27, Try.ntmps27
      go_wp2_with fail
      generalize hu : ((w.alloc (.cells #[.int .i64 st, .slice A ss.length c, .slice A' bs.length c'] 24)).alloc (.cells #[.slice none 0 0] 52)) = u at *
      clear hu
      refine (areHidden_any st A A' c c' ss bs B u S0 z0).mono ?_
      rintro e w1 ⟨rfl, hb1⟩
      rw [HP.out]
      have R1 := R0.below hb1 R0.lt
      go_wp2_with fail
      refine (isWithin_any _ _ _ _).mono ?_
      rintro e w2 ⟨rfl, rfl⟩
      rw [HC.out]
      have q0 := R1.cell 0
      have f0 := R1.frozen 0
      have lR := R1.lt
      go_wp2_with fail
      have r0 := (R1.set_ 0 (.slice none 0 0)).cell 0
      refine bodyPost_ret (v := .tuple #[.agg #[.slice none 0 0], .bool false]) (by simp [results, Try.results27, go_sem, r0]) rfl ?_
      exact ⟨_, by rw [HD.out.1], by rw [HD.out.2]; exact OwnF.nil _ _, (b0.trans (hb1.mono b0.size)).setCell (p := ⟨w.heap.size + 1, 0, none⟩) (by simp) _⟩
    · have HC := Lib.hid hc
      have hc2 := inB_le hc
      clear hc
      cases hs : inB sd 0 9999
      · have HD := Lib.hid (show mpB st ss bs cl sd = false ∧ mpL st ss bs cl sd = [] by simp [mpB, mpL, hs])
        have HS := Lib.hid hs
        clear hs hp
        go_enter Try.func27, Try.ntmps27
        go_wp2_with fail
        generalize hu : ((w.alloc (.cells #[.int .i64 st, .slice A ss.length c, .slice A' bs.length c'] 24)).alloc (.cells #[.slice none 0 0] 52)) = u at *
        clear hu
        refine (areHidden_any st A A' c c' ss bs B u S0 z0).mono ?_
        rintro e w1 ⟨rfl, hb1⟩
        rw [HP.out]
        have R1 := R0.below hb1 R0.lt
        go_wp2_with fail
        refine (isWithin_any _ _ _ _).mono ?_
        rintro e w2 ⟨rfl, rfl⟩
        rw [HC.out]
        go_wp2_with fail
        refine (isWithin_any _ _ _ _).mono ?_
        rintro e w2 ⟨rfl, rfl⟩
        rw [HS.out]
        have q0 := R1.cell 0
        have f0 := R1.frozen 0
        have lR := R1.lt
        go_wp2_with fail
        have r0 := (R1.set_ 0 (.slice none 0 0)).cell 0
        refine bodyPost_ret (v := .tuple #[.agg #[.slice none 0 0], .bool false]) (by simp [results, Try.results27, go_sem, r0]) rfl ?_
        exact ⟨_, by rw [HD.out.1], by rw [HD.out.2]; exact OwnF.nil _ _, (b0.trans (hb1.mono b0.size)).setCell (p := ⟨w.heap.size + 1, 0, none⟩) (by simp) _⟩
      · have HS := Lib.hid hs
        have hs2 := inB_le hs
        obtain ⟨m, rfl⟩ : ∃ m : Nat, cl = (m : Int) := ⟨cl.toNat, by omega⟩
        have HD := Lib.hid (show mpB st ss bs m sd = true ∧ mpL st ss bs m sd = mkL st ss bs sd m by have e1 : mpB st ss bs m sd = true := (by simp [mpB, hp, HC.out, hs]); exact ⟨e1, by simp [mpL, e1]⟩)
        have hm6 : m ≤ 6 := by omega
        have hd := hp
        clear hs hp
        go_enter Try.func27, Try.ntmps27
        go_wp2_with fail
        generalize hu : ((w.alloc (.cells #[.int .i64 st, .slice A ss.length c, .slice A' bs.length c'] 24)).alloc (.cells #[.slice none 0 0] 52)) = u at *
        clear hu
        refine (areHidden_any st A A' c c' ss bs B u S0 z0).mono ?_
        rintro e w1 ⟨rfl, hb1⟩
        rw [HP.out]
        have X1 := X0.below hb1 X0.lt
        have R1 := R0.below hb1 R0.lt
        have S1 := S0.below hb1 z0
        have z1 := Nat.le_trans z0 hb1.size
        have y1 := Nat.le_trans zz hb1.size
        have bw1 := b0.trans (hb1.mono b0.size)
        clear X0 R0 S0 b0 z0 zz hb1
        go_wp2_with fail
        refine (isWithin_any _ _ _ _).mono ?_
        rintro e w2 ⟨rfl, rfl⟩
        rw [HC.out]
        go_wp2_with fail
        refine (isWithin_any _ _ _ _).mono ?_
        rintro e w2 ⟨rfl, rfl⟩
        rw [HS.out]
        go_wp2_with fail
        have G0 : Blk (w1.alloc (.cells #[.slice none 0 0] 52)) w1.heap.size 52 #[.slice none 0 0] := Blk.new _ _ _
        have b3 : Below w1.heap.size w1 (w1.alloc (.cells #[.slice none 0 0] 52)) := below_alloc _ _
        have S3 := S1.below b3 z1
        have X3 := X1.below b3 X1.lt
        have R3 := R1.below b3 R1.lt
        have y3 : w1.heap.size + 1 ≤ (w1.alloc (.cells #[.slice none 0 0] 52)).heap.size := by simp
        generalize hu3 : w1.alloc (.cells #[.slice none 0 0] 52) = u3 at *
        clear hu3
        go_loopw [9, 10, 11, 28] (fun z _ _ i wr => ∃ (n : Nat) (Aq : Option Addr) (cq : Nat), n ≤ m ∧ i = .int .i64 (n : Int) ∧ z = .int .i64 (mkZ sd n) ∧ Blk wr w1.heap.size 52 #[.slice Aq (mkL st ss bs sd n).length cq] ∧ OwnF wr (w1.heap.size + 1) (.slice Aq (mkL st ss bs sd n).length cq) (mkL st ss bs sd n) ∧ Blk wr w.heap.size 24 #[.int .i64 st, .slice A ss.length c, .slice A' bs.length c'] ∧ Blk wr (w.heap.size + 1) 52 #[.slice none 0 0] ∧ Below w1.heap.size u3 wr) (fun _ _ _ i _ => m - (intOf i).toNat)
        case atStart => exact ⟨0, none, 0, Nat.zero_le _, rfl, rfl, G0, OwnF.nil _ _, X3, R3, Below.refl _ _⟩
        case round =>
          obtain ⟨n, Aq, cq, hn, rfl, rfl, hG, hown, hX, hR, hbw⟩ := hrel
          have hzl := mkZ_le hs2.1 hs2.2 n
          have hzw : u3.heap.size ≤ wr.heap.size := hbw.size
          have lX := hX.lt
          obtain ⟨d0, d1, d2⟩ := hX.three
          by_cases hlt : n < m
          · have hgt : (n : Int) < (m : Int) := by omega
            have hk2 : 0 ≤ nxZ (mkZ sd n) % 6 ∧ nxZ (mkZ sd n) % 6 ≤ 5 := by have := (nxZ_le (mkZ sd n)).1; omega
            have hz2 := nxZ_le (mkZ sd n)
            have hz3 := nxZ_le (nxZ (mkZ sd n))
            have ht : Int.tmod (nxZ (mkZ sd n)) 6 = nxZ (mkZ sd n) % 6 := Int.tmod_eq_emod_of_nonneg hz2.1
            have hzN : nxZ (nxZ (mkZ sd n)) = mkZ sd (n + 1) := rfl
            have hcl : clN st ss bs (mkZ sd n) = (nxZ (mkZ sd n) % 6, aN (nxZ (mkZ sd n) % 6) (nxZ (nxZ (mkZ sd n))), toldV (nxZ (mkZ sd n) % 6) (aN (nxZ (mkZ sd n) % 6) (nxZ (nxZ (mkZ sd n)))) st ss bs) := rfl
            have hL : mkL st ss bs sd (n + 1) = mkL st ss bs sd n ++ [clN st ss bs (mkZ sd n)] := rfl
            have HL := Lib.hid hL
            have HN := Lib.hid hzN
            have HCL := Lib.hid hcl
            have hln := mkL_len st ss bs sd n
            have HLN := Lib.hid hln
            have hl6 : (mkL st ss bs sd n).length ≤ 6 := by omega
            have N1 := Lib.hid (nextSeed_any (mkZ sd n) wr hzl.1 hzl.2)
            have N2 := Lib.hid (nextSeed_any (nxZ (mkZ sd n)) wr hz2.1 hz2.2)
            have S4 := S3.below hbw (by omega)
            have hzB : B ≤ wr.heap.size := by omega
            have PO := Lib.hid (toldBy_any (nxZ (mkZ sd n) % 6) (aN (nxZ (mkZ sd n) % 6) (nxZ (nxZ (mkZ sd n)))) st A A' c c' ss bs B wr.drew S4.drew hzB)
            have MA := Lib.hid (madeA_any (nxZ (mkZ sd n) % 6) (nxZ (nxZ (mkZ sd n))) wr hz3.1)
            clear hzN hcl hL hln S1 X1 R1 X3 R3 G0
            generalize nxZ (nxZ (mkZ sd n)) = z3 at *
            generalize nxZ (mkZ sd n) = z2 at *
            generalize mkZ sd n = z1' at *
            generalize mkL st ss bs sd n = qs at *
            generalize clN st ss bs z1' = cn at *
            go_wp2_with fail
            refine N1.out.mono ?_
            rintro e w4 ⟨rfl, rfl⟩
            go_wp2_with fail
            refine N2.out.mono ?_
            rintro e w4 ⟨rfl, rfl⟩
            generalize z2 % 6 = kk at *
            go_wp2_with fail
            refine MA.out.mono ?_
            rintro e w4 ⟨rfl, rfl⟩
            generalize aN kk z3 = aa at *
            generalize toldV kk aa st ss bs = bb at *
            have g0 := hG.cell 0
            have fg := hG.frozen 0
            have lG := hG.lt
            go_wp2_with fail
            go_region_law (first
              | (go_simp; go_at_call 62; refine PO.out.mono ?_; rintro e w4 ⟨rfl, k4⟩; have b4 : Below wr.heap.size wr w4 := below_undrew k4; have G4 := hG.below b4 lG; have o4 := hown.below b4 (Nat.le_refl _); have g4 := G4.cell 0; have lG4 := G4.lt; obtain ⟨x0, x1, x2⟩ := (hX.below b4 lX).three; have lX4 := (hX.below b4 lX).lt; have z4 := b4.size)
              | (refine step_appT _ (by rfl) _ _ (by rfl) (w1.heap.size + 1) _ _ qs [(kk, aa, bb)] (by rfl) (o4.alloc (.cells #[.int .i64 kk, .int .i64 aa, .int .i64 bb] 56)) _ 1 1 rfl (by rfl) (blk_rd1c (Blk.new' rfl)) (by simp; omega) (by show w1.heap.size + 1 ≤ (w4.alloc _).heap.size; simp; omega) ?_; intro v5 w5 o5 k5; have t5 : Turned (w4.alloc (.cells #[.int .i64 kk, .int .i64 aa, .int .i64 bb] 56)) w5 (rowL (.slice Aq qs.length cq)) := k5; have lo4 := fun i h => (o4.lt i (mem_rowL.1 h)).1; have G5 := (G4.alloc (.cells #[.int .i64 kk, .int .i64 aa, .int .i64 bb] 56)).turned t5 (fun hm => by have := lo4 _ hm; omega); obtain ⟨A5, c5, hv5⟩ := o5.form; subst hv5; have g5 := G5.cell 0; have fg5 := G5.frozen 0; have lG5 := G5.lt))
            all_goals
              have hqn : mkL st ss bs sd (n + 1) = qs ++ [(kk, aa, bb)] := by rw [HL.out, HCL.out]
              have elq : (qs ++ [(kk, aa, bb)]).length = qs.length + 1 := by simp
              have bA : Below w1.heap.size wr (w4.alloc (.cells #[.int .i64 kk, .int .i64 aa, .int .i64 bb] 56)) := (b4.alloc z4 (.cells #[.int .i64 kk, .int .i64 aa, .int .i64 bb] 56)).mono (by omega)
              have bB : Below w1.heap.size (w4.alloc (.cells #[.int .i64 kk, .int .i64 aa, .int .i64 bb] 56)) w5 := t5.below (by simp; omega) (fun k hm => by have := lo4 _ hm; omega)
              have bC : Below w1.heap.size wr (w5.setCell ⟨w1.heap.size, 0, none⟩ (.slice A5 (qs.length + 1) c5)) := (bA.trans bB).setCell (p := ⟨w1.heap.size, 0, none⟩) (Nat.le_refl _) _
              have G6 := G5.set_ 0 (.slice A5 (qs.length + 1) c5)
              have X6 := hX.below bC (by omega)
              have R6 := hR.below bC (by omega)
              have bD := hbw.trans bC
              rw [elq] at o5
              have lt5 := fun i h => (o5.lt i h).1
              have O6 : OwnF (w5.setCell ⟨w1.heap.size, 0, none⟩ (.slice A5 (qs.length + 1) c5)) (w1.heap.size + 1) (.slice A5 (qs.length + 1) c5) (mkL st ss bs sd (n + 1)) := by
                rw [hqn]
                exact OwnF.turned o5 (L := [w1.heap.size]) ⟨(below_setF w5).os, (below_setF w5).tape, (below_setF w5).output, (below_setF w5).size, fun i _ hi => Below.heap_setCell w5 _ _ i (by simpa using hi)⟩ (fun i hi h2 => by have := lt5 i hi; simp at h2; omega)
              have hqnl := Lib.hid (show (mkL st ss bs sd (n + 1)).length = qs.length + 1 by rw [hqn, elq])
              have G7 : Blk (w5.setCell ⟨w1.heap.size, 0, none⟩ (.slice A5 (qs.length + 1) c5)) w1.heap.size 52 #[.slice A5 (qs.length + 1) c5] := G6
              clear hqn elq bA bB bC G5 G6 g5 fg5 lG5 o5 lt5 t5 k5 lo4 o4 G4 g4 lG4 x0 x1 x2 lX4 hX hR hG hown g0 fg lG d0 d1 d2 lX hbw b4 k4
              go_wp2_with fail
              go_roundw
              case rel => exact ⟨n + 1, A5, c5, by omega, by go_num, by rw [HN.out], by rw [hqnl.out]; exact G7, by rw [hqnl.out]; exact O6, X6, R6, bD⟩
              case measure => simp [intOf]; omega
          · have hgt : ¬ (n : Int) < (m : Int) := by omega
            have el : n = m := by omega
            subst el
            have EL := Lib.hid (mkL_len st ss bs sd n)
            generalize mkL st ss bs sd n = qs at *
            have lt5 := fun i h => (hown.lt i h).1
            have q0 := hR.cell 0
            have f0 := hR.frozen 0
            have lR := hR.lt
            have g0 := hG.cell 0
            have lG := hG.lt
            clear d0 d1 d2 lX hX
            go_wp2_with fail
            have r0 := (hR.set_ 0 (.slice Aq qs.length cq)).cell 0
            refine bodyPost_ret (v := .tuple #[.agg #[.slice Aq qs.length cq], .bool true]) (by simp [results, Try.results27, go_sem, r0]) rfl ?_
            refine ⟨_, by rw [HD.out.1], ?_, (bw1.trans ((b3.trans hbw).mono bw1.size)).setCell (p := ⟨w.heap.size + 1, 0, none⟩) (by simp) _⟩
            rw [HD.out.2]
            exact OwnF.turned (hown.mono (by omega)) (L := [w.heap.size + 1]) ⟨(below_setF wr).os, (below_setF wr).tape, (below_setF wr).output, (below_setF wr).size, fun i _ hi => Below.heap_setCell wr _ _ i (by simpa using hi)⟩ (fun i hi h2 => by have := lt5 i hi; simp at h2; omega)

end Go.Proofs.Ytehffiaobjlpoaa
