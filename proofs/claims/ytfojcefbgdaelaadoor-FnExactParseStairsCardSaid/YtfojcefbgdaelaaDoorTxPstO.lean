/- Contracts: reading stairs without a broken step, the model. -/
import Derived.Test.YtfojcefbgdaelaaDoorTxPstN
import Derived.Deep.RegionHeld3
namespace Go.Proofs.YtfojcefbgdaelaaDoor
open Go.RowKit
set_option maxRecDepth 100000

set_option maxHeartbeats 8000000 in
theorem clParse_one (t : ByteArray) (w : World) (hn : t.size ≤ 1048576) (h6 : t.size ≤ 200) (h2 : (splitS t 115).length = 2) (hp : ¬ (psP t).length = 2) (hp2 : (psP t).length ≤ 2) :
    Calls Tryd.prog 67 #[.string t] w (OwnSt (orN (psB t) (psS t)) (orX (psB t) (psA t)) (orX (psB t) (psK t)) (psB t) w) := by
  have h6' : ¬ (200 : Int) < (t.size : Int) := by omega
  have h6b : decide ((200 : Int) < (t.size : Int)) = false := decide_eq_false (by omega)
  obtain ⟨a, r, har, _⟩ := two_words h2
  have sa := word_le t 115 a (by rw [har]; simp)
  have sr := word_le t 115 r (by rw [har]; simp)
  have eR : psR t = r := by simp [psR, har]
  have eS : psS t = rdI a := by simp [psS, har]
  have L1 := Lib.hid (fun u => l1Read_any a u (by omega))
  have SP := Lib.hid (fun u => l1Split_any r 120 u (by omega))
  have HAR := Lib.hid har
  have h3 : ¬ (splitS r 120).length = 2 := by rw [← eR]; exact hp
  have h3n : (splitS r 120).length ≤ 2 := by rw [← eR]; exact hp2
  have hpq := one_word h3 h3n
  have eP : psP t = [r] := by unfold psP; rw [eR, hpq]
  have E1 := Lib.hid eS
  have E2 := Lib.hid (show psA t = rdL r 44 by unfold psA; rw [eP]; rfl)
  have E3 := Lib.hid (show psK t = [] by unfold psK; rw [eP]; rfl)
  have EB := Lib.hid (show psB t = goodB (rdI a) (rdL r 44) [] by unfold psB; rw [E1.out, E2.out, E3.out, har, eP, decide_eq_true h6]; rfl)
  have C1 := Lib.hid (fun u => clNumbers_any r u (by omega))
  have HPQ := Lib.hid hpq
  have lp := rdL_length r 44
  clear eR eS eP h2 h3 h3n har hpq
  generalize rdI a = S0 at *
  generalize rdL r 44 = xs at *
  go_enter Tryd.func67, Tryd.ntmps67
  go_wp2_with fail
  refine (l1Split_any t 115 _ hn).mono ?_
  rintro e w1 ⟨v, rfl, ho, hb⟩
  rw [HAR.out] at ho
  obtain ⟨A, c, rfl, hc⟩ := ho.form
  have X := (Blk.new w 47 #[.int .i64 0, .slice none 0 0, .slice none 0 0]).below hb (by simp)
  have Bt : Below w.heap.size w w1 := (below_alloc _ _).trans (hb.mono (by simp))
  have hs := X.lt
  obtain ⟨x0, x1, x2⟩ := X.three
  have f0 := X.frozen 0
  have f1 := X.frozen 1
  have f2 := X.frozen 2
  clear hb ho
  obtain ⟨g, hA, hg, d0⟩ := hc 0 (by simp)
  obtain ⟨g', hA', _, d1⟩ := hc 1 (by simp)
  obtain rfl : g = g' := by rw [hA] at hA'; injection hA' with e; injection e
  subst hA
  simp only [List.getD_cons_zero, List.getD_cons_succ] at d0 d1
  clear hc hA'
  go_wp2_with fail
  refine (SP.out _).mono ?_
  rintro e w2 ⟨v2, rfl, ho2, hb2⟩
  rw [HPQ.out] at ho2
  obtain ⟨A2, c2, rfl, hc⟩ := ho2.form
  replace d0 := (hb2.cell (p := ⟨g, 0, none⟩) hg).trans d0
  replace X := X.below hb2 hs
  replace Bt := Bt.trans (hb2.mono (by omega))
  have hz2 := hb2.size
  replace hs := X.lt
  clear x0 x1 x2 f0 f1 f2
  obtain ⟨x0, x1, x2⟩ := X.three
  have f0 := X.frozen 0
  have f1 := X.frozen 1
  have f2 := X.frozen 2
  clear hb2 ho2
  obtain ⟨k, hA, hk, m0⟩ := hc 0 (by simp)
  subst hA
  simp only [List.getD_cons_zero] at m0
  clear hc d1
  go_wp2_with fail
  go_region_held3 (fun u => u.cell? ⟨g, 0, none⟩ = some (.string a) ∧ u.cell? ⟨k, 0, none⟩ = some (.string r)) (first | exact ⟨d0, m0⟩ | exact ⟨T0, T1⟩ | exact ⟨cell_put3 T0 (by omega) _ _ _, cell_put3 T1 (by omega) _ _ _⟩ | go_keep)
    (first
      | (go_at_call_of 73 (Value.string a); refine (L1.out _).mono ?_; rintro e w' ⟨rfl, rfl⟩)
      | (go_at_call 91; (refine (C1.out w2.drew).mono ?_); rintro e v2 ⟨V, rfl, o3, hb3'⟩; have hb3 : Below w2.heap.size w2 v2 := below_undrew hb3'; have T0 := (hb3.cell (p := ⟨g, 0, none⟩) (Nat.lt_of_lt_of_le hg hz2)).trans d0; have T1 := (hb3.cell (p := ⟨k, 0, none⟩) hk).trans m0; have X3 := X.below hb3 hs; have B3 := Bt.trans (hb3.mono (by omega)); have z3 : w2.heap.size ≤ v2.heap.size := hb3.size; have og3 : ∀ b, Value.ownBlock V = some b → w2.heap.size ≤ b := fun b h => (o3.lt b h).1; have ol3 := fun b h => (o3.lt b h).2; obtain ⟨A3, c3, rfl, _⟩ := o3.form; replace o3 := o3.mono (B' := w.heap.size) (by show w.heap.size ≤ w2.heap.size; omega))
      | (go_at_call 91; (refine (C1.out (w2.alloc (.cells #[.int .i64 0, .slice none 0 0, .slice none 0 0] 47)).drew).mono ?_); rintro e v2 ⟨V, rfl, o3, hb3'⟩; have hb4 : Below (w2.heap.size + 1) (w2.alloc (.cells #[.int .i64 0, .slice none 0 0, .slice none 0 0] 47)) v2 := (below_undrew hb3').mono (by simp); have hb3 : Below w2.heap.size w2 v2 := (below_alloc _ _).trans (hb4.mono (by omega)); have XM0 := (Blk.new w2 47 #[.int .i64 0, .slice none 0 0, .slice none 0 0]).below hb4 (by omega); have T0 := (hb3.cell (p := ⟨g, 0, none⟩) (Nat.lt_of_lt_of_le hg hz2)).trans d0; have T1 := (hb3.cell (p := ⟨k, 0, none⟩) hk).trans m0; have X3 := X.below hb3 hs; have B3 := Bt.trans (hb3.mono (by omega)); have z3 : w2.heap.size + 1 ≤ v2.heap.size := (by have := hb4.size; simp at this; omega); have og3 : ∀ b, Value.ownBlock V = some b → w2.heap.size + 1 ≤ b := fun b h => (by have h9 := (o3.lt b h).1; simp at h9; omega); have ol3 := fun b h => (o3.lt b h).2; obtain ⟨A3, c3, rfl, _⟩ := o3.form; replace o3 := o3.mono (B' := w.heap.size) (by simp; omega); have f0 := XM0.frozen 0; have f1 := XM0.frozen 1; have f2 := XM0.frozen 2; obtain ⟨u0, u1, u2⟩ := XM0.three)
      | fail)
  all_goals
    first
    | (have XM := XM0.put3 (.int .i64 S0) (.slice A3 xs.length c3) (.slice none 0 0)
       have X4 := X3.away3 (g := w2.heap.size) (by omega) (.int .i64 S0) (.slice A3 xs.length c3) (.slice none 0 0)
       have B4 := below_put3 B3 (g := w2.heap.size) (by omega) (.int .i64 S0) (.slice A3 xs.length c3) (.slice none 0 0)
       have ap4 : ∀ b, Value.ownBlock (.slice A3 xs.length c3) = some b → b ≠ w2.heap.size := fun b h e => by have := og3 b h; omega
       have og4 : ∀ b, Value.ownBlock (.slice A3 xs.length c3) = some b → w.heap.size < b := fun b h => by have := og3 b h; omega
       have o4 := o3.put3 ap4 (.int .i64 S0) (.slice A3 xs.length c3) (.slice none 0 0)
       skip
       clear T0 T1 X3 B3 o3 hb3 hb3' hb4 XM0 u0 u1 u2 f0 f1 f2
       generalize (((v2.setCell ⟨w2.heap.size, 0, none⟩ (.int .i64 S0)).setCell ⟨w2.heap.size, 1, none⟩ (.slice A3 xs.length c3)).setCell ⟨w2.heap.size, 2, none⟩ (.slice none 0 0)) = w4 at *
       have hM : w.heap.size < w2.heap.size := hs
       clear og3 ol3
       generalize w2.heap.size = M at XM ap4 hM ⊢)
    | (have XM := Blk.new v2 47 #[.int .i64 S0, .slice A3 xs.length c3, .slice none 0 0]
       have X4 := X3.alloc (.cells #[.int .i64 S0, .slice A3 xs.length c3, .slice none 0 0] 47)
       have B4 := B3.alloc (by omega) (.cells #[.int .i64 S0, .slice A3 xs.length c3, .slice none 0 0] 47)
       have ap4 : ∀ b, Value.ownBlock (.slice A3 xs.length c3) = some b → b ≠ v2.heap.size := fun b h e => by have := ol3 b h; omega
       have og4 : ∀ b, Value.ownBlock (.slice A3 xs.length c3) = some b → w.heap.size < b := fun b h => by have := og3 b h; omega
       have o4 := o3.alloc (.cells #[.int .i64 S0, .slice A3 xs.length c3, .slice none 0 0] 47)
       skip
       have hM : w.heap.size < v2.heap.size := by omega
       clear T0 T1 X3 B3 o3 hb3 hb3'
       generalize (v2.alloc (.cells #[.int .i64 S0, .slice A3 xs.length c3, .slice none 0 0] 47)) = w4 at *
       clear og3 ol3
       generalize v2.heap.size = M at XM ap4 hM ⊢)
    clear X x0 x1 x2 f0 f1 f2 d0 m0 Bt
    have zM := XM.lt
    obtain ⟨p0, p1, p2⟩ := XM.three
    go_wp2_with fail
    refine (clGood_any S0 A3 none c3 0 xs [] _ _ ⟨o4.rd, Rd.nil, by omega, by simp⟩ (Nat.le_refl _)).mono ?_
    clear p0 p1 p2
    have XM6 := XM
    have X6 := X4
    have B6 := B4
    have o6 := o4
    clear XM X4 B4 o4
    have zR := X6.lt
    have zN := XM6.lt
    rintro e w7 ⟨rfl, hb7⟩
    replace XM6 := XM6.below hb7 zN
    replace X6 := X6.below hb7 zR
    replace B6 := B6.trans (hb7.mono (by have := B6.size; omega))
    replace o6 := o6.below hb7 (Nat.le_refl _)
    clear hb7
    obtain ⟨x0, x1, x2⟩ := X6.three
    obtain ⟨p0, p1, p2⟩ := XM6.three
    have f0 := X6.frozen 0
    have f1 := X6.frozen 1
    have f2 := X6.frozen 2
    cases hgd : goodB S0 xs []
    · have B0 := Lib.hid (EB.out.trans hgd)
      clear hgd
      go_wp2_with fail
      have XF := X6.put3 (.int .i64 0) (.slice none 0 0) (.slice none 0 0)
      obtain ⟨t0, t1, t2⟩ := XF.three
      refine bodyPost_ret (v := .tuple #[.agg #[.int .i64 0, .slice none 0 0, .slice none 0 0], .bool false]) (by simp [results, Tryd.results67, go_sem, t0, t1, t2]) rfl ?_
      exact ⟨none, none, 0, 0, by rw [B0.out]; rfl, by rw [B0.out]; exact OwnI.nil _ _, by rw [B0.out]; exact OwnI.nil _ _, below_put3 B6 (Nat.le_refl _) _ _ _⟩
    · have B0 := Lib.hid (EB.out.trans hgd)
      clear hgd
      go_wp2_with fail
      have XF := X6.put3 (.int .i64 S0) (.slice A3 xs.length c3) (.slice none 0 0)
      obtain ⟨t0, t1, t2⟩ := XF.three
      refine bodyPost_ret (v := .tuple #[.agg #[.int .i64 S0, .slice A3 xs.length c3, .slice none 0 0], .bool true]) (by simp [results, Tryd.results67, go_sem, t0, t1, t2]) rfl ?_
      have s1 := o6.put3 (g := w.heap.size) (fun b h e => by have := og4 b h; omega) (.int .i64 S0) (.slice A3 xs.length c3) (.slice none 0 0)
      skip
      exact ⟨A3, none, c3, 0, by rw [B0.out, E1.out, E2.out, E3.out]; rfl, by rw [B0.out, E2.out]; exact s1, by rw [B0.out, E3.out]; exact OwnI.nil _ _, below_put3 B6 (Nat.le_refl _) _ _ _⟩

end Go.Proofs.YtfojcefbgdaelaaDoor
