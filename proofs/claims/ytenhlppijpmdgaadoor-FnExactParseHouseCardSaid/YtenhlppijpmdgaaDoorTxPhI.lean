/- Contracts: reading houses, the program's ParseHouse. -/
import Derived.Test.YtenhlppijpmdgaaDoorTxPhJ
namespace Go.Proofs.YtenhlppijpmdgaaDoor
open Go.RowKit Go.Shelf
set_option maxRecDepth 100000

attribute [local go_sem] Oper.semAt_some
attribute [-go_sem] Builtin.append_

set_option maxHeartbeats 4000000 in
theorem implParHo_any (s : ByteArray) (w : World) (hn : s.size ≤ 1048576) (ht : TabI w) (hE : ErrI w) :
    Calls Tryd.prog 19 #[.string s] w (NewHo (orH (phB s) (phA s)) (orH (phB s) (phD s)) (phB s) w) := by
  have CT := Lib.hid (fun u => cut_any s 94 u hn)
  have z1 := cutA_size s 94
  have z2 := cutZ_size s 94
  have y1 := ninR_length (cutA s 94) 58
  have N1 := Lib.hid (fun u hu => numbersIn_any (cutA s 94) 58 u (by omega) (hE.below hu (Nat.le_refl _)))
  have PA := Lib.hid (fun ys h ha => hp_all (s := s) (ys := ys) h ha)
  have PS := Lib.hid (fun ys h ha => pg_size (s := s) (ys := ys) hn h ha)
  have PN := Lib.hid (fun x h ha => hp_none (s := s) (x := x) h ha)
  generalize ninR (cutA s 94) 58 = l1 at *
  generalize cutA s 94 = s1 at *
  generalize cutZ s 94 = s2 at *
  generalize cutB s 94 = sb at *
  have a1 := Boxed.new (w.alloc (.cells #[.slice none 0 0, .slice none 0 0] 38)) 4 (.bool false)
  have a0 := (Blk.new w 38 #[.slice none 0 0, .slice none 0 0]).alloc (.cells #[.bool false] 4)
  refine (callsIn_wide (n := 3)).1 ?_
  refine callsIn_of_wp_marks Tryd.func19 rfl trivial ?_ rfl
  simp only [Tryd.ntmps19, List.size_toArray, List.length_cons, List.length_nil, Nat.reduceAdd, Nat.reduceSub, Array.replicate_succ, Array.replicate_zero, List.push_toArray, List.append_toArray, List.nil_append, List.cons_append]
  gi_wp2_with fail
  refine ⟨trivial, (callsIn_wide.2 (CT.out _)).mono ?_⟩
  rintro e w1 ⟨rfl, hb1⟩
  have X0 := a0.below hb1 (by simp; omega)
  have X1 := boxed_below a1 hb1 (by simp)
  have B1 : Below w.heap.size w w1 := ((below_alloc _ _).alloc (by simp) _).trans (hb1.mono (by simp; omega))
  have hz1 := hb1.size
  simp only [World.size_alloc] at hz1 X1
  clear a0 a1 hb1
  gi_wp2_with fail
  refine ⟨trivial, (callsIn_wide.2 (N1.out _ B1)).mono ?_⟩
  rintro e w2 ⟨v0, rfl, ho, hb2⟩
  obtain ⟨A0, c0, rfl, _⟩ := ho.form
  have X0 := X0.below hb2 (by omega)
  have X1 := boxed_below X1 hb2 (by omega)
  have B2 : Below w.heap.size w w2 := B1.trans (hb2.mono (by omega))
  have hz2 := hb2.size
  clear B1 hb2
  gi_wp2_with fail
  refine ⟨trivial, (SplitSeq_in _ (by omega) s2 94 _).mono ?_⟩
  rintro e w3 ⟨rfl, rfl⟩
  gi_wp2_with fail
  have xs := ((Boxed.new (w2.alloc (.cells #[.slice none 0 0, .slice A0 l1.length c0] 38)) 9 (.string s2)).alloc (.cells #[.string ⟨#[94]⟩] 9)).alloc (.cells #[.int .i64 0] 3)
  have xp := (Boxed.new ((w2.alloc (.cells #[.slice none 0 0, .slice A0 l1.length c0] 38)).alloc (.cells #[.string s2] 9)) 9 (.string ⟨#[94]⟩)).alloc (.cells #[.int .i64 0] 3)
  have xv := Boxed.new (((w2.alloc (.cells #[.slice none 0 0, .slice A0 l1.length c0] 38)).alloc (.cells #[.string s2] 9)).alloc (.cells #[.string ⟨#[94]⟩] 9)) 3 (.int .i64 0)
  have HH : Hq w2.heap.size w1.heap.size ((((w2.alloc (.cells #[.slice none 0 0, .slice A0 l1.length c0] 38)).alloc (.cells #[.string s2] 9)).alloc (.cells #[.string ⟨#[94]⟩] 9)).alloc (.cells #[.int .i64 0] 3)) [] l1 (.slice none 0 0) (.slice A0 l1.length c0) :=
    ⟨(((Blk.new _ _ _).alloc _).alloc _).alloc _, OwnI.nil _ _, (((ho.alloc _).alloc _).alloc _).alloc _, Apart.nil' _, fun k h => by simp [Value.ownBlock] at h, fun k h => .inl (ho.lt k h).2, by simp⟩
  have B3 : Below w.heap.size w ((((w2.alloc (.cells #[.slice none 0 0, .slice A0 l1.length c0] 38)).alloc (.cells #[.string s2] 9)).alloc (.cells #[.string ⟨#[94]⟩] 9)).alloc (.cells #[.int .i64 0] 3)) := (((B2.alloc (by omega) _).alloc (by simp; omega) _).alloc (by simp; omega) _).alloc (by simp; omega) _
  have X0 := (((X0.alloc (.cells #[.slice none 0 0, .slice A0 l1.length c0] 38)).alloc (.cells #[.string s2] 9)).alloc (.cells #[.string ⟨#[94]⟩] 9)).alloc (.cells #[.int .i64 0] 3)
  have X1 := (((X1.alloc (.cells #[.slice none 0 0, .slice A0 l1.length c0] 38)).alloc (.cells #[.string s2] 9)).alloc (.cells #[.string ⟨#[94]⟩] 9)).alloc (.cells #[.int .i64 0] 3)
  have hz : ((((w2.alloc (.cells #[.slice none 0 0, .slice A0 l1.length c0] 38)).alloc (.cells #[.string s2] 9)).alloc (.cells #[.string ⟨#[94]⟩] 9)).alloc (.cells #[.int .i64 0] 3)).heap.size = w2.heap.size + 4 := by simp
  simp only [World.size_alloc] at xs xp xv ⊢
  clear ho B2
  generalize hW0 : (((w2.alloc (.cells #[.slice none 0 0, .slice A0 l1.length c0] 38)).alloc (.cells #[.string s2] 9)).alloc (.cells #[.string ⟨#[94]⟩] 9)).alloc (.cells #[.int .i64 0] 3) = w0 at *
  clear hW0
  refine wpIn_rangeC (n := 3) (gf := 57) (lb := #[.pointer (some ⟨w2.heap.size + 1 + 1, 0, none⟩), .pointer (some ⟨w2.heap.size + 1, 0, none⟩), .pointer (some ⟨w2.heap.size + 1 + 1 + 1, 0, none⟩)]) rfl (enters_of Tryd.func57 (by kernel_rfl) rfl)
    (splitSeq_seq (3 - 1) s2 94 w0 (w2.heap.size + 1 + 1) (w2.heap.size + 1) (w2.heap.size + 1 + 1 + 1) (by omega) (by omega) (by omega) (by omega) xp xs xv) (by simp [hz]) (by omega) (fun _ => rfl)
    (fun pre W => (((∀ x ∈ pre, (ninR x.1 58).length = 2) ∧ Blk W w.heap.size 38 #[.slice none 0 0, .slice none 0 0]) ∧ Boxed W (w.heap.size + 1) 4 (.bool false)) ∧ HoldsH w1.heap.size w2.heap.size (hpA pre) (l1 ++ hpD pre) W ∧ Below w.heap.size w W)
    (fun j pre W => (((j = .ret ∧ ∃ x ∈ pre, (ninR x.1 58).length ≠ 2) ∧ Blk W w.heap.size 38 #[.slice none 0 0, .slice none 0 0]) ∧ Boxed W (w.heap.size + 1) 4 (.bool false)) ∧ Below w.heap.size w W)
    (MindsB.and (MindsB.and (MindsB.and (fun _ _ _ _ hs _ _ => hs) (mindsB_blk _ _ (fun _ => _) (by omega))) (mindsB_boxed _ _ (fun _ => _) (by omega))) (MindsB.and (holdsH_minds _ _) (mindsB_below (by omega) (by omega) (by omega))))
    (fun j => MindsB.and (MindsB.and (MindsB.and (fun _ _ _ _ hs _ _ => hs) (mindsB_blk _ _ (fun _ => _) (by omega))) (mindsB_boxed _ _ (fun _ => _) (by omega))) (mindsB_below (by omega) (by omega) (by omega)))
    ⟨⟨⟨by simp, X0⟩, X1⟩, ⟨_, _, by simpa [hpA, hpD] using HH⟩, B3⟩
    (fun x => { tmps := #[.string s, undef, .pointer (some ⟨w.heap.size, 0, none⟩), .pointer (some ⟨w.heap.size + 1, 0, none⟩), .string s1, .string s2, .bool sb, .pointer (some ⟨w2.heap.size, 0, none⟩), .string x.1, undef, undef, undef, .tuple #[.string s1, .string s2, .bool sb], .string s, .tuple #[.string s1, .string s2, .bool sb], .string s1, .string s2, .bool sb, .string s1, .slice A0 l1.length c0, .agg #[.slice none 0 0, .slice A0 l1.length c0], .string s2, .func (.func 57) #[] #[.pointer (some ⟨w2.heap.size + 1 + 1, 0, none⟩), .pointer (some ⟨w2.heap.size + 1, 0, none⟩), .pointer (some ⟨w2.heap.size + 1 + 1 + 1, 0, none⟩)], .string x.1, undef, undef, undef, undef, undef, undef, undef, undef, undef, undef, undef, undef, undef, undef, undef, undef, undef, undef, undef, undef, undef, undef, undef, undef, undef, undef, undef, undef, undef, undef, undef, undef, undef, undef, undef, undef], defers := [] }) ?assign ?body ?done ?stop
  case assign =>
    intro l x W K hK
    gi_wp2
    exact hK
  case body =>
    rintro l pre x W ⟨⟨⟨hall, hr⟩, hq⟩, ⟨v1, v2, H⟩, hB⟩ hlen
    have hx := x.2
    have N2 := Lib.hid (numbersIn_any x.1 58 W (by omega) (hE.below hB (Nat.le_refl _)))
    have y2 := ninR_length x.1 58
    have eA := Lib.hid (hpA_snoc pre x)
    have eD := Lib.hid (hpD_snoc pre x)
    have lA : (hpA pre).length = pre.length := by simp [hpA]
    have lD : (hpD pre).length = pre.length := by simp [hpD]
    have hzW : w.heap.size ≤ W.heap.size := hB.size
    obtain ⟨A1, c1, rfl, _⟩ := H.o1.form
    obtain ⟨A2, c2, rfl, _⟩ := H.o2.form
    have HL := Lib.hid (fun (h : (ninR x.1 58).length = 2) => h)
    have HN := Lib.hid (fun (h : (ninR x.1 58).length ≠ 2) => h)
    generalize hZ : ninR x.1 58 = L at *
    have EL := Lib.hid hZ
    clear hZ
    by_cases h2 : L.length = 2
    · obtain ⟨p, q, rfl⟩ : ∃ p q, L = [p, q] := by
        match L, h2 with
        | [p, q], _ => exact ⟨p, q, rfl⟩
      simp only [List.getD_cons_zero, List.getD_cons_succ] at eA eD
      generalize hpA pre = xs' at *
      have hD2 : l1 ++ hpD (pre ++ [x]) = (l1 ++ hpD pre) ++ [q] := by rw [eD.out, List.append_assoc]
      have hzl : (l1 ++ hpD pre).length = l1.length + pre.length := by rw [List.length_append, lD]
      have eDD := Lib.hid hD2
      clear hD2 eD
      generalize l1 ++ hpD pre = zs at *
      have hx1 : xs'.length + 1 ≤ 4194304 := by omega
      have hy1 : zs.length + 1 ≤ 4194304 := by omega
      clear HL HN h2 lA lD hzl
      gi_wp2_with fail
      refine ⟨trivial, (CallsIn.inRound l (callsIn_wide.2 N2.out)).mono ?_⟩
      rintro e W2 ⟨v9, rfl, o9, hb9⟩
      obtain ⟨A9, c9, hv9, hc9⟩ := o9.form
      simp only [List.length_cons, List.length_nil, Nat.zero_add, Nat.reduceAdd] at hv9
      subst hv9
      obtain ⟨g, o, rfl, hg, d0⟩ := hc9.at_ (k := 0) (by simp)
      obtain ⟨g', o', he, _, d1⟩ := hc9.at_ (k := 1) (by simp)
      obtain ⟨rfl, rfl⟩ : g = g' ∧ o = o' := by injection he with e; injection e with e1 e2; exact ⟨e1, e2⟩
      have gl : W.heap.size ≤ g := (o9.lt g rfl).1
      have H2 := H.below hb9
      have hz4 := H.hz
      have hs2 := hb9.size
      have hgv : g ∉ rowL (.slice A1 xs'.length c1) := fun hm => by have := (H.o1.lt _ (mem_rowL.1 hm)).2; omega
      have hgb : g ≠ w2.heap.size := by omega
      obtain ⟨m0, m1⟩ := H2.m.two
      have f0 := H2.m.frozen 0
      have MA := H2.m.alloc (.cells #[.int .i64 p] 3)
      obtain ⟨ma0, ma1⟩ := MA.two
      have fa0 := MA.frozen 0
      simp only [List.getD_cons_zero, List.getD_cons_succ, Nat.add_zero] at d0 d1
      gi_wp2_with fail
      rename_i K8 hK8
      have TAIL : ∀ (v5 : Value) (w10 : World), Hq w2.heap.size w1.heap.size w10 (xs' ++ [p]) zs v5 (.slice A2 zs.length c2) → Rn w2.heap.size w1.heap.size W2 w10 → w10.cell? ⟨g, o + 1, none⟩ = some (.int .i64 q) →
          K8 { tmps := #[.string s, undef, .pointer (some ⟨w.heap.size, 0, none⟩), .pointer (some ⟨w.heap.size + 1, 0, none⟩), .string s1, .string s2, .bool sb, .pointer (some ⟨w2.heap.size, 0, none⟩), .string x.1, .slice (some ⟨g, o, none⟩) 2 c9, undef, undef, .tuple #[.string s1, .string s2, .bool sb], .string s, .tuple #[.string s1, .string s2, .bool sb], .string s1, .string s2, .bool sb, .string s1, .slice A0 l1.length c0, .agg #[.slice none 0 0, .slice A0 l1.length c0], .string s2, .func (.func 57) #[] #[.pointer (some ⟨w2.heap.size + 1 + 1, 0, none⟩), .pointer (some ⟨w2.heap.size + 1, 0, none⟩), .pointer (some ⟨w2.heap.size + 1 + 1 + 1, 0, none⟩)], .string x.1, .string x.1, .slice (some ⟨g, o, none⟩) 2 c9, .slice (some ⟨g, o, none⟩) 2 c9, .int .i64 2, .bool false, undef, .pointer (some ⟨w2.heap.size, 0, none⟩), .slice A1 xs'.length c1, .slice (some ⟨g, o, none⟩) 2 c9, .pointer (some ⟨g, o, none⟩), .int .i64 p, .slice (some ⟨W2.heap.size, 0, none⟩) 1 1, v5, .pointer (some ⟨w2.heap.size, 0, none⟩), undef, undef, undef, undef, undef, undef, undef, undef, undef, undef, undef, undef, undef, undef, undef, undef, undef, undef, undef, undef, undef, undef], defers := [] } w10 := by
        as_aux_lemma =>
        intro v6 w10 H10 R10 D10
        have hz10 := H10.hz
        have hs10 := R10.ko.size
        clear f0 m0 m1 MA ma0 ma1 fa0 d0 d1
        obtain ⟨m0, m1⟩ := H10.m.two
        have f1 := H10.m.frozen 1
        have MA := H10.m.alloc (.cells #[.int .i64 q] 3)
        obtain ⟨ma0, ma1⟩ := MA.two
        have fa1 := MA.frozen 1
        refine hK8 _ _ ?_
        gi_wp2_with fail
        gi_region_with (obtain ⟨v5, w5, hrun, hown5, hb5, hgr5, hob5⟩ := run_append_rd ((w10.alloc (.cells #[.int .i64 q] 3)).drew) 33 w1.heap.size (w10.heap.size + 1) (.slice A2 zs.length c2) zs [q] ((H10.o2.alloc (.cells #[.int .i64 q] 3)).below (Below.refl _ _).drew (Nat.le_refl _)) (some ⟨w10.heap.size, 0, none⟩) 1 (rd_oneH (by simp)) (by simp; omega) (by show w1.heap.size ≤ (w10.alloc _).heap.size; simp; omega); obtain ⟨A5, e5, rfl⟩ := form1 hown5; have T5 := turned_undrewH (Turned.of_grown hgr5 (fun k hk => mem_rowL.2 hk)); have M5 : Blk w5 w2.heap.size 38 #[v6, .slice A2 zs.length c2] := (H10.m.alloc (.cells #[.int .i64 q] 3)).turned T5 (H10.n2 0 (by omega)); have f5 := M5.frozen 1; have c5 := M5.two.2; have H5 := H10.push2 hown5 T5 (by simpa using hob5); have R5 := rn_push2 (v9 := .slice A5 (zs.length + 1) e5) H10 T5; simp only [List.length_cons, List.length_nil, Nat.zero_add] at hrun; simp only [hrun, Result.andThen_ok, Oper.uponIn_value])
        all_goals
          have RR := R10.trans R5
          have BB := RR.be w1.heap.size (Nat.le_refl _) (by omega) (by omega)
          exact ⟨(keepsFrom_below hb9).trans (RR.ko.from _), (Lay.below hb9 (by simp; omega)).trans RR.ly, ⟨⟨fun y hy => (List.mem_append.1 hy).elim (hall y) (fun e => by rw [List.mem_singleton.1 e, EL.out]; rfl), (hr.below hb9 hr.lt).below BB (by omega)⟩, boxed_below (boxed_below hq hb9 (by omega)) BB (by omega)⟩, ⟨_, _, by rw [eA.out, eDD.out]; exact H5⟩, (hB.trans (hb9.mono hzW)).trans (RR.be w.heap.size (by omega) (by omega) (by omega))⟩
      clear hK8
      gi_region_with (obtain ⟨v5, w5, hrun, hown5, hb5, hgr5, hob5⟩ := run_append_rd ((W2.alloc (.cells #[.int .i64 p] 3)).drew) 33 w1.heap.size (W2.heap.size + 1) (.slice A1 xs'.length c1) xs' [p] ((H2.o1.alloc (.cells #[.int .i64 p] 3)).below (Below.refl _ _).drew (Nat.le_refl _)) (some ⟨W2.heap.size, 0, none⟩) 1 (rd_oneH (by simp)) (by simp; omega) (by show w1.heap.size ≤ (W2.alloc _).heap.size; simp; omega); obtain ⟨A5, e5, rfl⟩ := form1 hown5; have T5 := turned_undrewH (Turned.of_grown hgr5 (fun k hk => mem_rowL.2 hk)); have M5 : Blk w5 w2.heap.size 38 #[.slice A1 xs'.length c1, .slice A2 zs.length c2] := (H2.m.alloc (.cells #[.int .i64 p] 3)).turned T5 (H2.n1 0 (by omega)); have f5 := M5.frozen 0; have c5 := M5.two.1; have H5 := H2.push1 hown5 T5 (by simpa using hob5); have R5 := rn_push1 (v9 := .slice A5 (xs'.length + 1) e5) H2 T5; have D5 := (cell_heap (heap_pushH (i := 0) (v9 := .slice A5 (xs'.length + 1) e5) T5 hgv hg hgb)).trans d1; simp only [List.length_cons, List.length_nil, Nat.zero_add] at hrun; simp only [hrun, Result.andThen_ok, Oper.uponIn_value])
      all_goals exact TAIL _ _ H5 R5 D5
    · have hl2 : ¬ (L.length : Int) = 2 := by omega
      have hl2b : ((L.length : Int) == 2) = false := by simpa using hl2
      gi_wp2_with fail
      refine ⟨trivial, (CallsIn.inRound l (callsIn_wide.2 N2.out)).mono ?_⟩
      rintro e W2 ⟨v9, rfl, o9, hb9⟩
      obtain ⟨A9, c9, rfl, _⟩ := o9.form
      have hr2 := hr.below hb9 hr.lt
      have hz4 := H.hz
      have hq2 : Blk W2 (w.heap.size + 1) 4 #[.bool false] := boxed_below hq hb9 (by omega)
      obtain ⟨r0, r1⟩ := hr2.two
      have s0 := hr2.frozen 0
      have s1' := hr2.frozen 1
      have q0 : W2.cell? ⟨w.heap.size + 1, 0, none⟩ = some (.bool false) := hq2.cell 0
      have q1 := hq2.frozen 0
      gi_wp2_with fail
      exact ⟨(keepsFrom_below hb9).trans ((((KeepsOthers.setCell _ _ _).trans (KeepsOthers.setCell _ _ _)).trans (KeepsOthers.setCell _ _ _)).from _), ⟨⟨⟨rfl, x, by simp, by rw [EL.out]; exact h2⟩, ((hr2.set_ 0 _).set_ 1 _).far (by show w.heap.size ≠ w.heap.size + 1; omega) _⟩, ((hq2.far (by show w.heap.size + 1 ≠ w.heap.size; omega) _).far (by show w.heap.size + 1 ≠ w.heap.size; omega) _).set_ 0 _⟩, (((hB.trans (hb9.mono hzW)).setCell (Nat.le_refl _) _).setCell (Nat.le_refl _) _).setCell (Nat.le_succ _) _⟩
  case done =>
    rintro D ys W hD hS ⟨⟨⟨hall, hr⟩, hq⟩, ⟨v1, v2, H⟩, hB⟩ hK
    obtain ⟨_, pA, pD⟩ := PA.out ys hS hall
    have SZ := PS.out ys hS hall
    have lA : (hpA ys).length = ys.length := by simp [hpA]
    have lD : (hpD ys).length = ys.length := by simp [hpD]
    have lZ : (l1 ++ hpD ys).length = l1.length + ys.length := by rw [List.length_append, lD]
    rw [← pA] at H lA
    rw [← pD] at H lZ
    have hA1 : (pgA s).length ≤ 1048576 := by omega
    have hD1 : (pgD s).length ≤ 1048576 := by omega
    clear lA lD lZ SZ pA pD hS hall
    obtain ⟨A1, c1, rfl, r1⟩ := H.o1.form
    obtain ⟨A2, c2, rfl, r2⟩ := H.o2.form
    have HO : Ho W W.heap.size A1 A2 c1 c2 (pgA s) (pgD s) := ⟨r1, r2, hA1, hD1⟩
    have HT := Lib.hid (implHouseText_any A1 A2 c1 c2 (pgA s) (pgD s) W.heap.size W HO (Nat.le_refl _) (ht.below hB))
    obtain ⟨n0, n1⟩ := H.m.two
    cases hG : goodH (pgA s) (pgD s)
    · have hF : phB s = false := by
        cases h : phB s
        · rfl
        · obtain ⟨_, e1, e2⟩ := ph_find h
          rw [e1, e2, (ph_to h).1] at hG; cases hG
      have FF := Lib.hid hF
      rw [hG, orS_no] at HT
      clear hF hG
      gi_wp2_with fail
      refine ⟨trivial, (callsIn_wide.2 HT.out).mono ?_⟩
      rintro e w5 ⟨rfl, hb5⟩
      have hK5 : w5.heap[D]? = some (.deferred (some [])) := (hb5.block D (Array.getElem?_eq_some_iff.1 hK).1).trans hK
      have M5 := H.m.below hb5 H.m.lt
      have R5 := hr.below hb5 hr.lt
      have Q5 : Blk w5 (w.heap.size + 1) 4 #[.bool false] := boxed_below hq hb5 hq.lt
      obtain ⟨m0, m1⟩ := M5.two
      obtain ⟨r0, r1⟩ := R5.two
      have s0 := R5.frozen 0
      have s1' := R5.frozen 1
      have q0 : w5.cell? ⟨w.heap.size + 1, 0, none⟩ = some (.bool false) := Q5.cell 0
      have q1 := Q5.frozen 0
      have B5 := hB.trans (hb5.mono hB.size)
      gi_wp2_with fail
      have hK6 := ((KeepsOthers.setCell w5 ⟨w.heap.size, 0, none⟩ (.slice none 0 0)).trans ((KeepsOthers.setCell _ ⟨w.heap.size, 1, none⟩ (.slice none 0 0)).trans (KeepsOthers.setCell _ ⟨w.heap.size + 1, 0, none⟩ (.bool false)))).same D _ hK5 rfl
      refine ⟨by simp, .inl ⟨_, _, rfl, run_takeDeferred hK6, ?_⟩⟩
      have R6 := ((R5.set_ 0 (.slice none 0 0)).set_ 1 (.slice none 0 0)).far (p := ⟨w.heap.size + 1, 0, none⟩) (by show w.heap.size ≠ w.heap.size + 1; omega) (.bool false)
      have Q6 := ((Q5.far (p := ⟨w.heap.size, 0, none⟩) (by show w.heap.size + 1 ≠ w.heap.size; omega) (.slice none 0 0)).far (p := ⟨w.heap.size, 1, none⟩) (by show w.heap.size + 1 ≠ w.heap.size; omega) (.slice none 0 0)).set_ 0 (.bool false)
      have R60 := R6.cell 0
      have R61 := R6.cell 1
      have Q60 := Q6.cell 0
      have B6 := ((B5.setCell (p := ⟨w.heap.size, 0, none⟩) (Nat.le_refl _) (.slice none 0 0)).setCell (p := ⟨w.heap.size, 1, none⟩) (Nat.le_refl _) (.slice none 0 0)).setCell (p := ⟨w.heap.size + 1, 0, none⟩) (Nat.le_succ _) (.bool false)
      have e0 := cell_kept R60 (grownBy_putObj' _ D (.deferred none)) (fun r e => by cases e; exact ⟨_, hK6, rfl⟩)
      have e1 := cell_kept R61 (grownBy_putObj' _ D (.deferred none)) (fun r e => by cases e; exact ⟨_, hK6, rfl⟩)
      have e2 := cell_kept Q60 (grownBy_putObj' _ D (.deferred none)) (fun r e => by cases e; exact ⟨_, hK6, rfl⟩)
      refine ⟨.tuple #[.agg #[.slice none 0 0, .slice none 0 0], .bool false], ?_, _, _, by rw [FF.out], by rw [FF.out]; exact OwnI.nil _ _, by rw [FF.out]; exact OwnI.nil _ _, Apart.nil _, B6.trans (belowK_b (w := w) (Nat.le_refl _) _ D _ _ (by omega) hK6 rfl rfl)⟩
      simp [results, Tryd.f19, go_sem, e0, e1, e2]
    · rw [hG, orS_yes] at HT
      by_cases hT : hoS (pgA s) (pgD s) = s
      · have hF := pg_to hG hT
        have FF := Lib.hid hF
        have EA := Lib.hid (ph_find hF).2.1
        have ED := Lib.hid (ph_find hF).2.2
        rw [hT] at HT
        clear hF hG hT
        gi_wp2_with fail
        refine ⟨trivial, (callsIn_wide.2 HT.out).mono ?_⟩
        rintro e w5 ⟨rfl, hb5⟩
        have hK5 : w5.heap[D]? = some (.deferred (some [])) := (hb5.block D (Array.getElem?_eq_some_iff.1 hK).1).trans hK
        have M5 := H.m.below hb5 H.m.lt
        have R5 := hr.below hb5 hr.lt
        have Q5 : Blk w5 (w.heap.size + 1) 4 #[.bool false] := boxed_below hq hb5 hq.lt
        obtain ⟨m0, m1⟩ := M5.two
        obtain ⟨r0, r1⟩ := R5.two
        have s0 := R5.frozen 0
        have s1' := R5.frozen 1
        have q0 : w5.cell? ⟨w.heap.size + 1, 0, none⟩ = some (.bool false) := Q5.cell 0
        have q1 := Q5.frozen 0
        have B5 := hB.trans (hb5.mono hB.size)
        gi_wp2_with fail
        have hK6 := ((KeepsOthers.setCell w5 ⟨w.heap.size, 0, none⟩ (.slice A1 (pgA s).length c1)).trans ((KeepsOthers.setCell _ ⟨w.heap.size, 1, none⟩ (.slice A2 (pgD s).length c2)).trans (KeepsOthers.setCell _ ⟨w.heap.size + 1, 0, none⟩ (.bool true)))).same D _ hK5 rfl
        refine ⟨by simp, .inl ⟨_, _, rfl, run_takeDeferred hK6, ?_⟩⟩
        have R6 := ((R5.set_ 0 (.slice A1 (pgA s).length c1)).set_ 1 (.slice A2 (pgD s).length c2)).far (p := ⟨w.heap.size + 1, 0, none⟩) (by show w.heap.size ≠ w.heap.size + 1; omega) (.bool true)
        have Q6 := ((Q5.far (p := ⟨w.heap.size, 0, none⟩) (by show w.heap.size + 1 ≠ w.heap.size; omega) (.slice A1 (pgA s).length c1)).far (p := ⟨w.heap.size, 1, none⟩) (by show w.heap.size + 1 ≠ w.heap.size; omega) (.slice A2 (pgD s).length c2)).set_ 0 (.bool true)
        have R60 := R6.cell 0
        have R61 := R6.cell 1
        have Q60 := Q6.cell 0
        have B6 := ((B5.setCell (p := ⟨w.heap.size, 0, none⟩) (Nat.le_refl _) (.slice A1 (pgA s).length c1)).setCell (p := ⟨w.heap.size, 1, none⟩) (Nat.le_refl _) (.slice A2 (pgD s).length c2)).setCell (p := ⟨w.heap.size + 1, 0, none⟩) (Nat.le_succ _) (.bool true)
        have e0 := cell_kept R60 (grownBy_putObj' _ D (.deferred none)) (fun r e => by cases e; exact ⟨_, hK6, rfl⟩)
        have e1 := cell_kept R61 (grownBy_putObj' _ D (.deferred none)) (fun r e => by cases e; exact ⟨_, hK6, rfl⟩)
        have e2 := cell_kept Q60 (grownBy_putObj' _ D (.deferred none)) (fun r e => by cases e; exact ⟨_, hK6, rfl⟩)
        refine ⟨.tuple #[.agg #[.slice A1 (pgA s).length c1, .slice A2 (pgD s).length c2], .bool true], ?_, _, _, by rw [FF.out], by rw [FF.out, orH_yes, ← EA.out]; exact (((((H.o1.below hb5 (Nat.le_refl _)).turned (turned_setH _ w.heap.size 0 _) (fun k hk hm => by have := (H.o1.lt k hk).1; have := List.mem_singleton.1 hm; omega)).turned (turned_setH _ w.heap.size 1 _) (fun k hk hm => by have := (H.o1.lt k hk).1; have := List.mem_singleton.1 hm; omega)).turned (turned_setH _ (w.heap.size + 1) 0 _) (fun k hk hm => by have := (H.o1.lt k hk).1; have := List.mem_singleton.1 hm; omega)).kept (grownBy_putObj' _ D (.deferred none)) (fun r er => by cases er; exact .inr ⟨_, hK6, rfl⟩)).mono (by omega), by rw [FF.out, orH_yes, ← ED.out]; exact (((((H.o2.below hb5 (Nat.le_refl _)).turned (turned_setH _ w.heap.size 0 _) (fun k hk hm => by have := (H.o2.lt k hk).1; have := List.mem_singleton.1 hm; omega)).turned (turned_setH _ w.heap.size 1 _) (fun k hk hm => by have := (H.o2.lt k hk).1; have := List.mem_singleton.1 hm; omega)).turned (turned_setH _ (w.heap.size + 1) 0 _) (fun k hk hm => by have := (H.o2.lt k hk).1; have := List.mem_singleton.1 hm; omega)).kept (grownBy_putObj' _ D (.deferred none)) (fun r er => by cases er; exact .inr ⟨_, hK6, rfl⟩)).mono (by omega), H.ap, B6.trans (belowK_b (w := w) (Nat.le_refl _) _ D _ _ (by omega) hK6 rfl rfl)⟩
        simp [results, Tryd.f19, go_sem, e0, e1, e2]
      · have hF : phB s = false := by
          cases h : phB s
          · rfl
          · obtain ⟨_, e1, e2⟩ := ph_find h
            rw [e1, e2] at hT; exact absurd (ph_to h).2 hT
        have FF := Lib.hid hF
        clear hF hG
        generalize hoS (pgA s) (pgD s) = t at *
        have tb := text_ne hT
        have tb2 : (!(t.toList == s.toList)) = true := by rw [tb]; rfl
        gi_wp2_with fail
        refine ⟨trivial, (callsIn_wide.2 HT.out).mono ?_⟩
        rintro e w5 ⟨rfl, hb5⟩
        have hK5 : w5.heap[D]? = some (.deferred (some [])) := (hb5.block D (Array.getElem?_eq_some_iff.1 hK).1).trans hK
        have M5 := H.m.below hb5 H.m.lt
        have R5 := hr.below hb5 hr.lt
        have Q5 : Blk w5 (w.heap.size + 1) 4 #[.bool false] := boxed_below hq hb5 hq.lt
        obtain ⟨m0, m1⟩ := M5.two
        obtain ⟨r0, r1⟩ := R5.two
        have s0 := R5.frozen 0
        have s1' := R5.frozen 1
        have q0 : w5.cell? ⟨w.heap.size + 1, 0, none⟩ = some (.bool false) := Q5.cell 0
        have q1 := Q5.frozen 0
        have B5 := hB.trans (hb5.mono hB.size)
        gi_wp2_with fail
        have hK6 := ((KeepsOthers.setCell w5 ⟨w.heap.size, 0, none⟩ (.slice none 0 0)).trans ((KeepsOthers.setCell _ ⟨w.heap.size, 1, none⟩ (.slice none 0 0)).trans (KeepsOthers.setCell _ ⟨w.heap.size + 1, 0, none⟩ (.bool false)))).same D _ hK5 rfl
        refine ⟨by simp, .inl ⟨_, _, rfl, run_takeDeferred hK6, ?_⟩⟩
        have R6 := ((R5.set_ 0 (.slice none 0 0)).set_ 1 (.slice none 0 0)).far (p := ⟨w.heap.size + 1, 0, none⟩) (by show w.heap.size ≠ w.heap.size + 1; omega) (.bool false)
        have Q6 := ((Q5.far (p := ⟨w.heap.size, 0, none⟩) (by show w.heap.size + 1 ≠ w.heap.size; omega) (.slice none 0 0)).far (p := ⟨w.heap.size, 1, none⟩) (by show w.heap.size + 1 ≠ w.heap.size; omega) (.slice none 0 0)).set_ 0 (.bool false)
        have R60 := R6.cell 0
        have R61 := R6.cell 1
        have Q60 := Q6.cell 0
        have B6 := ((B5.setCell (p := ⟨w.heap.size, 0, none⟩) (Nat.le_refl _) (.slice none 0 0)).setCell (p := ⟨w.heap.size, 1, none⟩) (Nat.le_refl _) (.slice none 0 0)).setCell (p := ⟨w.heap.size + 1, 0, none⟩) (Nat.le_succ _) (.bool false)
        have e0 := cell_kept R60 (grownBy_putObj' _ D (.deferred none)) (fun r e => by cases e; exact ⟨_, hK6, rfl⟩)
        have e1 := cell_kept R61 (grownBy_putObj' _ D (.deferred none)) (fun r e => by cases e; exact ⟨_, hK6, rfl⟩)
        have e2 := cell_kept Q60 (grownBy_putObj' _ D (.deferred none)) (fun r e => by cases e; exact ⟨_, hK6, rfl⟩)
        refine ⟨.tuple #[.agg #[.slice none 0 0, .slice none 0 0], .bool false], ?_, _, _, by rw [FF.out], by rw [FF.out]; exact OwnI.nil _ _, by rw [FF.out]; exact OwnI.nil _ _, Apart.nil _, B6.trans (belowK_b (w := w) (Nat.le_refl _) _ D _ _ (by omega) hK6 rfl rfl)⟩
        simp [results, Tryd.f19, go_sem, e0, e1, e2]
  case stop =>
    rintro D j pre W hD hS ⟨⟨⟨⟨rfl, x, hx, hno⟩, hr⟩, hq⟩, hB⟩ hK
    have EN := Lib.hid (PN.out x.1 (hS x hx) hno)
    gi_wp2_with fail
    refine ⟨by simp, .inl ⟨_, _, rfl, run_takeDeferred hK, ?_⟩⟩
    obtain ⟨r0, r1⟩ := hr.two
    have e0 := cell_kept r0 (grownBy_putObj' _ D (.deferred none)) (fun r e => by cases e; exact ⟨_, hK, rfl⟩)
    have e1 := cell_kept r1 (grownBy_putObj' _ D (.deferred none)) (fun r e => by cases e; exact ⟨_, hK, rfl⟩)
    have e2 := cell_kept hq.cell (grownBy_putObj' _ D (.deferred none)) (fun r e => by cases e; exact ⟨_, hK, rfl⟩)
    refine ⟨.tuple #[.agg #[.slice none 0 0, .slice none 0 0], .bool false], ?_, _, _, by rw [EN.out], by rw [EN.out]; exact OwnI.nil _ _, by rw [EN.out]; exact OwnI.nil _ _, Apart.nil _, hB.trans (belowK_b (w := w) (Nat.le_refl _) _ D _ _ (by omega) hK rfl rfl)⟩
    simp [results, Tryd.f19, go_sem, e0, e1, e2]

end Go.Proofs.YtenhlppijpmdgaaDoor
