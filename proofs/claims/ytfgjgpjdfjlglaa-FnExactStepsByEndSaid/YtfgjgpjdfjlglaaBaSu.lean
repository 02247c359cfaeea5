/- The steps with an end: the program, beside leavers. -/
import Derived.Test.YtfgjgpjdfjlglaaBaSt
import Derived.Test.YtfgjgpjdfjlglaaGnV
set_option linter.unusedSimpArgs false
namespace Go.Proofs.Ytfgjgpjdfjlglaa
open Go.Conc Go.RowKit

set_option maxRecDepth 100000 in
set_option maxHeartbeats 8000000 in
theorem endC_m (A0 : Option Addr) (c0 : Nat) (xs : List Int) (E : ByteArray) (k : Int) (g1 g2 B : Nat) (w : World) (hr : Rd w B A0 c0 xs) (hB : B ≤ w.heap.size) (hJ : jumpsB xs = true)
    (h1 : Blk w g1 22 #[.slice A0 xs.length c0]) (h2 : Blk w g2 9 #[.string E]) :
    CallsM Try.prog .aside 68 #[.int .i64 k, .pointer (some ⟨g1, 0, none⟩), .pointer (some ⟨g2, 0, none⟩)] w fun x w' => x = .bool (decide (endT xs k = E)) ∧ Below w.heap.size w w' := by
  have X1 : ∀ d, (w.at d).cell? ⟨g1, 0, none⟩ = some (.slice A0 xs.length c0) := fun _ => h1.cell 0
  have X2 : ∀ d, (w.at d).cell? ⟨g2, 0, none⟩ = some (.string E) := fun _ => h2.cell 0
  have HC := Lib.hid (fun d => course_m A0 c0 xs k B (w.at d) (rd_at hr _) hB hJ)
  have HX := Lib.hid (fun (u : World) (hb : Below w.heap.size w u) (d : Nat) => show (u.at d).cell? ⟨g2, 0, none⟩ = some (.string E) from (h2.below hb h2.lt).cell 0)
  have hlen := course_len hJ k
  have HV := Lib.hid (show decide (endT xs k = E) = ((⟨endS (courseB xs k).1 (courseB xs k).2⟩ : ByteArray).toList == E.toList) from (text_beq _ _).symm)
  generalize (courseB xs k).2 = p at *
  generalize (courseB xs k).1 = l at *
  have Bw : Below w.heap.size w w := Below.refl _ _
  clear h1 h2 hr hJ
  refine callsM_of Try.func68 rfl ?_
  simp only [Try.ntmps68, List.size_toArray, List.length_cons, List.length_nil, Nat.reduceAdd, Nat.reduceSub, Array.replicate_succ, Array.replicate_zero, List.push_toArray, List.append_toArray, List.nil_append, List.cons_append]
  iterate 5 (first | ((first | refine WpM.seq ?_ | refine WpM.block ?_ | refine WpM.region ?_ | refine WpM.region_end ?_ | refine WpM.ret ?_ | refine WpM.skip ?_ | refine WpM.exit ?_); try simp only [thenM, inBlockM, if_true, if_false, reduceIte, Nat.reduceEqDiff, List.size_toArray, List.length_cons, List.length_nil, Nat.reduceAdd, Nat.zero_add, List.range, List.range.loop]) | (refine WpM.op_k rfl (by rfl) ?_; intro zu zR; obtain ⟨dd, zh⟩ := zR; subst zh; (try simp only [at_at']); intro zK zhK; go_simp; (try (unfold stored; go_simp)); refine zhK _ _ ⟨?_, ?_⟩; (focus (refine m_idle ?_; simp [go_sem, Instr.field, asAgg]; done)); clear zhK zK; try walk_nrm) | fail)
  refine WpM.region_any (K := fun m a w => _) (by rfl) ?_ (fun _ _ _ h => h)
  change AnyM _ _ _ 7 _ _ _ _
  repeat' (first | (refine List.forall_mem_cons.2 ⟨?_, ?_⟩) | (exact List.forall_mem_nil _) | (refine anyM_all (rs := [0, 1, 4]) ?_ ?_ ?_; (focus (decide +kernel)); (focus simp)) | (refine anyM_all (rs := [1, 4]) ?_ ?_ ?_; (focus (decide +kernel)); (focus simp)) | (refine anyM_all (rs := [0, 4]) ?_ ?_ ?_; (focus (decide +kernel)); (focus simp)) | (refine anyM_all (rs := [0, 1]) ?_ ?_ ?_; (focus (decide +kernel)); (focus simp)) | (refine anyM_all (rs := [2, 4]) ?_ ?_ ?_; (focus (decide +kernel)); (focus simp)) | (refine anyM_all (rs := [3, 4]) ?_ ?_ ?_; (focus (decide +kernel)); (focus simp)) | (refine anyM_all (rs := [0]) ?_ ?_ ?_; (focus (decide +kernel)); (focus simp)) | (refine anyM_all (rs := [1]) ?_ ?_ ?_; (focus (decide +kernel)); (focus simp)) | (refine anyM_all (rs := [2]) ?_ ?_ ?_; (focus (decide +kernel)); (focus simp)) | (refine anyM_all (rs := [3]) ?_ ?_ ?_; (focus (decide +kernel)); (focus simp)) | (refine anyM_all (rs := [4]) ?_ ?_ ?_; (focus (decide +kernel)); (focus simp)) | (refine anyM_all (rs := [5]) ?_ ?_ ?_; (focus (decide +kernel)); (focus simp)) | (refine anyM_all (rs := [6]) ?_ ?_ ?_; (focus (decide +kernel)); (focus simp)) | (intro rest Q hQ; (first | (refine WpM.callM rfl (by rfl) rfl Try.func43 (by rfl) (by rfl) (by simp [Act.eval]) (HC.out _) ?_; rintro x u ⟨pv, rfl, ho, hb1⟩; have Bw : Below w.heap.size w u := ⟨hb1.os, hb1.tape, hb1.output, hb1.size, hb1.block⟩; have X2 := HX.out u Bw; have HE := Lib.hid (fun d => end_m pv _ l p (u.at d) (show OwnI (u.at d) _ pv l from ho) hlen); have HE0 := Lib.hid (end_m pv _ l p u ho hlen); clear ho hb1; try walk_nrm) | ((first | refine WpM.callM rfl (by rfl) rfl Try.func45 (by rfl) (by rfl) (by simp [Act.eval]) (HE.out _) ?_ | refine WpM.callM rfl (by rfl) rfl Try.func45 (by rfl) (by rfl) (by simp [Act.eval]) HE0.out ?_); rintro x v ⟨rfl, hb1⟩; have Bv : Below w.heap.size w v := Bw.trans ((show Below u.heap.size u v from ⟨hb1.os, hb1.tape, hb1.output, hb1.size, hb1.block⟩).mono Bw.size); have X2 := HX.out v Bv; have Bw := Bv; clear hb1 Bv; try walk_nrm) | (refine WpM.op_k rfl (by rfl) ?_; intro zu zR; obtain ⟨dd, zh⟩ := zR; subst zh; (try simp only [at_at']); intro zK zhK; (have hx := X1 dd); go_simp; (try (unfold stored; go_simp)); refine zhK _ _ ⟨?_, ?_⟩; (focus (refine Mode.look _ _ (looks_cells fun e he => ?_); have hm := mem_listed he; simp [go_sem, hx] at hm; exact ⟨_, hm⟩; done)); clear zhK zK; try walk_nrm) | (refine WpM.op_k rfl (by rfl) ?_; intro zu zR; obtain ⟨dd, zh⟩ := zR; subst zh; (try simp only [at_at']); intro zK zhK; (have hx := X2 dd); go_simp; (try (unfold stored; go_simp)); refine zhK _ _ ⟨?_, ?_⟩; (focus (refine Mode.look _ _ (looks_cells fun e he => ?_); have hm := mem_listed he; simp [go_sem, hx] at hm; exact ⟨_, hm⟩; done)); clear zhK zK; try walk_nrm) | (refine WpM.op_k rfl (by rfl) ?_; intro zu zR; obtain ⟨dd, zh⟩ := zR; subst zh; (try simp only [at_at']); intro zK zhK; go_simp; (try (unfold stored; go_simp)); refine zhK _ _ ⟨?_, ?_⟩; (focus (refine m_idle ?_; (first | (simp [go_sem]; done) | (simp [go_sem, binOp, Op.stringOp]; done) | rfl); done)); clear zhK zK; try walk_nrm)); refine hQ _ _ _ ?_; clear hQ rest Q))
  all_goals (refine anyM_done ?_; (try simp only [thenM, inBlockM, if_true, if_false, reduceIte, Nat.reduceEqDiff, List.size_toArray, List.length_cons, List.length_nil, Nat.reduceAdd, Nat.zero_add, List.range, List.range.loop]); repeat (first | ((first | refine WpM.seq ?_ | refine WpM.block ?_ | refine WpM.region ?_ | refine WpM.region_end ?_ | refine WpM.ret ?_ | refine WpM.skip ?_ | refine WpM.exit ?_); try simp only [thenM, inBlockM, if_true, if_false, reduceIte, Nat.reduceEqDiff, List.size_toArray, List.length_cons, List.length_nil, Nat.reduceAdd, Nat.zero_add, List.range, List.range.loop]) | (refine WpM.op_k rfl (by rfl) ?_; intro zu zR; obtain ⟨dd, zh⟩ := zR; subst zh; (try simp only [at_at']); intro zK zhK; go_simp; (try (unfold stored; go_simp)); refine zhK _ _ ⟨?_, ?_⟩; (focus (refine m_idle ?_; simp [go_sem, Instr.field, asAgg]; done)); clear zhK zK; try walk_nrm) | fail); exact ⟨trivial, trivial, trivial, _, resultsC_tmp (by rfl) _, by rw [HV.out]; rfl, below_at Bw _⟩)

set_option maxRecDepth 100000 in
set_option maxHeartbeats 8000000 in
theorem stepsE_m (A0 : Option Addr) (c0 : Nat) (xs : List Int) (E : ByteArray) (g1 g2 B : Nat) (w : World) (hr : Rd w B A0 c0 xs) (hB : B ≤ w.heap.size) (hJ : jumpsB xs = true)
    (h1 : Blk w g1 22 #[.slice A0 xs.length c0]) (h2 : Blk w g2 9 #[.string E]) :
    CallsM Try.prog .aside 67 #[.slice A0 xs.length c0, .func (.func 68) #[] #[.pointer (some ⟨g1, 0, none⟩), .pointer (some ⟨g2, 0, none⟩)]] w fun x w' => OwnI w' w.heap.size x (selE xs E xs.length) ∧ Below w.heap.size w w' := by
  have hl30 := jumpsB_le hJ
  refine callsM_of Try.func67 rfl ?_
  simp only [Try.ntmps67, List.size_toArray, List.length_cons, List.length_nil, Nat.reduceAdd, Nat.reduceSub, Array.replicate_succ, Array.replicate_zero, List.push_toArray, List.append_toArray, List.nil_append, List.cons_append]
  repeat (first | ((first | refine WpM.seq ?_ | refine WpM.block ?_ | refine WpM.region ?_ | refine WpM.region_end ?_ | refine WpM.ret ?_ | refine WpM.skip ?_ | refine WpM.exit ?_); try simp only [thenM, inBlockM, if_true, if_false, reduceIte, Nat.reduceEqDiff, List.size_toArray, List.length_cons, List.length_nil, Nat.reduceAdd, Nat.zero_add, List.range, List.range.loop]) | (refine WpM.op_k rfl (by rfl) ?_; intro zu zR; obtain ⟨dd, zh⟩ := zR; subst zh; (try simp only [at_at']); intro zK zhK; go_simp; (try (unfold stored; go_simp)); refine zhK _ _ ⟨?_, ?_⟩; (focus (refine m_idle ?_; simp [go_sem, Instr.field, asAgg]; done)); clear zhK zK; try walk_nrm) | fail)
  refine WpM.loop (fun j m' a' u => m' = .aside ∧ Below w.heap.size w u ∧ ∃ (i : Nat) (v u2 u3 u6 u10 u11 u12 u13 u14 u15 u16 u17 u18 u19 u20 : Value), OwnI u w.heap.size v (selE xs E i) ∧ i + j = xs.length ∧ a' = { tmps := #[.slice A0 xs.length c0, .func (.func 68) #[] #[.pointer (some ⟨g1, 0, none⟩), .pointer (some ⟨g2, 0, none⟩)], u2, u3, .slice none 0 0, v, u6, .slice A0 xs.length c0, .int .i64 xs.length, .int .i64 (i : Int), u10, u11, u12, u13, u14, u15, u16, u17, u18, u19, u20], defers := [] }) ?_ xs.length ⟨rfl, below_at (Below.refl _ _) _, 0, _, _, _, _, _, _, _, _, _, _, _, _, _, _, _, OwnI.nil _ _, by omega, rfl⟩
  rintro j m a' u0 ⟨rfl, hbw, i, v, u2, u3, u6, u10, u11, u12, u13, u14, u15, u16, u17, u18, u19, u20, hown, hij, rfl⟩
  have hw1 : i < xs.length → IntKind.i64.wrap ((i : Int) + 1) = ((i + 1 : Nat) : Int) := fun _ => IntWalk.i64_in _ (by omega)
  by_cases hlt : i < xs.length
  · have hlt' : (i : Int) < (xs.length : Int) := by omega
    replace hw1 := hw1 hlt
    repeat (first | ((first | refine WpM.seq ?_ | refine WpM.block ?_ | refine WpM.region ?_ | refine WpM.region_end ?_ | refine WpM.ret ?_ | refine WpM.skip ?_ | refine WpM.exit ?_); try simp only [thenM, inBlockM, if_true, if_false, reduceIte, Nat.reduceEqDiff, List.size_toArray, List.length_cons, List.length_nil, Nat.reduceAdd, Nat.zero_add, List.range, List.range.loop]) | (refine WpM.op_k rfl (by rfl) ?_; intro zu zR; obtain ⟨dd, zh⟩ := zR; subst zh; (try simp only [at_at']); intro zK zhK; go_simp; (try (unfold stored; go_simp)); refine zhK _ _ ⟨?_, ?_⟩; (focus (refine m_idle ?_; simp [go_sem, Instr.field, asAgg]; done)); clear zhK zK; try walk_nrm) | fail)
    refine WpM.cond (t := true) (by simp [Act.eval, hlt, hlt']) ?_
    simp only [if_true]
    repeat (first | ((first | refine WpM.seq ?_ | refine WpM.block ?_ | refine WpM.region ?_ | refine WpM.region_end ?_ | refine WpM.ret ?_ | refine WpM.skip ?_ | refine WpM.exit ?_); try simp only [thenM, inBlockM, if_true, if_false, reduceIte, Nat.reduceEqDiff, List.size_toArray, List.length_cons, List.length_nil, Nat.reduceAdd, Nat.zero_add, List.range, List.range.loop]) | (refine WpM.op_k rfl (by rfl) ?_; intro zu zR; obtain ⟨dd, zh⟩ := zR; subst zh; (try simp only [at_at']); intro zK zhK; go_simp; (try (unfold stored; go_simp)); refine zhK _ _ ⟨?_, ?_⟩; (focus (refine m_idle ?_; simp [go_sem, Instr.field, asAgg]; done)); clear zhK zK; try walk_nrm) | fail)
    refine WpM.callV (caps := #[.pointer (some ⟨g1, 0, none⟩), .pointer (some ⟨g2, 0, none⟩)]) rfl (by rfl) rfl rfl Try.func68 (by rfl) (by rfl) (by simp [Act.eval]) (endC_m A0 c0 xs E (i : Int) g1 g2 B (u0.at dd) (rd_at (hr.below hbw hB) _) (Nat.le_trans hB hbw.size) hJ (h1.below (below_at hbw _) h1.lt) (h2.below (below_at hbw _) h2.lt)) ?_
    rintro x u ⟨rfl, hb0⟩
    have hbu : Below w.heap.size w u := (below_at hbw _).trans (hb0.mono hbw.size)
    have hou : OwnI u w.heap.size v (selE xs E i) := (show OwnI (u0.at dd) _ _ _ from hown).below hb0 (Nat.le_refl _)
    clear hb0
    try walk_nrm
    have hkl := selE_length xs E i
    by_cases hp : endT xs (i : Int) = E
    · have HT := Lib.hid (selE_yes hp)
      rw [decide_eq_true hp]
      clear hp hown
      generalize selE xs E i = zs at *
      repeat (first | ((first | refine WpM.seq ?_ | refine WpM.block ?_ | refine WpM.region ?_ | refine WpM.region_end ?_ | refine WpM.ret ?_ | refine WpM.skip ?_ | refine WpM.exit ?_); try simp only [thenM, inBlockM, if_true, if_false, reduceIte, Nat.reduceEqDiff, List.size_toArray, List.length_cons, List.length_nil, Nat.reduceAdd, Nat.zero_add, List.range, List.range.loop]) | (refine WpM.op_k rfl (by rfl) ?_; intro zu zR; obtain ⟨dd, zh⟩ := zR; subst zh; (try simp only [at_at']); intro zK zhK; go_simp; (try (unfold stored; go_simp)); refine zhK _ _ ⟨?_, ?_⟩; (focus (refine m_idle ?_; simp [go_sem, Instr.field, asAgg]; done)); clear zhK zK; try walk_nrm) | fail)
      refine WpM.cond (t := true) (by simp [Act.eval]) ?_
      simp only [if_true]
      refine WpM.of_wp fns_ok no_early ⟨_, Try.func67, by rfl⟩ (by kernel_rfl) rfl (fun τ δ => ?_)
      have hoW : OwnI (re u τ δ) w.heap.size v zs := hou
      have hz : w.heap.size ≤ (re u τ δ).heap.size := hbu.size
      have HFIN := Lib.hid (fun (wr : World) (e : Nat) (h : Below w.heap.size (re u τ δ) wr) => show Below w.heap.size w (re wr u.tape e) from hbu.trans ⟨h.os, rfl, h.output, h.size, h.block⟩)
      generalize re u τ δ = W at *
      go_wp2_with (at_builtin; refine wpList_pushI _ rfl _ _ rfl w.heap.size _ zs rfl (hoW.alloc _) W.heap.size (i : Int) rfl (by simp) (by omega) (by simp; omega) ?_; intro A1 c1 w3 hown1 hg1)
      intro d1
      simp only [thenM, inBlockM, if_true, if_false, reduceIte, Nat.reduceEqDiff, List.size_toArray, List.length_cons, List.length_nil, Nat.reduceAdd, Nat.zero_add, List.range, List.range.loop]
      have hF := HFIN.out w3 d1 (((Below.refl w.heap.size W).alloc hz _).trans hg1)
      have hO : OwnI (re w3 u.tape d1) w.heap.size (.slice A1 (zs.length + 1) c1) (selE xs E (i + 1)) := by rw [HT.out]; exact hown1
      generalize re w3 u.tape d1 = V at *
      repeat (first | ((first | refine WpM.seq ?_ | refine WpM.block ?_ | refine WpM.region ?_ | refine WpM.region_end ?_ | refine WpM.ret ?_ | refine WpM.skip ?_ | refine WpM.exit ?_); try simp only [thenM, inBlockM, if_true, if_false, reduceIte, Nat.reduceEqDiff, List.size_toArray, List.length_cons, List.length_nil, Nat.reduceAdd, Nat.zero_add, List.range, List.range.loop]) | (refine WpM.op_k rfl (by rfl) ?_; intro zu zR; obtain ⟨dd, zh⟩ := zR; subst zh; (try simp only [at_at']); intro zK zhK; go_simp; (try (unfold stored; go_simp)); refine zhK _ _ ⟨?_, ?_⟩; (focus (refine m_idle ?_; simp [go_sem, Instr.field, asAgg]; done)); clear zhK zK; try walk_nrm) | fail)
      try simp only [hw1]
      exact ⟨j - 1, by omega, trivial, below_at hF _, i + 1, _, _, _, _, _, _, _, _, _, _, _, _, _, _, _, hO, by omega, rfl⟩
    · have HT := selE_no hp
      rw [decide_eq_false hp]
      repeat (first | ((first | refine WpM.seq ?_ | refine WpM.block ?_ | refine WpM.region ?_ | refine WpM.region_end ?_ | refine WpM.ret ?_ | refine WpM.skip ?_ | refine WpM.exit ?_); try simp only [thenM, inBlockM, if_true, if_false, reduceIte, Nat.reduceEqDiff, List.size_toArray, List.length_cons, List.length_nil, Nat.reduceAdd, Nat.zero_add, List.range, List.range.loop]) | (refine WpM.op_k rfl (by rfl) ?_; intro zu zR; obtain ⟨dd, zh⟩ := zR; subst zh; (try simp only [at_at']); intro zK zhK; go_simp; (try (unfold stored; go_simp)); refine zhK _ _ ⟨?_, ?_⟩; (focus (refine m_idle ?_; simp [go_sem, Instr.field, asAgg]; done)); clear zhK zK; try walk_nrm) | fail)
      refine WpM.cond (t := false) (by simp [Act.eval]) ?_
      simp only [if_false, Bool.false_eq_true]
      repeat (first | ((first | refine WpM.seq ?_ | refine WpM.block ?_ | refine WpM.region ?_ | refine WpM.region_end ?_ | refine WpM.ret ?_ | refine WpM.skip ?_ | refine WpM.exit ?_); try simp only [thenM, inBlockM, if_true, if_false, reduceIte, Nat.reduceEqDiff, List.size_toArray, List.length_cons, List.length_nil, Nat.reduceAdd, Nat.zero_add, List.range, List.range.loop]) | (refine WpM.op_k rfl (by rfl) ?_; intro zu zR; obtain ⟨dd, zh⟩ := zR; subst zh; (try simp only [at_at']); intro zK zhK; go_simp; (try (unfold stored; go_simp)); refine zhK _ _ ⟨?_, ?_⟩; (focus (refine m_idle ?_; simp [go_sem, Instr.field, asAgg]; done)); clear zhK zK; try walk_nrm) | fail)
      try simp only [hw1]
      exact ⟨j - 1, by omega, trivial, below_at hbu _, i + 1, _, _, _, _, _, _, _, _, _, _, _, _, _, _, _, by rw [HT]; exact hou, by omega, rfl⟩
  · obtain rfl : i = xs.length := by omega
    repeat (first | ((first | refine WpM.seq ?_ | refine WpM.block ?_ | refine WpM.region ?_ | refine WpM.region_end ?_ | refine WpM.ret ?_ | refine WpM.skip ?_ | refine WpM.exit ?_); try simp only [thenM, inBlockM, if_true, if_false, reduceIte, Nat.reduceEqDiff, List.size_toArray, List.length_cons, List.length_nil, Nat.reduceAdd, Nat.zero_add, List.range, List.range.loop]) | (refine WpM.op_k rfl (by rfl) ?_; intro zu zR; obtain ⟨dd, zh⟩ := zR; subst zh; (try simp only [at_at']); intro zK zhK; go_simp; (try (unfold stored; go_simp)); refine zhK _ _ ⟨?_, ?_⟩; (focus (refine m_idle ?_; simp [go_sem, Instr.field, asAgg]; done)); clear zhK zK; try walk_nrm) | fail)
    refine WpM.cond (t := false) (by simp [Act.eval]) ?_
    simp only [if_false, Bool.false_eq_true]
    repeat (first | ((first | refine WpM.seq ?_ | refine WpM.block ?_ | refine WpM.region ?_ | refine WpM.region_end ?_ | refine WpM.ret ?_ | refine WpM.skip ?_ | refine WpM.exit ?_); try simp only [thenM, inBlockM, if_true, if_false, reduceIte, Nat.reduceEqDiff, List.size_toArray, List.length_cons, List.length_nil, Nat.reduceAdd, Nat.zero_add, List.range, List.range.loop]) | (refine WpM.op_k rfl (by rfl) ?_; intro zu zR; obtain ⟨dd, zh⟩ := zR; subst zh; (try simp only [at_at']); intro zK zhK; go_simp; (try (unfold stored; go_simp)); refine zhK _ _ ⟨?_, ?_⟩; (focus (refine m_idle ?_; simp [go_sem, Instr.field, asAgg]; done)); clear zhK zK; try walk_nrm) | fail)
    exact ⟨trivial, trivial, trivial, _, resultsC_tmp (by rfl) _, by exact hown, below_at hbw _⟩

set_option maxRecDepth 100000 in
set_option maxHeartbeats 8000000 in
theorem stepsBy_m (A0 : Option Addr) (c0 : Nat) (xs : List Int) (E : ByteArray) (B : Nat) (w : World) (hr : Rd w B A0 c0 xs) (hB : B ≤ w.heap.size) (hJ : jumpsB xs = true) :
    CallsM Try.prog .aside 57 #[.slice A0 xs.length c0, .string E] w fun x w' => OwnI w' w.heap.size x (selE xs E xs.length) ∧ Below w.heap.size w w' := by
  refine callsM_of Try.func57 rfl ?_
  simp only [Try.ntmps57, List.size_toArray, List.length_cons, List.length_nil, Nat.reduceAdd, Nat.reduceSub, Array.replicate_succ, Array.replicate_zero, List.push_toArray, List.append_toArray, List.nil_append, List.cons_append]
  iterate 2 (first | ((first | refine WpM.seq ?_ | refine WpM.block ?_ | refine WpM.region ?_ | refine WpM.region_end ?_ | refine WpM.ret ?_ | refine WpM.skip ?_ | refine WpM.exit ?_); try simp only [thenM, inBlockM, if_true, if_false, reduceIte, Nat.reduceEqDiff, List.size_toArray, List.length_cons, List.length_nil, Nat.reduceAdd, Nat.zero_add, List.range, List.range.loop]) | (refine WpM.op_k rfl (by rfl) ?_; intro zu zR; obtain ⟨dd, zh⟩ := zR; subst zh; (try simp only [at_at']); intro zK zhK; go_simp; (try (unfold stored; go_simp)); refine zhK _ _ ⟨?_, ?_⟩; (focus (refine m_idle ?_; simp [go_sem, Instr.field, asAgg]; done)); clear zhK zK; try walk_nrm) | fail)
  (refine WpM.op_k rfl (by rfl) ?_; intro zu zR; obtain ⟨dd, zh⟩ := zR; subst zh; (try simp only [at_at']); intro zK zhK; go_simp; (try (unfold stored; go_simp)); refine zhK _ _ ⟨?_, ?_⟩; (focus (exact d_alloc (listed_nil (by simp [go_sem])); done)); clear zhK zK; try walk_nrm)
  have hG1 : Blk ((w.at dd).alloc (.cells #[.slice A0 xs.length c0] 22)) w.heap.size 22 #[.slice A0 xs.length c0] := Blk.new (w.at dd) _ _
  have hb1 : Below w.heap.size w ((w.at dd).alloc (.cells #[.slice A0 xs.length c0] 22)) := (below_at (Below.refl _ _) dd).trans (below_alloc (w.at dd) _)
  have hs1 : ((w.at dd).alloc (.cells #[.slice A0 xs.length c0] 22)).heap.size = w.heap.size + 1 := by simp; rfl
  try simp only [at_size]
  generalize (w.at dd).alloc (.cells #[.slice A0 xs.length c0] 22) = U at *
  (refine WpM.op_k rfl (by rfl) ?_; intro zu zR; obtain ⟨ds, zh⟩ := zR; subst zh; (try simp only [at_at']); intro zK zhK; go_simp; (try (unfold stored; go_simp)); refine zhK _ _ ⟨?_, ?_⟩; (focus (exact d_alloc (listed_nil (by simp [go_sem])); done)); clear zhK zK; try walk_nrm)
  have hG2 : Blk ((U.at ds).alloc (.cells #[.string E] 9)) U.heap.size 9 #[.string E] := Blk.new (U.at ds) _ _
  have hb2 : Below U.heap.size U ((U.at ds).alloc (.cells #[.string E] 9)) := (below_at (Below.refl _ _) ds).trans (below_alloc (U.at ds) _)
  try simp only [at_size]
  have hG3 := hG1.below hb2 hG1.lt
  have hbw := hb1.trans (hb2.mono (by omega))
  generalize (U.at ds).alloc (.cells #[.string E] 9) = V at *
  generalize hg2 : U.heap.size = g2 at *
  clear hG1 hb1 hb2
  repeat (first | ((first | refine WpM.seq ?_ | refine WpM.block ?_ | refine WpM.region ?_ | refine WpM.region_end ?_ | refine WpM.ret ?_ | refine WpM.skip ?_ | refine WpM.exit ?_); try simp only [thenM, inBlockM, if_true, if_false, reduceIte, Nat.reduceEqDiff, List.size_toArray, List.length_cons, List.length_nil, Nat.reduceAdd, Nat.zero_add, List.range, List.range.loop]) | (refine WpM.op_k rfl (by rfl) ?_; intro zu zR; obtain ⟨dd, zh⟩ := zR; subst zh; (try simp only [at_at']); intro zK zhK; go_simp; (try (unfold stored; go_simp)); refine zhK _ _ ⟨?_, ?_⟩; (focus (refine m_idle ?_; simp [go_sem, Instr.field, asAgg]; done)); clear zhK zK; try walk_nrm) | fail)
  (refine WpM.op_k rfl (by rfl) ?_; intro zu zR; obtain ⟨dd, zh⟩ := zR; subst zh; (try simp only [at_at']); intro zK zhK; (have hx : (V.at dd).cell? ⟨w.heap.size, 0, none⟩ = some (.slice A0 xs.length c0) := hG3.cell 0); go_simp; (try (unfold stored; go_simp)); refine zhK _ _ ⟨?_, ?_⟩; (focus (refine Mode.look _ _ (looks_cells fun e he => ?_); have hm := mem_listed he; simp [go_sem, hx] at hm; exact ⟨_, hm⟩; done)); clear zhK zK; try walk_nrm)
  repeat (first | ((first | refine WpM.seq ?_ | refine WpM.block ?_ | refine WpM.region ?_ | refine WpM.region_end ?_ | refine WpM.ret ?_ | refine WpM.skip ?_ | refine WpM.exit ?_); try simp only [thenM, inBlockM, if_true, if_false, reduceIte, Nat.reduceEqDiff, List.size_toArray, List.length_cons, List.length_nil, Nat.reduceAdd, Nat.zero_add, List.range, List.range.loop]) | (refine WpM.op_k rfl (by rfl) ?_; intro zu zR; obtain ⟨dd, zh⟩ := zR; subst zh; (try simp only [at_at']); intro zK zhK; go_simp; (try (unfold stored; go_simp)); refine zhK _ _ ⟨?_, ?_⟩; (focus (refine m_idle ?_; simp [go_sem, Instr.field, asAgg]; done)); clear zhK zK; try walk_nrm) | fail)
  refine WpM.callM rfl (by rfl) rfl Try.func67 (by rfl) (by rfl) (by simp [Act.eval]) (stepsE_m A0 c0 xs E w.heap.size g2 B (V.at dd) (rd_at (hr.below hbw hB) _) (Nat.le_trans hB hbw.size) hJ hG3 hG2) ?_
  rintro x u ⟨ho, hb0⟩
  have hbu : Below w.heap.size w u := (below_at hbw _).trans (hb0.mono hbw.size)
  have hou : OwnI u w.heap.size x (selE xs E xs.length) := ho.mono hbw.size
  clear hb0 ho
  try walk_nrm
  repeat (first | ((first | refine WpM.seq ?_ | refine WpM.block ?_ | refine WpM.region ?_ | refine WpM.region_end ?_ | refine WpM.ret ?_ | refine WpM.skip ?_ | refine WpM.exit ?_); try simp only [thenM, inBlockM, if_true, if_false, reduceIte, Nat.reduceEqDiff, List.size_toArray, List.length_cons, List.length_nil, Nat.reduceAdd, Nat.zero_add, List.range, List.range.loop]) | (refine WpM.op_k rfl (by rfl) ?_; intro zu zR; obtain ⟨dd, zh⟩ := zR; subst zh; (try simp only [at_at']); intro zK zhK; go_simp; (try (unfold stored; go_simp)); refine zhK _ _ ⟨?_, ?_⟩; (focus (refine m_idle ?_; simp [go_sem, Instr.field, asAgg]; done)); clear zhK zK; try walk_nrm) | fail)
  exact ⟨trivial, trivial, trivial, _, resultsC_tmp (by rfl) _, by exact hou, below_at hbu _⟩

end Go.Proofs.Ytfgjgpjdfjlglaa
