/- CountByEnd: the program, beside leavers. -/
import Derived.Test.YtcnellnpnlcodaaBaSu
set_option linter.unusedSimpArgs false
namespace Go.Proofs.Ytcnellnpnlcodaa
open Go.Conc Go.RowKit

theorem resultsC_tmp4 {P : Program} {fn : Func} {t u v x : Tmp} (h : fn.results = #[.tmp t, .tmp u, .tmp v, .tmp x]) (tmps : Array Value) : ResultsC P fn tmps (.tuple #[tmps.getD t undef, tmps.getD u undef, tmps.getD v undef, tmps.getD x undef]) := fun w => ⟨results_tmp4 h _ P w, by simp [results, h]⟩

set_option maxRecDepth 100000 in
set_option maxHeartbeats 8000000 in
theorem implCount_m (A0 : Option Addr) (c0 : Nat) (xs : List Int) (B : Nat) (w : World) (hr : Rd w B A0 c0 xs) (hB : B ≤ w.heap.size) (hn : xs.length ≤ 1048576) :
    CallsM Try.prog .aside 33 #[.slice A0 xs.length c0] w fun x w' => x = .tuple #[.int .i64 (cntE xs ⟨#[97]⟩), .int .i64 (cntE xs ⟨#[98]⟩), .int .i64 (cntE xs ⟨#[108]⟩), .bool (jumpsB xs)] ∧ Below w.heap.size w w' := by
  refine callsM_of Try.func33 rfl ?_
  simp only [Try.ntmps33, List.size_toArray, List.length_cons, List.length_nil, Nat.reduceAdd, Nat.reduceSub, Array.replicate_succ, Array.replicate_zero, List.push_toArray, List.append_toArray, List.nil_append, List.cons_append]
  repeat (first | ((first | refine WpM.seq ?_ | refine WpM.block ?_ | refine WpM.region ?_ | refine WpM.region_end ?_ | refine WpM.ret ?_ | refine WpM.skip ?_ | refine WpM.exit ?_); try simp only [thenM, inBlockM, if_true, if_false, reduceIte, Nat.reduceEqDiff, List.size_toArray, List.length_cons, List.length_nil, Nat.reduceAdd, Nat.zero_add, List.range, List.range.loop]) | (refine WpM.op_k rfl (by rfl) ?_; intro zu zR; obtain ⟨dd, zh⟩ := zR; subst zh; (try simp only [at_at']); intro zK zhK; go_simp; (try (unfold stored; go_simp)); refine zhK _ _ ⟨?_, ?_⟩; (focus (refine m_idle ?_; simp [go_sem, Instr.field, asAgg]; done)); clear zhK zK; try walk_nrm) | fail)
  refine WpM.callL (vs := #[.slice A0 xs.length c0]) fns_ok no_early ⟨_, Try.func33, by rfl⟩ (by kernel_rfl) rfl rfl (by rfl) rfl Try.func55 (by rfl) (by rfl) (by simp [Act.eval]) (fun vv uu => vv = .bool (jumpsB xs) ∧ RW (w.at dd) uu) (lone_same (w := (w.at dd)) (V := .bool (jumpsB xs)) fun τ δ => impJumps_any A0 c0 xs B _ ⟨hr.1, hr.2⟩ hn) ?_; rintro _ _ ⟨rfl, d5, rfl⟩; (try walk_nrm); try simp only [at_at']
  cases hJ : jumpsB xs
  · have HT := fun E => show cntE xs E = 0 by simp [cntE, hJ]
    repeat (first | ((first | refine WpM.seq ?_ | refine WpM.block ?_ | refine WpM.region ?_ | refine WpM.region_end ?_ | refine WpM.ret ?_ | refine WpM.skip ?_ | refine WpM.exit ?_); try simp only [thenM, inBlockM, if_true, if_false, reduceIte, Nat.reduceEqDiff, List.size_toArray, List.length_cons, List.length_nil, Nat.reduceAdd, Nat.zero_add, List.range, List.range.loop]) | (refine WpM.op_k rfl (by rfl) ?_; intro zu zR; obtain ⟨dd, zh⟩ := zR; subst zh; (try simp only [at_at']); intro zK zhK; go_simp; (try (unfold stored; go_simp)); refine zhK _ _ ⟨?_, ?_⟩; (focus (refine m_idle ?_; simp [go_sem, Instr.field, asAgg]; done)); clear zhK zK; try walk_nrm) | fail)
    refine WpM.cond (t := true) (by simp [Act.eval]) ?_
    simp only [if_true]
    repeat (first | ((first | refine WpM.seq ?_ | refine WpM.block ?_ | refine WpM.region ?_ | refine WpM.region_end ?_ | refine WpM.ret ?_ | refine WpM.skip ?_ | refine WpM.exit ?_); try simp only [thenM, inBlockM, if_true, if_false, reduceIte, Nat.reduceEqDiff, List.size_toArray, List.length_cons, List.length_nil, Nat.reduceAdd, Nat.zero_add, List.range, List.range.loop]) | (refine WpM.op_k rfl (by rfl) ?_; intro zu zR; obtain ⟨dd, zh⟩ := zR; subst zh; (try simp only [at_at']); intro zK zhK; go_simp; (try (unfold stored; go_simp)); refine zhK _ _ ⟨?_, ?_⟩; (focus (refine m_idle ?_; simp [go_sem, Instr.field, asAgg]; done)); clear zhK zK; try walk_nrm) | fail)
    exact ⟨trivial, trivial, trivial, _, resultsC_tmp4 (by rfl) _, by rw [HT, HT, HT]; rfl, below_at (Below.refl _ _) _⟩
  · have HT := Lib.hid (fun E => show cntE xs E = ((selE xs E xs.length).length : Int) by simp [cntE, hJ])
    repeat (first | ((first | refine WpM.seq ?_ | refine WpM.block ?_ | refine WpM.region ?_ | refine WpM.region_end ?_ | refine WpM.ret ?_ | refine WpM.skip ?_ | refine WpM.exit ?_); try simp only [thenM, inBlockM, if_true, if_false, reduceIte, Nat.reduceEqDiff, List.size_toArray, List.length_cons, List.length_nil, Nat.reduceAdd, Nat.zero_add, List.range, List.range.loop]) | (refine WpM.op_k rfl (by rfl) ?_; intro zu zR; obtain ⟨dd, zh⟩ := zR; subst zh; (try simp only [at_at']); intro zK zhK; go_simp; (try (unfold stored; go_simp)); refine zhK _ _ ⟨?_, ?_⟩; (focus (refine m_idle ?_; simp [go_sem, Instr.field, asAgg]; done)); clear zhK zK; try walk_nrm) | fail)
    refine WpM.cond (t := false) (by simp [Act.eval]) ?_
    simp only [if_false, Bool.false_eq_true]
    repeat (first | ((first | refine WpM.seq ?_ | refine WpM.block ?_ | refine WpM.region ?_ | refine WpM.region_end ?_ | refine WpM.ret ?_ | refine WpM.skip ?_ | refine WpM.exit ?_); try simp only [thenM, inBlockM, if_true, if_false, reduceIte, Nat.reduceEqDiff, List.size_toArray, List.length_cons, List.length_nil, Nat.reduceAdd, Nat.zero_add, List.range, List.range.loop]) | (refine WpM.op_k rfl (by rfl) ?_; intro zu zR; obtain ⟨dd, zh⟩ := zR; subst zh; (try simp only [at_at']); intro zK zhK; go_simp; (try (unfold stored; go_simp)); refine zhK _ _ ⟨?_, ?_⟩; (focus (refine m_idle ?_; simp [go_sem, Instr.field, asAgg]; done)); clear zhK zK; try walk_nrm) | fail)
    refine WpM.callM rfl (by rfl) rfl Try.func57 (by rfl) (by rfl) (by simp [Act.eval]) (stepsBy_m A0 c0 xs ⟨#[97]⟩ B _ (rd_at (hr) _) (Nat.le_trans hB (Nat.le_refl _)) hJ) ?_
    rintro x1 u1 ⟨o1, hb0⟩
    have b1 : Below w.heap.size w u1 := ⟨hb0.os, hb0.tape, hb0.output, hb0.size, hb0.block⟩
    clear hb0
    obtain ⟨A1, k1, rfl, _⟩ := o1.form
    try walk_nrm
    repeat (first | ((first | refine WpM.seq ?_ | refine WpM.block ?_ | refine WpM.region ?_ | refine WpM.region_end ?_ | refine WpM.ret ?_ | refine WpM.skip ?_ | refine WpM.exit ?_); try simp only [thenM, inBlockM, if_true, if_false, reduceIte, Nat.reduceEqDiff, List.size_toArray, List.length_cons, List.length_nil, Nat.reduceAdd, Nat.zero_add, List.range, List.range.loop]) | (refine WpM.op_k rfl (by rfl) ?_; intro zu zR; obtain ⟨dd, zh⟩ := zR; subst zh; (try simp only [at_at']); intro zK zhK; go_simp; (try (unfold stored; go_simp)); refine zhK _ _ ⟨?_, ?_⟩; (focus (refine m_idle ?_; simp [go_sem, Instr.field, asAgg]; done)); clear zhK zK; try walk_nrm) | fail)
    refine WpM.callM rfl (by rfl) rfl Try.func57 (by rfl) (by rfl) (by simp [Act.eval]) (stepsBy_m A0 c0 xs ⟨#[98]⟩ B _ (rd_at (hr.below b1 hB) _) (Nat.le_trans hB b1.size) hJ) ?_
    rintro x2 u2 ⟨o2, hb0⟩
    have b2 : Below w.heap.size w u2 := (below_at b1 _).trans (hb0.mono b1.size)
    clear hb0
    obtain ⟨A2, k2, rfl, _⟩ := o2.form
    try walk_nrm
    repeat (first | ((first | refine WpM.seq ?_ | refine WpM.block ?_ | refine WpM.region ?_ | refine WpM.region_end ?_ | refine WpM.ret ?_ | refine WpM.skip ?_ | refine WpM.exit ?_); try simp only [thenM, inBlockM, if_true, if_false, reduceIte, Nat.reduceEqDiff, List.size_toArray, List.length_cons, List.length_nil, Nat.reduceAdd, Nat.zero_add, List.range, List.range.loop]) | (refine WpM.op_k rfl (by rfl) ?_; intro zu zR; obtain ⟨dd, zh⟩ := zR; subst zh; (try simp only [at_at']); intro zK zhK; go_simp; (try (unfold stored; go_simp)); refine zhK _ _ ⟨?_, ?_⟩; (focus (refine m_idle ?_; simp [go_sem, Instr.field, asAgg]; done)); clear zhK zK; try walk_nrm) | fail)
    refine WpM.callM rfl (by rfl) rfl Try.func57 (by rfl) (by rfl) (by simp [Act.eval]) (stepsBy_m A0 c0 xs ⟨#[108]⟩ B _ (rd_at (hr.below b2 hB) _) (Nat.le_trans hB b2.size) hJ) ?_
    rintro x3 u3 ⟨o3, hb0⟩
    have b3 : Below w.heap.size w u3 := (below_at b2 _).trans (hb0.mono b2.size)
    clear hb0
    obtain ⟨A3, k3, rfl, _⟩ := o3.form
    try walk_nrm
    repeat (first | ((first | refine WpM.seq ?_ | refine WpM.block ?_ | refine WpM.region ?_ | refine WpM.region_end ?_ | refine WpM.ret ?_ | refine WpM.skip ?_ | refine WpM.exit ?_); try simp only [thenM, inBlockM, if_true, if_false, reduceIte, Nat.reduceEqDiff, List.size_toArray, List.length_cons, List.length_nil, Nat.reduceAdd, Nat.zero_add, List.range, List.range.loop]) | (refine WpM.op_k rfl (by rfl) ?_; intro zu zR; obtain ⟨dd, zh⟩ := zR; subst zh; (try simp only [at_at']); intro zK zhK; go_simp; (try (unfold stored; go_simp)); refine zhK _ _ ⟨?_, ?_⟩; (focus (refine m_idle ?_; simp [go_sem, Instr.field, asAgg]; done)); clear zhK zK; try walk_nrm) | fail)
    exact ⟨trivial, trivial, trivial, _, resultsC_tmp4 (by rfl) _, by rw [HT.out, HT.out, HT.out]; rfl, below_at b3 _⟩

end Go.Proofs.Ytcnellnpnlcodaa
