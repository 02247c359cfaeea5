/- The law FnExactStepsByEnd beside leavers. -/
import Derived.Test.YtfgjgpjdfjlglaaBaSu
import Derived.Test.YtfgjgpjdfjlglaaGnT
set_option linter.unusedSimpArgs false
namespace Go.Proofs.Ytfgjgpjdfjlglaa
open Go.Conc Go.RowKit

set_option maxRecDepth 100000 in
set_option maxHeartbeats 8000000 in
theorem implSteps_m (A0 : Option Addr) (c0 : Nat) (xs : List Int) (E : ByteArray) (B : Nat) (w : World) (hr : Rd w B A0 c0 xs) (hB : B ≤ w.heap.size) (hn : xs.length ≤ 1048576) :
    CallsM Try.prog .aside 35 #[.slice A0 xs.length c0, .string E] w fun x w' => ∃ pv, x = .tuple #[pv, .bool (jumpsB xs && isE E)] ∧ OwnI w' w.heap.size pv (sbR xs E) ∧ Below w.heap.size w w' := by
  have q1 := text_beq E ⟨#[97]⟩
  have q2 := text_beq E ⟨#[98]⟩
  have q3 := text_beq E ⟨#[108]⟩
  refine callsM_of Try.func35 rfl ?_
  simp only [Try.ntmps35, List.size_toArray, List.length_cons, List.length_nil, Nat.reduceAdd, Nat.reduceSub, Array.replicate_succ, Array.replicate_zero, List.push_toArray, List.append_toArray, List.nil_append, List.cons_append]
  repeat (first | ((first | refine WpM.seq ?_ | refine WpM.block ?_ | refine WpM.region ?_ | refine WpM.region_end ?_ | refine WpM.ret ?_ | refine WpM.skip ?_ | refine WpM.exit ?_); try simp only [thenM, inBlockM, if_true, if_false, reduceIte, Nat.reduceEqDiff, List.size_toArray, List.length_cons, List.length_nil, Nat.reduceAdd, Nat.zero_add, List.range, List.range.loop]) | (refine WpM.op_k rfl (by rfl) ?_; intro zu zR; obtain ⟨dd, zh⟩ := zR; subst zh; (try simp only [at_at']); intro zK zhK; go_simp; (try (unfold stored; go_simp)); refine zhK _ _ ⟨?_, ?_⟩; (focus (refine m_idle ?_; simp [go_sem, Instr.field, asAgg]; done)); clear zhK zK; try walk_nrm) | fail)
  refine WpM.callL (vs := #[.slice A0 xs.length c0]) fns_ok no_early ⟨_, Try.func35, by rfl⟩ (by kernel_rfl) rfl rfl (by rfl) rfl Try.func55 (by rfl) (by rfl) (by simp [Act.eval]) (fun vv uu => vv = .bool (jumpsB xs) ∧ RW (w.at dd) uu) (lone_same (w := (w.at dd)) (V := .bool (jumpsB xs)) fun τ δ => impJumps_any A0 c0 xs B _ ⟨hr.1, hr.2⟩ hn) ?_; rintro _ _ ⟨rfl, d5, rfl⟩; (try walk_nrm); try simp only [at_at']
  cases hJ : jumpsB xs
  · have HT := Lib.hid (show sbR xs E = [] by simp [sbR, hJ])
    clear q1 q2 q3
    repeat (first | ((first | refine WpM.seq ?_ | refine WpM.block ?_ | refine WpM.region ?_ | refine WpM.region_end ?_ | refine WpM.ret ?_ | refine WpM.skip ?_ | refine WpM.exit ?_); try simp only [thenM, inBlockM, if_true, if_false, reduceIte, Nat.reduceEqDiff, List.size_toArray, List.length_cons, List.length_nil, Nat.reduceAdd, Nat.zero_add, List.range, List.range.loop]) | (refine WpM.unwanted rfl (by rfl) ?_; try walk_nrm) | ((refine WpM.op_k rfl (by rfl) ?_; intro zu zR; obtain ⟨dd, zh⟩ := zR; subst zh; (try simp only [at_at']); intro zK zhK; go_simp; (try (unfold stored; go_simp)); refine zhK _ _ ⟨?_, ?_⟩; (focus (refine m_idle ?_; (first | (simp [go_sem]; done) | (simp [go_sem, binOp, Op.stringOp]; done)); done)); clear zhK zK; try walk_nrm)))
    refine WpM.cond (t := true) (by simp [Act.eval]) ?_
    simp only [if_true]
    repeat (first | ((first | refine WpM.seq ?_ | refine WpM.block ?_ | refine WpM.region ?_ | refine WpM.region_end ?_ | refine WpM.ret ?_ | refine WpM.skip ?_ | refine WpM.exit ?_); try simp only [thenM, inBlockM, if_true, if_false, reduceIte, Nat.reduceEqDiff, List.size_toArray, List.length_cons, List.length_nil, Nat.reduceAdd, Nat.zero_add, List.range, List.range.loop]) | (refine WpM.op_k rfl (by rfl) ?_; intro zu zR; obtain ⟨dd, zh⟩ := zR; subst zh; (try simp only [at_at']); intro zK zhK; go_simp; (try (unfold stored; go_simp)); refine zhK _ _ ⟨?_, ?_⟩; (focus (refine m_idle ?_; simp [go_sem, Instr.field, asAgg]; done)); clear zhK zK; try walk_nrm) | fail)
    exact ⟨trivial, trivial, trivial, _, resultsC_tmp2 (by rfl) _, _, rfl, by rw [HT.out]; exact OwnI.nil _ _, below_at (Below.refl _ _) _⟩
  · by_cases h1 : E = ⟨#[97]⟩ ∨ E = ⟨#[98]⟩ ∨ E = ⟨#[108]⟩
    · have hi : isE E = true := by simp [isE, h1]
      have HT := Lib.hid (show sbR xs E = selE xs E xs.length by simp [sbR, hJ, hi])
      rw [hi]
      clear hi
      rcases h1 with rfl | rfl | rfl
      · clear q1 q2 q3
        repeat (first | ((first | refine WpM.seq ?_ | refine WpM.block ?_ | refine WpM.region ?_ | refine WpM.region_end ?_ | refine WpM.ret ?_ | refine WpM.skip ?_ | refine WpM.exit ?_); try simp only [thenM, inBlockM, if_true, if_false, reduceIte, Nat.reduceEqDiff, List.size_toArray, List.length_cons, List.length_nil, Nat.reduceAdd, Nat.zero_add, List.range, List.range.loop]) | (refine WpM.unwanted rfl (by rfl) ?_; try walk_nrm) | ((refine WpM.op_k rfl (by rfl) ?_; intro zu zR; obtain ⟨dd, zh⟩ := zR; subst zh; (try simp only [at_at']); intro zK zhK; go_simp; (try (unfold stored; go_simp)); refine zhK _ _ ⟨?_, ?_⟩; (focus (refine m_idle ?_; (first | (simp [go_sem]; done) | (simp [go_sem, binOp, Op.stringOp]; done)); done)); clear zhK zK; try walk_nrm)))
        refine WpM.cond (t := false) (by simp [Act.eval]) ?_
        simp only [if_false, Bool.false_eq_true]
        repeat (first | ((first | refine WpM.seq ?_ | refine WpM.block ?_ | refine WpM.region ?_ | refine WpM.region_end ?_ | refine WpM.ret ?_ | refine WpM.skip ?_ | refine WpM.exit ?_); try simp only [thenM, inBlockM, if_true, if_false, reduceIte, Nat.reduceEqDiff, List.size_toArray, List.length_cons, List.length_nil, Nat.reduceAdd, Nat.zero_add, List.range, List.range.loop]) | (refine WpM.op_k rfl (by rfl) ?_; intro zu zR; obtain ⟨dd, zh⟩ := zR; subst zh; (try simp only [at_at']); intro zK zhK; go_simp; (try (unfold stored; go_simp)); refine zhK _ _ ⟨?_, ?_⟩; (focus (refine m_idle ?_; simp [go_sem, Instr.field, asAgg]; done)); clear zhK zK; try walk_nrm) | fail)
        refine WpM.callM rfl (by rfl) rfl Try.func57 (by rfl) (by rfl) (by simp [Act.eval]) (stepsBy_m A0 c0 xs ⟨#[97]⟩ B _ (rd_at hr _) hB hJ) ?_
        rintro x1 u1 ⟨o1, hb0⟩
        have b1 : Below w.heap.size w u1 := ⟨hb0.os, hb0.tape, hb0.output, hb0.size, hb0.block⟩
        clear hb0
        try walk_nrm
        repeat (first | ((first | refine WpM.seq ?_ | refine WpM.block ?_ | refine WpM.region ?_ | refine WpM.region_end ?_ | refine WpM.ret ?_ | refine WpM.skip ?_ | refine WpM.exit ?_); try simp only [thenM, inBlockM, if_true, if_false, reduceIte, Nat.reduceEqDiff, List.size_toArray, List.length_cons, List.length_nil, Nat.reduceAdd, Nat.zero_add, List.range, List.range.loop]) | (refine WpM.op_k rfl (by rfl) ?_; intro zu zR; obtain ⟨dd, zh⟩ := zR; subst zh; (try simp only [at_at']); intro zK zhK; go_simp; (try (unfold stored; go_simp)); refine zhK _ _ ⟨?_, ?_⟩; (focus (refine m_idle ?_; simp [go_sem, Instr.field, asAgg]; done)); clear zhK zK; try walk_nrm) | fail)
        exact ⟨trivial, trivial, trivial, _, resultsC_tmp2 (by rfl) _, _, rfl, by rw [HT.out]; exact o1, below_at b1 _⟩
      · clear q1 q2 q3
        repeat (first | ((first | refine WpM.seq ?_ | refine WpM.block ?_ | refine WpM.region ?_ | refine WpM.region_end ?_ | refine WpM.ret ?_ | refine WpM.skip ?_ | refine WpM.exit ?_); try simp only [thenM, inBlockM, if_true, if_false, reduceIte, Nat.reduceEqDiff, List.size_toArray, List.length_cons, List.length_nil, Nat.reduceAdd, Nat.zero_add, List.range, List.range.loop]) | (refine WpM.unwanted rfl (by rfl) ?_; try walk_nrm) | ((refine WpM.op_k rfl (by rfl) ?_; intro zu zR; obtain ⟨dd, zh⟩ := zR; subst zh; (try simp only [at_at']); intro zK zhK; go_simp; (try (unfold stored; go_simp)); refine zhK _ _ ⟨?_, ?_⟩; (focus (refine m_idle ?_; (first | (simp [go_sem]; done) | (simp [go_sem, binOp, Op.stringOp]; done)); done)); clear zhK zK; try walk_nrm)))
        refine WpM.cond (t := false) (by simp [Act.eval]) ?_
        simp only [if_false, Bool.false_eq_true]
        repeat (first | ((first | refine WpM.seq ?_ | refine WpM.block ?_ | refine WpM.region ?_ | refine WpM.region_end ?_ | refine WpM.ret ?_ | refine WpM.skip ?_ | refine WpM.exit ?_); try simp only [thenM, inBlockM, if_true, if_false, reduceIte, Nat.reduceEqDiff, List.size_toArray, List.length_cons, List.length_nil, Nat.reduceAdd, Nat.zero_add, List.range, List.range.loop]) | (refine WpM.op_k rfl (by rfl) ?_; intro zu zR; obtain ⟨dd, zh⟩ := zR; subst zh; (try simp only [at_at']); intro zK zhK; go_simp; (try (unfold stored; go_simp)); refine zhK _ _ ⟨?_, ?_⟩; (focus (refine m_idle ?_; simp [go_sem, Instr.field, asAgg]; done)); clear zhK zK; try walk_nrm) | fail)
        refine WpM.callM rfl (by rfl) rfl Try.func57 (by rfl) (by rfl) (by simp [Act.eval]) (stepsBy_m A0 c0 xs ⟨#[98]⟩ B _ (rd_at hr _) hB hJ) ?_
        rintro x1 u1 ⟨o1, hb0⟩
        have b1 : Below w.heap.size w u1 := ⟨hb0.os, hb0.tape, hb0.output, hb0.size, hb0.block⟩
        clear hb0
        try walk_nrm
        repeat (first | ((first | refine WpM.seq ?_ | refine WpM.block ?_ | refine WpM.region ?_ | refine WpM.region_end ?_ | refine WpM.ret ?_ | refine WpM.skip ?_ | refine WpM.exit ?_); try simp only [thenM, inBlockM, if_true, if_false, reduceIte, Nat.reduceEqDiff, List.size_toArray, List.length_cons, List.length_nil, Nat.reduceAdd, Nat.zero_add, List.range, List.range.loop]) | (refine WpM.op_k rfl (by rfl) ?_; intro zu zR; obtain ⟨dd, zh⟩ := zR; subst zh; (try simp only [at_at']); intro zK zhK; go_simp; (try (unfold stored; go_simp)); refine zhK _ _ ⟨?_, ?_⟩; (focus (refine m_idle ?_; simp [go_sem, Instr.field, asAgg]; done)); clear zhK zK; try walk_nrm) | fail)
        exact ⟨trivial, trivial, trivial, _, resultsC_tmp2 (by rfl) _, _, rfl, by rw [HT.out]; exact o1, below_at b1 _⟩
      · clear q1 q2 q3
        repeat (first | ((first | refine WpM.seq ?_ | refine WpM.block ?_ | refine WpM.region ?_ | refine WpM.region_end ?_ | refine WpM.ret ?_ | refine WpM.skip ?_ | refine WpM.exit ?_); try simp only [thenM, inBlockM, if_true, if_false, reduceIte, Nat.reduceEqDiff, List.size_toArray, List.length_cons, List.length_nil, Nat.reduceAdd, Nat.zero_add, List.range, List.range.loop]) | (refine WpM.unwanted rfl (by rfl) ?_; try walk_nrm) | ((refine WpM.op_k rfl (by rfl) ?_; intro zu zR; obtain ⟨dd, zh⟩ := zR; subst zh; (try simp only [at_at']); intro zK zhK; go_simp; (try (unfold stored; go_simp)); refine zhK _ _ ⟨?_, ?_⟩; (focus (refine m_idle ?_; (first | (simp [go_sem]; done) | (simp [go_sem, binOp, Op.stringOp]; done)); done)); clear zhK zK; try walk_nrm)))
        refine WpM.cond (t := false) (by simp [Act.eval]) ?_
        simp only [if_false, Bool.false_eq_true]
        repeat (first | ((first | refine WpM.seq ?_ | refine WpM.block ?_ | refine WpM.region ?_ | refine WpM.region_end ?_ | refine WpM.ret ?_ | refine WpM.skip ?_ | refine WpM.exit ?_); try simp only [thenM, inBlockM, if_true, if_false, reduceIte, Nat.reduceEqDiff, List.size_toArray, List.length_cons, List.length_nil, Nat.reduceAdd, Nat.zero_add, List.range, List.range.loop]) | (refine WpM.op_k rfl (by rfl) ?_; intro zu zR; obtain ⟨dd, zh⟩ := zR; subst zh; (try simp only [at_at']); intro zK zhK; go_simp; (try (unfold stored; go_simp)); refine zhK _ _ ⟨?_, ?_⟩; (focus (refine m_idle ?_; simp [go_sem, Instr.field, asAgg]; done)); clear zhK zK; try walk_nrm) | fail)
        refine WpM.callM rfl (by rfl) rfl Try.func57 (by rfl) (by rfl) (by simp [Act.eval]) (stepsBy_m A0 c0 xs ⟨#[108]⟩ B _ (rd_at hr _) hB hJ) ?_
        rintro x1 u1 ⟨o1, hb0⟩
        have b1 : Below w.heap.size w u1 := ⟨hb0.os, hb0.tape, hb0.output, hb0.size, hb0.block⟩
        clear hb0
        try walk_nrm
        repeat (first | ((first | refine WpM.seq ?_ | refine WpM.block ?_ | refine WpM.region ?_ | refine WpM.region_end ?_ | refine WpM.ret ?_ | refine WpM.skip ?_ | refine WpM.exit ?_); try simp only [thenM, inBlockM, if_true, if_false, reduceIte, Nat.reduceEqDiff, List.size_toArray, List.length_cons, List.length_nil, Nat.reduceAdd, Nat.zero_add, List.range, List.range.loop]) | (refine WpM.op_k rfl (by rfl) ?_; intro zu zR; obtain ⟨dd, zh⟩ := zR; subst zh; (try simp only [at_at']); intro zK zhK; go_simp; (try (unfold stored; go_simp)); refine zhK _ _ ⟨?_, ?_⟩; (focus (refine m_idle ?_; simp [go_sem, Instr.field, asAgg]; done)); clear zhK zK; try walk_nrm) | fail)
        exact ⟨trivial, trivial, trivial, _, resultsC_tmp2 (by rfl) _, _, rfl, by rw [HT.out]; exact o1, below_at b1 _⟩
    · have hi : isE E = false := by simpa [isE] using h1
      have HT := Lib.hid (show sbR xs E = [] by simp [sbR, hi])
      rw [hi]
      rw [decide_eq_false (fun h => h1 (.inl h))] at q1
      rw [decide_eq_false (fun h => h1 (.inr (.inl h)))] at q2
      rw [decide_eq_false (fun h => h1 (.inr (.inr h)))] at q3
      have e1 : (⟨#[97]⟩ : ByteArray).toList = [97] := by decide +kernel
      have e2 : (⟨#[98]⟩ : ByteArray).toList = [98] := by decide +kernel
      have e3 : (⟨#[108]⟩ : ByteArray).toList = [108] := by decide +kernel
      rw [e1] at q1
      rw [e2] at q2
      rw [e3] at q3
      clear hi h1
      repeat (first | ((first | refine WpM.seq ?_ | refine WpM.block ?_ | refine WpM.region ?_ | refine WpM.region_end ?_ | refine WpM.ret ?_ | refine WpM.skip ?_ | refine WpM.exit ?_); try simp only [thenM, inBlockM, if_true, if_false, reduceIte, Nat.reduceEqDiff, List.size_toArray, List.length_cons, List.length_nil, Nat.reduceAdd, Nat.zero_add, List.range, List.range.loop]) | (refine WpM.unwanted rfl (by rfl) ?_; try walk_nrm) | ((refine WpM.op_k rfl (by rfl) ?_; intro zu zR; obtain ⟨dd, zh⟩ := zR; subst zh; (try simp only [at_at']); intro zK zhK; go_simp; (try (unfold stored; go_simp)); refine zhK _ _ ⟨?_, ?_⟩; (focus (refine m_idle ?_; (first | (simp [go_sem]; done) | (simp [go_sem, binOp, Op.stringOp]; done)); done)); clear zhK zK; try walk_nrm)))
      refine WpM.cond (t := true) (by simp [Act.eval]) ?_
      simp only [if_true]
      repeat (first | ((first | refine WpM.seq ?_ | refine WpM.block ?_ | refine WpM.region ?_ | refine WpM.region_end ?_ | refine WpM.ret ?_ | refine WpM.skip ?_ | refine WpM.exit ?_); try simp only [thenM, inBlockM, if_true, if_false, reduceIte, Nat.reduceEqDiff, List.size_toArray, List.length_cons, List.length_nil, Nat.reduceAdd, Nat.zero_add, List.range, List.range.loop]) | (refine WpM.op_k rfl (by rfl) ?_; intro zu zR; obtain ⟨dd, zh⟩ := zR; subst zh; (try simp only [at_at']); intro zK zhK; go_simp; (try (unfold stored; go_simp)); refine zhK _ _ ⟨?_, ?_⟩; (focus (refine m_idle ?_; simp [go_sem, Instr.field, asAgg]; done)); clear zhK zK; try walk_nrm) | fail)
      exact ⟨trivial, trivial, trivial, _, resultsC_tmp2 (by rfl) _, _, rfl, by rw [HT.out]; exact OwnI.nil _ _, below_at (Below.refl _ _) _⟩


/-- the functions that are walked for one goroutine alone -/
def Lb_stepsByEnd (f : FuncId) : Bool := [14, 16, 42, 55, 59, 48, 66, 40, 54, 46, 65, 58, 61, 41, 44, 19, 17, 18, 34, 56].contains f
set_option maxRecDepth 100000 in
theorem fns_ok_stepsByEnd : ∀ f, Lb_stepsByEnd f = true → fnOk Try.prog Lb_stepsByEnd f = true := by
  intro f hf
  simp only [Lb_stepsByEnd, List.contains_cons, List.contains_nil, Bool.or_false, Bool.or_eq_true, beq_iff_eq] at hf
  rcases hf with rfl | rfl | rfl | rfl | rfl | rfl | rfl | rfl | rfl | rfl | rfl | rfl | rfl | rfl | rfl | rfl | rfl | rfl | rfl | rfl <;> kernel_rfl

set_option maxRecDepth 100000 in
set_option maxHeartbeats 8000000 in
theorem stepsByEnd_run (Z0 : Option Addr) (d0 : Nat) (xs0 : List Int) (n1 : ByteArray) (w0 : World) (R0 : Rd w0 w0.heap.size Z0 d0 xs0) (hm0 : xs0.length ≤ 9223372036854775807) (hm1 : n1.size ≤ 9223372036854775807) :
    ∃ M last o w' t', runNT Try.prog (M + 1) (solo (G (Frame.enter Try.prog 10 #[.slice Z0 xs0.length d0, .string n1] .normal) []) w0) #[] = (.ended o w', t') ∧ runN Try.prog M (solo (G (Frame.enter Try.prog 10 #[.slice Z0 xs0.length d0, .string n1] .normal) []) w0) = .next last ∧ step Try.prog last = .ended o w' ∧
      Go.Conc.Good Try.prog (fun v w' => v = .bool true ∧ Below w0.heap.size w0 w') last o w' t' := by
  refine law_ends Try.func10 rfl (by kernel_rfl) ?_
  simp only [Try.ntmps10, List.size_toArray, List.length_cons, List.length_nil, Nat.reduceAdd, Nat.reduceSub, Array.replicate_succ, Array.replicate_zero, List.push_toArray, List.append_toArray, List.nil_append, List.cons_append]
  repeat (first | ((first | refine WpM.seq ?_ | refine WpM.block ?_ | refine WpM.region ?_ | refine WpM.region_end ?_ | refine WpM.ret ?_ | refine WpM.skip ?_ | refine WpM.exit ?_); try simp only [thenM, inBlockM, if_true, if_false, reduceIte, Nat.reduceEqDiff, List.size_toArray, List.length_cons, List.length_nil, Nat.reduceAdd, Nat.zero_add, List.range, List.range.loop]) | (refine WpM.op_k rfl (by rfl) ?_; intro zu zR; obtain ⟨dd, zh⟩ := zR; subst zh; (try simp only [at_at']); intro zK zhK; go_simp; (try (unfold stored; go_simp)); refine zhK _ _ ⟨?_, ?_⟩; (focus (refine m_idle ?_; simp [go_sem, Instr.field, asAgg]; done)); clear zhK zK; try walk_nrm) | fail)
  by_cases hn : 1048576 < xs0.length
  · have hh : (1048576 : Int) < (xs0.length : Int) := by omega
    refine WpM.cond (t := true) (by simp [Act.eval, hh, hn]) ?_
    simp only [if_true]
    repeat (first | ((first | refine WpM.seq ?_ | refine WpM.block ?_ | refine WpM.region ?_ | refine WpM.region_end ?_ | refine WpM.ret ?_ | refine WpM.skip ?_ | refine WpM.exit ?_); try simp only [thenM, inBlockM, if_true, if_false, reduceIte, Nat.reduceEqDiff, List.size_toArray, List.length_cons, List.length_nil, Nat.reduceAdd, Nat.zero_add, List.range, List.range.loop]) | (refine WpM.op_k rfl (by rfl) ?_; intro zu zR; obtain ⟨dd, zh⟩ := zR; subst zh; (try simp only [at_at']); intro zK zhK; go_simp; (try (unfold stored; go_simp)); refine zhK _ _ ⟨?_, ?_⟩; (focus (refine m_idle ?_; simp [go_sem, Instr.field, asAgg]; done)); clear zhK zK; try walk_nrm) | fail)
    exact ⟨trivial, trivial, trivial, _, resultsC_tmp (by rfl) _, fun d => ⟨rfl, below_at (below_at (Below.refl _ _) _) d⟩⟩
  have hn0 : xs0.length ≤ 1048576 := by omega
  have hh : ¬ (1048576 : Int) < (xs0.length : Int) := by omega
  refine WpM.cond (t := false) (by simp [Act.eval, hh]; try omega) ?_
  simp only [if_false, Bool.false_eq_true]
  repeat (first | ((first | refine WpM.seq ?_ | refine WpM.block ?_ | refine WpM.region ?_ | refine WpM.region_end ?_ | refine WpM.ret ?_ | refine WpM.skip ?_ | refine WpM.exit ?_); try simp only [thenM, inBlockM, if_true, if_false, reduceIte, Nat.reduceEqDiff, List.size_toArray, List.length_cons, List.length_nil, Nat.reduceAdd, Nat.zero_add, List.range, List.range.loop]) | (refine WpM.op_k rfl (by rfl) ?_; intro zu zR; obtain ⟨dd, zh⟩ := zR; subst zh; (try simp only [at_at']); intro zK zhK; go_simp; (try (unfold stored; go_simp)); refine zhK _ _ ⟨?_, ?_⟩; (focus (refine m_idle ?_; simp [go_sem, Instr.field, asAgg]; done)); clear zhK zK; try walk_nrm) | fail)
  (refine WpM.op_k rfl (by rfl) ?_; intro zu zR; obtain ⟨dq, zh⟩ := zR; subst zh; (try simp only [at_at']); intro zK zhK; go_simp; (try (unfold stored; go_simp)); refine zhK _ _ ⟨?_, ?_⟩; (focus (refine m_idle ?_; first | rfl | (simp [go_sem]; rfl) | (simp [go_sem, builtin]; done); done)); clear zhK zK; try walk_nrm)
  repeat (first | ((first | refine WpM.seq ?_ | refine WpM.block ?_ | refine WpM.region ?_ | refine WpM.region_end ?_ | refine WpM.ret ?_ | refine WpM.skip ?_ | refine WpM.exit ?_); try simp only [thenM, inBlockM, if_true, if_false, reduceIte, Nat.reduceEqDiff, List.size_toArray, List.length_cons, List.length_nil, Nat.reduceAdd, Nat.zero_add, List.range, List.range.loop]) | (refine WpM.op_k rfl (by rfl) ?_; intro zu zR; obtain ⟨dd, zh⟩ := zR; subst zh; (try simp only [at_at']); intro zK zhK; go_simp; (try (unfold stored; go_simp)); refine zhK _ _ ⟨?_, ?_⟩; (focus (refine m_idle ?_; simp [go_sem, Instr.field, asAgg]; done)); clear zhK zK; try walk_nrm) | fail)
  by_cases hs : 1048576 < n1.size
  · have hh2 : (1048576 : Int) < (n1.size : Int) := by omega
    refine WpM.cond (t := true) (by simp [Act.eval, hh2, hs]) ?_
    simp only [if_true]
    repeat (first | ((first | refine WpM.seq ?_ | refine WpM.block ?_ | refine WpM.region ?_ | refine WpM.region_end ?_ | refine WpM.ret ?_ | refine WpM.skip ?_ | refine WpM.exit ?_); try simp only [thenM, inBlockM, if_true, if_false, reduceIte, Nat.reduceEqDiff, List.size_toArray, List.length_cons, List.length_nil, Nat.reduceAdd, Nat.zero_add, List.range, List.range.loop]) | (refine WpM.op_k rfl (by rfl) ?_; intro zu zR; obtain ⟨dd, zh⟩ := zR; subst zh; (try simp only [at_at']); intro zK zhK; go_simp; (try (unfold stored; go_simp)); refine zhK _ _ ⟨?_, ?_⟩; (focus (refine m_idle ?_; simp [go_sem, Instr.field, asAgg]; done)); clear zhK zK; try walk_nrm) | fail)
    exact ⟨trivial, trivial, trivial, _, resultsC_tmp (by rfl) _, fun d => ⟨rfl, below_at (below_at (Below.refl _ _) _) d⟩⟩
  have hh2 : ¬ (1048576 : Int) < (n1.size : Int) := by omega
  refine WpM.cond (t := false) (by simp [Act.eval, hh2]; try omega) ?_
  simp only [if_false, Bool.false_eq_true]
  have Bt : Below w0.heap.size w0 w0 := Below.refl _ _
  obtain ⟨zs0, hzs⟩ : ∃ zs, zs = (sbR xs0 n1) := ⟨_, rfl⟩
  have hz0 : zs0.length ≤ 1048576 := by rw [hzs]; exact (sbR_length hn0 _)
  have HZS := Lib.hid hzs
  clear hzs
  repeat (first | ((first | refine WpM.seq ?_ | refine WpM.block ?_ | refine WpM.region ?_ | refine WpM.region_end ?_ | refine WpM.ret ?_ | refine WpM.skip ?_ | refine WpM.exit ?_); try simp only [thenM, inBlockM, if_true, if_false, reduceIte, Nat.reduceEqDiff, List.size_toArray, List.length_cons, List.length_nil, Nat.reduceAdd, Nat.zero_add, List.range, List.range.loop]) | (refine WpM.op_k rfl (by rfl) ?_; intro zu zR; obtain ⟨dd, zh⟩ := zR; subst zh; (try simp only [at_at']); intro zK zhK; go_simp; (try (unfold stored; go_simp)); refine zhK _ _ ⟨?_, ?_⟩; (focus (refine m_idle ?_; simp [go_sem, Instr.field, asAgg]; done)); clear zhK zK; try walk_nrm) | fail)
  refine WpM.callL (vs := #[.slice Z0 xs0.length d0]) fns_ok_stepsByEnd no_early ⟨_, Try.func10, by rfl⟩ (by kernel_rfl) rfl rfl (by rfl) rfl Try.func14 (by rfl) (by rfl) (by simp [Act.eval]) (fun vv uu => ∃ g, vv = .slice (some ⟨g, 0, none⟩) xs0.length xs0.length ∧ w0.heap.size ≤ g ∧ Blk uu g 3 (ints xs0) ∧ Below w0.heap.size w0 uu) (fun τ δ => Calls.mono (toIntS_new Z0 d0 xs0 w0.heap.size _ ⟨R0.1, R0.2⟩ Bt.size hn0) fun e w' ⟨g, he, hg, hB, hb⟩ => ⟨_, he, fun d => ⟨g, rfl, hg, hB, ⟨hb.os, rfl, hb.output, hb.size, hb.block⟩⟩⟩) ?_; rintro _ u1 ⟨a0, rfl, a0g, Ha0, hb⟩; (try walk_nrm); try simp only [at_at']
  have z1 : w0.heap.size ≤ u1.heap.size := hb.size
  replace R0 := R0.below hb (by omega)
  replace Bt := Bt.trans (hb.mono (by omega))
  clear hb
  have a0l := Ha0.lt
  repeat (first | ((first | refine WpM.seq ?_ | refine WpM.block ?_ | refine WpM.region ?_ | refine WpM.region_end ?_ | refine WpM.ret ?_ | refine WpM.skip ?_ | refine WpM.exit ?_); try simp only [thenM, inBlockM, if_true, if_false, reduceIte, Nat.reduceEqDiff, List.size_toArray, List.length_cons, List.length_nil, Nat.reduceAdd, Nat.zero_add, List.range, List.range.loop]) | (refine WpM.op_k rfl (by rfl) ?_; intro zu zR; obtain ⟨dd, zh⟩ := zR; subst zh; (try simp only [at_at']); intro zK zhK; go_simp; (try (unfold stored; go_simp)); refine zhK _ _ ⟨?_, ?_⟩; (focus (refine m_idle ?_; simp [go_sem, Instr.field, asAgg]; done)); clear zhK zK; try walk_nrm) | fail)
  refine WpM.callL (vs := #[.slice (some ⟨a0, 0, none⟩) xs0.length xs0.length, .string n1]) fns_ok_stepsByEnd no_early ⟨_, Try.func10, by rfl⟩ (by kernel_rfl) rfl rfl (by rfl) rfl Try.func34 (by rfl) (by rfl) (by simp [Act.eval]) (fun vv uu => ∃ pv, vv = .tuple #[pv, .bool (jumpsB xs0 && isE n1)] ∧ OwnI uu u1.heap.size pv zs0 ∧ Below u1.heap.size u1 uu) (fun τ δ => Calls.mono (specSteps_any _ _ xs0 n1 u1.heap.size _ ⟨(Ha0.rd (c := xs0.length) Ha0.lt (Nat.le_refl _)).1, (Ha0.rd (c := xs0.length) Ha0.lt (Nat.le_refl _)).2⟩ (Nat.le_refl _) hn0) fun e w' ⟨pv, he, ho, hb⟩ => ⟨_, he, fun d => ⟨pv, rfl, by rw [HZS.out]; exact ho, ⟨hb.os, rfl, hb.output, hb.size, hb.block⟩⟩⟩) ?_; rintro _ u2 ⟨v0, rfl, O0, hb⟩; (try walk_nrm); try simp only [at_at']
  obtain ⟨A0, c0', hv, _⟩ := O0.form
  subst hv
  have og0 := fun k h => (O0.lt k h).1
  have ol0 := fun k h => (O0.lt k h).2
  have z2 : u1.heap.size ≤ u2.heap.size := hb.size
  replace R0 := R0.below hb (by omega)
  replace Ha0 := Ha0.below hb (by omega)
  replace Bt := Bt.trans (hb.mono (by omega))
  clear hb
  clear Ha0 a0l
  repeat (first | ((first | refine WpM.seq ?_ | refine WpM.block ?_ | refine WpM.region ?_ | refine WpM.region_end ?_ | refine WpM.ret ?_ | refine WpM.skip ?_ | refine WpM.exit ?_); try simp only [thenM, inBlockM, if_true, if_false, reduceIte, Nat.reduceEqDiff, List.size_toArray, List.length_cons, List.length_nil, Nat.reduceAdd, Nat.zero_add, List.range, List.range.loop]) | (refine WpM.op_k rfl (by rfl) ?_; intro zu zR; obtain ⟨dd, zh⟩ := zR; subst zh; (try simp only [at_at']); intro zK zhK; go_simp; (try (unfold stored; go_simp)); refine zhK _ _ ⟨?_, ?_⟩; (focus (refine m_idle ?_; simp [go_sem, Instr.field, asAgg]; done)); clear zhK zK; try walk_nrm) | fail)
  refine WpM.callL (vs := #[.slice Z0 xs0.length d0]) fns_ok_stepsByEnd no_early ⟨_, Try.func10, by rfl⟩ (by kernel_rfl) rfl rfl (by rfl) rfl Try.func14 (by rfl) (by rfl) (by simp [Act.eval]) (fun vv uu => ∃ g, vv = .slice (some ⟨g, 0, none⟩) xs0.length xs0.length ∧ u2.heap.size ≤ g ∧ Blk uu g 3 (ints xs0) ∧ Below u2.heap.size u2 uu) (fun τ δ => Calls.mono (toIntS_new Z0 d0 xs0 w0.heap.size _ ⟨R0.1, R0.2⟩ Bt.size hn0) fun e w' ⟨g, he, hg, hB, hb⟩ => ⟨_, he, fun d => ⟨g, rfl, hg, hB, ⟨hb.os, rfl, hb.output, hb.size, hb.block⟩⟩⟩) ?_; rintro _ u3 ⟨b0, rfl, b0g, Hb0, hb⟩; (try walk_nrm); try simp only [at_at']
  have z3 : u2.heap.size ≤ u3.heap.size := hb.size
  replace R0 := R0.below hb (by omega)
  replace O0 := O0.below hb (Nat.le_refl _)
  replace Bt := Bt.trans (hb.mono (by omega))
  clear hb
  have b0l := Hb0.lt
  repeat (first | ((first | refine WpM.seq ?_ | refine WpM.block ?_ | refine WpM.region ?_ | refine WpM.region_end ?_ | refine WpM.ret ?_ | refine WpM.skip ?_ | refine WpM.exit ?_); try simp only [thenM, inBlockM, if_true, if_false, reduceIte, Nat.reduceEqDiff, List.size_toArray, List.length_cons, List.length_nil, Nat.reduceAdd, Nat.zero_add, List.range, List.range.loop]) | (refine WpM.op_k rfl (by rfl) ?_; intro zu zR; obtain ⟨dd, zh⟩ := zR; subst zh; (try simp only [at_at']); intro zK zhK; go_simp; (try (unfold stored; go_simp)); refine zhK _ _ ⟨?_, ?_⟩; (focus (refine m_idle ?_; simp [go_sem, Instr.field, asAgg]; done)); clear zhK zK; try walk_nrm) | fail)
  refine WpM.callM rfl (by rfl) rfl Try.func35 (by rfl) (by rfl) (by simp [Act.eval]) (implSteps_m _ _ xs0 n1 u3.heap.size _ ⟨(Hb0.rd (c := xs0.length) Hb0.lt (Nat.le_refl _)).1, (Hb0.rd (c := xs0.length) Hb0.lt (Nat.le_refl _)).2⟩ (Nat.le_refl _) hn0) ?_
  rintro x u4 ⟨v1, rfl, O1', hb0⟩
  have hb : Below u3.heap.size u3 u4 := ⟨hb0.os, hb0.tape, hb0.output, hb0.size, hb0.block⟩
  have O1 : OwnI u4 u3.heap.size v1 zs0 := by rw [HZS.out]; exact O1'
  clear hb0 O1'
  try walk_nrm
  obtain ⟨A1, c1, hv, _⟩ := O1.form
  subst hv
  have og1 := fun k h => (O1.lt k h).1
  have ol1 := fun k h => (O1.lt k h).2
  have z4 : u3.heap.size ≤ u4.heap.size := hb.size
  replace R0 := R0.below hb (by omega)
  replace O0 := O0.below hb (Nat.le_refl _)
  replace Hb0 := Hb0.below hb (by omega)
  replace Bt := Bt.trans (hb.mono (by omega))
  clear hb
  repeat (first | ((first | refine WpM.seq ?_ | refine WpM.block ?_ | refine WpM.region ?_ | refine WpM.region_end ?_ | refine WpM.ret ?_ | refine WpM.skip ?_ | refine WpM.exit ?_); try simp only [thenM, inBlockM, if_true, if_false, reduceIte, Nat.reduceEqDiff, List.size_toArray, List.length_cons, List.length_nil, Nat.reduceAdd, Nat.zero_add, List.range, List.range.loop]) | (refine WpM.op_k rfl (by rfl) ?_; intro zu zR; obtain ⟨dd, zh⟩ := zR; subst zh; (try simp only [at_at']); intro zK zhK; go_simp; (try (unfold stored; go_simp)); refine zhK _ _ ⟨?_, ?_⟩; (focus (refine m_idle ?_; simp [go_sem, Instr.field, asAgg]; done)); clear zhK zK; try walk_nrm) | fail)
  refine WpM.callL (vs := #[.slice A1 zs0.length c1, .slice A0 zs0.length c0']) fns_ok_stepsByEnd no_early ⟨_, Try.func10, by rfl⟩ (by kernel_rfl) rfl rfl (by rfl) rfl Try.func16 (by rfl) (by rfl) (by simp [Act.eval]) (fun vv uu => vv = .bool (eqB zs0 zs0) ∧ Below u4.heap.size u4 uu) (fun τ δ => Calls.mono (eqIntS_new _ _ _ _ zs0 zs0 _ _ _ ⟨O1.rd.1, O1.rd.2⟩ ⟨O0.rd.1, O0.rd.2⟩ hz0) fun e w' ⟨he, hb⟩ => ⟨_, he, fun d => ⟨rfl, ⟨hb.os, rfl, hb.output, hb.size, hb.block⟩⟩⟩) ?_; rintro _ u5 ⟨rfl, hb⟩; (try walk_nrm); try simp only [at_at']
  have z5 : u4.heap.size ≤ u5.heap.size := hb.size
  replace R0 := R0.below hb (by omega)
  replace O0 := O0.below hb (Nat.le_refl _)
  replace Hb0 := Hb0.below hb (by omega)
  replace O1 := O1.below hb (Nat.le_refl _)
  replace Bt := Bt.trans (hb.mono (by omega))
  clear hb
  rw [eqB_self]
  repeat (first | ((first | refine WpM.seq ?_ | refine WpM.block ?_ | refine WpM.region ?_ | refine WpM.region_end ?_ | refine WpM.ret ?_ | refine WpM.skip ?_ | refine WpM.exit ?_); try simp only [thenM, inBlockM, if_true, if_false, reduceIte, Nat.reduceEqDiff, List.size_toArray, List.length_cons, List.length_nil, Nat.reduceAdd, Nat.zero_add, List.range, List.range.loop]) | (refine WpM.op_k rfl (by rfl) ?_; intro zu zR; obtain ⟨dd, zh⟩ := zR; subst zh; (try simp only [at_at']); intro zK zhK; go_simp; (try (unfold stored; go_simp)); refine zhK _ _ ⟨?_, ?_⟩; (focus (refine m_idle ?_; simp [go_sem, Instr.field, asAgg]; done)); clear zhK zK; try walk_nrm) | fail)
  (refine WpM.op_k rfl (by rfl) ?_; intro zu zR; obtain ⟨dd, zh⟩ := zR; subst zh; (try simp only [at_at']); intro zK zhK; go_simp; (try (unfold stored; go_simp)); refine zhK _ _ ⟨?_, ?_⟩; (focus (exact m_idle (by generalize (jumpsB xs0 && isE n1) = bb; cases bb <;> (simp [go_sem]; first | rfl | simp [binOp, go_sem] | simp [binOp])); done)); clear zhK zK; try walk_nrm)
  repeat (first | ((first | refine WpM.seq ?_ | refine WpM.block ?_ | refine WpM.region ?_ | refine WpM.region_end ?_ | refine WpM.ret ?_ | refine WpM.skip ?_ | refine WpM.exit ?_); try simp only [thenM, inBlockM, if_true, if_false, reduceIte, Nat.reduceEqDiff, List.size_toArray, List.length_cons, List.length_nil, Nat.reduceAdd, Nat.zero_add, List.range, List.range.loop]) | (refine WpM.op_k rfl (by rfl) ?_; intro zu zR; obtain ⟨dd, zh⟩ := zR; subst zh; (try simp only [at_at']); intro zK zhK; go_simp; (try (unfold stored; go_simp)); refine zhK _ _ ⟨?_, ?_⟩; (focus (refine m_idle ?_; simp [go_sem, Instr.field, asAgg]; done)); clear zhK zK; try walk_nrm) | fail)
  refine WpM.cond (t := false) (by simp [Act.eval]) ?_
  simp only [if_false, Bool.false_eq_true]
  repeat (first | ((first | refine WpM.seq ?_ | refine WpM.block ?_ | refine WpM.region ?_ | refine WpM.region_end ?_ | refine WpM.ret ?_ | refine WpM.skip ?_ | refine WpM.exit ?_); try simp only [thenM, inBlockM, if_true, if_false, reduceIte, Nat.reduceEqDiff, List.size_toArray, List.length_cons, List.length_nil, Nat.reduceAdd, Nat.zero_add, List.range, List.range.loop]) | (refine WpM.op_k rfl (by rfl) ?_; intro zu zR; obtain ⟨dd, zh⟩ := zR; subst zh; (try simp only [at_at']); intro zK zhK; go_simp; (try (unfold stored; go_simp)); refine zhK _ _ ⟨?_, ?_⟩; (focus (refine m_idle ?_; simp [go_sem, Instr.field, asAgg]; done)); clear zhK zK; try walk_nrm) | fail)
  refine WpM.callL (vs := #[.slice Z0 xs0.length d0]) fns_ok_stepsByEnd no_early ⟨_, Try.func10, by rfl⟩ (by kernel_rfl) rfl rfl (by rfl) rfl Try.func14 (by rfl) (by rfl) (by simp [Act.eval]) (fun vv uu => ∃ g, vv = .slice (some ⟨g, 0, none⟩) xs0.length xs0.length ∧ u5.heap.size ≤ g ∧ Blk uu g 3 (ints xs0) ∧ Below u5.heap.size u5 uu) (fun τ δ => Calls.mono (toIntS_new Z0 d0 xs0 w0.heap.size _ ⟨R0.1, R0.2⟩ Bt.size hn0) fun e w' ⟨g, he, hg, hB, hb⟩ => ⟨_, he, fun d => ⟨g, rfl, hg, hB, ⟨hb.os, rfl, hb.output, hb.size, hb.block⟩⟩⟩) ?_; rintro _ u6 ⟨c0, rfl, c0g, Hc0, hb⟩; (try walk_nrm); try simp only [at_at']
  have z6 : u5.heap.size ≤ u6.heap.size := hb.size
  replace R0 := R0.below hb (by omega)
  replace O0 := O0.below hb (Nat.le_refl _)
  replace Hb0 := Hb0.below hb (by omega)
  replace O1 := O1.below hb (Nat.le_refl _)
  replace Bt := Bt.trans (hb.mono (by omega))
  clear hb
  have c0l := Hc0.lt
  repeat (first | ((first | refine WpM.seq ?_ | refine WpM.block ?_ | refine WpM.region ?_ | refine WpM.region_end ?_ | refine WpM.ret ?_ | refine WpM.skip ?_ | refine WpM.exit ?_); try simp only [thenM, inBlockM, if_true, if_false, reduceIte, Nat.reduceEqDiff, List.size_toArray, List.length_cons, List.length_nil, Nat.reduceAdd, Nat.zero_add, List.range, List.range.loop]) | (refine WpM.op_k rfl (by rfl) ?_; intro zu zR; obtain ⟨dd, zh⟩ := zR; subst zh; (try simp only [at_at']); intro zK zhK; go_simp; (try (unfold stored; go_simp)); refine zhK _ _ ⟨?_, ?_⟩; (focus (refine m_idle ?_; simp [go_sem, Instr.field, asAgg]; done)); clear zhK zK; try walk_nrm) | fail)
  refine WpM.callL (vs := #[.slice (some ⟨b0, 0, none⟩) xs0.length xs0.length, .slice (some ⟨c0, 0, none⟩) xs0.length xs0.length]) fns_ok_stepsByEnd no_early ⟨_, Try.func10, by rfl⟩ (by kernel_rfl) rfl rfl (by rfl) rfl Try.func16 (by rfl) (by rfl) (by simp [Act.eval]) (fun vv uu => vv = .bool (eqB xs0 xs0) ∧ Below u6.heap.size u6 uu) (fun τ δ => Calls.mono (eqIntS_new _ _ _ _ xs0 xs0 _ _ _ ⟨(Hb0.rd (c := xs0.length) Hb0.lt (Nat.le_refl _)).1, (Hb0.rd (c := xs0.length) Hb0.lt (Nat.le_refl _)).2⟩ ⟨(Hc0.rd (c := xs0.length) Hc0.lt (Nat.le_refl _)).1, (Hc0.rd (c := xs0.length) Hc0.lt (Nat.le_refl _)).2⟩ hn0) fun e w' ⟨he, hb⟩ => ⟨_, he, fun d => ⟨rfl, ⟨hb.os, rfl, hb.output, hb.size, hb.block⟩⟩⟩) ?_; rintro _ u7 ⟨rfl, hb⟩; (try walk_nrm); try simp only [at_at']
  have z7 : u6.heap.size ≤ u7.heap.size := hb.size
  replace R0 := R0.below hb (by omega)
  replace O0 := O0.below hb (Nat.le_refl _)
  replace Hb0 := Hb0.below hb (by omega)
  replace O1 := O1.below hb (Nat.le_refl _)
  replace Hc0 := Hc0.below hb (by omega)
  replace Bt := Bt.trans (hb.mono (by omega))
  clear hb
  rw [eqB_self]
  clear Hc0 c0l
  repeat (first | ((first | refine WpM.seq ?_ | refine WpM.block ?_ | refine WpM.region ?_ | refine WpM.region_end ?_ | refine WpM.ret ?_ | refine WpM.skip ?_ | refine WpM.exit ?_); try simp only [thenM, inBlockM, if_true, if_false, reduceIte, Nat.reduceEqDiff, List.size_toArray, List.length_cons, List.length_nil, Nat.reduceAdd, Nat.zero_add, List.range, List.range.loop]) | (refine WpM.op_k rfl (by rfl) ?_; intro zu zR; obtain ⟨dd, zh⟩ := zR; subst zh; (try simp only [at_at']); intro zK zhK; go_simp; (try (unfold stored; go_simp)); refine zhK _ _ ⟨?_, ?_⟩; (focus (refine m_idle ?_; simp [go_sem, Instr.field, asAgg]; done)); clear zhK zK; try walk_nrm) | fail)
  refine WpM.cond (t := false) (by simp [Act.eval]) ?_
  simp only [if_false, Bool.false_eq_true]
  repeat (first | ((first | refine WpM.seq ?_ | refine WpM.block ?_ | refine WpM.region ?_ | refine WpM.region_end ?_ | refine WpM.ret ?_ | refine WpM.skip ?_ | refine WpM.exit ?_); try simp only [thenM, inBlockM, if_true, if_false, reduceIte, Nat.reduceEqDiff, List.size_toArray, List.length_cons, List.length_nil, Nat.reduceAdd, Nat.zero_add, List.range, List.range.loop]) | (refine WpM.op_k rfl (by rfl) ?_; intro zu zR; obtain ⟨dd, zh⟩ := zR; subst zh; (try simp only [at_at']); intro zK zhK; go_simp; (try (unfold stored; go_simp)); refine zhK _ _ ⟨?_, ?_⟩; (focus (refine m_idle ?_; simp [go_sem, Instr.field, asAgg]; done)); clear zhK zK; try walk_nrm) | fail)
  refine WpM.callL (vs := #[.slice (some ⟨b0, 0, none⟩) xs0.length xs0.length, .int .i64 1]) fns_ok_stepsByEnd no_early ⟨_, Try.func10, by rfl⟩ (by kernel_rfl) rfl rfl (by rfl) rfl Try.func17 (by rfl) (by rfl) (by simp [Act.eval]) (fun vv uu => vv = .int .i64 (1 + xs0.length) ∧ Turned u7 uu (rowL (.slice (some ⟨b0, 0, none⟩) xs0.length xs0.length))) (fun τ δ => Calls.mono (markI_new _ xs0 (1) b0 _ (show OwnI _ _ _ _ from Hb0.own hn0) hn0 (by omega) (by omega)) fun e w' ⟨he, _, ht⟩ => ⟨_, he, fun d => ⟨rfl, ⟨ht.os, rfl, ht.output, ht.size, ht.block⟩⟩⟩) ?_; rintro _ u8 ⟨rfl, ht⟩; (try walk_nrm); try simp only [at_at']
  have hge : ∀ k ∈ rowL (.slice (some ⟨b0, 0, none⟩) xs0.length xs0.length), k = b0 := fun k hk => by simpa [rowL_some] using hk
  clear Hb0
  have z8 : u7.heap.size ≤ u8.heap.size := ht.size
  replace R0 := R0.turned ht (by omega) (fun k hk => by have := hge k hk; omega)
  replace O0 := O0.turned ht (fun k hv hk => by have := hge k hk; have := ol0 k hv; omega)
  replace O1 := O1.turned ht (fun k hv hk => by have := hge k hk; have := og1 k hv; omega)
  replace Bt := Bt.trans (ht.below (by omega) (fun k hk => by have := hge k hk; omega))
  clear ht hge
  obtain ⟨kk, hkk⟩ : ∃ kk : Int, kk = 1 + xs0.length := ⟨_, rfl⟩
  rw [← hkk]
  have hk0 : ¬ kk < 0 := by omega
  clear hkk
  repeat (first | ((first | refine WpM.seq ?_ | refine WpM.block ?_ | refine WpM.region ?_ | refine WpM.region_end ?_ | refine WpM.ret ?_ | refine WpM.skip ?_ | refine WpM.exit ?_); try simp only [thenM, inBlockM, if_true, if_false, reduceIte, Nat.reduceEqDiff, List.size_toArray, List.length_cons, List.length_nil, Nat.reduceAdd, Nat.zero_add, List.range, List.range.loop]) | (refine WpM.op_k rfl (by rfl) ?_; intro zu zR; obtain ⟨dd, zh⟩ := zR; subst zh; (try simp only [at_at']); intro zK zhK; go_simp; (try (unfold stored; go_simp)); refine zhK _ _ ⟨?_, ?_⟩; (focus (refine m_idle ?_; simp [go_sem, Instr.field, asAgg]; done)); clear zhK zK; try walk_nrm) | fail)
  try rw [decide_eq_false hk0]
  repeat (first | ((first | refine WpM.seq ?_ | refine WpM.block ?_ | refine WpM.region ?_ | refine WpM.region_end ?_ | refine WpM.ret ?_ | refine WpM.skip ?_ | refine WpM.exit ?_); try simp only [thenM, inBlockM, if_true, if_false, reduceIte, Nat.reduceEqDiff, List.size_toArray, List.length_cons, List.length_nil, Nat.reduceAdd, Nat.zero_add, List.range, List.range.loop]) | (refine WpM.op_k rfl (by rfl) ?_; intro zu zR; obtain ⟨dd, zh⟩ := zR; subst zh; (try simp only [at_at']); intro zK zhK; go_simp; (try (unfold stored; go_simp)); refine zhK _ _ ⟨?_, ?_⟩; (focus (refine m_idle ?_; simp [go_sem, Instr.field, asAgg]; done)); clear zhK zK; try walk_nrm) | fail)
  refine WpM.callL (vs := #[.slice A1 zs0.length c1, .slice A0 zs0.length c0']) fns_ok_stepsByEnd no_early ⟨_, Try.func10, by rfl⟩ (by kernel_rfl) rfl rfl (by rfl) rfl Try.func16 (by rfl) (by rfl) (by simp [Act.eval]) (fun vv uu => vv = .bool (eqB zs0 zs0) ∧ Below u8.heap.size u8 uu) (fun τ δ => Calls.mono (eqIntS_new _ _ _ _ zs0 zs0 _ _ _ ⟨O1.rd.1, O1.rd.2⟩ ⟨O0.rd.1, O0.rd.2⟩ hz0) fun e w' ⟨he, hb⟩ => ⟨_, he, fun d => ⟨rfl, ⟨hb.os, rfl, hb.output, hb.size, hb.block⟩⟩⟩) ?_; rintro _ u9 ⟨rfl, hb⟩; (try walk_nrm); try simp only [at_at']
  have z9 : u8.heap.size ≤ u9.heap.size := hb.size
  replace R0 := R0.below hb (by omega)
  replace O0 := O0.below hb (Nat.le_refl _)
  replace O1 := O1.below hb (Nat.le_refl _)
  replace Bt := Bt.trans (hb.mono (by omega))
  clear hb
  rw [eqB_self]
  repeat (first | ((first | refine WpM.seq ?_ | refine WpM.block ?_ | refine WpM.region ?_ | refine WpM.region_end ?_ | refine WpM.ret ?_ | refine WpM.skip ?_ | refine WpM.exit ?_); try simp only [thenM, inBlockM, if_true, if_false, reduceIte, Nat.reduceEqDiff, List.size_toArray, List.length_cons, List.length_nil, Nat.reduceAdd, Nat.zero_add, List.range, List.range.loop]) | (refine WpM.op_k rfl (by rfl) ?_; intro zu zR; obtain ⟨dd, zh⟩ := zR; subst zh; (try simp only [at_at']); intro zK zhK; go_simp; (try (unfold stored; go_simp)); refine zhK _ _ ⟨?_, ?_⟩; (focus (refine m_idle ?_; simp [go_sem, Instr.field, asAgg]; done)); clear zhK zK; try walk_nrm) | fail)
  (refine WpM.op_k rfl (by rfl) ?_; intro zu zR; obtain ⟨dd, zh⟩ := zR; subst zh; (try simp only [at_at']); intro zK zhK; go_simp; (try (unfold stored; go_simp)); refine zhK _ _ ⟨?_, ?_⟩; (focus (exact m_idle (by generalize (jumpsB xs0 && isE n1) = bb; cases bb <;> (simp [go_sem]; first | rfl | simp [binOp, go_sem] | simp [binOp])); done)); clear zhK zK; try walk_nrm)
  repeat (first | ((first | refine WpM.seq ?_ | refine WpM.block ?_ | refine WpM.region ?_ | refine WpM.region_end ?_ | refine WpM.ret ?_ | refine WpM.skip ?_ | refine WpM.exit ?_); try simp only [thenM, inBlockM, if_true, if_false, reduceIte, Nat.reduceEqDiff, List.size_toArray, List.length_cons, List.length_nil, Nat.reduceAdd, Nat.zero_add, List.range, List.range.loop]) | (refine WpM.op_k rfl (by rfl) ?_; intro zu zR; obtain ⟨dd, zh⟩ := zR; subst zh; (try simp only [at_at']); intro zK zhK; go_simp; (try (unfold stored; go_simp)); refine zhK _ _ ⟨?_, ?_⟩; (focus (refine m_idle ?_; simp [go_sem, Instr.field, asAgg]; done)); clear zhK zK; try walk_nrm) | fail)
  refine WpM.cond (t := false) (by simp [Act.eval]) ?_
  simp only [if_false, Bool.false_eq_true]
  repeat (first | ((first | refine WpM.seq ?_ | refine WpM.block ?_ | refine WpM.region ?_ | refine WpM.region_end ?_ | refine WpM.ret ?_ | refine WpM.skip ?_ | refine WpM.exit ?_); try simp only [thenM, inBlockM, if_true, if_false, reduceIte, Nat.reduceEqDiff, List.size_toArray, List.length_cons, List.length_nil, Nat.reduceAdd, Nat.zero_add, List.range, List.range.loop]) | (refine WpM.op_k rfl (by rfl) ?_; intro zu zR; obtain ⟨dd, zh⟩ := zR; subst zh; (try simp only [at_at']); intro zK zhK; go_simp; (try (unfold stored; go_simp)); refine zhK _ _ ⟨?_, ?_⟩; (focus (refine m_idle ?_; simp [go_sem, Instr.field, asAgg]; done)); clear zhK zK; try walk_nrm) | fail)
  refine WpM.callL (vs := #[.slice A1 zs0.length c1, .int .i64 1]) fns_ok_stepsByEnd no_early ⟨_, Try.func10, by rfl⟩ (by kernel_rfl) rfl rfl (by rfl) rfl Try.func17 (by rfl) (by rfl) (by simp [Act.eval]) (fun vv uu => vv = .int .i64 (1 + zs0.length) ∧ OwnI uu u3.heap.size (.slice A1 zs0.length c1) (marksL 1 zs0.length) ∧ Turned u9 uu (rowL (.slice A1 zs0.length c1))) (fun τ δ => Calls.mono (markI_new _ _ 1 _ _ (show OwnI _ u3.heap.size _ _ from O1) hz0 (by omega) (by omega)) fun e w' ⟨he, hm, ht⟩ => ⟨_, he, fun d => ⟨rfl, hm, ⟨ht.os, rfl, ht.output, ht.size, ht.block⟩⟩⟩) ?_; rintro _ u10 ⟨rfl, M1, ht⟩; (try walk_nrm); try simp only [at_at']
  have hge := fun k hk => og1 k (mem_rowL.1 hk)
  clear O1
  have z10 : u9.heap.size ≤ u10.heap.size := ht.size
  replace R0 := R0.turned ht (by omega) (fun k hk => by have := hge k hk; omega)
  replace O0 := O0.turned ht (fun k hv hk => by have := hge k hk; have := ol0 k hv; omega)
  replace Bt := Bt.trans (ht.below (by omega) (fun k hk => by have := hge k hk; omega))
  clear ht hge
  repeat (first | ((first | refine WpM.seq ?_ | refine WpM.block ?_ | refine WpM.region ?_ | refine WpM.region_end ?_ | refine WpM.ret ?_ | refine WpM.skip ?_ | refine WpM.exit ?_); try simp only [thenM, inBlockM, if_true, if_false, reduceIte, Nat.reduceEqDiff, List.size_toArray, List.length_cons, List.length_nil, Nat.reduceAdd, Nat.zero_add, List.range, List.range.loop]) | (refine WpM.op_k rfl (by rfl) ?_; intro zu zR; obtain ⟨dd, zh⟩ := zR; subst zh; (try simp only [at_at']); intro zK zhK; go_simp; (try (unfold stored; go_simp)); refine zhK _ _ ⟨?_, ?_⟩; (focus (refine m_idle ?_; simp [go_sem, Instr.field, asAgg]; done)); clear zhK zK; try walk_nrm) | fail)
  refine WpM.callL (vs := #[.slice A1 zs0.length c1, .int .i64 1]) fns_ok_stepsByEnd no_early ⟨_, Try.func10, by rfl⟩ (by kernel_rfl) rfl rfl (by rfl) rfl Try.func18 (by rfl) (by rfl) (by simp [Act.eval]) (fun vv uu => vv = .int .i64 (1 + zs0.length) ∧ RW u10 uu) (fun τ δ => Calls.mono (heldIntS_any _ _ 1 _ _ (show OwnI _ u3.heap.size _ _ from M1) hz0 (by omega) (by omega)) fun e w' ⟨he, hw⟩ => ⟨_, he, fun d => ⟨rfl, d, by rw [← hw]; rfl⟩⟩) ?_; rintro _ _ ⟨rfl, dh, rfl⟩; (try walk_nrm); try simp only [at_at']
  try simp only [at_at']
  obtain ⟨mm, hmm⟩ : ∃ mm : Int, mm = 1 + zs0.length := ⟨_, rfl⟩
  rw [← hmm]
  have hm1 : ¬ mm < 0 := by omega
  have HMM := Lib.hid hmm
  clear hmm
  repeat (first | ((first | refine WpM.seq ?_ | refine WpM.block ?_ | refine WpM.region ?_ | refine WpM.region_end ?_ | refine WpM.ret ?_ | refine WpM.skip ?_ | refine WpM.exit ?_); try simp only [thenM, inBlockM, if_true, if_false, reduceIte, Nat.reduceEqDiff, List.size_toArray, List.length_cons, List.length_nil, Nat.reduceAdd, Nat.zero_add, List.range, List.range.loop]) | (refine WpM.op_k rfl (by rfl) ?_; intro zu zR; obtain ⟨dd, zh⟩ := zR; subst zh; (try simp only [at_at']); intro zK zhK; go_simp; (try (unfold stored; go_simp)); refine zhK _ _ ⟨?_, ?_⟩; (focus (refine m_idle ?_; simp [go_sem, Instr.field, asAgg]; done)); clear zhK zK; try walk_nrm) | fail)
  refine WpM.cond (t := false) (by simp [Act.eval, hm1]) ?_
  simp only [if_false, Bool.false_eq_true]
  repeat (first | ((first | refine WpM.seq ?_ | refine WpM.block ?_ | refine WpM.region ?_ | refine WpM.region_end ?_ | refine WpM.ret ?_ | refine WpM.skip ?_ | refine WpM.exit ?_); try simp only [thenM, inBlockM, if_true, if_false, reduceIte, Nat.reduceEqDiff, List.size_toArray, List.length_cons, List.length_nil, Nat.reduceAdd, Nat.zero_add, List.range, List.range.loop]) | (refine WpM.op_k rfl (by rfl) ?_; intro zu zR; obtain ⟨dd, zh⟩ := zR; subst zh; (try simp only [at_at']); intro zK zhK; go_simp; (try (unfold stored; go_simp)); refine zhK _ _ ⟨?_, ?_⟩; (focus (refine m_idle ?_; simp [go_sem, Instr.field, asAgg]; done)); clear zhK zK; try walk_nrm) | fail)
  refine WpM.cond (t := false) (by simp [Act.eval]) ?_
  simp only [if_false, Bool.false_eq_true]
  repeat (first | ((first | refine WpM.seq ?_ | refine WpM.block ?_ | refine WpM.region ?_ | refine WpM.region_end ?_ | refine WpM.ret ?_ | refine WpM.skip ?_ | refine WpM.exit ?_); try simp only [thenM, inBlockM, if_true, if_false, reduceIte, Nat.reduceEqDiff, List.size_toArray, List.length_cons, List.length_nil, Nat.reduceAdd, Nat.zero_add, List.range, List.range.loop]) | (refine WpM.op_k rfl (by rfl) ?_; intro zu zR; obtain ⟨dd, zh⟩ := zR; subst zh; (try simp only [at_at']); intro zK zhK; go_simp; (try (unfold stored; go_simp)); refine zhK _ _ ⟨?_, ?_⟩; (focus (refine m_idle ?_; simp [go_sem, Instr.field, asAgg]; done)); clear zhK zK; try walk_nrm) | fail)
  refine WpM.callM rfl (by rfl) rfl Try.func14 (by rfl) (by rfl) (by simp [Act.eval]) (toIntS_m Z0 d0 xs0 w0.heap.size _ ⟨R0.1, R0.2⟩ Bt.size hn0) ?_
  rintro x u11 ⟨e0, rfl, e0g, He0, hb0⟩
  have hb : Below u10.heap.size u10 u11 := ⟨hb0.os, hb0.tape, hb0.output, hb0.size, hb0.block⟩
  clear hb0
  try walk_nrm
  have z11 : u10.heap.size ≤ u11.heap.size := hb.size
  replace R0 := R0.below hb (by omega)
  replace O0 := O0.below hb (Nat.le_refl _)
  replace M1 := M1.below hb (Nat.le_refl _)
  replace Bt := Bt.trans (hb.mono (by omega))
  clear hb
  have e0l := He0.lt
  repeat (first | ((first | refine WpM.seq ?_ | refine WpM.block ?_ | refine WpM.region ?_ | refine WpM.region_end ?_ | refine WpM.ret ?_ | refine WpM.skip ?_ | refine WpM.exit ?_); try simp only [thenM, inBlockM, if_true, if_false, reduceIte, Nat.reduceEqDiff, List.size_toArray, List.length_cons, List.length_nil, Nat.reduceAdd, Nat.zero_add, List.range, List.range.loop]) | (refine WpM.op_k rfl (by rfl) ?_; intro zu zR; obtain ⟨dd, zh⟩ := zR; subst zh; (try simp only [at_at']); intro zK zhK; go_simp; (try (unfold stored; go_simp)); refine zhK _ _ ⟨?_, ?_⟩; (focus (refine m_idle ?_; simp [go_sem, Instr.field, asAgg]; done)); clear zhK zK; try walk_nrm) | fail)
  refine WpM.callM rfl (by rfl) rfl Try.func35 (by rfl) (by rfl) (by simp [Act.eval]) (implSteps_m _ _ xs0 n1 u11.heap.size _ ⟨(He0.rd (c := xs0.length) He0.lt (Nat.le_refl _)).1, (He0.rd (c := xs0.length) He0.lt (Nat.le_refl _)).2⟩ (Nat.le_refl _) hn0) ?_
  rintro x u12 ⟨v2, rfl, O2', hb0⟩
  have hb : Below u11.heap.size u11 u12 := ⟨hb0.os, hb0.tape, hb0.output, hb0.size, hb0.block⟩
  have O2 : OwnI u12 u11.heap.size v2 zs0 := by rw [HZS.out]; exact O2'
  clear hb0 O2'
  try walk_nrm
  obtain ⟨A2, c2, hv, _⟩ := O2.form
  subst hv
  have og2 := fun k h => (O2.lt k h).1
  have ol2 := fun k h => (O2.lt k h).2
  have z12 : u11.heap.size ≤ u12.heap.size := hb.size
  replace R0 := R0.below hb (by omega)
  replace O0 := O0.below hb (Nat.le_refl _)
  replace M1 := M1.below hb (Nat.le_refl _)
  replace He0 := He0.below hb (by omega)
  replace Bt := Bt.trans (hb.mono (by omega))
  clear hb
  repeat (first | ((first | refine WpM.seq ?_ | refine WpM.block ?_ | refine WpM.region ?_ | refine WpM.region_end ?_ | refine WpM.ret ?_ | refine WpM.skip ?_ | refine WpM.exit ?_); try simp only [thenM, inBlockM, if_true, if_false, reduceIte, Nat.reduceEqDiff, List.size_toArray, List.length_cons, List.length_nil, Nat.reduceAdd, Nat.zero_add, List.range, List.range.loop]) | (refine WpM.op_k rfl (by rfl) ?_; intro zu zR; obtain ⟨dd, zh⟩ := zR; subst zh; (try simp only [at_at']); intro zK zhK; go_simp; (try (unfold stored; go_simp)); refine zhK _ _ ⟨?_, ?_⟩; (focus (refine m_idle ?_; simp [go_sem, Instr.field, asAgg]; done)); clear zhK zK; try walk_nrm) | fail)
  refine WpM.callL (vs := #[.slice A2 zs0.length c2, .slice A0 zs0.length c0']) fns_ok_stepsByEnd no_early ⟨_, Try.func10, by rfl⟩ (by kernel_rfl) rfl rfl (by rfl) rfl Try.func16 (by rfl) (by rfl) (by simp [Act.eval]) (fun vv uu => vv = .bool (eqB zs0 zs0) ∧ Below u12.heap.size u12 uu) (fun τ δ => Calls.mono (eqIntS_new _ _ _ _ zs0 zs0 _ _ _ ⟨O2.rd.1, O2.rd.2⟩ ⟨O0.rd.1, O0.rd.2⟩ hz0) fun e w' ⟨he, hb⟩ => ⟨_, he, fun d => ⟨rfl, ⟨hb.os, rfl, hb.output, hb.size, hb.block⟩⟩⟩) ?_; rintro _ u13 ⟨rfl, hb⟩; (try walk_nrm); try simp only [at_at']
  have z13 : u12.heap.size ≤ u13.heap.size := hb.size
  replace R0 := R0.below hb (by omega)
  replace O0 := O0.below hb (Nat.le_refl _)
  replace M1 := M1.below hb (Nat.le_refl _)
  replace He0 := He0.below hb (by omega)
  replace O2 := O2.below hb (Nat.le_refl _)
  replace Bt := Bt.trans (hb.mono (by omega))
  clear hb
  rw [eqB_self]
  repeat (first | ((first | refine WpM.seq ?_ | refine WpM.block ?_ | refine WpM.region ?_ | refine WpM.region_end ?_ | refine WpM.ret ?_ | refine WpM.skip ?_ | refine WpM.exit ?_); try simp only [thenM, inBlockM, if_true, if_false, reduceIte, Nat.reduceEqDiff, List.size_toArray, List.length_cons, List.length_nil, Nat.reduceAdd, Nat.zero_add, List.range, List.range.loop]) | (refine WpM.op_k rfl (by rfl) ?_; intro zu zR; obtain ⟨dd, zh⟩ := zR; subst zh; (try simp only [at_at']); intro zK zhK; go_simp; (try (unfold stored; go_simp)); refine zhK _ _ ⟨?_, ?_⟩; (focus (refine m_idle ?_; simp [go_sem, Instr.field, asAgg]; done)); clear zhK zK; try walk_nrm) | fail)
  (refine WpM.op_k rfl (by rfl) ?_; intro zu zR; obtain ⟨dd, zh⟩ := zR; subst zh; (try simp only [at_at']); intro zK zhK; go_simp; (try (unfold stored; go_simp)); refine zhK _ _ ⟨?_, ?_⟩; (focus (exact m_idle (by generalize (jumpsB xs0 && isE n1) = bb; cases bb <;> (simp [go_sem]; first | rfl | simp [binOp, go_sem] | simp [binOp])); done)); clear zhK zK; try walk_nrm)
  repeat (first | ((first | refine WpM.seq ?_ | refine WpM.block ?_ | refine WpM.region ?_ | refine WpM.region_end ?_ | refine WpM.ret ?_ | refine WpM.skip ?_ | refine WpM.exit ?_); try simp only [thenM, inBlockM, if_true, if_false, reduceIte, Nat.reduceEqDiff, List.size_toArray, List.length_cons, List.length_nil, Nat.reduceAdd, Nat.zero_add, List.range, List.range.loop]) | (refine WpM.op_k rfl (by rfl) ?_; intro zu zR; obtain ⟨dd, zh⟩ := zR; subst zh; (try simp only [at_at']); intro zK zhK; go_simp; (try (unfold stored; go_simp)); refine zhK _ _ ⟨?_, ?_⟩; (focus (refine m_idle ?_; simp [go_sem, Instr.field, asAgg]; done)); clear zhK zK; try walk_nrm) | fail)
  refine WpM.cond (t := false) (by simp [Act.eval]) ?_
  simp only [if_false, Bool.false_eq_true]
  repeat (first | ((first | refine WpM.seq ?_ | refine WpM.block ?_ | refine WpM.region ?_ | refine WpM.region_end ?_ | refine WpM.ret ?_ | refine WpM.skip ?_ | refine WpM.exit ?_); try simp only [thenM, inBlockM, if_true, if_false, reduceIte, Nat.reduceEqDiff, List.size_toArray, List.length_cons, List.length_nil, Nat.reduceAdd, Nat.zero_add, List.range, List.range.loop]) | (refine WpM.op_k rfl (by rfl) ?_; intro zu zR; obtain ⟨dd, zh⟩ := zR; subst zh; (try simp only [at_at']); intro zK zhK; go_simp; (try (unfold stored; go_simp)); refine zhK _ _ ⟨?_, ?_⟩; (focus (refine m_idle ?_; simp [go_sem, Instr.field, asAgg]; done)); clear zhK zK; try walk_nrm) | fail)
  refine WpM.callL (vs := #[.slice A1 zs0.length c1, .int .i64 1]) fns_ok_stepsByEnd no_early ⟨_, Try.func10, by rfl⟩ (by kernel_rfl) rfl rfl (by rfl) rfl Try.func18 (by rfl) (by rfl) (by simp [Act.eval]) (fun vv uu => vv = .int .i64 (1 + zs0.length) ∧ RW u13 uu) (fun τ δ => Calls.mono (heldIntS_any _ _ 1 _ _ (show OwnI _ u3.heap.size _ _ from M1) hz0 (by omega) (by omega)) fun e w' ⟨he, hw⟩ => ⟨_, he, fun d => ⟨rfl, d, by rw [← hw]; rfl⟩⟩) ?_; rintro _ _ ⟨rfl, dh, rfl⟩; (try walk_nrm); try simp only [at_at']
  try simp only [at_at']
  rw [← HMM.out]
  repeat (first | ((first | refine WpM.seq ?_ | refine WpM.block ?_ | refine WpM.region ?_ | refine WpM.region_end ?_ | refine WpM.ret ?_ | refine WpM.skip ?_ | refine WpM.exit ?_); try simp only [thenM, inBlockM, if_true, if_false, reduceIte, Nat.reduceEqDiff, List.size_toArray, List.length_cons, List.length_nil, Nat.reduceAdd, Nat.zero_add, List.range, List.range.loop]) | (refine WpM.op_k rfl (by rfl) ?_; intro zu zR; obtain ⟨dd, zh⟩ := zR; subst zh; (try simp only [at_at']); intro zK zhK; go_simp; (try (unfold stored; go_simp)); refine zhK _ _ ⟨?_, ?_⟩; (focus (refine m_idle ?_; simp [go_sem, Instr.field, asAgg]; done)); clear zhK zK; try walk_nrm) | fail)
  refine WpM.cond (t := false) (by simp [Act.eval, hm1]) ?_
  simp only [if_false, Bool.false_eq_true]
  repeat (first | ((first | refine WpM.seq ?_ | refine WpM.block ?_ | refine WpM.region ?_ | refine WpM.region_end ?_ | refine WpM.ret ?_ | refine WpM.skip ?_ | refine WpM.exit ?_); try simp only [thenM, inBlockM, if_true, if_false, reduceIte, Nat.reduceEqDiff, List.size_toArray, List.length_cons, List.length_nil, Nat.reduceAdd, Nat.zero_add, List.range, List.range.loop]) | (refine WpM.op_k rfl (by rfl) ?_; intro zu zR; obtain ⟨dd, zh⟩ := zR; subst zh; (try simp only [at_at']); intro zK zhK; go_simp; (try (unfold stored; go_simp)); refine zhK _ _ ⟨?_, ?_⟩; (focus (refine m_idle ?_; simp [go_sem, Instr.field, asAgg]; done)); clear zhK zK; try walk_nrm) | fail)
  refine WpM.cond (t := false) (by simp [Act.eval]) ?_
  simp only [if_false, Bool.false_eq_true]
  repeat (first | ((first | refine WpM.seq ?_ | refine WpM.block ?_ | refine WpM.region ?_ | refine WpM.region_end ?_ | refine WpM.ret ?_ | refine WpM.skip ?_ | refine WpM.exit ?_); try simp only [thenM, inBlockM, if_true, if_false, reduceIte, Nat.reduceEqDiff, List.size_toArray, List.length_cons, List.length_nil, Nat.reduceAdd, Nat.zero_add, List.range, List.range.loop]) | (refine WpM.op_k rfl (by rfl) ?_; intro zu zR; obtain ⟨dd, zh⟩ := zR; subst zh; (try simp only [at_at']); intro zK zhK; go_simp; (try (unfold stored; go_simp)); refine zhK _ _ ⟨?_, ?_⟩; (focus (refine m_idle ?_; simp [go_sem, Instr.field, asAgg]; done)); clear zhK zK; try walk_nrm) | fail)
  exact ⟨trivial, trivial, trivial, _, resultsC_tmp (by rfl) _, fun d => ⟨rfl, below_at (below_at Bt _) d⟩⟩
end Go.Proofs.Ytfgjgpjdfjlglaa
