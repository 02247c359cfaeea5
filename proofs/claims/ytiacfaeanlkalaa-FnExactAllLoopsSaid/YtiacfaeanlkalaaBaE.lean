/- The end of a ball, on both sides, beside leavers. -/
import Derived.Test.YtiacfaeanlkalaaBaK
import Derived.Test.YtiacfaeanlkalaaGnQ
set_option linter.unusedSimpArgs false
namespace Go.Proofs.Ytiacfaeanlkalaa
set_option maxRecDepth 100000
open Go.Conc Go.RowKit

/-- the functions that are walked for one goroutine alone -/
def Lb (f : FuncId) : Bool := [14, 16, 42, 55, 52, 48, 65, 40, 54, 45, 64, 51, 62, 46, 41, 13].contains f
set_option maxRecDepth 100000 in
theorem fns_ok : ∀ f, Lb f = true → fnOk Try.prog Lb f = true := by
  intro f hf
  simp only [Lb, List.contains_cons, List.contains_nil, Bool.or_false, Bool.or_eq_true, beq_iff_eq] at hf
  rcases hf with rfl | rfl | rfl | rfl | rfl | rfl | rfl | rfl | rfl | rfl | rfl | rfl | rfl | rfl | rfl | rfl <;> kernel_rfl
theorem below_at {B : Nat} {w w' : World} (h : Below B w w') (d : Nat) : Below B w (w'.at d) := ⟨h.os, h.tape, h.output, h.size, h.block⟩
theorem no_early : NoEarly Try.prog := noEarly_of (by kernel_rfl) (by kernel_rfl)

set_option maxRecDepth 100000 in
set_option maxHeartbeats 4000000 in
theorem toLoop_m (v : Value) (B : Nat) (l : List Int) (p : Int) (w : World) (ho : OwnI w B v l) (hn : l.length ≤ 1000) :
    CallsM Try.prog .aside 49 #[.agg #[v, .int .i64 p]] w fun x w' => ∃ k : Int, x = .int .i64 k ∧ (0 ≤ k ↔ p ∈ l) ∧ Below w.heap.size w w' := by
  refine callsM_of Try.func49 rfl ?_
  simp only [Try.ntmps49, List.size_toArray, List.length_cons, List.length_nil, Nat.reduceAdd, Nat.reduceSub, Array.replicate_succ, Array.replicate_zero, List.push_toArray, List.append_toArray, List.nil_append, List.cons_append]
  obtain ⟨A, c, rfl, hr⟩ := ho.form
  iterate 2 (first | ((first | refine WpM.seq ?_ | refine WpM.block ?_ | refine WpM.region ?_ | refine WpM.region_end ?_ | refine WpM.ret ?_ | refine WpM.skip ?_ | refine WpM.exit ?_); try simp only [thenM, inBlockM, if_true, if_false, reduceIte, Nat.reduceEqDiff, List.size_toArray, List.length_cons, List.length_nil, Nat.reduceAdd, Nat.zero_add, List.range, List.range.loop]) | (refine WpM.op_k rfl (by rfl) ?_; intro zu zR; obtain ⟨dd, zh⟩ := zR; subst zh; (try simp only [at_at']); intro zK zhK; go_simp; (try (unfold stored; go_simp)); refine zhK _ _ ⟨?_, ?_⟩; (focus (refine m_idle ?_; simp [go_sem, Instr.field, asAgg]; done)); clear zhK zK; try walk_nrm) | fail)
  (refine WpM.op_k rfl (by rfl) ?_; intro zu zR; obtain ⟨dd, zh⟩ := zR; subst zh; (try simp only [at_at']); intro zK zhK; go_simp; (try (unfold stored; go_simp)); refine zhK _ _ ⟨?_, ?_⟩; (focus (exact d_alloc (listed_nil (by simp [go_sem])); done)); clear zhK zK; try walk_nrm)
  have hG : Blk ((w.at dd).alloc (.cells #[.slice A l.length c, .int .i64 p] 49)) w.heap.size 49 #[.slice A l.length c, .int .i64 p] := Blk.new (w.at dd) _ _
  have hb : Below w.heap.size w ((w.at dd).alloc (.cells #[.slice A l.length c, .int .i64 p] 49)) := (below_at (Below.refl _ _) dd).trans (below_alloc (w.at dd) _)
  have hr2 := hr.below hb (Nat.le_refl _)
  simp only [at_size]
  generalize (w.at dd).alloc (.cells #[.slice A l.length c, .int .i64 p] 49) = u at hG hb hr2
  iterate 5 (first | ((first | refine WpM.seq ?_ | refine WpM.block ?_ | refine WpM.region ?_ | refine WpM.region_end ?_ | refine WpM.ret ?_ | refine WpM.skip ?_ | refine WpM.exit ?_); try simp only [thenM, inBlockM, if_true, if_false, reduceIte, Nat.reduceEqDiff, List.size_toArray, List.length_cons, List.length_nil, Nat.reduceAdd, Nat.zero_add, List.range, List.range.loop]) | (refine WpM.op_k rfl (by rfl) ?_; intro zu zR; obtain ⟨dd, zh⟩ := zR; subst zh; (try simp only [at_at']); intro zK zhK; go_simp; (try (unfold stored; go_simp)); refine zhK _ _ ⟨?_, ?_⟩; (focus (refine m_idle ?_; simp [go_sem, Instr.field, asAgg]; done)); clear zhK zK; try walk_nrm) | fail)
  (refine WpM.op_k rfl (by rfl) ?_; intro zu zR; obtain ⟨dd, zh⟩ := zR; subst zh; (try simp only [at_at']); intro zK zhK; (have hx : (u.at dd).cell? ⟨w.heap.size, 0, none⟩ = some (.slice A l.length c) := hG.cell 0); go_simp; (try (unfold stored; go_simp)); refine zhK _ _ ⟨?_, ?_⟩; (focus (refine Mode.look _ _ (looks_cells fun e he => ?_); have hm := mem_listed he; simp [go_sem, hx] at hm; exact ⟨_, hm⟩; done)); clear zhK zK; try walk_nrm)
  (refine WpM.op_k rfl (by rfl) ?_; intro zu zR; obtain ⟨dd, zh⟩ := zR; subst zh; (try simp only [at_at']); intro zK zhK; go_simp; (try (unfold stored; go_simp)); refine zhK _ _ ⟨?_, ?_⟩; (focus (refine m_idle ?_; simp [go_sem, Instr.field, asAgg]; done)); clear zhK zK; try walk_nrm)
  (refine WpM.op_k rfl (by rfl) ?_; intro zu zR; obtain ⟨dd, zh⟩ := zR; subst zh; (try simp only [at_at']); intro zK zhK; (have hx : (u.at dd).cell? ⟨w.heap.size, 1, none⟩ = some (.int .i64 p) := hG.cell 1); go_simp; (try (unfold stored; go_simp)); refine zhK _ _ ⟨?_, ?_⟩; (focus (refine Mode.look _ _ (looks_cells fun e he => ?_); have hm := mem_listed he; simp [go_sem, hx] at hm; exact ⟨_, hm⟩; done)); clear zhK zK; try walk_nrm)
  refine WpM.callM rfl (by rfl) rfl Try.func56 (by rfl) (by rfl) (by simp [Act.eval]) (index_m .aside A _ c l p _ (rd_at hr2 _) (by omega)) ?_
  rintro x u2 ⟨k, rfl, hk, d6, rfl⟩
  try walk_nrm
  try simp only [at_at']
  iterate 3 (first | ((first | refine WpM.seq ?_ | refine WpM.block ?_ | refine WpM.region ?_ | refine WpM.region_end ?_ | refine WpM.ret ?_ | refine WpM.skip ?_ | refine WpM.exit ?_); try simp only [thenM, inBlockM, if_true, if_false, reduceIte, Nat.reduceEqDiff, List.size_toArray, List.length_cons, List.length_nil, Nat.reduceAdd, Nat.zero_add, List.range, List.range.loop]) | (refine WpM.op_k rfl (by rfl) ?_; intro zu zR; obtain ⟨dd, zh⟩ := zR; subst zh; (try simp only [at_at']); intro zK zhK; go_simp; (try (unfold stored; go_simp)); refine zhK _ _ ⟨?_, ?_⟩; (focus (refine m_idle ?_; simp [go_sem, Instr.field, asAgg]; done)); clear zhK zK; try walk_nrm) | fail)
  exact ⟨trivial, trivial, trivial, _, resultsC_tmp (by rfl) _, k, rfl, hk, below_at hb _⟩

/-- how a course ends -/
def endS (l : List Int) (p : Int) : Array UInt8 := if p ∈ l then #[108] else if p = -1 then #[97] else #[98]

set_option maxRecDepth 100000 in
set_option maxHeartbeats 4000000 in
theorem end_m (v : Value) (B : Nat) (l : List Int) (p : Int) (w : World) (ho : OwnI w B v l) (hn : l.length ≤ 1000) :
    CallsM Try.prog .aside 44 #[.agg #[v, .int .i64 p]] w fun x w' => x = .string ⟨endS l p⟩ ∧ Below w.heap.size w w' := by
  refine callsM_of Try.func44 rfl ?_
  simp only [Try.ntmps44, List.size_toArray, List.length_cons, List.length_nil, Nat.reduceAdd, Nat.reduceSub, Array.replicate_succ, Array.replicate_zero, List.push_toArray, List.append_toArray, List.nil_append, List.cons_append]
  obtain ⟨A, c, rfl, hr⟩ := ho.form
  iterate 2 (first | ((first | refine WpM.seq ?_ | refine WpM.block ?_ | refine WpM.region ?_ | refine WpM.region_end ?_ | refine WpM.ret ?_ | refine WpM.skip ?_ | refine WpM.exit ?_); try simp only [thenM, inBlockM, if_true, if_false, reduceIte, Nat.reduceEqDiff, List.size_toArray, List.length_cons, List.length_nil, Nat.reduceAdd, Nat.zero_add, List.range, List.range.loop]) | (refine WpM.op_k rfl (by rfl) ?_; intro zu zR; obtain ⟨dd, zh⟩ := zR; subst zh; (try simp only [at_at']); intro zK zhK; go_simp; (try (unfold stored; go_simp)); refine zhK _ _ ⟨?_, ?_⟩; (focus (refine m_idle ?_; simp [go_sem, Instr.field, asAgg]; done)); clear zhK zK; try walk_nrm) | fail)
  (refine WpM.op_k rfl (by rfl) ?_; intro zu zR; obtain ⟨dd, zh⟩ := zR; subst zh; (try simp only [at_at']); intro zK zhK; go_simp; (try (unfold stored; go_simp)); refine zhK _ _ ⟨?_, ?_⟩; (focus (exact d_alloc (listed_nil (by simp [go_sem])); done)); clear zhK zK; try walk_nrm)
  have hG : Blk ((w.at dd).alloc (.cells #[.slice A l.length c, .int .i64 p] 49)) w.heap.size 49 #[.slice A l.length c, .int .i64 p] := Blk.new (w.at dd) _ _
  have hb : Below w.heap.size w ((w.at dd).alloc (.cells #[.slice A l.length c, .int .i64 p] 49)) := (below_at (Below.refl _ _) dd).trans (below_alloc (w.at dd) _)
  have ho2 := ho.below hb (Nat.le_refl _)
  simp only [at_size]
  generalize (w.at dd).alloc (.cells #[.slice A l.length c, .int .i64 p] 49) = u at hG hb ho2
  iterate 5 (first | ((first | refine WpM.seq ?_ | refine WpM.block ?_ | refine WpM.region ?_ | refine WpM.region_end ?_ | refine WpM.ret ?_ | refine WpM.skip ?_ | refine WpM.exit ?_); try simp only [thenM, inBlockM, if_true, if_false, reduceIte, Nat.reduceEqDiff, List.size_toArray, List.length_cons, List.length_nil, Nat.reduceAdd, Nat.zero_add, List.range, List.range.loop]) | (refine WpM.op_k rfl (by rfl) ?_; intro zu zR; obtain ⟨dd, zh⟩ := zR; subst zh; (try simp only [at_at']); intro zK zhK; go_simp; (try (unfold stored; go_simp)); refine zhK _ _ ⟨?_, ?_⟩; (focus (refine m_idle ?_; simp [go_sem, Instr.field, asAgg]; done)); clear zhK zK; try walk_nrm) | fail)
  (refine WpM.op_k rfl (by rfl) ?_; intro zu zR; obtain ⟨dd, zh⟩ := zR; subst zh; (try simp only [at_at']); intro zK zhK; (have hG2 : Blk (u.at dd) _ _ _ := hG; have hx := hG2.cell 0; have hy := hG2.cell 1); go_simp; (try (unfold stored; go_simp)); refine zhK _ _ ⟨?_, ?_⟩; (focus (refine Mode.look _ _ (looks_cells fun e he => ?_); have hm := mem_listed he; simp [go_sem, hx, hy] at hm; rcases hm with rfl | rfl <;> exact ⟨_, rfl⟩; done)); clear zhK zK; try walk_nrm)
  refine WpM.callM rfl (by rfl) rfl Try.func49 (by rfl) (by rfl) (by simp [Act.eval]) (toLoop_m _ B l p (u.at dd) ho2 hn) ?_
  rintro x u2 ⟨k, rfl, hk, hb2⟩
  have hG3 : Blk u2 w.heap.size 49 #[.slice A l.length c, .int .i64 p] := (show Blk (u.at dd) _ _ _ from hG).below hb2 (show w.heap.size < u.heap.size from hG.lt)
  have hb3 : Below w.heap.size w u2 := (below_at hb dd).trans (hb2.mono (show w.heap.size ≤ u.heap.size from hb.size))
  try walk_nrm
  by_cases h : p ∈ l
  · have h0 := hk.2 h
    (refine WpM.op_k rfl (by rfl) ?_; intro zu zR; obtain ⟨dd, zh⟩ := zR; subst zh; (try simp only [at_at']); intro zK zhK; (have h1 := h0); go_simp; (try (unfold stored; go_simp)); refine zhK _ _ ⟨?_, ?_⟩; (focus (exact m_idle (by simp [go_sem]); done)); clear zhK zK; try walk_nrm)
    ((first | refine WpM.seq ?_ | refine WpM.block ?_ | refine WpM.region ?_ | refine WpM.region_end ?_ | refine WpM.ret ?_ | refine WpM.skip ?_ | refine WpM.exit ?_); try simp only [thenM, inBlockM, if_true, if_false, reduceIte, Nat.reduceEqDiff, List.size_toArray, List.length_cons, List.length_nil, Nat.reduceAdd, Nat.zero_add, List.range, List.range.loop])
    refine WpM.cond (t := true) (by simp [Act.eval, h0]) ?_
    simp only [if_true]
    iterate 5 (first | ((first | refine WpM.seq ?_ | refine WpM.block ?_ | refine WpM.region ?_ | refine WpM.region_end ?_ | refine WpM.ret ?_ | refine WpM.skip ?_ | refine WpM.exit ?_); try simp only [thenM, inBlockM, if_true, if_false, reduceIte, Nat.reduceEqDiff, List.size_toArray, List.length_cons, List.length_nil, Nat.reduceAdd, Nat.zero_add, List.range, List.range.loop]) | (refine WpM.op_k rfl (by rfl) ?_; intro zu zR; obtain ⟨dd, zh⟩ := zR; subst zh; (try simp only [at_at']); intro zK zhK; go_simp; (try (unfold stored; go_simp)); refine zhK _ _ ⟨?_, ?_⟩; (focus (refine m_idle ?_; simp [go_sem, Instr.field, asAgg]; done)); clear zhK zK; try walk_nrm) | fail)
    exact ⟨trivial, trivial, trivial, _, resultsC_tmp (by rfl) _, by simp [endS, h], below_at hb3 _⟩
  · have h0 : ¬ 0 ≤ k := fun x => h (hk.1 x)
    (refine WpM.op_k rfl (by rfl) ?_; intro zu zR; obtain ⟨dd, zh⟩ := zR; subst zh; (try simp only [at_at']); intro zK zhK; (have h1 := h0); go_simp; (try (unfold stored; go_simp)); refine zhK _ _ ⟨?_, ?_⟩; (focus (exact m_idle (by simp [go_sem]); done)); clear zhK zK; try walk_nrm)
    ((first | refine WpM.seq ?_ | refine WpM.block ?_ | refine WpM.region ?_ | refine WpM.region_end ?_ | refine WpM.ret ?_ | refine WpM.skip ?_ | refine WpM.exit ?_); try simp only [thenM, inBlockM, if_true, if_false, reduceIte, Nat.reduceEqDiff, List.size_toArray, List.length_cons, List.length_nil, Nat.reduceAdd, Nat.zero_add, List.range, List.range.loop])
    refine WpM.cond (t := false) (by simp [Act.eval, h0]) ?_
    simp only [if_false, Bool.false_eq_true]
    iterate 5 (first | ((first | refine WpM.seq ?_ | refine WpM.block ?_ | refine WpM.region ?_ | refine WpM.region_end ?_ | refine WpM.ret ?_ | refine WpM.skip ?_ | refine WpM.exit ?_); try simp only [thenM, inBlockM, if_true, if_false, reduceIte, Nat.reduceEqDiff, List.size_toArray, List.length_cons, List.length_nil, Nat.reduceAdd, Nat.zero_add, List.range, List.range.loop]) | (refine WpM.op_k rfl (by rfl) ?_; intro zu zR; obtain ⟨dd, zh⟩ := zR; subst zh; (try simp only [at_at']); intro zK zhK; go_simp; (try (unfold stored; go_simp)); refine zhK _ _ ⟨?_, ?_⟩; (focus (refine m_idle ?_; simp [go_sem, Instr.field, asAgg]; done)); clear zhK zK; try walk_nrm) | fail)
    (refine WpM.op_k rfl (by rfl) ?_; intro zu zR; obtain ⟨dd, zh⟩ := zR; subst zh; (try simp only [at_at']); intro zK zhK; (have hx : (u2.at dd).cell? ⟨w.heap.size, 1, none⟩ = some (.int .i64 p) := hG3.cell 1); go_simp; (try (unfold stored; go_simp)); refine zhK _ _ ⟨?_, ?_⟩; (focus (refine Mode.look _ _ (looks_cells fun e he => ?_); have hm := mem_listed he; simp [go_sem, hx] at hm; exact ⟨_, hm⟩; done)); clear zhK zK; try walk_nrm)
    by_cases h2 : p = -1
    · (refine WpM.op_k rfl (by rfl) ?_; intro zu zR; obtain ⟨dd, zh⟩ := zR; subst zh; (try simp only [at_at']); intro zK zhK; (have h1 := h2); go_simp; (try (unfold stored; go_simp)); refine zhK _ _ ⟨?_, ?_⟩; (focus (exact m_idle (by simp [go_sem]); done)); clear zhK zK; try walk_nrm)
      ((first | refine WpM.seq ?_ | refine WpM.block ?_ | refine WpM.region ?_ | refine WpM.region_end ?_ | refine WpM.ret ?_ | refine WpM.skip ?_ | refine WpM.exit ?_); try simp only [thenM, inBlockM, if_true, if_false, reduceIte, Nat.reduceEqDiff, List.size_toArray, List.length_cons, List.length_nil, Nat.reduceAdd, Nat.zero_add, List.range, List.range.loop])
      refine WpM.cond (t := true) (by simp [Act.eval, h2]) ?_
      simp only [if_true]
      iterate 5 (first | ((first | refine WpM.seq ?_ | refine WpM.block ?_ | refine WpM.region ?_ | refine WpM.region_end ?_ | refine WpM.ret ?_ | refine WpM.skip ?_ | refine WpM.exit ?_); try simp only [thenM, inBlockM, if_true, if_false, reduceIte, Nat.reduceEqDiff, List.size_toArray, List.length_cons, List.length_nil, Nat.reduceAdd, Nat.zero_add, List.range, List.range.loop]) | (refine WpM.op_k rfl (by rfl) ?_; intro zu zR; obtain ⟨dd, zh⟩ := zR; subst zh; (try simp only [at_at']); intro zK zhK; go_simp; (try (unfold stored; go_simp)); refine zhK _ _ ⟨?_, ?_⟩; (focus (refine m_idle ?_; simp [go_sem, Instr.field, asAgg]; done)); clear zhK zK; try walk_nrm) | fail)
      exact ⟨trivial, trivial, trivial, _, resultsC_tmp (by rfl) _, by simp only [endS, if_neg h, if_pos h2]; rfl, below_at hb3 _⟩
    · (refine WpM.op_k rfl (by rfl) ?_; intro zu zR; obtain ⟨dd, zh⟩ := zR; subst zh; (try simp only [at_at']); intro zK zhK; (have h1 := h2); go_simp; (try (unfold stored; go_simp)); refine zhK _ _ ⟨?_, ?_⟩; (focus (exact m_idle (by simp [go_sem]); done)); clear zhK zK; try walk_nrm)
      ((first | refine WpM.seq ?_ | refine WpM.block ?_ | refine WpM.region ?_ | refine WpM.region_end ?_ | refine WpM.ret ?_ | refine WpM.skip ?_ | refine WpM.exit ?_); try simp only [thenM, inBlockM, if_true, if_false, reduceIte, Nat.reduceEqDiff, List.size_toArray, List.length_cons, List.length_nil, Nat.reduceAdd, Nat.zero_add, List.range, List.range.loop])
      refine WpM.cond (t := false) (by simp [Act.eval, h2]) ?_
      simp only [if_false, Bool.false_eq_true]
      iterate 6 (first | ((first | refine WpM.seq ?_ | refine WpM.block ?_ | refine WpM.region ?_ | refine WpM.region_end ?_ | refine WpM.ret ?_ | refine WpM.skip ?_ | refine WpM.exit ?_); try simp only [thenM, inBlockM, if_true, if_false, reduceIte, Nat.reduceEqDiff, List.size_toArray, List.length_cons, List.length_nil, Nat.reduceAdd, Nat.zero_add, List.range, List.range.loop]) | (refine WpM.op_k rfl (by rfl) ?_; intro zu zR; obtain ⟨dd, zh⟩ := zR; subst zh; (try simp only [at_at']); intro zK zhK; go_simp; (try (unfold stored; go_simp)); refine zhK _ _ ⟨?_, ?_⟩; (focus (refine m_idle ?_; simp [go_sem, Instr.field, asAgg]; done)); clear zhK zK; try walk_nrm) | fail)
      exact ⟨trivial, trivial, trivial, _, resultsC_tmp (by rfl) _, by simp [endS, h, h2], below_at hb3 _⟩

/-- the end of a ball, or nothing -/
def endR (xs : List Int) (s : Int) : Array UInt8 := if ballB xs s then endS (courseB xs s).1 (courseB xs s).2 else #[]

/-- the course of a ball, beside leavers -/
theorem course_m (A : Option Addr) (c : Nat) (xs : List Int) (s : Int) (B : Nat) (w : World) (hr : Rd w B A c xs) (hB : B ≤ w.heap.size) (hJ : jumpsB xs = true) :
    CallsM Try.prog .aside 43 #[.slice A xs.length c, .int .i64 s] w fun v w' => ∃ pv, v = .agg #[pv, .int .i64 (courseB xs s).2] ∧ OwnI w' w.heap.size pv (courseB xs s).1 ∧ Below w.heap.size w w' := by
  have hl := jumpsB_le hJ
  obtain ⟨b, o, rfl, hb, _⟩ := hr.at_ (k := 0) (by omega)
  exact callsM_of_R (courseOf_any b o c xs s w hJ (fun k hk => by
    obtain ⟨b', o', e, _, hc⟩ := hr.at_ hk
    cases e
    exact hc) (by omega))

theorem walk_len (xs : List Int) : ∀ f l p, (walkB xs f l p).1.length ≤ f + l.length := by
  intro f
  induction f with
  | zero => intro l p; simp [walkB]
  | succ f ih =>
    intro l p
    rw [walkB]
    split
    · have := ih (l ++ [p]) (nextI xs p)
      simp at this
      omega
    · simp
theorem course_len {xs : List Int} (hJ : jumpsB xs = true) (s : Int) : (courseB xs s).1.length ≤ 1000 := by
  have := jumpsB_le hJ
  unfold courseB
  have h2 := walk_len xs (xs.length + 1) [] s
  simp at h2
  omega

set_option maxRecDepth 100000 in
set_option maxHeartbeats 4000000 in
theorem implEnd_m (A : Option Addr) (c : Nat) (xs : List Int) (s : Int) (B : Nat) (w : World) (hr : Rd w B A c xs) (hB : B ≤ w.heap.size) (hn : xs.length ≤ 1048576) :
    CallsM Try.prog .aside 15 #[.slice A xs.length c, .int .i64 s] w fun x w' => x = .tuple #[.string ⟨endR xs s⟩, .bool (ballB xs s)] ∧ Below w.heap.size w w' := by
  refine callsM_of Try.func15 rfl ?_
  simp only [Try.ntmps15, List.size_toArray, List.length_cons, List.length_nil, Nat.reduceAdd, Nat.reduceSub, Array.replicate_succ, Array.replicate_zero, List.push_toArray, List.append_toArray, List.nil_append, List.cons_append]
  iterate 9 (first | ((first | refine WpM.seq ?_ | refine WpM.block ?_ | refine WpM.region ?_ | refine WpM.region_end ?_ | refine WpM.ret ?_ | refine WpM.skip ?_ | refine WpM.exit ?_); try simp only [thenM, inBlockM, if_true, if_false, reduceIte, Nat.reduceEqDiff, List.size_toArray, List.length_cons, List.length_nil, Nat.reduceAdd, Nat.zero_add, List.range, List.range.loop]) | (refine WpM.op_k rfl (by rfl) ?_; intro zu zR; obtain ⟨dd, zh⟩ := zR; subst zh; (try simp only [at_at']); intro zK zhK; go_simp; (try (unfold stored; go_simp)); refine zhK _ _ ⟨?_, ?_⟩; (focus (refine m_idle ?_; simp [go_sem, Instr.field, asAgg]; done)); clear zhK zK; try walk_nrm) | fail)
  (refine WpM.op_k rfl (by rfl) ?_; intro zu zR; obtain ⟨d7, zh⟩ := zR; subst zh; (try simp only [at_at']); intro zK zhK; go_simp; (try (unfold stored; go_simp)); refine zhK _ _ ⟨?_, ?_⟩; (focus (exact m_idle (by simp [go_sem]); done)); clear zhK zK; try walk_nrm)
  refine WpM.callL (vs := #[.slice A xs.length c, .int .i64 s]) fns_ok no_early ⟨_, Try.func15, by rfl⟩ (by kernel_rfl) rfl rfl (by rfl) rfl Try.func42 (by rfl) (by rfl) (by simp [Act.eval]) (fun vv uu => vv = .bool (ballB xs s) ∧ RW (w.at d7) uu) (lone_same (w := (w.at d7)) (V := .bool (ballB xs s)) fun τ δ => hasBall_any A c xs s B _ ⟨hr.1, hr.2⟩ hn) ?_; rintro _ _ ⟨rfl, d5, rfl⟩; (try walk_nrm); try simp only [at_at']
  cases hb : ballB xs s
  · iterate 2 (first | ((first | refine WpM.seq ?_ | refine WpM.block ?_ | refine WpM.region ?_ | refine WpM.region_end ?_ | refine WpM.ret ?_ | refine WpM.skip ?_ | refine WpM.exit ?_); try simp only [thenM, inBlockM, if_true, if_false, reduceIte, Nat.reduceEqDiff, List.size_toArray, List.length_cons, List.length_nil, Nat.reduceAdd, Nat.zero_add, List.range, List.range.loop]) | (refine WpM.op_k rfl (by rfl) ?_; intro zu zR; obtain ⟨dd, zh⟩ := zR; subst zh; (try simp only [at_at']); intro zK zhK; go_simp; (try (unfold stored; go_simp)); refine zhK _ _ ⟨?_, ?_⟩; (focus (refine m_idle ?_; simp [go_sem, Instr.field, asAgg]; done)); clear zhK zK; try walk_nrm) | fail)
    refine WpM.cond (t := true) (by simp [Act.eval]) ?_
    simp only [if_true]
    iterate 6 (first | ((first | refine WpM.seq ?_ | refine WpM.block ?_ | refine WpM.region ?_ | refine WpM.region_end ?_ | refine WpM.ret ?_ | refine WpM.skip ?_ | refine WpM.exit ?_); try simp only [thenM, inBlockM, if_true, if_false, reduceIte, Nat.reduceEqDiff, List.size_toArray, List.length_cons, List.length_nil, Nat.reduceAdd, Nat.zero_add, List.range, List.range.loop]) | (refine WpM.op_k rfl (by rfl) ?_; intro zu zR; obtain ⟨dd, zh⟩ := zR; subst zh; (try simp only [at_at']); intro zK zhK; go_simp; (try (unfold stored; go_simp)); refine zhK _ _ ⟨?_, ?_⟩; (focus (refine m_idle ?_; simp [go_sem, Instr.field, asAgg]; done)); clear zhK zK; try walk_nrm) | fail)
    exact ⟨trivial, trivial, trivial, _, resultsC_tmp2 (by rfl) _, by simp [endR, hb], below_at (Below.refl _ _) _⟩
  · have hJ := (ballB_le hb).1
    iterate 2 (first | ((first | refine WpM.seq ?_ | refine WpM.block ?_ | refine WpM.region ?_ | refine WpM.region_end ?_ | refine WpM.ret ?_ | refine WpM.skip ?_ | refine WpM.exit ?_); try simp only [thenM, inBlockM, if_true, if_false, reduceIte, Nat.reduceEqDiff, List.size_toArray, List.length_cons, List.length_nil, Nat.reduceAdd, Nat.zero_add, List.range, List.range.loop]) | (refine WpM.op_k rfl (by rfl) ?_; intro zu zR; obtain ⟨dd, zh⟩ := zR; subst zh; (try simp only [at_at']); intro zK zhK; go_simp; (try (unfold stored; go_simp)); refine zhK _ _ ⟨?_, ?_⟩; (focus (refine m_idle ?_; simp [go_sem, Instr.field, asAgg]; done)); clear zhK zK; try walk_nrm) | fail)
    refine WpM.cond (t := false) (by simp [Act.eval]) ?_
    simp only [if_false, Bool.false_eq_true]
    iterate 4 (first | ((first | refine WpM.seq ?_ | refine WpM.block ?_ | refine WpM.region ?_ | refine WpM.region_end ?_ | refine WpM.ret ?_ | refine WpM.skip ?_ | refine WpM.exit ?_); try simp only [thenM, inBlockM, if_true, if_false, reduceIte, Nat.reduceEqDiff, List.size_toArray, List.length_cons, List.length_nil, Nat.reduceAdd, Nat.zero_add, List.range, List.range.loop]) | (refine WpM.op_k rfl (by rfl) ?_; intro zu zR; obtain ⟨dd, zh⟩ := zR; subst zh; (try simp only [at_at']); intro zK zhK; go_simp; (try (unfold stored; go_simp)); refine zhK _ _ ⟨?_, ?_⟩; (focus (refine m_idle ?_; simp [go_sem, Instr.field, asAgg]; done)); clear zhK zK; try walk_nrm) | fail)
    (refine WpM.op_k rfl (by rfl) ?_; intro zu zR; obtain ⟨d8, zh⟩ := zR; subst zh; (try simp only [at_at']); intro zK zhK; go_simp; (try (unfold stored; go_simp)); refine zhK _ _ ⟨?_, ?_⟩; (focus (exact m_idle (by simp [go_sem]); done)); clear zhK zK; try walk_nrm)
    refine WpM.callM rfl (by rfl) rfl Try.func43 (by rfl) (by rfl) (by simp [Act.eval]) (course_m A c xs s B (w.at d8) (rd_at hr _) hB hJ) ?_
    rintro x u ⟨pv, rfl, ho, hb1⟩
    try walk_nrm
    refine WpM.callM rfl (by rfl) rfl Try.func44 (by rfl) (by rfl) (by simp [Act.eval]) (end_m pv _ (courseB xs s).1 (courseB xs s).2 u ho (course_len hJ s)) ?_
    rintro x u2 ⟨rfl, hb2⟩
    try walk_nrm
    have hb3 : Below w.heap.size w u2 := ((below_at (Below.refl _ _) d8).trans hb1).trans (hb2.mono hb1.size)
    iterate 4 (first | ((first | refine WpM.seq ?_ | refine WpM.block ?_ | refine WpM.region ?_ | refine WpM.region_end ?_ | refine WpM.ret ?_ | refine WpM.skip ?_ | refine WpM.exit ?_); try simp only [thenM, inBlockM, if_true, if_false, reduceIte, Nat.reduceEqDiff, List.size_toArray, List.length_cons, List.length_nil, Nat.reduceAdd, Nat.zero_add, List.range, List.range.loop]) | (refine WpM.op_k rfl (by rfl) ?_; intro zu zR; obtain ⟨dd, zh⟩ := zR; subst zh; (try simp only [at_at']); intro zK zhK; go_simp; (try (unfold stored; go_simp)); refine zhK _ _ ⟨?_, ?_⟩; (focus (refine m_idle ?_; simp [go_sem, Instr.field, asAgg]; done)); clear zhK zK; try walk_nrm) | fail)
    exact ⟨trivial, trivial, trivial, _, resultsC_tmp2 (by rfl) _, by simp [endR, hb], below_at hb3 _⟩

theorem wpm_append0 {fn : FuncId} {a : Act} {u : World} {Q : Exit → Mode Try.prog → Act → World → Prop} {ops : Array Oper} {i : Nat} {rest : List Nat} {o : Oper} {B0 g : Nat} {l : List Int} {v : Value} {y : Int} {s z : Operand} (hB0 : B0 ≤ u.heap.size)
    (ho : ops[i]? = some o) (hw : Region.wanted o (yielded ops a.tmps) = true) (hop : o.op = .call { callee := .builtin .append, args := #[s, z], argTypes := #[22, 22] }) (hs : a.eval s = v) (hz : a.eval z = .slice (some ⟨g, 0, none⟩) 1 1)
    (hown : OwnI u B0 v l) (hc : u.cell? ⟨g, 0, none⟩ = some (.int .i64 y)) (hn : l.length ≤ 1000)
    (h : ∀ d v' u', OwnI u' B0 v' (l ++ [y]) → Below B0 (u.at d) u' → WpM fn .aside (.inRegion ops rest) Q (a.put o.dst v') u') : WpM fn .aside (.inRegion ops (i :: rest)) Q a u := by
  refine .op ho hw fun u1 hu => ?_
  obtain ⟨d, rfl⟩ := hu
  have hown' : OwnI (u.at d) B0 v l := hown
  have hr : Rd (u.at d) (g + 1) (some ⟨g, 0, none⟩) 1 [y] := ⟨by simp, fun k hk => ⟨g, 0, rfl, by omega, by
    have : k = 0 := by simp at hk; exact hk
    subst this
    exact hc⟩⟩
  obtain ⟨v', u', hrun, h1, h2, h3, h4⟩ := run_append_rd (u.at d) o.type B0 (g + 1) v l [y] hown' _ 1 hr (by simp; omega) hB0
  refine ⟨v', u', run_append_op hop hs hz hrun, ?_, h d v' u' h1 h2⟩
  intro e he
  have hm := mem_listed he
  rw [events_append_op s z 22 hop hs hz] at hm
  obtain ⟨i0, hi, hz0, hsz, hby⟩ := info_parts int_info
  rcases events_append_where (P := Try.prog) (u.at d) B0 22 o.type 3 i0 (.int .i64 0) 1 8 Try.underlying22 hi hz0 hsz hby v l.length _ hown' ⟨g, 0, none⟩ 1 1 [.int .i64 y] rfl (by
      intro j w hw
      cases j with
      | zero => simp at hw; subst hw; exact hc
      | succ j => simp at hw) (by simp [Value.oneCell']) (by simp only [maxLen]; omega) (by omega) e hm with ⟨ad, h5, h6⟩ | ⟨m, rfl, hm2⟩
  · exact ⟨by rw [h5]; simp, by rw [h5]; simp⟩
  · exact ⟨fun h => hm2.ne_disable (by simpa using h), fun h => hm2.ne_enable (by simpa using h)⟩

theorem hasB_dec (l : List Int) (p : Int) : hasB l p = decide (p ∈ l) := by
  unfold hasB
  rw [Bool.eq_iff_iff]
  simp
theorem inB_dec (p : Int) (n : Nat) : inB p 0 ((n : Int) - 1) = (decide (0 ≤ p) && decide (p < n)) := by
  by_cases h : 0 ≤ p ∧ p ≤ (n : Int) - 1
  · rw [inB_yes h.1 h.2]; simp; omega
  · rw [inB_no (by omega)]; simp; omega

set_option maxRecDepth 100000 in
set_option maxHeartbeats 4000000 in
theorem baPath_m (A0 : Option Addr) (c0 : Nat) (xs : List Int) (s : Int) (B : Nat) (w : World) (hr : Rd w B A0 c0 xs) (hB : B ≤ w.heap.size) (hJ : jumpsB xs = true) :
    CallsM Try.prog .aside 46 #[.slice A0 xs.length c0, .int .i64 s] w fun x w' => ∃ pv, x = .tuple #[pv, .int .i64 (courseB xs s).2] ∧ OwnI w' w.heap.size pv (courseB xs s).1 ∧ Below w.heap.size w w' := by
  have hl30 := jumpsB_le hJ
  refine callsM_of Try.func46 rfl ?_
  simp only [Try.ntmps46, List.size_toArray, List.length_cons, List.length_nil, Nat.reduceAdd, Nat.reduceSub, Array.replicate_succ, Array.replicate_zero, List.push_toArray, List.append_toArray, List.nil_append, List.cons_append]
  iterate 15 (first | ((first | refine WpM.seq ?_ | refine WpM.block ?_ | refine WpM.region ?_ | refine WpM.region_end ?_ | refine WpM.ret ?_ | refine WpM.skip ?_ | refine WpM.exit ?_); try simp only [thenM, inBlockM, if_true, if_false, reduceIte, Nat.reduceEqDiff, List.size_toArray, List.length_cons, List.length_nil, Nat.reduceAdd, Nat.zero_add, List.range, List.range.loop]) | (refine WpM.op_k rfl (by rfl) ?_; intro zu zR; obtain ⟨dd, zh⟩ := zR; subst zh; (try simp only [at_at']); intro zK zhK; go_simp; (try (unfold stored; go_simp)); refine zhK _ _ ⟨?_, ?_⟩; (focus (refine m_idle ?_; simp [go_sem, Instr.field, asAgg]; done)); clear zhK zK; try walk_nrm) | fail)
  refine WpM.mono (Q := thenM (fun m' a u => ∃ (v : Value) (l : List Int) (p : Int) (u8 u9 u10 u11 u12 u13 u14 u15 u16 u17 u18 u19 u20 u21 u22 u23 u24 u25 u26 u27 u28 u29 u30 u31 : Value), m' = .aside ∧ Below w.heap.size w u ∧ OwnI u w.heap.size v l ∧ (l, p) = courseB xs s ∧ a = { tmps := #[.slice A0 xs.length c0, .int .i64 s, undef, undef, .slice none 0 0, .int .i64 0, v, .int .i64 p, u8, u9, u10, u11, u12, u13, u14, u15, u16, u17, u18, u19, u20, u21, u22, u23, u24, u25, u26, u27, u28, u29, u30, u31], defers := [] }) (fun _ _ _ _ => False)) ?_ (fun e m' a u hq => ?_)
  rotate_left
  · cases e with
    | normal =>
      obtain ⟨v, l, p, u8, u9, u10, u11, u12, u13, u14, u15, u16, u17, u18, u19, u20, u21, u22, u23, u24, u25, u26, u27, u28, u29, u30, u31, rfl, hb, ho, hlp, rfl⟩ := hq
      simp only [thenM, inBlockM, if_true, if_false, reduceIte, Nat.reduceEqDiff, List.size_toArray, List.length_cons, List.length_nil, Nat.reduceAdd, Nat.zero_add, List.range, List.range.loop]
      iterate 8 (first | ((first | refine WpM.seq ?_ | refine WpM.block ?_ | refine WpM.region ?_ | refine WpM.region_end ?_ | refine WpM.ret ?_ | refine WpM.skip ?_ | refine WpM.exit ?_); try simp only [thenM, inBlockM, if_true, if_false, reduceIte, Nat.reduceEqDiff, List.size_toArray, List.length_cons, List.length_nil, Nat.reduceAdd, Nat.zero_add, List.range, List.range.loop]) | (refine WpM.op_k rfl (by rfl) ?_; intro zu zR; obtain ⟨dd, zh⟩ := zR; subst zh; (try simp only [at_at']); intro zK zhK; go_simp; (try (unfold stored; go_simp)); refine zhK _ _ ⟨?_, ?_⟩; (focus (refine m_idle ?_; simp [go_sem, Instr.field, asAgg]; done)); clear zhK zK; try walk_nrm) | fail)
      exact ⟨trivial, trivial, trivial, _, resultsC_tmp2 (by rfl) _, v, by rw [← hlp]; rfl, by rw [← hlp]; exact ho, below_at hb _⟩
    | _ => exact hq.elim
  ((first | refine WpM.seq ?_ | refine WpM.block ?_ | refine WpM.region ?_ | refine WpM.region_end ?_ | refine WpM.ret ?_ | refine WpM.skip ?_ | refine WpM.exit ?_); try simp only [thenM, inBlockM, if_true, if_false, reduceIte, Nat.reduceEqDiff, List.size_toArray, List.length_cons, List.length_nil, Nat.reduceAdd, Nat.zero_add, List.range, List.range.loop])
  refine WpM.loop (fun j m' a u => ∃ (v : Value) (l : List Int) (p : Int) (u8 u9 u10 u11 u12 u13 u14 u15 u16 u17 u18 u19 u20 u21 u22 u23 u24 u25 u26 u27 u28 u29 u30 u31 : Value), m' = .aside ∧ Below w.heap.size w u ∧ OwnI u w.heap.size v l ∧ l.Nodup ∧ (∀ y ∈ l, 0 ≤ y ∧ y < (xs.length : Int)) ∧ j + l.length = xs.length + 1 ∧ walkB xs j l p = courseB xs s ∧ a = { tmps := #[.slice A0 xs.length c0, .int .i64 s, undef, undef, .slice none 0 0, .int .i64 0, v, .int .i64 p, u8, u9, u10, u11, u12, u13, u14, u15, u16, u17, u18, u19, u20, u21, u22, u23, u24, u25, u26, u27, u28, u29, u30, u31], defers := [] }) ?_ (xs.length + 1) ⟨_, [], s, _, _, _, _, _, _, _, _, _, _, _, _, _, _, _, _, _, _, _, _, _, _, _, _, rfl, below_at (Below.refl _ _) _, OwnI.nil _ _, by simp, by simp, by simp, rfl, rfl⟩
  rintro j m a u ⟨v, l, p, u8, u9, u10, u11, u12, u13, u14, u15, u16, u17, u18, u19, u20, u21, u22, u23, u24, u25, u26, u27, u28, u29, u30, u31, rfl, hb, ho, hnd, hrg, hj, hwk, rfl⟩
  have hle := nodup_le xs.length l hnd hrg
  obtain ⟨f, rfl⟩ : ∃ f, j = f + 1 := ⟨j - 1, by omega⟩
  obtain ⟨A, cc, rfl, hrd⟩ := ho.form
  have hrx : Rd u B A0 c0 xs := hr.below hb hB
  have hsz := hb.size
  iterate 4 (first | ((first | refine WpM.seq ?_ | refine WpM.block ?_ | refine WpM.region ?_ | refine WpM.region_end ?_ | refine WpM.ret ?_ | refine WpM.skip ?_ | refine WpM.exit ?_); try simp only [thenM, inBlockM, if_true, if_false, reduceIte, Nat.reduceEqDiff, List.size_toArray, List.length_cons, List.length_nil, Nat.reduceAdd, Nat.zero_add, List.range, List.range.loop]) | (refine WpM.op_k rfl (by rfl) ?_; intro zu zR; obtain ⟨dd, zh⟩ := zR; subst zh; (try simp only [at_at']); intro zK zhK; go_simp; (try (unfold stored; go_simp)); refine zhK _ _ ⟨?_, ?_⟩; (focus (refine m_idle ?_; simp [go_sem, Instr.field, asAgg]; done)); clear zhK zK; try walk_nrm) | fail)
  by_cases g0 : 0 ≤ p
  · (refine WpM.op_k rfl (by rfl) ?_; intro zu zR; obtain ⟨dd, zh⟩ := zR; subst zh; (try simp only [at_at']); intro zK zhK; (have hh := g0); go_simp; (try (unfold stored; go_simp)); refine zhK _ _ ⟨?_, ?_⟩; (focus (exact m_idle (by simp [go_sem]); done)); clear zhK zK; try walk_nrm)
    iterate 4 (first | ((first | refine WpM.seq ?_ | refine WpM.block ?_ | refine WpM.region ?_ | refine WpM.region_end ?_ | refine WpM.ret ?_ | refine WpM.skip ?_ | refine WpM.exit ?_); try simp only [thenM, inBlockM, if_true, if_false, reduceIte, Nat.reduceEqDiff, List.size_toArray, List.length_cons, List.length_nil, Nat.reduceAdd, Nat.zero_add, List.range, List.range.loop]) | (refine WpM.op_k rfl (by rfl) ?_; intro zu zR; obtain ⟨dd, zh⟩ := zR; subst zh; (try simp only [at_at']); intro zK zhK; go_simp; (try (unfold stored; go_simp)); refine zhK _ _ ⟨?_, ?_⟩; (focus (refine m_idle ?_; simp [go_sem, Instr.field, asAgg]; done)); clear zhK zK; try walk_nrm) | fail)
    by_cases g1 : p < (xs.length : Int)
    · have hin : inB p 0 ((xs.length : Int) - 1) = true := inB_yes g0 (by omega)
      (refine WpM.op_k rfl (by rfl) ?_; intro zu zR; obtain ⟨dd, zh⟩ := zR; subst zh; (try simp only [at_at']); intro zK zhK; (have hh := g1); go_simp; (try (unfold stored; go_simp)); refine zhK _ _ ⟨?_, ?_⟩; (focus (exact m_idle (by simp [go_sem]); done)); clear zhK zK; try walk_nrm)
      iterate 3 (first | ((first | refine WpM.seq ?_ | refine WpM.block ?_ | refine WpM.region ?_ | refine WpM.region_end ?_ | refine WpM.ret ?_ | refine WpM.skip ?_ | refine WpM.exit ?_); try simp only [thenM, inBlockM, if_true, if_false, reduceIte, Nat.reduceEqDiff, List.size_toArray, List.length_cons, List.length_nil, Nat.reduceAdd, Nat.zero_add, List.range, List.range.loop]) | (refine WpM.op_k rfl (by rfl) ?_; intro zu zR; obtain ⟨dd, zh⟩ := zR; subst zh; (try simp only [at_at']); intro zK zhK; go_simp; (try (unfold stored; go_simp)); refine zhK _ _ ⟨?_, ?_⟩; (focus (refine m_idle ?_; simp [go_sem, Instr.field, asAgg]; done)); clear zhK zK; try walk_nrm) | fail)
      (refine WpM.op_k rfl (by rfl) ?_; intro zu zR; obtain ⟨d7, zh⟩ := zR; subst zh; (try simp only [at_at']); intro zK zhK; go_simp; (try (unfold stored; go_simp)); refine zhK _ _ ⟨?_, ?_⟩; (focus (exact m_idle (by simp [go_sem]); done)); clear zhK zK; try walk_nrm)
      refine WpM.callL (vs := #[.slice A l.length cc, .int .i64 p]) fns_ok no_early ⟨_, Try.func46, by rfl⟩ (by kernel_rfl) rfl rfl (by rfl) rfl Try.func51 (by rfl) (by rfl) (by simp [Act.eval]) (fun vv uu => vv = .bool (hasB l p) ∧ RW (u.at d7) uu) (lone_same (w := (u.at d7)) (V := .bool (hasB l p)) fun τ δ => l1Has_any A cc l p _ _ ⟨hrd.1, hrd.2⟩ (by omega)) ?_; rintro _ _ ⟨rfl, d5, rfl⟩; (try walk_nrm); try simp only [at_at']
      rw [hasB_dec]
      iterate 3 (first | ((first | refine WpM.seq ?_ | refine WpM.block ?_ | refine WpM.region ?_ | refine WpM.region_end ?_ | refine WpM.ret ?_ | refine WpM.skip ?_ | refine WpM.exit ?_); try simp only [thenM, inBlockM, if_true, if_false, reduceIte, Nat.reduceEqDiff, List.size_toArray, List.length_cons, List.length_nil, Nat.reduceAdd, Nat.zero_add, List.range, List.range.loop]) | (refine WpM.op_k rfl (by rfl) ?_; intro zu zR; obtain ⟨dd, zh⟩ := zR; subst zh; (try simp only [at_at']); intro zK zhK; go_simp; (try (unfold stored; go_simp)); refine zhK _ _ ⟨?_, ?_⟩; (focus (refine m_idle ?_; simp [go_sem, Instr.field, asAgg]; done)); clear zhK zK; try walk_nrm) | fail)
      by_cases h2 : p ∈ l
      · refine WpM.cond (t := false) (by simp [Act.eval, h2]) ?_
        simp only [if_false, Bool.false_eq_true]
        ((first | refine WpM.seq ?_ | refine WpM.block ?_ | refine WpM.region ?_ | refine WpM.region_end ?_ | refine WpM.ret ?_ | refine WpM.skip ?_ | refine WpM.exit ?_); try simp only [thenM, inBlockM, if_true, if_false, reduceIte, Nat.reduceEqDiff, List.size_toArray, List.length_cons, List.length_nil, Nat.reduceAdd, Nat.zero_add, List.range, List.range.loop])
        exact ⟨_, l, p, _, _, _, _, _, _, _, _, _, _, _, _, _, _, _, _, _, _, _, _, _, _, _, _, trivial, below_at hb _, ho, by rw [← hwk, walkB, hin]; simp [h2], rfl⟩
      · refine WpM.cond (t := true) (by simp [Act.eval, h2]) ?_
        simp only [if_true]
        iterate 6 (first | ((first | refine WpM.seq ?_ | refine WpM.block ?_ | refine WpM.region ?_ | refine WpM.region_end ?_ | refine WpM.ret ?_ | refine WpM.skip ?_ | refine WpM.exit ?_); try simp only [thenM, inBlockM, if_true, if_false, reduceIte, Nat.reduceEqDiff, List.size_toArray, List.length_cons, List.length_nil, Nat.reduceAdd, Nat.zero_add, List.range, List.range.loop]) | (refine WpM.op_k rfl (by rfl) ?_; intro zu zR; obtain ⟨dd, zh⟩ := zR; subst zh; (try simp only [at_at']); intro zK zhK; go_simp; (try (unfold stored; go_simp)); refine zhK _ _ ⟨?_, ?_⟩; (focus (refine m_idle ?_; simp [go_sem, Instr.field, asAgg]; done)); clear zhK zK; try walk_nrm) | fail)
        (refine WpM.op_k rfl (by rfl) ?_; intro zu zR; obtain ⟨db, zh⟩ := zR; subst zh; (try simp only [at_at']); intro zK zhK; go_simp; (try (unfold stored; go_simp)); refine zhK _ _ ⟨?_, ?_⟩; (focus (exact d_alloc (listed_nil (by simp [go_sem, Instr.buildSlice, Instr.fill])); done)); clear zhK zK; try walk_nrm)
        have hb2 : Below w.heap.size w ((u.at db).alloc (.cells #[.int .i64 p] 3)) := (below_at hb db).trans ((below_alloc (u.at db) _).mono hsz)
        have ho2 : OwnI ((u.at db).alloc (.cells #[.int .i64 p] 3)) w.heap.size (.slice A l.length cc) l := OwnI.alloc (w := u.at db) ho _
        have hcell : ((u.at db).alloc (.cells #[.int .i64 p] 3)).cell? ⟨u.heap.size, 0, none⟩ = some (.int .i64 p) := (Blk.new (u.at db) _ _).cell 0
        simp only [at_size]
        generalize (u.at db).alloc (.cells #[.int .i64 p] 3) = U2 at hb2 ho2 hcell
        refine wpm_append0 (g := u.heap.size) (y := p) (l := l) (B0 := w.heap.size) hb2.size rfl (by rfl) rfl (by simp [Act.eval]) (by simp [Act.eval]) ho2 hcell (by omega) (fun d7 v' u' ho' hb' => ?_)
        have hb3 : Below w.heap.size w u' := (below_at hb2 d7).trans hb'
        have hr3 : Rd u' B A0 c0 xs := hr.below hb3 hB
        try walk_nrm
        iterate 4 (first | ((first | refine WpM.seq ?_ | refine WpM.block ?_ | refine WpM.region ?_ | refine WpM.region_end ?_ | refine WpM.ret ?_ | refine WpM.skip ?_ | refine WpM.exit ?_); try simp only [thenM, inBlockM, if_true, if_false, reduceIte, Nat.reduceEqDiff, List.size_toArray, List.length_cons, List.length_nil, Nat.reduceAdd, Nat.zero_add, List.range, List.range.loop]) | (refine WpM.op_k rfl (by rfl) ?_; intro zu zR; obtain ⟨dd, zh⟩ := zR; subst zh; (try simp only [at_at']); intro zK zhK; go_simp; (try (unfold stored; go_simp)); refine zhK _ _ ⟨?_, ?_⟩; (focus (refine m_idle ?_; simp [go_sem, Instr.field, asAgg]; done)); clear zhK zK; try walk_nrm) | fail)
        (refine WpM.op_k rfl (by rfl) ?_; intro zu zR; obtain ⟨d9, zh⟩ := zR; subst zh; (try simp only [at_at']); intro zK zhK; go_simp; (try (unfold stored; go_simp)); refine zhK _ _ ⟨?_, ?_⟩; (focus (exact m_idle (by simp [go_sem]); done)); clear zhK zK; try walk_nrm)
        refine WpM.callL (vs := #[.slice A0 xs.length c0, .int .i64 p]) fns_ok no_early ⟨_, Try.func46, by rfl⟩ (by kernel_rfl) rfl rfl (by rfl) rfl Try.func62 (by rfl) (by rfl) (by simp [Act.eval]) (fun vv uu => vv = .int .i64 (nextI xs p) ∧ RW (u'.at d9) uu) (lone_same (w := (u'.at d9)) (V := .int .i64 (nextI xs p)) fun τ δ => baNext_any A0 c0 xs p B _ ⟨hr3.1, hr3.2⟩ hJ) ?_; rintro _ _ ⟨rfl, d5, rfl⟩; (try walk_nrm); try simp only [at_at']
        iterate 2 (first | ((first | refine WpM.seq ?_ | refine WpM.block ?_ | refine WpM.region ?_ | refine WpM.region_end ?_ | refine WpM.ret ?_ | refine WpM.skip ?_ | refine WpM.exit ?_); try simp only [thenM, inBlockM, if_true, if_false, reduceIte, Nat.reduceEqDiff, List.size_toArray, List.length_cons, List.length_nil, Nat.reduceAdd, Nat.zero_add, List.range, List.range.loop]) | (refine WpM.op_k rfl (by rfl) ?_; intro zu zR; obtain ⟨dd, zh⟩ := zR; subst zh; (try simp only [at_at']); intro zK zhK; go_simp; (try (unfold stored; go_simp)); refine zhK _ _ ⟨?_, ?_⟩; (focus (refine m_idle ?_; simp [go_sem, Instr.field, asAgg]; done)); clear zhK zK; try walk_nrm) | fail)
        refine ⟨f, by omega, v', l ++ [p], nextI xs p, _, _, _, _, _, _, _, _, _, _, _, _, _, _, _, _, _, _, _, _, _, _, _, _, trivial, below_at hb3 _, ho', ?_, ?_, by simp; omega, by rw [← hwk, walkB, hin]; simp [h2], rfl⟩
        · rw [List.nodup_append]
          exact ⟨hnd, by simp, fun a ha b hb => by simp at hb; subst hb; rintro rfl; exact h2 ha⟩
        · intro y hy
          rcases List.mem_append.1 hy with hy | hy
          · exact hrg y hy
          · simp at hy; subst hy; omega
    · have hin : inB p 0 ((xs.length : Int) - 1) = false := inB_no (by omega)
      (refine WpM.op_k rfl (by rfl) ?_; intro zu zR; obtain ⟨dd, zh⟩ := zR; subst zh; (try simp only [at_at']); intro zK zhK; (have hh := g1); go_simp; (try (unfold stored; go_simp)); refine zhK _ _ ⟨?_, ?_⟩; (focus (exact m_idle (by simp [go_sem]); done)); clear zhK zK; try walk_nrm)
      iterate 2 (first | ((first | refine WpM.seq ?_ | refine WpM.block ?_ | refine WpM.region ?_ | refine WpM.region_end ?_ | refine WpM.ret ?_ | refine WpM.skip ?_ | refine WpM.exit ?_); try simp only [thenM, inBlockM, if_true, if_false, reduceIte, Nat.reduceEqDiff, List.size_toArray, List.length_cons, List.length_nil, Nat.reduceAdd, Nat.zero_add, List.range, List.range.loop]) | (refine WpM.op_k rfl (by rfl) ?_; intro zu zR; obtain ⟨dd, zh⟩ := zR; subst zh; (try simp only [at_at']); intro zK zhK; go_simp; (try (unfold stored; go_simp)); refine zhK _ _ ⟨?_, ?_⟩; (focus (refine m_idle ?_; simp [go_sem, Instr.field, asAgg]; done)); clear zhK zK; try walk_nrm) | fail)
      repeat (refine WpM.unwanted rfl (by rfl) ?_; try walk_nrm)
      iterate 2 (first | ((first | refine WpM.seq ?_ | refine WpM.block ?_ | refine WpM.region ?_ | refine WpM.region_end ?_ | refine WpM.ret ?_ | refine WpM.skip ?_ | refine WpM.exit ?_); try simp only [thenM, inBlockM, if_true, if_false, reduceIte, Nat.reduceEqDiff, List.size_toArray, List.length_cons, List.length_nil, Nat.reduceAdd, Nat.zero_add, List.range, List.range.loop]) | (refine WpM.op_k rfl (by rfl) ?_; intro zu zR; obtain ⟨dd, zh⟩ := zR; subst zh; (try simp only [at_at']); intro zK zhK; go_simp; (try (unfold stored; go_simp)); refine zhK _ _ ⟨?_, ?_⟩; (focus (refine m_idle ?_; simp [go_sem, Instr.field, asAgg]; done)); clear zhK zK; try walk_nrm) | fail)
      refine WpM.cond (t := false) (by simp [Act.eval]) ?_
      simp only [if_false, Bool.false_eq_true]
      ((first | refine WpM.seq ?_ | refine WpM.block ?_ | refine WpM.region ?_ | refine WpM.region_end ?_ | refine WpM.ret ?_ | refine WpM.skip ?_ | refine WpM.exit ?_); try simp only [thenM, inBlockM, if_true, if_false, reduceIte, Nat.reduceEqDiff, List.size_toArray, List.length_cons, List.length_nil, Nat.reduceAdd, Nat.zero_add, List.range, List.range.loop])
      exact ⟨_, l, p, _, _, _, _, _, _, _, _, _, _, _, _, _, _, _, _, _, _, _, _, _, _, _, _, trivial, below_at hb _, ho, by rw [← hwk, walkB, hin]; simp, rfl⟩
  · have hin : inB p 0 ((xs.length : Int) - 1) = false := inB_no (by omega)
    (refine WpM.op_k rfl (by rfl) ?_; intro zu zR; obtain ⟨dd, zh⟩ := zR; subst zh; (try simp only [at_at']); intro zK zhK; (have hh := g0); go_simp; (try (unfold stored; go_simp)); refine zhK _ _ ⟨?_, ?_⟩; (focus (exact m_idle (by simp [go_sem]); done)); clear zhK zK; try walk_nrm)
    (refine WpM.op_k rfl (by rfl) ?_; intro zu zR; obtain ⟨dd, zh⟩ := zR; subst zh; (try simp only [at_at']); intro zK zhK; go_simp; (try (unfold stored; go_simp)); refine zhK _ _ ⟨?_, ?_⟩; (focus (refine m_idle ?_; simp [go_sem, Instr.field, asAgg]; done)); clear zhK zK; try walk_nrm)
    repeat (refine WpM.unwanted rfl (by rfl) ?_; try walk_nrm)
    iterate 2 (first | ((first | refine WpM.seq ?_ | refine WpM.block ?_ | refine WpM.region ?_ | refine WpM.region_end ?_ | refine WpM.ret ?_ | refine WpM.skip ?_ | refine WpM.exit ?_); try simp only [thenM, inBlockM, if_true, if_false, reduceIte, Nat.reduceEqDiff, List.size_toArray, List.length_cons, List.length_nil, Nat.reduceAdd, Nat.zero_add, List.range, List.range.loop]) | (refine WpM.op_k rfl (by rfl) ?_; intro zu zR; obtain ⟨dd, zh⟩ := zR; subst zh; (try simp only [at_at']); intro zK zhK; go_simp; (try (unfold stored; go_simp)); refine zhK _ _ ⟨?_, ?_⟩; (focus (refine m_idle ?_; simp [go_sem, Instr.field, asAgg]; done)); clear zhK zK; try walk_nrm) | fail)
    repeat (refine WpM.unwanted rfl (by rfl) ?_; try walk_nrm)
    iterate 2 (first | ((first | refine WpM.seq ?_ | refine WpM.block ?_ | refine WpM.region ?_ | refine WpM.region_end ?_ | refine WpM.ret ?_ | refine WpM.skip ?_ | refine WpM.exit ?_); try simp only [thenM, inBlockM, if_true, if_false, reduceIte, Nat.reduceEqDiff, List.size_toArray, List.length_cons, List.length_nil, Nat.reduceAdd, Nat.zero_add, List.range, List.range.loop]) | (refine WpM.op_k rfl (by rfl) ?_; intro zu zR; obtain ⟨dd, zh⟩ := zR; subst zh; (try simp only [at_at']); intro zK zhK; go_simp; (try (unfold stored; go_simp)); refine zhK _ _ ⟨?_, ?_⟩; (focus (refine m_idle ?_; simp [go_sem, Instr.field, asAgg]; done)); clear zhK zK; try walk_nrm) | fail)
    refine WpM.cond (t := false) (by simp [Act.eval]) ?_
    simp only [if_false, Bool.false_eq_true]
    ((first | refine WpM.seq ?_ | refine WpM.block ?_ | refine WpM.region ?_ | refine WpM.region_end ?_ | refine WpM.ret ?_ | refine WpM.skip ?_ | refine WpM.exit ?_); try simp only [thenM, inBlockM, if_true, if_false, reduceIte, Nat.reduceEqDiff, List.size_toArray, List.length_cons, List.length_nil, Nat.reduceAdd, Nat.zero_add, List.range, List.range.loop])
    exact ⟨_, l, p, _, _, _, _, _, _, _, _, _, _, _, _, _, _, _, _, _, _, _, _, _, _, _, _, trivial, below_at hb _, ho, by rw [← hwk, walkB, hin]; simp, rfl⟩

theorem walk_fin (xs : List Int) : ∀ (f : Nat) (l : List Int) (p : Int), f + l.length = xs.length + 1 → 1 ≤ f → l.Nodup → (∀ y ∈ l, 0 ≤ y ∧ y < (xs.length : Int)) → -1 ≤ p → p ≤ xs.length →
    ((walkB xs f l p).2 ∈ (walkB xs f l p).1 ↔ 0 ≤ (walkB xs f l p).2 ∧ (walkB xs f l p).2 < (xs.length : Int)) ∧ -1 ≤ (walkB xs f l p).2 ∧ (walkB xs f l p).2 ≤ xs.length := by
  intro f
  induction f with
  | zero => intro l p _ h1; omega
  | succ f ih =>
    intro l p hf _ hnd hrg hp0 hp1
    rw [walkB]
    split
    · rename_i h
      simp only [Bool.and_eq_true, Bool.not_eq_true', decide_eq_false_iff_not] at h
      have hp := inB_le h.1
      have hnd' : (l ++ [p]).Nodup := by
        rw [List.nodup_append]
        exact ⟨hnd, by simp, fun a ha b hb => by simp at hb; subst hb; rintro rfl; exact h.2 ha⟩
      have hrg' : ∀ y ∈ l ++ [p], 0 ≤ y ∧ y < (xs.length : Int) := by
        intro y hy
        rcases List.mem_append.1 hy with hy | hy
        · exact hrg y hy
        · simp at hy; subst hy; omega
      have hle := nodup_le xs.length _ hnd' hrg'
      simp at hle
      have hn := nextI_bd hp0 hp1
      exact ih (l ++ [p]) (nextI xs p) (by simp; omega) (by omega) hnd' hrg' hn.1 hn.2
    · rename_i h
      refine ⟨⟨fun hm => hrg p hm, fun hr => ?_⟩, hp0, hp1⟩
      rw [inB_yes (by omega) (by omega)] at h
      simpa using h
theorem course_fin {xs : List Int} {s : Int} (h : ballB xs s = true) : ((courseB xs s).2 ∈ (courseB xs s).1 ↔ 0 ≤ (courseB xs s).2 ∧ (courseB xs s).2 < (xs.length : Int)) ∧ -1 ≤ (courseB xs s).2 ∧ (courseB xs s).2 ≤ xs.length := by
  have hs := ballB_le h
  exact walk_fin xs (xs.length + 1) [] s (by simp) (by omega) (by simp) (by simp) (by omega) (by omega)

set_option maxRecDepth 100000 in
set_option maxHeartbeats 4000000 in
theorem baEnd_m (A : Option Addr) (c : Nat) (xs : List Int) (s : Int) (B : Nat) (w : World) (hr : Rd w B A c xs) (hB : B ≤ w.heap.size) (hx : ballB xs s = true) :
    CallsM Try.prog .aside 41 #[.slice A xs.length c, .int .i64 s] w fun x w' => x = .string ⟨endS (courseB xs s).1 (courseB xs s).2⟩ ∧ Below w.heap.size w w' := by
  have hJ := (ballB_le hx).1
  have hl30 := jumpsB_le hJ
  have hfin := course_fin hx
  refine callsM_of Try.func41 rfl ?_
  simp only [Try.ntmps41, List.size_toArray, List.length_cons, List.length_nil, Nat.reduceAdd, Nat.reduceSub, Array.replicate_succ, Array.replicate_zero, List.push_toArray, List.append_toArray, List.nil_append, List.cons_append]
  iterate 7 (first | ((first | refine WpM.seq ?_ | refine WpM.block ?_ | refine WpM.region ?_ | refine WpM.region_end ?_ | refine WpM.ret ?_ | refine WpM.skip ?_ | refine WpM.exit ?_); try simp only [thenM, inBlockM, if_true, if_false, reduceIte, Nat.reduceEqDiff, List.size_toArray, List.length_cons, List.length_nil, Nat.reduceAdd, Nat.zero_add, List.range, List.range.loop]) | (refine WpM.op_k rfl (by rfl) ?_; intro zu zR; obtain ⟨dd, zh⟩ := zR; subst zh; (try simp only [at_at']); intro zK zhK; go_simp; (try (unfold stored; go_simp)); refine zhK _ _ ⟨?_, ?_⟩; (focus (refine m_idle ?_; simp [go_sem, Instr.field, asAgg]; done)); clear zhK zK; try walk_nrm) | fail)
  (refine WpM.op_k rfl (by rfl) ?_; intro zu zR; obtain ⟨d8, zh⟩ := zR; subst zh; (try simp only [at_at']); intro zK zhK; go_simp; (try (unfold stored; go_simp)); refine zhK _ _ ⟨?_, ?_⟩; (focus (exact m_idle (by simp [go_sem]); done)); clear zhK zK; try walk_nrm)
  refine WpM.callM rfl (by rfl) rfl Try.func46 (by rfl) (by rfl) (by simp [Act.eval]) (baPath_m A c xs s B (w.at d8) (rd_at hr _) hB hJ) ?_
  rintro x u ⟨pv, rfl, _, hb0⟩
  have hb : Below w.heap.size w u := (below_at (Below.refl _ _) d8).trans hb0
  clear hb0
  try walk_nrm
  generalize (courseB xs s).2 = p at hfin
  generalize (courseB xs s).1 = l at hfin
  iterate 11 (first | ((first | refine WpM.seq ?_ | refine WpM.block ?_ | refine WpM.region ?_ | refine WpM.region_end ?_ | refine WpM.ret ?_ | refine WpM.skip ?_ | refine WpM.exit ?_); try simp only [thenM, inBlockM, if_true, if_false, reduceIte, Nat.reduceEqDiff, List.size_toArray, List.length_cons, List.length_nil, Nat.reduceAdd, Nat.zero_add, List.range, List.range.loop]) | (refine WpM.op_k rfl (by rfl) ?_; intro zu zR; obtain ⟨dd, zh⟩ := zR; subst zh; (try simp only [at_at']); intro zK zhK; go_simp; (try (unfold stored; go_simp)); refine zhK _ _ ⟨?_, ?_⟩; (focus (refine m_idle ?_; simp [go_sem, Instr.field, asAgg]; done)); clear zhK zK; try walk_nrm) | fail)
  by_cases g0 : p < 0
  · (refine WpM.op_k rfl (by rfl) ?_; intro zu zR; obtain ⟨dd, zh⟩ := zR; subst zh; (try simp only [at_at']); intro zK zhK; (have hh := g0); go_simp; (try (unfold stored; go_simp)); refine zhK _ _ ⟨?_, ?_⟩; (focus (exact m_idle (by simp [go_sem]); done)); clear zhK zK; try walk_nrm)
    iterate 2 (first | ((first | refine WpM.seq ?_ | refine WpM.block ?_ | refine WpM.region ?_ | refine WpM.region_end ?_ | refine WpM.ret ?_ | refine WpM.skip ?_ | refine WpM.exit ?_); try simp only [thenM, inBlockM, if_true, if_false, reduceIte, Nat.reduceEqDiff, List.size_toArray, List.length_cons, List.length_nil, Nat.reduceAdd, Nat.zero_add, List.range, List.range.loop]) | (refine WpM.op_k rfl (by rfl) ?_; intro zu zR; obtain ⟨dd, zh⟩ := zR; subst zh; (try simp only [at_at']); intro zK zhK; go_simp; (try (unfold stored; go_simp)); refine zhK _ _ ⟨?_, ?_⟩; (focus (refine m_idle ?_; simp [go_sem, Instr.field, asAgg]; done)); clear zhK zK; try walk_nrm) | fail)
    refine WpM.cond (t := true) (by simp [Act.eval]) ?_
    simp only [if_true]
    iterate 5 (first | ((first | refine WpM.seq ?_ | refine WpM.block ?_ | refine WpM.region ?_ | refine WpM.region_end ?_ | refine WpM.ret ?_ | refine WpM.skip ?_ | refine WpM.exit ?_); try simp only [thenM, inBlockM, if_true, if_false, reduceIte, Nat.reduceEqDiff, List.size_toArray, List.length_cons, List.length_nil, Nat.reduceAdd, Nat.zero_add, List.range, List.range.loop]) | (refine WpM.op_k rfl (by rfl) ?_; intro zu zR; obtain ⟨dd, zh⟩ := zR; subst zh; (try simp only [at_at']); intro zK zhK; go_simp; (try (unfold stored; go_simp)); refine zhK _ _ ⟨?_, ?_⟩; (focus (refine m_idle ?_; simp [go_sem, Instr.field, asAgg]; done)); clear zhK zK; try walk_nrm) | fail)
    exact ⟨trivial, trivial, trivial, _, resultsC_tmp (by rfl) _, by rw [endS, if_neg (fun h => by have := hfin.1.1 h; omega), if_pos (by omega)]; rfl, below_at hb _⟩
  · (refine WpM.op_k rfl (by rfl) ?_; intro zu zR; obtain ⟨dd, zh⟩ := zR; subst zh; (try simp only [at_at']); intro zK zhK; (have hh := g0); go_simp; (try (unfold stored; go_simp)); refine zhK _ _ ⟨?_, ?_⟩; (focus (exact m_idle (by simp [go_sem]); done)); clear zhK zK; try walk_nrm)
    iterate 2 (first | ((first | refine WpM.seq ?_ | refine WpM.block ?_ | refine WpM.region ?_ | refine WpM.region_end ?_ | refine WpM.ret ?_ | refine WpM.skip ?_ | refine WpM.exit ?_); try simp only [thenM, inBlockM, if_true, if_false, reduceIte, Nat.reduceEqDiff, List.size_toArray, List.length_cons, List.length_nil, Nat.reduceAdd, Nat.zero_add, List.range, List.range.loop]) | (refine WpM.op_k rfl (by rfl) ?_; intro zu zR; obtain ⟨dd, zh⟩ := zR; subst zh; (try simp only [at_at']); intro zK zhK; go_simp; (try (unfold stored; go_simp)); refine zhK _ _ ⟨?_, ?_⟩; (focus (refine m_idle ?_; simp [go_sem, Instr.field, asAgg]; done)); clear zhK zK; try walk_nrm) | fail)
    refine WpM.cond (t := false) (by simp [Act.eval]) ?_
    simp only [if_false, Bool.false_eq_true]
    iterate 5 (first | ((first | refine WpM.seq ?_ | refine WpM.block ?_ | refine WpM.region ?_ | refine WpM.region_end ?_ | refine WpM.ret ?_ | refine WpM.skip ?_ | refine WpM.exit ?_); try simp only [thenM, inBlockM, if_true, if_false, reduceIte, Nat.reduceEqDiff, List.size_toArray, List.length_cons, List.length_nil, Nat.reduceAdd, Nat.zero_add, List.range, List.range.loop]) | (refine WpM.op_k rfl (by rfl) ?_; intro zu zR; obtain ⟨dd, zh⟩ := zR; subst zh; (try simp only [at_at']); intro zK zhK; go_simp; (try (unfold stored; go_simp)); refine zhK _ _ ⟨?_, ?_⟩; (focus (refine m_idle ?_; simp [go_sem, Instr.field, asAgg]; done)); clear zhK zK; try walk_nrm) | fail)
    by_cases g1 : (xs.length : Int) ≤ p
    · (refine WpM.op_k rfl (by rfl) ?_; intro zu zR; obtain ⟨dd, zh⟩ := zR; subst zh; (try simp only [at_at']); intro zK zhK; (have hh := g1); go_simp; (try (unfold stored; go_simp)); refine zhK _ _ ⟨?_, ?_⟩; (focus (exact m_idle (by simp [go_sem]); done)); clear zhK zK; try walk_nrm)
      iterate 2 (first | ((first | refine WpM.seq ?_ | refine WpM.block ?_ | refine WpM.region ?_ | refine WpM.region_end ?_ | refine WpM.ret ?_ | refine WpM.skip ?_ | refine WpM.exit ?_); try simp only [thenM, inBlockM, if_true, if_false, reduceIte, Nat.reduceEqDiff, List.size_toArray, List.length_cons, List.length_nil, Nat.reduceAdd, Nat.zero_add, List.range, List.range.loop]) | (refine WpM.op_k rfl (by rfl) ?_; intro zu zR; obtain ⟨dd, zh⟩ := zR; subst zh; (try simp only [at_at']); intro zK zhK; go_simp; (try (unfold stored; go_simp)); refine zhK _ _ ⟨?_, ?_⟩; (focus (refine m_idle ?_; simp [go_sem, Instr.field, asAgg]; done)); clear zhK zK; try walk_nrm) | fail)
      refine WpM.cond (t := true) (by simp [Act.eval]) ?_
      simp only [if_true]
      iterate 5 (first | ((first | refine WpM.seq ?_ | refine WpM.block ?_ | refine WpM.region ?_ | refine WpM.region_end ?_ | refine WpM.ret ?_ | refine WpM.skip ?_ | refine WpM.exit ?_); try simp only [thenM, inBlockM, if_true, if_false, reduceIte, Nat.reduceEqDiff, List.size_toArray, List.length_cons, List.length_nil, Nat.reduceAdd, Nat.zero_add, List.range, List.range.loop]) | (refine WpM.op_k rfl (by rfl) ?_; intro zu zR; obtain ⟨dd, zh⟩ := zR; subst zh; (try simp only [at_at']); intro zK zhK; go_simp; (try (unfold stored; go_simp)); refine zhK _ _ ⟨?_, ?_⟩; (focus (refine m_idle ?_; simp [go_sem, Instr.field, asAgg]; done)); clear zhK zK; try walk_nrm) | fail)
      exact ⟨trivial, trivial, trivial, _, resultsC_tmp (by rfl) _, by rw [endS, if_neg (fun h => by have := hfin.1.1 h; omega), if_neg (by omega)]; rfl, below_at hb _⟩
    · (refine WpM.op_k rfl (by rfl) ?_; intro zu zR; obtain ⟨dd, zh⟩ := zR; subst zh; (try simp only [at_at']); intro zK zhK; (have hh := g1); go_simp; (try (unfold stored; go_simp)); refine zhK _ _ ⟨?_, ?_⟩; (focus (exact m_idle (by simp [go_sem]); done)); clear zhK zK; try walk_nrm)
      iterate 2 (first | ((first | refine WpM.seq ?_ | refine WpM.block ?_ | refine WpM.region ?_ | refine WpM.region_end ?_ | refine WpM.ret ?_ | refine WpM.skip ?_ | refine WpM.exit ?_); try simp only [thenM, inBlockM, if_true, if_false, reduceIte, Nat.reduceEqDiff, List.size_toArray, List.length_cons, List.length_nil, Nat.reduceAdd, Nat.zero_add, List.range, List.range.loop]) | (refine WpM.op_k rfl (by rfl) ?_; intro zu zR; obtain ⟨dd, zh⟩ := zR; subst zh; (try simp only [at_at']); intro zK zhK; go_simp; (try (unfold stored; go_simp)); refine zhK _ _ ⟨?_, ?_⟩; (focus (refine m_idle ?_; simp [go_sem, Instr.field, asAgg]; done)); clear zhK zK; try walk_nrm) | fail)
      refine WpM.cond (t := false) (by simp [Act.eval]) ?_
      simp only [if_false, Bool.false_eq_true]
      iterate 6 (first | ((first | refine WpM.seq ?_ | refine WpM.block ?_ | refine WpM.region ?_ | refine WpM.region_end ?_ | refine WpM.ret ?_ | refine WpM.skip ?_ | refine WpM.exit ?_); try simp only [thenM, inBlockM, if_true, if_false, reduceIte, Nat.reduceEqDiff, List.size_toArray, List.length_cons, List.length_nil, Nat.reduceAdd, Nat.zero_add, List.range, List.range.loop]) | (refine WpM.op_k rfl (by rfl) ?_; intro zu zR; obtain ⟨dd, zh⟩ := zR; subst zh; (try simp only [at_at']); intro zK zhK; go_simp; (try (unfold stored; go_simp)); refine zhK _ _ ⟨?_, ?_⟩; (focus (refine m_idle ?_; simp [go_sem, Instr.field, asAgg]; done)); clear zhK zK; try walk_nrm) | fail)
      exact ⟨trivial, trivial, trivial, _, resultsC_tmp (by rfl) _, by rw [endS, if_pos (hfin.1.2 ⟨by omega, by omega⟩)]; rfl, below_at hb _⟩

set_option maxRecDepth 100000 in
set_option maxHeartbeats 4000000 in
theorem specEnd_m (A : Option Addr) (c : Nat) (xs : List Int) (s : Int) (B : Nat) (w : World) (hr : Rd w B A c xs) (hB : B ≤ w.heap.size) (hn : xs.length ≤ 1048576) :
    CallsM Try.prog .aside 13 #[.slice A xs.length c, .int .i64 s] w fun x w' => x = .tuple #[.string ⟨endR xs s⟩, .bool (ballB xs s)] ∧ Below w.heap.size w w' := by
  refine callsM_of Try.func13 rfl ?_
  simp only [Try.ntmps13, List.size_toArray, List.length_cons, List.length_nil, Nat.reduceAdd, Nat.reduceSub, Array.replicate_succ, Array.replicate_zero, List.push_toArray, List.append_toArray, List.nil_append, List.cons_append]
  iterate 9 (first | ((first | refine WpM.seq ?_ | refine WpM.block ?_ | refine WpM.region ?_ | refine WpM.region_end ?_ | refine WpM.ret ?_ | refine WpM.skip ?_ | refine WpM.exit ?_); try simp only [thenM, inBlockM, if_true, if_false, reduceIte, Nat.reduceEqDiff, List.size_toArray, List.length_cons, List.length_nil, Nat.reduceAdd, Nat.zero_add, List.range, List.range.loop]) | (refine WpM.op_k rfl (by rfl) ?_; intro zu zR; obtain ⟨dd, zh⟩ := zR; subst zh; (try simp only [at_at']); intro zK zhK; go_simp; (try (unfold stored; go_simp)); refine zhK _ _ ⟨?_, ?_⟩; (focus (refine m_idle ?_; simp [go_sem, Instr.field, asAgg]; done)); clear zhK zK; try walk_nrm) | fail)
  (refine WpM.op_k rfl (by rfl) ?_; intro zu zR; obtain ⟨d7, zh⟩ := zR; subst zh; (try simp only [at_at']); intro zK zhK; go_simp; (try (unfold stored; go_simp)); refine zhK _ _ ⟨?_, ?_⟩; (focus (exact m_idle (by simp [go_sem]); done)); clear zhK zK; try walk_nrm)
  refine WpM.callL (vs := #[.slice A xs.length c, .int .i64 s]) fns_ok no_early ⟨_, Try.func13, by rfl⟩ (by kernel_rfl) rfl rfl (by rfl) rfl Try.func40 (by rfl) (by rfl) (by simp [Act.eval]) (fun vv uu => vv = .bool (ballB xs s) ∧ RW (w.at d7) uu) (lone_same (w := (w.at d7)) (V := .bool (ballB xs s)) fun τ δ => baStep_any A c xs s B _ ⟨hr.1, hr.2⟩ hn) ?_; rintro _ _ ⟨rfl, d5, rfl⟩; (try walk_nrm); try simp only [at_at']
  cases hb : ballB xs s
  · iterate 2 (first | ((first | refine WpM.seq ?_ | refine WpM.block ?_ | refine WpM.region ?_ | refine WpM.region_end ?_ | refine WpM.ret ?_ | refine WpM.skip ?_ | refine WpM.exit ?_); try simp only [thenM, inBlockM, if_true, if_false, reduceIte, Nat.reduceEqDiff, List.size_toArray, List.length_cons, List.length_nil, Nat.reduceAdd, Nat.zero_add, List.range, List.range.loop]) | (refine WpM.op_k rfl (by rfl) ?_; intro zu zR; obtain ⟨dd, zh⟩ := zR; subst zh; (try simp only [at_at']); intro zK zhK; go_simp; (try (unfold stored; go_simp)); refine zhK _ _ ⟨?_, ?_⟩; (focus (refine m_idle ?_; simp [go_sem, Instr.field, asAgg]; done)); clear zhK zK; try walk_nrm) | fail)
    refine WpM.cond (t := true) (by simp [Act.eval]) ?_
    simp only [if_true]
    iterate 6 (first | ((first | refine WpM.seq ?_ | refine WpM.block ?_ | refine WpM.region ?_ | refine WpM.region_end ?_ | refine WpM.ret ?_ | refine WpM.skip ?_ | refine WpM.exit ?_); try simp only [thenM, inBlockM, if_true, if_false, reduceIte, Nat.reduceEqDiff, List.size_toArray, List.length_cons, List.length_nil, Nat.reduceAdd, Nat.zero_add, List.range, List.range.loop]) | (refine WpM.op_k rfl (by rfl) ?_; intro zu zR; obtain ⟨dd, zh⟩ := zR; subst zh; (try simp only [at_at']); intro zK zhK; go_simp; (try (unfold stored; go_simp)); refine zhK _ _ ⟨?_, ?_⟩; (focus (refine m_idle ?_; simp [go_sem, Instr.field, asAgg]; done)); clear zhK zK; try walk_nrm) | fail)
    exact ⟨trivial, trivial, trivial, _, resultsC_tmp2 (by rfl) _, by simp [endR, hb], below_at (Below.refl _ _) _⟩
  · iterate 2 (first | ((first | refine WpM.seq ?_ | refine WpM.block ?_ | refine WpM.region ?_ | refine WpM.region_end ?_ | refine WpM.ret ?_ | refine WpM.skip ?_ | refine WpM.exit ?_); try simp only [thenM, inBlockM, if_true, if_false, reduceIte, Nat.reduceEqDiff, List.size_toArray, List.length_cons, List.length_nil, Nat.reduceAdd, Nat.zero_add, List.range, List.range.loop]) | (refine WpM.op_k rfl (by rfl) ?_; intro zu zR; obtain ⟨dd, zh⟩ := zR; subst zh; (try simp only [at_at']); intro zK zhK; go_simp; (try (unfold stored; go_simp)); refine zhK _ _ ⟨?_, ?_⟩; (focus (refine m_idle ?_; simp [go_sem, Instr.field, asAgg]; done)); clear zhK zK; try walk_nrm) | fail)
    refine WpM.cond (t := false) (by simp [Act.eval]) ?_
    simp only [if_false, Bool.false_eq_true]
    iterate 4 (first | ((first | refine WpM.seq ?_ | refine WpM.block ?_ | refine WpM.region ?_ | refine WpM.region_end ?_ | refine WpM.ret ?_ | refine WpM.skip ?_ | refine WpM.exit ?_); try simp only [thenM, inBlockM, if_true, if_false, reduceIte, Nat.reduceEqDiff, List.size_toArray, List.length_cons, List.length_nil, Nat.reduceAdd, Nat.zero_add, List.range, List.range.loop]) | (refine WpM.op_k rfl (by rfl) ?_; intro zu zR; obtain ⟨dd, zh⟩ := zR; subst zh; (try simp only [at_at']); intro zK zhK; go_simp; (try (unfold stored; go_simp)); refine zhK _ _ ⟨?_, ?_⟩; (focus (refine m_idle ?_; simp [go_sem, Instr.field, asAgg]; done)); clear zhK zK; try walk_nrm) | fail)
    (refine WpM.op_k rfl (by rfl) ?_; intro zu zR; obtain ⟨d8, zh⟩ := zR; subst zh; (try simp only [at_at']); intro zK zhK; go_simp; (try (unfold stored; go_simp)); refine zhK _ _ ⟨?_, ?_⟩; (focus (exact m_idle (by simp [go_sem]); done)); clear zhK zK; try walk_nrm)
    refine WpM.callM rfl (by rfl) rfl Try.func41 (by rfl) (by rfl) (by simp [Act.eval]) (baEnd_m A c xs s B (w.at d8) (rd_at hr _) hB hb) ?_
    rintro x u ⟨rfl, hb1⟩
    try walk_nrm
    have hb3 : Below w.heap.size w u := (below_at (Below.refl _ _) d8).trans hb1
    iterate 4 (first | ((first | refine WpM.seq ?_ | refine WpM.block ?_ | refine WpM.region ?_ | refine WpM.region_end ?_ | refine WpM.ret ?_ | refine WpM.skip ?_ | refine WpM.exit ?_); try simp only [thenM, inBlockM, if_true, if_false, reduceIte, Nat.reduceEqDiff, List.size_toArray, List.length_cons, List.length_nil, Nat.reduceAdd, Nat.zero_add, List.range, List.range.loop]) | (refine WpM.op_k rfl (by rfl) ?_; intro zu zR; obtain ⟨dd, zh⟩ := zR; subst zh; (try simp only [at_at']); intro zK zhK; go_simp; (try (unfold stored; go_simp)); refine zhK _ _ ⟨?_, ?_⟩; (focus (refine m_idle ?_; simp [go_sem, Instr.field, asAgg]; done)); clear zhK zK; try walk_nrm) | fail)
    exact ⟨trivial, trivial, trivial, _, resultsC_tmp2 (by rfl) _, by simp [endR, hb], below_at hb3 _⟩

end Go.Proofs.Ytiacfaeanlkalaa
