/- The path of a ball, both sides, beside leavers. -/
import Derived.Test.YtcnellnpnlcodaaBaE
set_option linter.unusedSimpArgs false
namespace Go.Proofs.Ytcnellnpnlcodaa
open Go.Conc Go.RowKit

def pathR (xs : List Int) (s : Int) : List Int := if ballB xs s then (courseB xs s).1 else []
theorem path_no {xs : List Int} {s : Int} (h : ballB xs s = false) : pathR xs s = [] := by simp [pathR, h]
theorem path_yes {xs : List Int} {s : Int} (h : ballB xs s = true) : pathR xs s = (courseB xs s).1 := by simp [pathR, h]

set_option maxRecDepth 100000 in
set_option maxHeartbeats 4000000 in
theorem specPath_m (A : Option Addr) (c : Nat) (xs : List Int) (s : Int) (B : Nat) (w : World) (hr : Rd w B A c xs) (hB : B ≤ w.heap.size) (hn : xs.length ≤ 1048576) :
    CallsM Try.prog .aside 13 #[.slice A xs.length c, .int .i64 s] w fun x w' => ∃ pv, x = .tuple #[pv, .bool (ballB xs s)] ∧ OwnI w' w.heap.size pv (pathR xs s) ∧ Below w.heap.size w w' := by
  refine callsM_of Try.func13 rfl ?_
  simp only [Try.ntmps13, List.size_toArray, List.length_cons, List.length_nil, Nat.reduceAdd, Nat.reduceSub, Array.replicate_succ, Array.replicate_zero, List.push_toArray, List.append_toArray, List.nil_append, List.cons_append]
  iterate 9 (first | ((first | refine WpM.seq ?_ | refine WpM.block ?_ | refine WpM.region ?_ | refine WpM.region_end ?_ | refine WpM.ret ?_ | refine WpM.skip ?_ | refine WpM.exit ?_); try simp only [thenM, inBlockM, if_true, if_false, reduceIte, Nat.reduceEqDiff, List.size_toArray, List.length_cons, List.length_nil, Nat.reduceAdd, Nat.zero_add, List.range, List.range.loop]) | (refine WpM.op_k rfl (by rfl) ?_; intro zu zR; obtain ⟨dd, zh⟩ := zR; subst zh; (try simp only [at_at']); intro zK zhK; go_simp; (try (unfold stored; go_simp)); refine zhK _ _ ⟨?_, ?_⟩; (focus (exact m_idle (by simp [go_sem]); done)); clear zhK zK; try walk_nrm))
  (refine WpM.op_k rfl (by rfl) ?_; intro zu zR; obtain ⟨d7, zh⟩ := zR; subst zh; (try simp only [at_at']); intro zK zhK; go_simp; (try (unfold stored; go_simp)); refine zhK _ _ ⟨?_, ?_⟩; (focus (exact m_idle (by simp [go_sem]); done)); clear zhK zK; try walk_nrm)
  refine WpM.callL (vs := #[.slice A xs.length c, .int .i64 s]) fns_ok no_early ⟨_, Try.func13, by rfl⟩ (by kernel_rfl) rfl rfl (by rfl) rfl Try.func40 (by rfl) (by rfl) (by simp [Act.eval]) (fun vv uu => vv = .bool (ballB xs s) ∧ RW (w.at d7) uu) (lone_same (w := (w.at d7)) (V := .bool (ballB xs s)) fun τ δ => baStep_any A c xs s B _ ⟨hr.1, hr.2⟩ hn) ?_; rintro _ _ ⟨rfl, d5, rfl⟩; (try walk_nrm); try simp only [at_at']
  cases hb : ballB xs s
  · iterate 2 (first | ((first | refine WpM.seq ?_ | refine WpM.block ?_ | refine WpM.region ?_ | refine WpM.region_end ?_ | refine WpM.ret ?_ | refine WpM.skip ?_ | refine WpM.exit ?_); try simp only [thenM, inBlockM, if_true, if_false, reduceIte, Nat.reduceEqDiff, List.size_toArray, List.length_cons, List.length_nil, Nat.reduceAdd, Nat.zero_add, List.range, List.range.loop]) | (refine WpM.op_k rfl (by rfl) ?_; intro zu zR; obtain ⟨dd, zh⟩ := zR; subst zh; (try simp only [at_at']); intro zK zhK; go_simp; (try (unfold stored; go_simp)); refine zhK _ _ ⟨?_, ?_⟩; (focus (exact m_idle (by simp [go_sem]); done)); clear zhK zK; try walk_nrm))
    refine WpM.cond (t := true) (by simp [Act.eval]) ?_
    simp only [if_true]
    iterate 6 (first | ((first | refine WpM.seq ?_ | refine WpM.block ?_ | refine WpM.region ?_ | refine WpM.region_end ?_ | refine WpM.ret ?_ | refine WpM.skip ?_ | refine WpM.exit ?_); try simp only [thenM, inBlockM, if_true, if_false, reduceIte, Nat.reduceEqDiff, List.size_toArray, List.length_cons, List.length_nil, Nat.reduceAdd, Nat.zero_add, List.range, List.range.loop]) | (refine WpM.op_k rfl (by rfl) ?_; intro zu zR; obtain ⟨dd, zh⟩ := zR; subst zh; (try simp only [at_at']); intro zK zhK; go_simp; (try (unfold stored; go_simp)); refine zhK _ _ ⟨?_, ?_⟩; (focus (exact m_idle (by simp [go_sem]); done)); clear zhK zK; try walk_nrm))
    exact ⟨trivial, trivial, trivial, _, resultsC_tmp2 (by rfl) _, _, rfl, by rw [path_no hb]; exact OwnI.nil _ _, below_at (Below.refl _ _) _⟩
  · have hJ := (ballB_le hb).1
    iterate 2 (first | ((first | refine WpM.seq ?_ | refine WpM.block ?_ | refine WpM.region ?_ | refine WpM.region_end ?_ | refine WpM.ret ?_ | refine WpM.skip ?_ | refine WpM.exit ?_); try simp only [thenM, inBlockM, if_true, if_false, reduceIte, Nat.reduceEqDiff, List.size_toArray, List.length_cons, List.length_nil, Nat.reduceAdd, Nat.zero_add, List.range, List.range.loop]) | (refine WpM.op_k rfl (by rfl) ?_; intro zu zR; obtain ⟨dd, zh⟩ := zR; subst zh; (try simp only [at_at']); intro zK zhK; go_simp; (try (unfold stored; go_simp)); refine zhK _ _ ⟨?_, ?_⟩; (focus (exact m_idle (by simp [go_sem]); done)); clear zhK zK; try walk_nrm))
    refine WpM.cond (t := false) (by simp [Act.eval]) ?_
    simp only [if_false, Bool.false_eq_true]
    iterate 4 (first | ((first | refine WpM.seq ?_ | refine WpM.block ?_ | refine WpM.region ?_ | refine WpM.region_end ?_ | refine WpM.ret ?_ | refine WpM.skip ?_ | refine WpM.exit ?_); try simp only [thenM, inBlockM, if_true, if_false, reduceIte, Nat.reduceEqDiff, List.size_toArray, List.length_cons, List.length_nil, Nat.reduceAdd, Nat.zero_add, List.range, List.range.loop]) | (refine WpM.op_k rfl (by rfl) ?_; intro zu zR; obtain ⟨dd, zh⟩ := zR; subst zh; (try simp only [at_at']); intro zK zhK; go_simp; (try (unfold stored; go_simp)); refine zhK _ _ ⟨?_, ?_⟩; (focus (exact m_idle (by simp [go_sem]); done)); clear zhK zK; try walk_nrm))
    (refine WpM.op_k rfl (by rfl) ?_; intro zu zR; obtain ⟨d8, zh⟩ := zR; subst zh; (try simp only [at_at']); intro zK zhK; go_simp; (try (unfold stored; go_simp)); refine zhK _ _ ⟨?_, ?_⟩; (focus (exact m_idle (by simp [go_sem]); done)); clear zhK zK; try walk_nrm)
    refine WpM.callM rfl (by rfl) rfl Try.func41 (by rfl) (by rfl) (by simp [Act.eval]) (baPath_m A c xs s B (w.at d8) (rd_at hr _) hB hJ) ?_
    rintro x u ⟨pv, rfl, ho, hb1⟩
    have hb3 : Below w.heap.size w u := (below_at (Below.refl _ _) d8).trans hb1
    try walk_nrm
    iterate 13 (first | ((first | refine WpM.seq ?_ | refine WpM.block ?_ | refine WpM.region ?_ | refine WpM.region_end ?_ | refine WpM.ret ?_ | refine WpM.skip ?_ | refine WpM.exit ?_); try simp only [thenM, inBlockM, if_true, if_false, reduceIte, Nat.reduceEqDiff, List.size_toArray, List.length_cons, List.length_nil, Nat.reduceAdd, Nat.zero_add, List.range, List.range.loop]) | (refine WpM.op_k rfl (by rfl) ?_; intro zu zR; obtain ⟨dd, zh⟩ := zR; subst zh; (try simp only [at_at']); intro zK zhK; go_simp; (try (unfold stored; go_simp)); refine zhK _ _ ⟨?_, ?_⟩; (focus (exact m_idle (by simp [go_sem]); done)); clear zhK zK; try walk_nrm))
    exact ⟨trivial, trivial, trivial, _, resultsC_tmp2 (by rfl) _, pv, rfl, by rw [path_yes hb]; exact ho, below_at hb3 _⟩

set_option maxRecDepth 100000 in
set_option maxHeartbeats 4000000 in
theorem implPath_m (A : Option Addr) (c : Nat) (xs : List Int) (s : Int) (B : Nat) (w : World) (hr : Rd w B A c xs) (hB : B ≤ w.heap.size) (hn : xs.length ≤ 1048576) :
    CallsM Try.prog .aside 15 #[.slice A xs.length c, .int .i64 s] w fun x w' => ∃ pv, x = .tuple #[pv, .bool (ballB xs s)] ∧ OwnI w' w.heap.size pv (pathR xs s) ∧ Below w.heap.size w w' := by
  refine callsM_of Try.func15 rfl ?_
  simp only [Try.ntmps15, List.size_toArray, List.length_cons, List.length_nil, Nat.reduceAdd, Nat.reduceSub, Array.replicate_succ, Array.replicate_zero, List.push_toArray, List.append_toArray, List.nil_append, List.cons_append]
  iterate 9 (first | ((first | refine WpM.seq ?_ | refine WpM.block ?_ | refine WpM.region ?_ | refine WpM.region_end ?_ | refine WpM.ret ?_ | refine WpM.skip ?_ | refine WpM.exit ?_); try simp only [thenM, inBlockM, if_true, if_false, reduceIte, Nat.reduceEqDiff, List.size_toArray, List.length_cons, List.length_nil, Nat.reduceAdd, Nat.zero_add, List.range, List.range.loop]) | (refine WpM.op_k rfl (by rfl) ?_; intro zu zR; obtain ⟨dd, zh⟩ := zR; subst zh; (try simp only [at_at']); intro zK zhK; go_simp; (try (unfold stored; go_simp)); refine zhK _ _ ⟨?_, ?_⟩; (focus (exact m_idle (by simp [go_sem]); done)); clear zhK zK; try walk_nrm))
  (refine WpM.op_k rfl (by rfl) ?_; intro zu zR; obtain ⟨d7, zh⟩ := zR; subst zh; (try simp only [at_at']); intro zK zhK; go_simp; (try (unfold stored; go_simp)); refine zhK _ _ ⟨?_, ?_⟩; (focus (exact m_idle (by simp [go_sem]); done)); clear zhK zK; try walk_nrm)
  refine WpM.callL (vs := #[.slice A xs.length c, .int .i64 s]) fns_ok no_early ⟨_, Try.func15, by rfl⟩ (by kernel_rfl) rfl rfl (by rfl) rfl Try.func42 (by rfl) (by rfl) (by simp [Act.eval]) (fun vv uu => vv = .bool (ballB xs s) ∧ RW (w.at d7) uu) (lone_same (w := (w.at d7)) (V := .bool (ballB xs s)) fun τ δ => hasBall_any A c xs s B _ ⟨hr.1, hr.2⟩ hn) ?_; rintro _ _ ⟨rfl, d5, rfl⟩; (try walk_nrm); try simp only [at_at']
  cases hb : ballB xs s
  · iterate 2 (first | ((first | refine WpM.seq ?_ | refine WpM.block ?_ | refine WpM.region ?_ | refine WpM.region_end ?_ | refine WpM.ret ?_ | refine WpM.skip ?_ | refine WpM.exit ?_); try simp only [thenM, inBlockM, if_true, if_false, reduceIte, Nat.reduceEqDiff, List.size_toArray, List.length_cons, List.length_nil, Nat.reduceAdd, Nat.zero_add, List.range, List.range.loop]) | (refine WpM.op_k rfl (by rfl) ?_; intro zu zR; obtain ⟨dd, zh⟩ := zR; subst zh; (try simp only [at_at']); intro zK zhK; go_simp; (try (unfold stored; go_simp)); refine zhK _ _ ⟨?_, ?_⟩; (focus (exact m_idle (by simp [go_sem]); done)); clear zhK zK; try walk_nrm))
    refine WpM.cond (t := true) (by simp [Act.eval]) ?_
    simp only [if_true]
    iterate 6 (first | ((first | refine WpM.seq ?_ | refine WpM.block ?_ | refine WpM.region ?_ | refine WpM.region_end ?_ | refine WpM.ret ?_ | refine WpM.skip ?_ | refine WpM.exit ?_); try simp only [thenM, inBlockM, if_true, if_false, reduceIte, Nat.reduceEqDiff, List.size_toArray, List.length_cons, List.length_nil, Nat.reduceAdd, Nat.zero_add, List.range, List.range.loop]) | (refine WpM.op_k rfl (by rfl) ?_; intro zu zR; obtain ⟨dd, zh⟩ := zR; subst zh; (try simp only [at_at']); intro zK zhK; go_simp; (try (unfold stored; go_simp)); refine zhK _ _ ⟨?_, ?_⟩; (focus (exact m_idle (by simp [go_sem]); done)); clear zhK zK; try walk_nrm))
    exact ⟨trivial, trivial, trivial, _, resultsC_tmp2 (by rfl) _, _, rfl, by rw [path_no hb]; exact OwnI.nil _ _, below_at (Below.refl _ _) _⟩
  · have hJ := (ballB_le hb).1
    iterate 2 (first | ((first | refine WpM.seq ?_ | refine WpM.block ?_ | refine WpM.region ?_ | refine WpM.region_end ?_ | refine WpM.ret ?_ | refine WpM.skip ?_ | refine WpM.exit ?_); try simp only [thenM, inBlockM, if_true, if_false, reduceIte, Nat.reduceEqDiff, List.size_toArray, List.length_cons, List.length_nil, Nat.reduceAdd, Nat.zero_add, List.range, List.range.loop]) | (refine WpM.op_k rfl (by rfl) ?_; intro zu zR; obtain ⟨dd, zh⟩ := zR; subst zh; (try simp only [at_at']); intro zK zhK; go_simp; (try (unfold stored; go_simp)); refine zhK _ _ ⟨?_, ?_⟩; (focus (exact m_idle (by simp [go_sem]); done)); clear zhK zK; try walk_nrm))
    refine WpM.cond (t := false) (by simp [Act.eval]) ?_
    simp only [if_false, Bool.false_eq_true]
    iterate 4 (first | ((first | refine WpM.seq ?_ | refine WpM.block ?_ | refine WpM.region ?_ | refine WpM.region_end ?_ | refine WpM.ret ?_ | refine WpM.skip ?_ | refine WpM.exit ?_); try simp only [thenM, inBlockM, if_true, if_false, reduceIte, Nat.reduceEqDiff, List.size_toArray, List.length_cons, List.length_nil, Nat.reduceAdd, Nat.zero_add, List.range, List.range.loop]) | (refine WpM.op_k rfl (by rfl) ?_; intro zu zR; obtain ⟨dd, zh⟩ := zR; subst zh; (try simp only [at_at']); intro zK zhK; go_simp; (try (unfold stored; go_simp)); refine zhK _ _ ⟨?_, ?_⟩; (focus (exact m_idle (by simp [go_sem]); done)); clear zhK zK; try walk_nrm))
    (refine WpM.op_k rfl (by rfl) ?_; intro zu zR; obtain ⟨d8, zh⟩ := zR; subst zh; (try simp only [at_at']); intro zK zhK; go_simp; (try (unfold stored; go_simp)); refine zhK _ _ ⟨?_, ?_⟩; (focus (exact m_idle (by simp [go_sem]); done)); clear zhK zK; try walk_nrm)
    refine WpM.callM rfl (by rfl) rfl Try.func43 (by rfl) (by rfl) (by simp [Act.eval]) (course_m A c xs s B (w.at d8) (rd_at hr _) hB hJ) ?_
    rintro x u ⟨pv, rfl, ho, hb1⟩
    have hb3 : Below w.heap.size w u := (below_at (Below.refl _ _) d8).trans hb1
    obtain ⟨A2, c2, rfl, _⟩ := ho.form
    try walk_nrm
    (refine WpM.op_k rfl (by rfl) ?_; intro zu zR; obtain ⟨dd, zh⟩ := zR; subst zh; (try simp only [at_at']); intro zK zhK; go_simp; (try (unfold stored; go_simp)); refine zhK _ _ ⟨?_, ?_⟩; (focus (exact m_idle (by simp [go_sem, Instr.field, asAgg]); done)); clear zhK zK; try walk_nrm)
    iterate 4 (first | ((first | refine WpM.seq ?_ | refine WpM.block ?_ | refine WpM.region ?_ | refine WpM.region_end ?_ | refine WpM.ret ?_ | refine WpM.skip ?_ | refine WpM.exit ?_); try simp only [thenM, inBlockM, if_true, if_false, reduceIte, Nat.reduceEqDiff, List.size_toArray, List.length_cons, List.length_nil, Nat.reduceAdd, Nat.zero_add, List.range, List.range.loop]) | (refine WpM.op_k rfl (by rfl) ?_; intro zu zR; obtain ⟨dd, zh⟩ := zR; subst zh; (try simp only [at_at']); intro zK zhK; go_simp; (try (unfold stored; go_simp)); refine zhK _ _ ⟨?_, ?_⟩; (focus (exact m_idle (by simp [go_sem]); done)); clear zhK zK; try walk_nrm))
    exact ⟨trivial, trivial, trivial, _, resultsC_tmp2 (by rfl) _, _, rfl, by rw [path_yes hb]; exact ho, below_at hb3 _⟩

end Go.Proofs.Ytcnellnpnlcodaa
