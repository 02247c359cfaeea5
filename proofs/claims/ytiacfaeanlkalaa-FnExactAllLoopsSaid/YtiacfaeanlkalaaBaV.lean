/- The time to a loop, and the loop: the model alone; the program beside leavers. -/
import Derived.Test.YtiacfaeanlkalaaBaU
set_option linter.unusedSimpArgs false
namespace Go.Proofs.Ytiacfaeanlkalaa
set_option maxRecDepth 100000
open Go.Conc Go.RowKit

theorem text_beq (a b : ByteArray) : (a.toList == b.toList) = decide (a = b) := by
  by_cases h : a = b
  · subst h; simp
  · rw [decide_eq_false h, beq_eq_false_iff_ne]
    intro e
    exact h (ByteArray.ext (Array.ext' (by rwa [ByteArray.toList_eq, ByteArray.toList_eq] at e)))
theorem ends_loop {l : List Int} {p : Int} : ((⟨endS l p⟩ : ByteArray).toList == (⟨#[108]⟩ : ByteArray).toList) = decide (p ∈ l) := by
  rw [text_beq]
  by_cases h : p ∈ l
  · simp [endS, h]
  · rw [decide_eq_false h, decide_eq_false]
    unfold endS
    rw [if_neg h]
    split <;> simp
/-- a ball comes to a loop -/
def tlB (xs : List Int) (s : Int) : Bool := ballB xs s && decide ((courseB xs s).2 ∈ (courseB xs s).1)
noncomputable def tlI (xs : List Int) (s : Int) : Int := if tlB xs s then posC (courseB xs s).1 (courseB xs s).2 else 0
theorem tl_no1 {xs : List Int} {s : Int} (h : ballB xs s = false) : tlB xs s = false ∧ tlI xs s = 0 := by
  have : tlB xs s = false := by simp [tlB, h]
  exact ⟨this, by simp [tlI, this]⟩
theorem tl_no2 {xs : List Int} {s : Int} (h : ¬ (courseB xs s).2 ∈ (courseB xs s).1) : tlB xs s = false ∧ tlI xs s = 0 := by
  have : tlB xs s = false := by simp [tlB, h]
  exact ⟨this, by simp [tlI, this]⟩
theorem tl_yes {xs : List Int} {s : Int} (h : ballB xs s = true) (h2 : (courseB xs s).2 ∈ (courseB xs s).1) : tlB xs s = true ∧ tlI xs s = posC (courseB xs s).1 (courseB xs s).2 := by
  have : tlB xs s = true := by simp [tlB, h, h2]
  exact ⟨this, by simp [tlI, this]⟩
noncomputable def loopR (xs : List Int) (s : Int) : List Int := if tlB xs s then turnD (loopD (courseB xs s).1 (courseB xs s).2) else []

set_option maxHeartbeats 1000000 in
theorem specTime_any (A : Option Addr) (c : Nat) (xs : List Int) (s : Int) (B : Nat) (w : World) (hr : Rd w B A c xs) (hB : B ≤ w.heap.size) (hn : xs.length ≤ 1048576) :
    Calls Try.prog 19 #[.slice A xs.length c, .int .i64 s] w fun e w' => e = .returned (.tuple #[.int .i64 (tlI xs s), .bool (tlB xs s)]) ∧ Below w.heap.size w w' := by
  cases hb : ballB xs s
  · have hT := tl_no1 hb
    have H := Lib.hid hb
    have HT := Lib.hid hT
    clear hb hT
    go_enter Try.func19, Try.ntmps19
    go_wp2_with fail
    refine (baStep_any A c xs s B w hr hn).mono ?_
    rintro e w' ⟨rfl, rfl⟩
    rw [H.out]
    go_wp2_with fail
    go_ret2
    exact ⟨by rw [HT.out.1, HT.out.2]; rfl, Below.refl _ _⟩
  · have HEN := Lib.hid (baEnd_any A c xs s B w hr hB hb)
    have hJ := (ballB_le hb).1
    by_cases hm : (courseB xs s).2 ∈ (courseB xs s).1
    · have HT := Lib.hid (tl_yes hb hm)
      have HBQ := Lib.hid (ends_loop (l := (courseB xs s).1) (p := (courseB xs s).2))
      rw [decide_eq_true hm] at HBQ
      have HL := Lib.hid (fun u h => baLoop_any A c xs s B u ((hr.below h hB)) (Nat.le_trans hB h.size) hJ hm)
      have H := Lib.hid hb
      clear hb hm hJ
      generalize (⟨endS (courseB xs s).1 (courseB xs s).2⟩ : ByteArray) = E at *
      have hbq := HBQ.out
      clear HBQ
      have hbq2 : (E.toList == (⟨#[108]⟩ : ByteArray).toList) = true := hbq
      have e108 : (⟨#[108]⟩ : ByteArray).toList = [108] := by decide +kernel
      rw [e108] at hbq
      go_enter Try.func19, Try.ntmps19
      go_wp2_with fail
      refine (baStep_any A c xs s B w hr hn).mono ?_
      rintro e w' ⟨rfl, rfl⟩
      rw [H.out]
      go_wp2_with fail
      refine HEN.out.mono ?_
      rintro e w1 ⟨rfl, hb1⟩
      go_wp2_with fail
      refine (HL.out w1 hb1).mono ?_
      rintro e w2 ⟨pv, rfl, hown, hb2⟩
      go_wp2_with fail
      go_ret2
      exact ⟨by rw [HT.out.1, HT.out.2]; rfl, hb1.trans (hb2.mono hb1.size)⟩
    · have HT := Lib.hid (tl_no2 hm)
      have HBQ := Lib.hid (ends_loop (l := (courseB xs s).1) (p := (courseB xs s).2))
      rw [decide_eq_false hm] at HBQ
      have H := Lib.hid hb
      clear hb hm hJ
      generalize (⟨endS (courseB xs s).1 (courseB xs s).2⟩ : ByteArray) = E at *
      have hbq := HBQ.out
      clear HBQ
      have hbq2 : (E.toList == (⟨#[108]⟩ : ByteArray).toList) = false := hbq
      have e108 : (⟨#[108]⟩ : ByteArray).toList = [108] := by decide +kernel
      rw [e108] at hbq
      go_enter Try.func19, Try.ntmps19
      go_wp2_with fail
      refine (baStep_any A c xs s B w hr hn).mono ?_
      rintro e w' ⟨rfl, rfl⟩
      rw [H.out]
      go_wp2_with fail
      refine HEN.out.mono ?_
      rintro e w1 ⟨rfl, hb1⟩
      go_wp2_with fail
      go_ret2
      exact ⟨by rw [HT.out.1, HT.out.2]; rfl, hb1⟩

set_option maxHeartbeats 1000000 in
theorem specLoopB_any (A : Option Addr) (c : Nat) (xs : List Int) (s : Int) (B : Nat) (w : World) (hr : Rd w B A c xs) (hB : B ≤ w.heap.size) (hn : xs.length ≤ 1048576) :
    Calls Try.prog 29 #[.slice A xs.length c, .int .i64 s] w (Lists w (loopR xs s) (tlB xs s)) := by
  cases hb : ballB xs s
  · have hT := tl_no1 hb
    have H := Lib.hid hb
    have HT := Lib.hid hT
    clear hb hT
    go_enter Try.func29, Try.ntmps29
    go_wp2_with fail
    refine (baStep_any A c xs s B w hr hn).mono ?_
    rintro e w' ⟨rfl, rfl⟩
    rw [H.out]
    go_wp2_with fail
    go_ret2
    exact ⟨_, by rw [HT.out.1]; rfl, by rw [show loopR xs s = [] by simp [loopR, HT.out.1]]; exact OwnI.nil _ _, Below.refl _ _⟩
  · have HEN := Lib.hid (baEnd_any A c xs s B w hr hB hb)
    have hJ := (ballB_le hb).1
    by_cases hm : (courseB xs s).2 ∈ (courseB xs s).1
    · have HT := Lib.hid (tl_yes hb hm)
      have HBQ := Lib.hid (ends_loop (l := (courseB xs s).1) (p := (courseB xs s).2))
      rw [decide_eq_true hm] at HBQ
      have HL := Lib.hid (fun u h => baLoop_any A c xs s B u ((hr.below h hB)) (Nat.le_trans hB h.size) hJ hm)
      have H := Lib.hid hb
      clear hb hm hJ
      generalize (⟨endS (courseB xs s).1 (courseB xs s).2⟩ : ByteArray) = E at *
      have hbq := HBQ.out
      clear HBQ
      have hbq2 : (E.toList == (⟨#[108]⟩ : ByteArray).toList) = true := hbq
      have e108 : (⟨#[108]⟩ : ByteArray).toList = [108] := by decide +kernel
      rw [e108] at hbq
      go_enter Try.func29, Try.ntmps29
      go_wp2_with fail
      refine (baStep_any A c xs s B w hr hn).mono ?_
      rintro e w' ⟨rfl, rfl⟩
      rw [H.out]
      go_wp2_with fail
      refine HEN.out.mono ?_
      rintro e w1 ⟨rfl, hb1⟩
      go_wp2_with fail
      refine (HL.out w1 hb1).mono ?_
      rintro e w2 ⟨pv, rfl, hown, hb2⟩
      go_wp2_with fail
      go_ret2
      exact ⟨_, by rw [HT.out.1]; rfl, by rw [show loopR xs s = turnD (loopD (courseB xs s).1 (courseB xs s).2) by simp [loopR, HT.out.1]]; exact hown.mono hb1.size, hb1.trans (hb2.mono hb1.size)⟩
    · have HT := Lib.hid (tl_no2 hm)
      have HBQ := Lib.hid (ends_loop (l := (courseB xs s).1) (p := (courseB xs s).2))
      rw [decide_eq_false hm] at HBQ
      have H := Lib.hid hb
      clear hb hm hJ
      generalize (⟨endS (courseB xs s).1 (courseB xs s).2⟩ : ByteArray) = E at *
      have hbq := HBQ.out
      clear HBQ
      have hbq2 : (E.toList == (⟨#[108]⟩ : ByteArray).toList) = false := hbq
      have e108 : (⟨#[108]⟩ : ByteArray).toList = [108] := by decide +kernel
      rw [e108] at hbq
      go_enter Try.func29, Try.ntmps29
      go_wp2_with fail
      refine (baStep_any A c xs s B w hr hn).mono ?_
      rintro e w' ⟨rfl, rfl⟩
      rw [H.out]
      go_wp2_with fail
      refine HEN.out.mono ?_
      rintro e w1 ⟨rfl, hb1⟩
      go_wp2_with fail
      go_ret2
      exact ⟨_, by rw [HT.out.1]; rfl, by rw [show loopR xs s = [] by simp [loopR, HT.out.1]]; exact OwnI.nil _ _, hb1⟩

set_option maxRecDepth 100000 in
set_option maxHeartbeats 4000000 in
theorem implTime_m (A0 : Option Addr) (c0 : Nat) (xs : List Int) (s : Int) (B : Nat) (w : World) (hr : Rd w B A0 c0 xs) (hB : B ≤ w.heap.size) (hn : xs.length ≤ 1048576) :
    CallsM Try.prog .aside 20 #[.slice A0 xs.length c0, .int .i64 s] w fun x w' => x = .tuple #[.int .i64 (tlI xs s), .bool (tlB xs s)] ∧ Below w.heap.size w w' := by
  refine callsM_of Try.func20 rfl ?_
  simp only [Try.ntmps20, List.size_toArray, List.length_cons, List.length_nil, Nat.reduceAdd, Nat.reduceSub, Array.replicate_succ, Array.replicate_zero, List.push_toArray, List.append_toArray, List.nil_append, List.cons_append]
  iterate 9 (first | ((first | refine WpM.seq ?_ | refine WpM.block ?_ | refine WpM.region ?_ | refine WpM.region_end ?_ | refine WpM.ret ?_ | refine WpM.skip ?_ | refine WpM.exit ?_); try simp only [thenM, inBlockM, if_true, if_false, reduceIte, Nat.reduceEqDiff, List.size_toArray, List.length_cons, List.length_nil, Nat.reduceAdd, Nat.zero_add, List.range, List.range.loop]) | (refine WpM.op_k rfl (by rfl) ?_; intro zu zR; obtain ⟨dd, zh⟩ := zR; subst zh; (try simp only [at_at']); intro zK zhK; go_simp; (try (unfold stored; go_simp)); refine zhK _ _ ⟨?_, ?_⟩; (focus (exact m_idle (by simp [go_sem]); done)); clear zhK zK; try walk_nrm))
  (refine WpM.op_k rfl (by rfl) ?_; intro zu zR; obtain ⟨d7, zh⟩ := zR; subst zh; (try simp only [at_at']); intro zK zhK; go_simp; (try (unfold stored; go_simp)); refine zhK _ _ ⟨?_, ?_⟩; (focus (exact m_idle (by simp [go_sem]); done)); clear zhK zK; try walk_nrm)
  refine WpM.callL (vs := #[.slice A0 xs.length c0, .int .i64 s]) fns_ok no_early ⟨_, Try.func20, by rfl⟩ (by kernel_rfl) rfl rfl (by rfl) rfl Try.func42 (by rfl) (by rfl) (by simp [Act.eval]) (fun vv uu => vv = .bool (ballB xs s) ∧ RW (w.at d7) uu) (lone_same (w := (w.at d7)) (V := .bool (ballB xs s)) fun τ δ => hasBall_any A0 c0 xs s B _ ⟨hr.1, hr.2⟩ hn) ?_; rintro _ _ ⟨rfl, d5, rfl⟩; (try walk_nrm); try simp only [at_at']
  cases hb : ballB xs s
  · obtain ⟨e1, e2⟩ := tl_no1 hb
    repeat (first | ((first | refine WpM.seq ?_ | refine WpM.block ?_ | refine WpM.region ?_ | refine WpM.region_end ?_ | refine WpM.ret ?_ | refine WpM.skip ?_ | refine WpM.exit ?_); try simp only [thenM, inBlockM, if_true, if_false, reduceIte, Nat.reduceEqDiff, List.size_toArray, List.length_cons, List.length_nil, Nat.reduceAdd, Nat.zero_add, List.range, List.range.loop]) | (refine WpM.op_k rfl (by rfl) ?_; intro zu zR; obtain ⟨dd, zh⟩ := zR; subst zh; (try simp only [at_at']); intro zK zhK; go_simp; (try (unfold stored; go_simp)); refine zhK _ _ ⟨?_, ?_⟩; (focus (refine m_idle ?_; simp [go_sem, Instr.field, asAgg]; done)); clear zhK zK; try walk_nrm) | fail)
    refine WpM.cond (t := true) (by simp [Act.eval]) ?_
    simp only [if_true]
    repeat (first | ((first | refine WpM.seq ?_ | refine WpM.block ?_ | refine WpM.region ?_ | refine WpM.region_end ?_ | refine WpM.ret ?_ | refine WpM.skip ?_ | refine WpM.exit ?_); try simp only [thenM, inBlockM, if_true, if_false, reduceIte, Nat.reduceEqDiff, List.size_toArray, List.length_cons, List.length_nil, Nat.reduceAdd, Nat.zero_add, List.range, List.range.loop]) | (refine WpM.op_k rfl (by rfl) ?_; intro zu zR; obtain ⟨dd, zh⟩ := zR; subst zh; (try simp only [at_at']); intro zK zhK; go_simp; (try (unfold stored; go_simp)); refine zhK _ _ ⟨?_, ?_⟩; (focus (refine m_idle ?_; simp [go_sem, Instr.field, asAgg]; done)); clear zhK zK; try walk_nrm) | fail)
    exact ⟨trivial, trivial, trivial, _, resultsC_tmp2 (by rfl) _, by rw [e1, e2]; rfl, below_at (Below.refl _ _) _⟩
  · have hJ := (ballB_le hb).1
    repeat (first | ((first | refine WpM.seq ?_ | refine WpM.block ?_ | refine WpM.region ?_ | refine WpM.region_end ?_ | refine WpM.ret ?_ | refine WpM.skip ?_ | refine WpM.exit ?_); try simp only [thenM, inBlockM, if_true, if_false, reduceIte, Nat.reduceEqDiff, List.size_toArray, List.length_cons, List.length_nil, Nat.reduceAdd, Nat.zero_add, List.range, List.range.loop]) | (refine WpM.op_k rfl (by rfl) ?_; intro zu zR; obtain ⟨dd, zh⟩ := zR; subst zh; (try simp only [at_at']); intro zK zhK; go_simp; (try (unfold stored; go_simp)); refine zhK _ _ ⟨?_, ?_⟩; (focus (refine m_idle ?_; simp [go_sem, Instr.field, asAgg]; done)); clear zhK zK; try walk_nrm) | fail)
    refine WpM.cond (t := false) (by simp [Act.eval]) ?_
    simp only [if_false, Bool.false_eq_true]
    iterate 4 (first | ((first | refine WpM.seq ?_ | refine WpM.block ?_ | refine WpM.region ?_ | refine WpM.region_end ?_ | refine WpM.ret ?_ | refine WpM.skip ?_ | refine WpM.exit ?_); try simp only [thenM, inBlockM, if_true, if_false, reduceIte, Nat.reduceEqDiff, List.size_toArray, List.length_cons, List.length_nil, Nat.reduceAdd, Nat.zero_add, List.range, List.range.loop]) | (refine WpM.op_k rfl (by rfl) ?_; intro zu zR; obtain ⟨dd, zh⟩ := zR; subst zh; (try simp only [at_at']); intro zK zhK; go_simp; (try (unfold stored; go_simp)); refine zhK _ _ ⟨?_, ?_⟩; (focus (exact m_idle (by simp [go_sem]); done)); clear zhK zK; try walk_nrm))
    (refine WpM.op_k rfl (by rfl) ?_; intro zu zR; obtain ⟨d9, zh⟩ := zR; subst zh; (try simp only [at_at']); intro zK zhK; go_simp; (try (unfold stored; go_simp)); refine zhK _ _ ⟨?_, ?_⟩; (focus (exact m_idle (by simp [go_sem]); done)); clear zhK zK; try walk_nrm)
    refine WpM.callM rfl (by rfl) rfl Try.func43 (by rfl) (by rfl) (by simp [Act.eval]) (course_m A0 c0 xs s B (w.at d9) (rd_at hr _) hB hJ) ?_
    rintro x u ⟨pv, rfl, ho, hb0⟩
    have hbu : Below w.heap.size w u := (below_at (Below.refl _ _) d9).trans hb0
    have hlen := course_len hJ s
    have HTY := fun h => tl_yes hb h
    have HTN := fun h => tl_no2 (xs := xs) (s := s) h
    clear hb0
    try walk_nrm
    generalize (courseB xs s).2 = p at *
    generalize (courseB xs s).1 = l at *
    obtain ⟨A, c, rfl, hrd⟩ := ho.form
    refine WpM.callM rfl (by rfl) rfl Try.func49 (by rfl) (by rfl) (by simp [Act.eval]) (toLoop_pos_m A c u.heap.size l p u hrd (Nat.le_refl _) hlen) ?_
    rintro x V2 ⟨k0, rfl, hpos, hbx⟩
    have hb3 : Below w.heap.size w V2 := hbu.trans (hbx.mono hbu.size)
    try walk_nrm
    have hpc := posC_is hpos
    have hmem := hpos.mem
    by_cases hp : p ∈ l
    · have gk : ¬ k0 < 0 := by have := hmem.2 hp; omega
      obtain ⟨e1, e2⟩ := HTY hp
      repeat (first | ((first | refine WpM.seq ?_ | refine WpM.block ?_ | refine WpM.region ?_ | refine WpM.region_end ?_ | refine WpM.ret ?_ | refine WpM.skip ?_ | refine WpM.exit ?_); try simp only [thenM, inBlockM, if_true, if_false, reduceIte, Nat.reduceEqDiff, List.size_toArray, List.length_cons, List.length_nil, Nat.reduceAdd, Nat.zero_add, List.range, List.range.loop]) | (refine WpM.op_k rfl (by rfl) ?_; intro zu zR; obtain ⟨dd, zh⟩ := zR; subst zh; (try simp only [at_at']); intro zK zhK; go_simp; (try (unfold stored; go_simp)); refine zhK _ _ ⟨?_, ?_⟩; (focus (refine m_idle ?_; simp [go_sem, Instr.field, asAgg]; done)); clear zhK zK; try walk_nrm) | fail)
      refine WpM.cond (t := false) (by simp [Act.eval, gk]) ?_
      simp only [if_false, Bool.false_eq_true]
      repeat (first | ((first | refine WpM.seq ?_ | refine WpM.block ?_ | refine WpM.region ?_ | refine WpM.region_end ?_ | refine WpM.ret ?_ | refine WpM.skip ?_ | refine WpM.exit ?_); try simp only [thenM, inBlockM, if_true, if_false, reduceIte, Nat.reduceEqDiff, List.size_toArray, List.length_cons, List.length_nil, Nat.reduceAdd, Nat.zero_add, List.range, List.range.loop]) | (refine WpM.op_k rfl (by rfl) ?_; intro zu zR; obtain ⟨dd, zh⟩ := zR; subst zh; (try simp only [at_at']); intro zK zhK; go_simp; (try (unfold stored; go_simp)); refine zhK _ _ ⟨?_, ?_⟩; (focus (refine m_idle ?_; simp [go_sem, Instr.field, asAgg]; done)); clear zhK zK; try walk_nrm) | fail)
      exact ⟨trivial, trivial, trivial, _, resultsC_tmp2 (by rfl) _, by rw [e1, e2, hpc]; rfl, below_at hb3 _⟩
    · have gk : k0 < 0 := by
        have : ¬ 0 ≤ k0 := fun x => hp (hmem.1 x)
        omega
      obtain ⟨e1, e2⟩ := HTN hp
      repeat (first | ((first | refine WpM.seq ?_ | refine WpM.block ?_ | refine WpM.region ?_ | refine WpM.region_end ?_ | refine WpM.ret ?_ | refine WpM.skip ?_ | refine WpM.exit ?_); try simp only [thenM, inBlockM, if_true, if_false, reduceIte, Nat.reduceEqDiff, List.size_toArray, List.length_cons, List.length_nil, Nat.reduceAdd, Nat.zero_add, List.range, List.range.loop]) | (refine WpM.op_k rfl (by rfl) ?_; intro zu zR; obtain ⟨dd, zh⟩ := zR; subst zh; (try simp only [at_at']); intro zK zhK; go_simp; (try (unfold stored; go_simp)); refine zhK _ _ ⟨?_, ?_⟩; (focus (refine m_idle ?_; simp [go_sem, Instr.field, asAgg]; done)); clear zhK zK; try walk_nrm) | fail)
      refine WpM.cond (t := true) (by simp [Act.eval, gk]) ?_
      simp only [if_true]
      repeat (first | ((first | refine WpM.seq ?_ | refine WpM.block ?_ | refine WpM.region ?_ | refine WpM.region_end ?_ | refine WpM.ret ?_ | refine WpM.skip ?_ | refine WpM.exit ?_); try simp only [thenM, inBlockM, if_true, if_false, reduceIte, Nat.reduceEqDiff, List.size_toArray, List.length_cons, List.length_nil, Nat.reduceAdd, Nat.zero_add, List.range, List.range.loop]) | (refine WpM.op_k rfl (by rfl) ?_; intro zu zR; obtain ⟨dd, zh⟩ := zR; subst zh; (try simp only [at_at']); intro zK zhK; go_simp; (try (unfold stored; go_simp)); refine zhK _ _ ⟨?_, ?_⟩; (focus (refine m_idle ?_; simp [go_sem, Instr.field, asAgg]; done)); clear zhK zK; try walk_nrm) | fail)
      exact ⟨trivial, trivial, trivial, _, resultsC_tmp2 (by rfl) _, by rw [e1, e2]; rfl, below_at hb3 _⟩

end Go.Proofs.Ytiacfaeanlkalaa
