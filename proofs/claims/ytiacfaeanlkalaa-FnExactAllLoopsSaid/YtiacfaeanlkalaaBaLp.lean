/- The loop of a ball, beside leavers. -/
import Derived.Test.YtiacfaeanlkalaaBaV
import Derived.Test.YtiacfaeanlkalaaGnR
import Derived.Test.YtiacfaeanlkalaaGSlices
import Derived.Test.YtiacfaeanlkalaaGCat
set_option linter.unusedSimpArgs false
namespace Go.Proofs.Ytiacfaeanlkalaa
set_option maxRecDepth 100000
open Go.Conc Go.RowKit

theorem lix_spec (d : List Int) : ∀ k, 1 ≤ k → k ≤ d.length → lix d k < k ∧ (∀ j, j < k → d.getD (lix d k) 0 ≤ d.getD j 0) ∧ ∀ j, j < lix d k → d.getD (lix d k) 0 < d.getD j 0
  | 0, h, _ => by omega
  | 1, _, _ => by
    have : lix d 1 = 0 := by simp [lix]
    rw [this]
    refine ⟨by omega, fun j hj => ?_, fun j hj => by omega⟩
    obtain rfl : j = 0 := by omega
    exact Int.le_refl _
  | k + 2, _, hk => by
    obtain ⟨h1, h2, h3⟩ := lix_spec d (k + 1) (by omega) (by omega)
    rw [show lix d (k + 2) = if d.getD (k + 1) 0 < d.getD (lix d (k + 1)) 0 then k + 1 else lix d (k + 1) from rfl]
    by_cases hc : d.getD (k + 1) 0 < d.getD (lix d (k + 1)) 0
    · rw [if_pos hc]
      refine ⟨by omega, fun j hj => ?_, fun j hj => ?_⟩
      · by_cases hjk : j = k + 1
        · subst hjk; exact Int.le_refl _
        · have := h2 j (by omega); omega
      · have := h2 j (by omega); omega
    · rw [if_neg hc]
      refine ⟨by omega, fun j hj => ?_, h3⟩
      by_cases hjk : j = k + 1
      · subst hjk; omega
      · exact h2 j (by omega)
theorem min_lix {d : List Int} (h : 1 ≤ d.length) : minL d = d.getD (lix d d.length) 0 := by
  obtain ⟨h1, h2, _⟩ := lix_spec d d.length h (Nat.le_refl _)
  refine minF_eq _ _ _ (h2 0 (by omega)) (fun y hy => ?_) ?_
  · obtain ⟨j, hj, rfl⟩ := List.mem_iff_getElem.1 hy
    simp only [List.length_drop] at hj
    have := h2 (1 + j) (by omega)
    rw [List.getElem_drop]
    rw [show d.getD (1 + j) 0 = d[1 + j] by simp [List.getD_eq_getElem?_getD, show 1 + j < d.length by omega]] at this
    exact this
  · by_cases hz : lix d d.length = 0
    · exact .inl (by rw [hz])
    · refine .inr ?_
      rw [show d.getD (lix d d.length) 0 = d[lix d d.length] by simp [List.getD_eq_getElem?_getD, h1]]
      refine List.mem_iff_getElem.2 ⟨lix d d.length - 1, by simp; omega, ?_⟩
      rw [List.getElem_drop]
      congr 1
      omega
theorem idx_lix {d : List Int} (h : 1 ≤ d.length) : idxF (minL d) d 0 = ((lix d d.length : Nat) : Int) := by
  obtain ⟨h1, _, h3⟩ := lix_spec d d.length h (Nat.le_refl _)
  have := idxF_eq (minL d) d (lix d d.length) h1 (min_lix h).symm 0 (Nat.zero_le _) (fun j _ hj => by have := h3 j hj; rw [min_lix h]; omega)
  simpa using this
theorem tl_parts {xs : List Int} {s : Int} (h : tlB xs s = true) : ballB xs s = true ∧ (courseB xs s).2 ∈ (courseB xs s).1 := by
  simpa [tlB] using h
theorem loopD_len {l : List Int} {p : Int} (h : p ∈ l) : 1 ≤ (loopD l p).length ∧ (loopD l p).length ≤ l.length := by
  obtain ⟨i, hi, hl⟩ := pos_in h
  rw [loopD, hi, Int.toNat_natCast, List.length_drop]
  omega
theorem loopR_length (xs : List Int) (s : Int) : (loopR xs s).length ≤ 1048576 := by
  unfold loopR
  by_cases h : tlB xs s = true
  · rw [if_pos h]
    obtain ⟨h1, h2⟩ := tl_parts h
    have h3 := loopD_len h2
    have h4 := course_len (ballB_le h1).1 s
    rw [turnD_length _ h3.1]
    omega
  · rw [if_neg h]; simp

/-- the functions that are walked for one goroutine alone -/
def Lb_lp (f : FuncId) : Bool := [57, 56, 58, 66].contains f
set_option maxRecDepth 100000 in
theorem fns_ok_lp : ∀ f, Lb_lp f = true → fnOk Try.prog Lb_lp f = true := by
  intro f hf
  simp only [Lb_lp, List.contains_cons, List.contains_nil, Bool.or_false, Bool.or_eq_true, beq_iff_eq] at hf
  rcases hf with rfl | rfl | rfl | rfl <;> kernel_rfl

set_option maxRecDepth 100000 in
set_option maxHeartbeats 4000000 in
theorem implLoopB_m (A0 : Option Addr) (c0 : Nat) (xs : List Int) (s : Int) (B : Nat) (w : World) (hr : Rd w B A0 c0 xs) (hB : B ≤ w.heap.size) (hn : xs.length ≤ 1048576) :
    CallsM Try.prog .aside 30 #[.slice A0 xs.length c0, .int .i64 s] w fun x w' => ∃ pv, x = .tuple #[pv, .bool (tlB xs s)] ∧ OwnI w' w.heap.size pv (loopR xs s) ∧ Below w.heap.size w w' := by
  refine callsM_of Try.func30 rfl ?_
  simp only [Try.ntmps30, List.size_toArray, List.length_cons, List.length_nil, Nat.reduceAdd, Nat.reduceSub, Array.replicate_succ, Array.replicate_zero, List.push_toArray, List.append_toArray, List.nil_append, List.cons_append]
  repeat (first | ((first | refine WpM.seq ?_ | refine WpM.block ?_ | refine WpM.region ?_ | refine WpM.region_end ?_ | refine WpM.ret ?_ | refine WpM.skip ?_ | refine WpM.exit ?_); try simp only [thenM, inBlockM, if_true, if_false, reduceIte, Nat.reduceEqDiff, List.size_toArray, List.length_cons, List.length_nil, Nat.reduceAdd, Nat.zero_add, List.range, List.range.loop]) | (refine WpM.op_k rfl (by rfl) ?_; intro zu zR; obtain ⟨dd, zh⟩ := zR; subst zh; (try simp only [at_at']); intro zK zhK; go_simp; (try (unfold stored; go_simp)); refine zhK _ _ ⟨?_, ?_⟩; (focus (refine m_idle ?_; simp [go_sem, Instr.field, asAgg]; done)); clear zhK zK; try walk_nrm) | fail)
  refine WpM.callM rfl (by rfl) rfl Try.func20 (by rfl) (by rfl) (by simp [Act.eval]) (implTime_m A0 c0 xs s B _ (rd_at hr _) hB hn) ?_
  rintro x u ⟨rfl, hb0⟩
  have hbu : Below w.heap.size w u := ⟨hb0.os, hb0.tape, hb0.output, hb0.size, hb0.block⟩
  clear hb0
  try walk_nrm
  cases ht : tlB xs s
  · have hR : loopR xs s = [] := by simp [loopR, ht]
    clear ht
    repeat (first | ((first | refine WpM.seq ?_ | refine WpM.block ?_ | refine WpM.region ?_ | refine WpM.region_end ?_ | refine WpM.ret ?_ | refine WpM.skip ?_ | refine WpM.exit ?_); try simp only [thenM, inBlockM, if_true, if_false, reduceIte, Nat.reduceEqDiff, List.size_toArray, List.length_cons, List.length_nil, Nat.reduceAdd, Nat.zero_add, List.range, List.range.loop]) | (refine WpM.op_k rfl (by rfl) ?_; intro zu zR; obtain ⟨dd, zh⟩ := zR; subst zh; (try simp only [at_at']); intro zK zhK; go_simp; (try (unfold stored; go_simp)); refine zhK _ _ ⟨?_, ?_⟩; (focus (refine m_idle ?_; simp [go_sem, Instr.field, asAgg]; done)); clear zhK zK; try walk_nrm) | fail)
    refine WpM.cond (t := true) (by simp [Act.eval]) ?_
    simp only [if_true]
    repeat (first | ((first | refine WpM.seq ?_ | refine WpM.block ?_ | refine WpM.region ?_ | refine WpM.region_end ?_ | refine WpM.ret ?_ | refine WpM.skip ?_ | refine WpM.exit ?_); try simp only [thenM, inBlockM, if_true, if_false, reduceIte, Nat.reduceEqDiff, List.size_toArray, List.length_cons, List.length_nil, Nat.reduceAdd, Nat.zero_add, List.range, List.range.loop]) | (refine WpM.op_k rfl (by rfl) ?_; intro zu zR; obtain ⟨dd, zh⟩ := zR; subst zh; (try simp only [at_at']); intro zK zhK; go_simp; (try (unfold stored; go_simp)); refine zhK _ _ ⟨?_, ?_⟩; (focus (refine m_idle ?_; simp [go_sem, Instr.field, asAgg]; done)); clear zhK zK; try walk_nrm) | fail)
    exact ⟨trivial, trivial, trivial, _, resultsC_tmp2 (by rfl) _, _, rfl, by rw [hR]; exact OwnI.nil _ _, below_at hbu _⟩
  · obtain ⟨hb, hm⟩ := tl_parts ht
    have hJ := (ballB_le hb).1
    have HT := Lib.hid (tl_yes hb hm).2
    have HR := Lib.hid (show loopR xs s = turnD (loopD (courseB xs s).1 (courseB xs s).2) by simp [loopR, ht])
    clear ht hb
    rw [HT.out]
    clear HT
    repeat (first | ((first | refine WpM.seq ?_ | refine WpM.block ?_ | refine WpM.region ?_ | refine WpM.region_end ?_ | refine WpM.ret ?_ | refine WpM.skip ?_ | refine WpM.exit ?_); try simp only [thenM, inBlockM, if_true, if_false, reduceIte, Nat.reduceEqDiff, List.size_toArray, List.length_cons, List.length_nil, Nat.reduceAdd, Nat.zero_add, List.range, List.range.loop]) | (refine WpM.op_k rfl (by rfl) ?_; intro zu zR; obtain ⟨dd, zh⟩ := zR; subst zh; (try simp only [at_at']); intro zK zhK; go_simp; (try (unfold stored; go_simp)); refine zhK _ _ ⟨?_, ?_⟩; (focus (refine m_idle ?_; simp [go_sem, Instr.field, asAgg]; done)); clear zhK zK; try walk_nrm) | fail)
    refine WpM.cond (t := false) (by simp [Act.eval]) ?_
    simp only [if_false, Bool.false_eq_true]
    repeat (first | ((first | refine WpM.seq ?_ | refine WpM.block ?_ | refine WpM.region ?_ | refine WpM.region_end ?_ | refine WpM.ret ?_ | refine WpM.skip ?_ | refine WpM.exit ?_); try simp only [thenM, inBlockM, if_true, if_false, reduceIte, Nat.reduceEqDiff, List.size_toArray, List.length_cons, List.length_nil, Nat.reduceAdd, Nat.zero_add, List.range, List.range.loop]) | (refine WpM.op_k rfl (by rfl) ?_; intro zu zR; obtain ⟨dd, zh⟩ := zR; subst zh; (try simp only [at_at']); intro zK zhK; go_simp; (try (unfold stored; go_simp)); refine zhK _ _ ⟨?_, ?_⟩; (focus (refine m_idle ?_; simp [go_sem, Instr.field, asAgg]; done)); clear zhK zK; try walk_nrm) | fail)
    have hru := hr.below hbu hB
    refine WpM.callM rfl (by rfl) rfl Try.func43 (by rfl) (by rfl) (by simp [Act.eval]) (course_m A0 c0 xs s B _ (rd_at hru _) (Nat.le_trans hB hbu.size) hJ) ?_
    rintro x v ⟨pv, rfl, ho, hb1⟩
    have hlen := course_len hJ s
    have hbv : Below w.heap.size w v := hbu.trans ((show Below u.heap.size u v from ⟨hb1.os, hb1.tape, hb1.output, hb1.size, hb1.block⟩).mono hbu.size)
    clear hb1 hJ hru
    try walk_nrm
    generalize (courseB xs s).2 = p at *
    generalize (courseB xs s).1 = l at *
    obtain ⟨i, hi, hil⟩ := pos_in hm
    have hld := loopD_len hm
    have HD := Lib.hid (show loopD l p = l.drop i by rw [loopD, hi, Int.toNat_natCast])
    rw [hi]
    obtain ⟨A1, c1, rfl, hrd⟩ := ho.form
    obtain ⟨b, o, rfl, hbb, _⟩ := hrd.at_ hil
    have hlc := hrd.1
    clear hi hm ho
    obtain ⟨d, hd⟩ : ∃ d, d = l.drop i := ⟨_, rfl⟩
    have hn2 : d.length = l.length - i := by rw [hd]; simp
    have hne : ¬ c1 = i := by omega
    have hrD : Rd v v.heap.size (some ⟨b, o + i, none⟩) (c1 - i) d := by
      have := hrd.drop (k := i) (by omega)
      rw [if_neg hne, ← hd] at this
      have e : (⟨b, o, none⟩ : Addr).add i = ⟨b, o + i, none⟩ := Addr.add_lit _ _ _
      rw [Option.map_some, e] at this
      exact this
    have HRD : Hid (loopR xs s = d.drop (lix d d.length) ++ d.take (lix d d.length)) := Lib.hid (by rw [HR.out, HD.out, ← hd]; rfl)
    have hd1 : 1 ≤ d.length := by omega
    have hd2 : d.length ≤ 1000 := by omega
    have hix := idx_lix hd1
    have hlx := (lix_spec d d.length hd1 (Nat.le_refl _)).1
    have hc2 : d.length ≤ c1 - i := by omega
    have hlenD : l.length - i = d.length := hn2.symm
    have i0 : (0 : Int) ≤ (i : Int) := by omega
    have i1 : (i : Int) ≤ (l.length : Int) := by omega
    have i2 : (l.length : Int) ≤ (c1 : Int) := by omega
    clear HR HD hd hn2 hld hrd
    repeat (first | ((first | refine WpM.seq ?_ | refine WpM.block ?_ | refine WpM.region ?_ | refine WpM.region_end ?_ | refine WpM.ret ?_ | refine WpM.skip ?_ | refine WpM.exit ?_); try simp only [thenM, inBlockM, if_true, if_false, reduceIte, Nat.reduceEqDiff, List.size_toArray, List.length_cons, List.length_nil, Nat.reduceAdd, Nat.zero_add, List.range, List.range.loop]) | (refine WpM.op_k rfl (by rfl) ?_; intro zu zR; obtain ⟨dd, zh⟩ := zR; subst zh; (try simp only [at_at']); intro zK zhK; go_simp; (try (unfold stored; go_simp)); refine zhK _ _ ⟨?_, ?_⟩; (focus (refine m_idle ?_; simp [go_sem, Instr.field, asAgg]; done)); clear zhK zK; try walk_nrm) | fail)
    (refine WpM.op_k rfl (by rfl) ?_; intro zu zR; obtain ⟨dd, zh⟩ := zR; subst zh; (try simp only [at_at']); intro zK zhK; (have h1 : i ≤ l.length := (by omega); have h2 : l.length ≤ c1 := hlc; have h5 : ¬ c1 = i := hne); go_simp; (try (unfold stored; go_simp)); refine zhK _ _ ⟨?_, ?_⟩; (focus (refine m_idle ?_; simp [go_sem, Instr.sliceAt, Instr.slice, Instr.sliceBound, asIntOf, i0, i1, i2, h1, h2, h5]; done)); clear zhK zK; try walk_nrm)
    try rw [hlenD]
    clear hlenD i0 i1 i2 hne hlc hil
    generalize hc9 : c1 - i = c2 at *
    clear hc9
    generalize o + i = oo at *
    iterate 3 (first | ((first | refine WpM.seq ?_ | refine WpM.block ?_ | refine WpM.region ?_ | refine WpM.region_end ?_ | refine WpM.ret ?_ | refine WpM.skip ?_ | refine WpM.exit ?_); try simp only [thenM, inBlockM, if_true, if_false, reduceIte, Nat.reduceEqDiff, List.size_toArray, List.length_cons, List.length_nil, Nat.reduceAdd, Nat.zero_add, List.range, List.range.loop]) | (refine WpM.op_k rfl (by rfl) ?_; intro zu zR; obtain ⟨dd, zh⟩ := zR; subst zh; (try simp only [at_at']); intro zK zhK; go_simp; (try (unfold stored; go_simp)); refine zhK _ _ ⟨?_, ?_⟩; (focus (refine m_idle ?_; simp [go_sem, Instr.field, asAgg]; done)); clear zhK zK; try walk_nrm) | fail)
    refine WpM.of_wp fns_ok_lp no_early ⟨_, Try.func30, by rfl⟩ (by kernel_rfl) rfl (fun τ δ => ?_)
    have hWr : Rd (re (v.at dd) τ δ) v.heap.size (some ⟨b, oo, none⟩) c2 d := ⟨hrD.1, hrD.2⟩
    have HRE := Lib.hid (fun (e : Nat) => show re (re (v.at dd) τ δ) (v.at dd).tape e = v.at e from rfl)
    have HIX := Lib.hid hix
    clear hix
    generalize re (v.at dd) τ δ = W at *
    go_wp2_with fail
    refine (min_any _ _ d _ W hWr hd1 (by omega)).mono ?_
    rintro e w' ⟨rfl, rfl⟩
    go_wp2_with fail
    refine (index_any _ _ d _ _ W hWr (by omega)).mono ?_
    rintro e w' ⟨rfl, rfl⟩
    go_wp2_with fail
    intro d1
    simp only [thenM, inBlockM, if_true, if_false, reduceIte, Nat.reduceEqDiff, List.size_toArray, List.length_cons, List.length_nil, Nat.reduceAdd, Nat.zero_add, List.range, List.range.loop]
    rw [HRE.out, HIX.out]
    clear HRE HIX hWr W
    have H1 := hrD.drop (k := lix d d.length) (by omega)
    have H2 := hrD.take (k := lix d d.length) (by omega)
    have L1 : (d.drop (lix d d.length)).length = d.length - lix d d.length := List.length_drop
    have L2 : (d.take (lix d d.length)).length = lix d d.length := by rw [List.length_take]; omega
    have hne : ¬ c2 = lix d d.length := by omega
    rw [if_neg hne] at H1
    have e : (⟨b, oo, none⟩ : Addr).add (lix d d.length) = ⟨b, oo + lix d d.length, none⟩ := Addr.add_lit _ _ _
    rw [Option.map_some, e] at H1
    clear e
    generalize lix d d.length = j at *
    generalize d.length = n at *
    generalize d.drop j = X at *
    generalize d.take j = Y at *
    clear hrD
    ((first | refine WpM.seq ?_ | refine WpM.block ?_ | refine WpM.region ?_ | refine WpM.region_end ?_ | refine WpM.ret ?_ | refine WpM.skip ?_ | refine WpM.exit ?_); try simp only [thenM, inBlockM, if_true, if_false, reduceIte, Nat.reduceEqDiff, List.size_toArray, List.length_cons, List.length_nil, Nat.reduceAdd, Nat.zero_add, List.range, List.range.loop])
    refine WpM.of_wp fns_ok_lp no_early ⟨_, Try.func30, by rfl⟩ (by kernel_rfl) rfl (fun τ δ => ?_)
    have G1 : Rd (re (v.at d1) τ δ) v.heap.size (some ⟨b, oo + j, none⟩) (c2 - j) X := ⟨H1.1, H1.2⟩
    have G2 : Rd (re (v.at d1) τ δ) v.heap.size (some ⟨b, oo, none⟩) c2 Y := ⟨H2.1, H2.2⟩
    have hsz : v.heap.size ≤ (re (v.at d1) τ δ).heap.size := Nat.le_refl _
    have HFIN := Lib.hid (fun (wr : World) (e : Nat) (h : Below v.heap.size (re (v.at d1) τ δ) wr) => show Below w.heap.size w (re wr (v.at d1).tape e) from hbv.trans ((show Below v.heap.size v (re wr (v.at d1).tape e) from ⟨h.os, rfl, h.output, h.size, h.block⟩).mono hbv.size))
    have HOWN := Lib.hid (fun (wr : World) (e : Nat) (pv : Value) (h : OwnI wr v.heap.size pv (X ++ Y)) => show OwnI (re wr (v.at d1).tape e) w.heap.size pv (loopR xs s) by rw [HRD.out]; exact (show OwnI (re wr (v.at d1).tape e) v.heap.size pv (X ++ Y) from h).mono hbv.size)
    generalize re (v.at d1) τ δ = W at *
    have HB1 := Lib.hid G1
    have HB2 := Lib.hid G2
    have HL1 := Lib.hid L1
    have HL2 := Lib.hid L2
    clear G1 G2 L1 L2 H1 H2 HRD
    have k1 : (j : Int) ≤ (n : Int) := by omega
    have k2 : (n : Int) ≤ (c2 : Int) := by omega
    have k3 : (0 : Int) ≤ (j : Int) := by omega
    have k4 : (j : Int) ≤ (c2 : Int) := by omega
    have k5 : j ≤ n := by omega
    have k6 : j ≤ c2 := by omega
    go_wp2_with fail
    have hBU : Below W.heap.size W ((W.alloc (.cells #[.slice (some ⟨b, oo + j, none⟩) (n - j) (c2 - j), .slice (some ⟨b, oo, none⟩) j c2] 22)).drew) := (below_alloc W _).drew
    have HCALL := Lib.hid (concat2_any W.heap.size v.heap.size (some ⟨b, oo + j, none⟩) (some ⟨b, oo, none⟩) (c2 - j) c2 (n - j) j X Y _ HL1.out.symm HL2.out.symm (show Blk ((W.alloc (.cells #[.slice (some ⟨b, oo + j, none⟩) (n - j) (c2 - j), .slice (some ⟨b, oo, none⟩) j c2] 22)).drew) W.heap.size 22 _ from Blk.new W _ _) (HB1.out.below hBU hsz) (HB2.out.below hBU hsz) (Nat.le_trans hsz hBU.size) (by omega) (by omega))
    have HBU := Lib.hid hBU
    clear hBU
    go_region_law (first | (go_simp; go_at_call 58; (refine HCALL.out.mono ?_); rintro e9 w9 ⟨v9, rfl, ho9, hb9⟩; have hb10 : Below v.heap.size W w9 := (HBU.out.trans (hb9.mono HBU.out.size)).mono hsz; have ho10 : OwnI w9 v.heap.size v9 (X ++ Y) := ho9.mono (Nat.le_trans hsz HBU.out.size)) | fail)
    go_wp2_with fail
    intro d2
    simp only [thenM, inBlockM, if_true, if_false, reduceIte, Nat.reduceEqDiff, List.size_toArray, List.length_cons, List.length_nil, Nat.reduceAdd, Nat.zero_add, List.range, List.range.loop]
    go_simp
    have hF := HFIN.out w9 d2 hb10
    have hO := HOWN.out w9 d2 v9 ho10
    generalize re w9 (v.at d1).tape d2 = V at *
    repeat (first | ((first | refine WpM.seq ?_ | refine WpM.block ?_ | refine WpM.region ?_ | refine WpM.region_end ?_ | refine WpM.ret ?_ | refine WpM.skip ?_ | refine WpM.exit ?_); try simp only [thenM, inBlockM, if_true, if_false, reduceIte, Nat.reduceEqDiff, List.size_toArray, List.length_cons, List.length_nil, Nat.reduceAdd, Nat.zero_add, List.range, List.range.loop]) | (refine WpM.op_k rfl (by rfl) ?_; intro zu zR; obtain ⟨dd, zh⟩ := zR; subst zh; (try simp only [at_at']); intro zK zhK; go_simp; (try (unfold stored; go_simp)); refine zhK _ _ ⟨?_, ?_⟩; (focus (refine m_idle ?_; simp [go_sem, Instr.field, asAgg]; done)); clear zhK zK; try walk_nrm) | fail)
    exact ⟨trivial, trivial, trivial, _, resultsC_tmp2 (by rfl) _, _, rfl, hO, below_at hF _⟩

end Go.Proofs.Ytiacfaeanlkalaa
