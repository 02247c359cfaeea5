/- The longest way out: the model alone; the program beside leavers. -/
import Derived.Test.YtcnellnpnlcodaaBaV
import Derived.Test.YtcnellnpnlcodaaGnR
set_option linter.unusedSimpArgs false
namespace Go.Proofs.Ytcnellnpnlcodaa
open Go.Conc Go.RowKit

/-- the step from which a ball is out last, of the first k, and after how many seconds -/
def loP (xs : List Int) : Nat → Nat × Nat
  | 0 => (0, 0)
  | k + 1 => if (courseB xs (k : Int)).2 ∉ (courseB xs (k : Int)).1 ∧ (loP xs k).2 < (courseB xs (k : Int)).1.length then (k, (courseB xs (k : Int)).1.length) else loP xs k
theorem lo_zero (xs : List Int) : ∀ k, (loP xs k).2 = 0 → (loP xs k).1 = 0
  | 0, _ => rfl
  | k + 1, h => by
    unfold loP at h ⊢
    split at h
    · rename_i hc
      exfalso
      have := hc.2
      simp only at h
      omega
    · rename_i hc
      rw [if_neg hc]
      exact lo_zero xs k h
theorem lo_bd {xs : List Int} (hJ : jumpsB xs = true) : ∀ k, k ≤ xs.length → (loP xs k).1 ≤ 1000 ∧ (loP xs k).2 ≤ 1000
  | 0, _ => by simp [loP]
  | k + 1, h => by
    have h1 := lo_bd hJ k (by omega)
    have h2 := course_len hJ (k : Int)
    have h3 := jumpsB_le hJ
    unfold loP
    split
    · exact ⟨by show k ≤ 1000; omega, h2⟩
    · exact h1
def loS (xs : List Int) : Int := if jumpsB xs then ((loP xs xs.length).1 : Int) else 0
def loM (xs : List Int) : Int := if jumpsB xs then ((loP xs xs.length).2 : Int) else 0
def loB (xs : List Int) : Bool := decide (0 < loM xs)
theorem lo_bad {xs : List Int} (h : jumpsB xs = false) : loS xs = 0 ∧ loM xs = 0 ∧ loB xs = false := by
  have : loM xs = 0 := by simp [loM, h]
  exact ⟨by simp [loS, h], this, by simp [loB, this]⟩
theorem lo_good {xs : List Int} (h : jumpsB xs = true) : loS xs = ((loP xs xs.length).1 : Int) ∧ loM xs = ((loP xs xs.length).2 : Int) ∧ loB xs = decide (0 < ((loP xs xs.length).2 : Int)) := by
  have : loM xs = ((loP xs xs.length).2 : Int) := by simp [loM, h]
  exact ⟨by simp [loS, h], this, by rw [loB, this]⟩
theorem ball_at {xs : List Int} (h : jumpsB xs = true) {k : Nat} (hk : k < xs.length) : ballB xs (k : Int) = true := by
  unfold ballB
  rw [h, inB_yes (by omega) (by omega)]; rfl

set_option maxHeartbeats 2000000 in
theorem specLongest_any (A : Option Addr) (c : Nat) (xs : List Int) (B : Nat) (w : World) (hr : Rd w B A c xs) (hB : B ≤ w.heap.size) (hn : xs.length ≤ 1048576) :
    Calls Try.prog 36 #[.slice A xs.length c] w fun e w' => e = .returned (.tuple #[.int .i64 (loS xs), .int .i64 (loM xs), .bool (loB xs)]) ∧ Below w.heap.size w w' := by
  cases hJ : jumpsB xs
  · have HT := Lib.hid (lo_bad hJ)
    have H := Lib.hid hJ
    clear hJ
    go_enter Try.func36, Try.ntmps36
    go_wp2_with fail
    refine (baGood_any A c xs B w hr hn).mono ?_
    rintro e w' ⟨rfl, rfl⟩
    rw [H.out]
    go_wp2_with fail
    go_ret3
    exact ⟨by rw [HT.out.1, HT.out.2.1, HT.out.2.2]; rfl, Below.refl _ _⟩
  · have HT := Lib.hid (lo_good hJ)
    have HBD := Lib.hid (fun k h => lo_bd hJ k h)
    have hl30 := jumpsB_le hJ
    have H := Lib.hid hJ
    clear hJ
    go_enter Try.func36, Try.ntmps36
    go_wp2_with fail
    refine (baGood_any A c xs B w hr hn).mono ?_
    rintro e w' ⟨rfl, rfl⟩
    rw [H.out]
    go_wp2_with fail
    go_loopw [5, 6, 15] (fun s m i wr => ∃ k : Nat, k ≤ xs.length ∧ i = .int .i64 (k : Int) ∧ s = .int .i64 ((loP xs k).1 : Int) ∧ m = .int .i64 ((loP xs k).2 : Int) ∧ Below w.heap.size w wr) (fun _ _ i _ => xs.length - (intOf i).toNat)
    case atStart => exact ⟨0, Nat.zero_le _, rfl, rfl, rfl, Below.refl _ _⟩
    case round =>
      obtain ⟨k, hk, rfl, rfl, rfl, hbw⟩ := hrel
      have hz : w.heap.size ≤ wr.heap.size := hbw.size
      have hbd := HBD.out k hk
      by_cases hlt : k < xs.length
      · have hbl := ball_at H.out hlt
        have HEN := Lib.hid (baEnd_any A c xs (k : Int) B wr (hr.below hbw hB) (Nat.le_trans hB hz) hbl)
        have HPA := Lib.hid (fun u (h : Below w.heap.size w u) => baPath_any A c xs (k : Int) B u ((hr.below h hB)) (Nat.le_trans hB h.size) H.out)
        have HBQ := Lib.hid (ends_loop (l := (courseB xs (k : Int)).1) (p := (courseB xs (k : Int)).2))
        have HN := Lib.hid (show loP xs (k + 1) = if (courseB xs (k : Int)).2 ∉ (courseB xs (k : Int)).1 ∧ (loP xs k).2 < (courseB xs (k : Int)).1.length then (k, (courseB xs (k : Int)).1.length) else loP xs k from rfl)
        have hll := course_len H.out (k : Int)
        clear hbl
        generalize (⟨endS (courseB xs (k : Int)).1 (courseB xs (k : Int)).2⟩ : ByteArray) = E at *
        generalize (courseB xs (k : Int)).2 = p at *
        generalize (courseB xs (k : Int)).1 = l at *
        obtain ⟨ss, hss⟩ : ∃ q, q = loP xs k := ⟨_, rfl⟩
        rw [← hss] at HN hbd ⊢
        clear hss
        obtain ⟨s0, m0⟩ := ss
        simp only at HN hbd ⊢
        have e108 : (⟨#[108]⟩ : ByteArray).toList = [108] := by decide +kernel
        by_cases hm : p ∈ l
        · have hbq := HBQ.out
          rw [decide_eq_true hm] at hbq
          have hbq2 : (E.toList == (⟨#[108]⟩ : ByteArray).toList) = true := hbq
          rw [e108] at hbq
          rw [if_neg (fun h => h.1 hm)] at HN
          clear hm
          go_wp2_with fail
          refine HEN.out.mono ?_
          rintro e w1 ⟨rfl, hb1⟩
          go_wp2_with fail
          go_roundw
          case rel => exact ⟨k + 1, by omega, by go_num, by rw [HN.out], by rw [HN.out], hbw.trans (hb1.mono hz)⟩
          case measure => simp [intOf]; omega
        · have hbq := HBQ.out
          rw [decide_eq_false hm] at hbq
          have hbq2 : (E.toList == (⟨#[108]⟩ : ByteArray).toList) = false := hbq
          rw [e108] at hbq
          by_cases hlen : m0 < l.length
          · rw [if_pos ⟨hm, hlen⟩] at HN
            have hli : (m0 : Int) < (l.length : Int) := by omega
            clear hm
            go_wp2_with fail
            refine HEN.out.mono ?_
            rintro e w1 ⟨rfl, hb1⟩
            have hbw1 := hbw.trans (hb1.mono hz)
            go_wp2_with fail
            refine (HPA.out _ hbw1).mono ?_
            rintro e w2 ⟨pv, rfl, hown, hb2⟩
            obtain ⟨A2, c2, rfl, _⟩ := hown.form
            go_wp2_with fail
            go_roundw
            case rel => exact ⟨k + 1, by omega, by go_num, by rw [HN.out], by rw [HN.out], hbw1.trans (hb2.mono hbw1.size)⟩
            case measure => simp [intOf]; omega
          · rw [if_neg (fun h => hlen h.2)] at HN
            have hli : ¬ (m0 : Int) < (l.length : Int) := by omega
            clear hm
            go_wp2_with fail
            refine HEN.out.mono ?_
            rintro e w1 ⟨rfl, hb1⟩
            have hbw1 := hbw.trans (hb1.mono hz)
            go_wp2_with fail
            refine (HPA.out _ hbw1).mono ?_
            rintro e w2 ⟨pv, rfl, hown, hb2⟩
            obtain ⟨A2, c2, rfl, _⟩ := hown.form
            go_wp2_with fail
            go_roundw
            case rel => exact ⟨k + 1, by omega, by go_num, by rw [HN.out], by rw [HN.out], hbw1.trans (hb2.mono hbw1.size)⟩
            case measure => simp [intOf]; omega
      · obtain rfl : k = xs.length := by omega
        have HZ := Lib.hid (fun h => lo_zero xs xs.length h)
        obtain ⟨ss, hss⟩ : ∃ q, q = loP xs xs.length := ⟨_, rfl⟩
        rw [← hss] at HT hbd HZ ⊢
        clear hss
        obtain ⟨s0, m0⟩ := ss
        simp only at HT hbd HZ ⊢
        by_cases h0 : m0 = 0
        · have HS := Lib.hid (HZ.out h0)
          subst h0
          go_wp2_with fail
          go_ret3
          exact ⟨by rw [HT.out.1, HT.out.2.1, HT.out.2.2, HS.out]; rfl, hbw⟩
        · have h1 : ¬ (m0 : Int) = 0 := by omega
          have h2 : (0 : Int) < (m0 : Int) := by omega
          go_wp2_with fail
          go_ret3
          exact ⟨by rw [HT.out.1, HT.out.2.1, HT.out.2.2, decide_eq_true h2]; rfl, hbw⟩

theorem resultsC_tmp3 {P : Program} {fn : Func} {t u v : Tmp} (h : fn.results = #[.tmp t, .tmp u, .tmp v]) (tmps : Array Value) : ResultsC P fn tmps (.tuple #[tmps.getD t undef, tmps.getD u undef, tmps.getD v undef]) := fun w => ⟨results_tmp3 h _ P w, by simp [results, h]⟩

set_option maxRecDepth 100000 in
set_option maxHeartbeats 8000000 in
theorem implLongest_m (A0 : Option Addr) (c0 : Nat) (xs : List Int) (B : Nat) (w : World) (hr : Rd w B A0 c0 xs) (hB : B ≤ w.heap.size) (hn : xs.length ≤ 1048576) :
    CallsM Try.prog .aside 37 #[.slice A0 xs.length c0] w fun x w' => x = .tuple #[.int .i64 (loS xs), .int .i64 (loM xs), .bool (loB xs)] ∧ Below w.heap.size w w' := by
  refine callsM_of Try.func37 rfl ?_
  simp only [Try.ntmps37, List.size_toArray, List.length_cons, List.length_nil, Nat.reduceAdd, Nat.reduceSub, Array.replicate_succ, Array.replicate_zero, List.push_toArray, List.append_toArray, List.nil_append, List.cons_append]
  repeat (first | ((first | refine WpM.seq ?_ | refine WpM.block ?_ | refine WpM.region ?_ | refine WpM.region_end ?_ | refine WpM.ret ?_ | refine WpM.skip ?_ | refine WpM.exit ?_); try simp only [thenM, inBlockM, if_true, if_false, reduceIte, Nat.reduceEqDiff, List.size_toArray, List.length_cons, List.length_nil, Nat.reduceAdd, Nat.zero_add, List.range, List.range.loop]) | (refine WpM.op_k rfl (by rfl) ?_; intro zu zR; obtain ⟨dd, zh⟩ := zR; subst zh; (try simp only [at_at']); intro zK zhK; go_simp; (try (unfold stored; go_simp)); refine zhK _ _ ⟨?_, ?_⟩; (focus (refine m_idle ?_; simp [go_sem, Instr.field, asAgg]; done)); clear zhK zK; try walk_nrm) | fail)
  refine WpM.callL (vs := #[.slice A0 xs.length c0]) fns_ok no_early ⟨_, Try.func37, by rfl⟩ (by kernel_rfl) rfl rfl (by rfl) rfl Try.func55 (by rfl) (by rfl) (by simp [Act.eval]) (fun vv uu => vv = .bool (jumpsB xs) ∧ RW (w.at dd) uu) (lone_same (w := (w.at dd)) (V := .bool (jumpsB xs)) fun τ δ => impJumps_any A0 c0 xs B _ ⟨hr.1, hr.2⟩ hn) ?_; rintro _ _ ⟨rfl, d5, rfl⟩; (try walk_nrm); try simp only [at_at']
  cases hJ : jumpsB xs
  · obtain ⟨e1, e2, e3⟩ := lo_bad hJ
    repeat (first | ((first | refine WpM.seq ?_ | refine WpM.block ?_ | refine WpM.region ?_ | refine WpM.region_end ?_ | refine WpM.ret ?_ | refine WpM.skip ?_ | refine WpM.exit ?_); try simp only [thenM, inBlockM, if_true, if_false, reduceIte, Nat.reduceEqDiff, List.size_toArray, List.length_cons, List.length_nil, Nat.reduceAdd, Nat.zero_add, List.range, List.range.loop]) | (refine WpM.op_k rfl (by rfl) ?_; intro zu zR; obtain ⟨dd, zh⟩ := zR; subst zh; (try simp only [at_at']); intro zK zhK; go_simp; (try (unfold stored; go_simp)); refine zhK _ _ ⟨?_, ?_⟩; (focus (refine m_idle ?_; simp [go_sem, Instr.field, asAgg]; done)); clear zhK zK; try walk_nrm) | fail)
    refine WpM.cond (t := true) (by simp [Act.eval]) ?_
    simp only [if_true]
    repeat (first | ((first | refine WpM.seq ?_ | refine WpM.block ?_ | refine WpM.region ?_ | refine WpM.region_end ?_ | refine WpM.ret ?_ | refine WpM.skip ?_ | refine WpM.exit ?_); try simp only [thenM, inBlockM, if_true, if_false, reduceIte, Nat.reduceEqDiff, List.size_toArray, List.length_cons, List.length_nil, Nat.reduceAdd, Nat.zero_add, List.range, List.range.loop]) | (refine WpM.op_k rfl (by rfl) ?_; intro zu zR; obtain ⟨dd, zh⟩ := zR; subst zh; (try simp only [at_at']); intro zK zhK; go_simp; (try (unfold stored; go_simp)); refine zhK _ _ ⟨?_, ?_⟩; (focus (refine m_idle ?_; simp [go_sem, Instr.field, asAgg]; done)); clear zhK zK; try walk_nrm) | fail)
    exact ⟨trivial, trivial, trivial, _, resultsC_tmp3 (by rfl) _, by rw [e1, e2, e3]; rfl, below_at (Below.refl _ _) _⟩
  · obtain ⟨e1, e2, e3⟩ := lo_good hJ
    have hl30 := jumpsB_le hJ
    repeat (first | ((first | refine WpM.seq ?_ | refine WpM.block ?_ | refine WpM.region ?_ | refine WpM.region_end ?_ | refine WpM.ret ?_ | refine WpM.skip ?_ | refine WpM.exit ?_); try simp only [thenM, inBlockM, if_true, if_false, reduceIte, Nat.reduceEqDiff, List.size_toArray, List.length_cons, List.length_nil, Nat.reduceAdd, Nat.zero_add, List.range, List.range.loop]) | (refine WpM.op_k rfl (by rfl) ?_; intro zu zR; obtain ⟨dd, zh⟩ := zR; subst zh; (try simp only [at_at']); intro zK zhK; go_simp; (try (unfold stored; go_simp)); refine zhK _ _ ⟨?_, ?_⟩; (focus (refine m_idle ?_; simp [go_sem, Instr.field, asAgg]; done)); clear zhK zK; try walk_nrm) | fail)
    refine WpM.cond (t := false) (by simp [Act.eval]) ?_
    simp only [if_false, Bool.false_eq_true]
    repeat (first | ((first | refine WpM.seq ?_ | refine WpM.block ?_ | refine WpM.region ?_ | refine WpM.region_end ?_ | refine WpM.ret ?_ | refine WpM.skip ?_ | refine WpM.exit ?_); try simp only [thenM, inBlockM, if_true, if_false, reduceIte, Nat.reduceEqDiff, List.size_toArray, List.length_cons, List.length_nil, Nat.reduceAdd, Nat.zero_add, List.range, List.range.loop]) | (refine WpM.op_k rfl (by rfl) ?_; intro zu zR; obtain ⟨dd, zh⟩ := zR; subst zh; (try simp only [at_at']); intro zK zhK; go_simp; (try (unfold stored; go_simp)); refine zhK _ _ ⟨?_, ?_⟩; (focus (refine m_idle ?_; simp [go_sem, Instr.field, asAgg]; done)); clear zhK zK; try walk_nrm) | fail)
    refine WpM.loop (fun j m' a' u => m' = .aside ∧ Below w.heap.size w u ∧ ∃ (i : Nat) (u1 u2 u3 u4 u7 u8 u9 u10 u11 u15 u16 u17 u18 u19 u20 u21 u22 u23 u24 u25 u26 u27 u28 u29 u30 u31 u32 u33 u34 u35 u36 u37 u38 : Value), i + j = xs.length ∧ a' = { tmps := #[.slice A0 xs.length c0, u1, u2, u3, u4, .int .i64 ((loP xs i).1 : Int), .int .i64 ((loP xs i).2 : Int), u7, u8, u9, u10, u11, .slice A0 xs.length c0, .int .i64 xs.length, .int .i64 (i : Int), u15, u16, u17, u18, u19, u20, u21, u22, u23, u24, u25, u26, u27, u28, u29, u30, u31, u32, u33, u34, u35, u36, u37, u38], defers := [] }) ?_ xs.length ⟨rfl, below_at (Below.refl _ _) _, 0, _, _, _, _, _, _, _, _, _, _, _, _, _, _, _, _, _, _, _, _, _, _, _, _, _, _, _, _, _, _, _, _, _, by omega, rfl⟩
    rintro j m a' u0 ⟨rfl, hbw, i, u1, u2, u3, u4, u7, u8, u9, u10, u11, u15, u16, u17, u18, u19, u20, u21, u22, u23, u24, u25, u26, u27, u28, u29, u30, u31, u32, u33, u34, u35, u36, u37, u38, hij, rfl⟩
    have hbd := lo_bd hJ i (by omega)
    by_cases hlt : i < xs.length
    · have hlt' : (i : Int) < (xs.length : Int) := by omega
      have hw1 : IntKind.i64.wrap ((i : Int) + 1) = ((i + 1 : Nat) : Int) := IntWalk.i64_in _ (by omega)
      have HN : loP xs (i + 1) = if (courseB xs (i : Int)).2 ∉ (courseB xs (i : Int)).1 ∧ (loP xs i).2 < (courseB xs (i : Int)).1.length then (i, (courseB xs (i : Int)).1.length) else loP xs i := rfl
      have hlen := course_len hJ (i : Int)
      have HBQ := ends_loop (l := (courseB xs (i : Int)).1) (p := (courseB xs (i : Int)).2)
      repeat (first | ((first | refine WpM.seq ?_ | refine WpM.block ?_ | refine WpM.region ?_ | refine WpM.region_end ?_ | refine WpM.ret ?_ | refine WpM.skip ?_ | refine WpM.exit ?_); try simp only [thenM, inBlockM, if_true, if_false, reduceIte, Nat.reduceEqDiff, List.size_toArray, List.length_cons, List.length_nil, Nat.reduceAdd, Nat.zero_add, List.range, List.range.loop]) | (refine WpM.op_k rfl (by rfl) ?_; intro zu zR; obtain ⟨dd, zh⟩ := zR; subst zh; (try simp only [at_at']); intro zK zhK; go_simp; (try (unfold stored; go_simp)); refine zhK _ _ ⟨?_, ?_⟩; (focus (refine m_idle ?_; simp [go_sem, Instr.field, asAgg]; done)); clear zhK zK; try walk_nrm) | fail)
      refine WpM.cond (t := true) (by simp [Act.eval, hlt, hlt']) ?_
      simp only [if_true]
      repeat (first | ((first | refine WpM.seq ?_ | refine WpM.block ?_ | refine WpM.region ?_ | refine WpM.region_end ?_ | refine WpM.ret ?_ | refine WpM.skip ?_ | refine WpM.exit ?_); try simp only [thenM, inBlockM, if_true, if_false, reduceIte, Nat.reduceEqDiff, List.size_toArray, List.length_cons, List.length_nil, Nat.reduceAdd, Nat.zero_add, List.range, List.range.loop]) | (refine WpM.op_k rfl (by rfl) ?_; intro zu zR; obtain ⟨dd, zh⟩ := zR; subst zh; (try simp only [at_at']); intro zK zhK; go_simp; (try (unfold stored; go_simp)); refine zhK _ _ ⟨?_, ?_⟩; (focus (refine m_idle ?_; simp [go_sem, Instr.field, asAgg]; done)); clear zhK zK; try walk_nrm) | fail)
      refine WpM.callM rfl (by rfl) rfl Try.func43 (by rfl) (by rfl) (by simp [Act.eval]) (course_m A0 c0 xs (i : Int) B (u0.at dd) (rd_at (hr.below hbw hB) _) (Nat.le_trans hB hbw.size) hJ) ?_
      rintro x u ⟨pv, rfl, ho, hb0⟩
      have hbu : Below w.heap.size w u := (below_at hbw _).trans (hb0.mono hbw.size)
      clear hb0
      try walk_nrm
      obtain ⟨A, c, rfl, hrd⟩ := ho.form
      generalize (courseB xs (i : Int)).2 = p at *
      generalize (courseB xs (i : Int)).1 = l at *
      obtain ⟨ss, hss⟩ : ∃ q, q = loP xs i := ⟨_, rfl⟩
      rw [← hss] at HN hbd ⊢
      clear hss
      obtain ⟨s0, m0⟩ := ss
      simp only at HN hbd ⊢
      (refine WpM.op_k rfl (by rfl) ?_; intro zu zR; obtain ⟨dd, zh⟩ := zR; subst zh; (try simp only [at_at']); intro zK zhK; go_simp; (try (unfold stored; go_simp)); refine zhK _ _ ⟨?_, ?_⟩; (focus (exact d_alloc (listed_nil (by simp [go_sem])); done)); clear zhK zK; try walk_nrm)
      have hG1 : Blk ((u.at dd).alloc (.cells #[.slice none 0 0, .int .i64 0] 50)) u.heap.size 50 #[.slice none 0 0, .int .i64 0] := Blk.new (u.at dd) _ _
      have hb1 : Below u.heap.size u ((u.at dd).alloc (.cells #[.slice none 0 0, .int .i64 0] 50)) := (below_at (Below.refl _ _) dd).trans (below_alloc (u.at dd) _)
      simp only [at_size]
      generalize (u.at dd).alloc (.cells #[.slice none 0 0, .int .i64 0] 50) = U at hG1 hb1
      (refine WpM.op_k rfl (by rfl) ?_; intro zu zR; obtain ⟨ds, zh⟩ := zR; subst zh; (try simp only [at_at']); intro zK zhK; (have hB5 : Blk (U.at ds) _ _ _ := hG1; have k0 := hB5.cell 0; have k1 := hB5.cell 1; have f0 := hB5.frozen 0; have f1 := hB5.frozen 1); go_simp; (try (unfold stored; go_simp)); refine zhK _ _ ⟨?_, ?_⟩; (focus (intro e he; have hm := mem_listed he; simp [go_sem, ev_slice, k0, k1, f0, f1] at hm; rcases hm with rfl | rfl <;> exact ⟨by simp, by simp⟩; done)); clear zhK zK; try walk_nrm)
      have hT : Turned (U.at ds) (((U.at ds).setCell ⟨u.heap.size, 0, none⟩ (.slice A l.length c)).setCell ⟨u.heap.size, 1, none⟩ (.int .i64 p)) [u.heap.size] := (turned_set _ _ _ _).trans (turned_set _ _ _ _)
      have hG : Blk (((U.at ds).setCell ⟨u.heap.size, 0, none⟩ (.slice A l.length c)).setCell ⟨u.heap.size, 1, none⟩ (.int .i64 p)) u.heap.size 50 #[.slice A l.length c, .int .i64 p] := ((show Blk (U.at ds) _ _ _ from hG1).set_ 0 _).set_ 1 _
      have hb2 : Below u.heap.size u (((U.at ds).setCell ⟨u.heap.size, 0, none⟩ (.slice A l.length c)).setCell ⟨u.heap.size, 1, none⟩ (.int .i64 p)) := (below_at hb1 ds).trans (hT.below hb1.size (by simp))
      have hoV := ho.below hb2 (Nat.le_refl _)
      have hbV := hbu.trans (hb2.mono hbu.size)
      have hsV := hb2.size
      generalize World.setCell _ _ _ = V at hT hG hb2 hoV hbV hsV
      clear hT hb2 hG1 hb1
      have hgV : u.heap.size < V.heap.size := hG.lt
      iterate 3 (first | ((first | refine WpM.seq ?_ | refine WpM.block ?_ | refine WpM.region ?_ | refine WpM.region_end ?_ | refine WpM.ret ?_ | refine WpM.skip ?_ | refine WpM.exit ?_); try simp only [thenM, inBlockM, if_true, if_false, reduceIte, Nat.reduceEqDiff, List.size_toArray, List.length_cons, List.length_nil, Nat.reduceAdd, Nat.zero_add, List.range, List.range.loop]) | (refine WpM.op_k rfl (by rfl) ?_; intro zu zR; obtain ⟨dd, zh⟩ := zR; subst zh; (try simp only [at_at']); intro zK zhK; go_simp; (try (unfold stored; go_simp)); refine zhK _ _ ⟨?_, ?_⟩; (focus (refine m_idle ?_; simp [go_sem, Instr.field, asAgg]; done)); clear zhK zK; try walk_nrm) | fail)
      (refine WpM.op_k rfl (by rfl) ?_; intro zu zR; obtain ⟨dd, zh⟩ := zR; subst zh; (try simp only [at_at']); intro zK zhK; (have hG2 : Blk (V.at dd) _ _ _ := hG; have hx := hG2.cell 0; have hy := hG2.cell 1); go_simp; (try (unfold stored; go_simp)); refine zhK _ _ ⟨?_, ?_⟩; (focus (refine Mode.look _ _ (looks_cells fun e he => ?_); have hm := mem_listed he; simp [go_sem, hx, hy] at hm; rcases hm with rfl | rfl <;> exact ⟨_, rfl⟩; done)); clear zhK zK; try walk_nrm)
      refine WpM.callM rfl (by rfl) rfl Try.func45 (by rfl) (by rfl) (by simp [Act.eval]) (end_m _ _ l p (V.at dd) hoV hlen) ?_
      rintro x V2 ⟨rfl, hbx⟩
      have hG3 : Blk V2 u.heap.size 50 #[.slice A l.length c, .int .i64 p] := (show Blk (V.at dd) _ _ _ from hG).below hbx hgV
      have hb3 : Below w.heap.size w V2 := (below_at hbV dd).trans (hbx.mono hbV.size)
      try walk_nrm
      have e108 : (⟨#[108]⟩ : ByteArray).toList = [108] := by decide +kernel
      by_cases hm : p ∈ l
      · rw [decide_eq_true hm, e108] at HBQ
        rw [if_neg (fun h => h.1 hm)] at HN
        generalize (⟨endS l p⟩ : ByteArray) = E at *
        (refine WpM.op_k rfl (by rfl) ?_; intro zu zR; obtain ⟨dd, zh⟩ := zR; subst zh; (try simp only [at_at']); intro zK zhK; (have hh := HBQ); go_simp; (try (unfold stored; go_simp)); refine zhK _ _ ⟨?_, ?_⟩; (focus (refine m_idle ?_; simp [go_sem, HBQ]; done)); clear zhK zK; try walk_nrm)
        repeat (first | ((first | refine WpM.seq ?_ | refine WpM.block ?_ | refine WpM.region ?_ | refine WpM.region_end ?_ | refine WpM.ret ?_ | refine WpM.skip ?_ | refine WpM.exit ?_); try simp only [thenM, inBlockM, if_true, if_false, reduceIte, Nat.reduceEqDiff, List.size_toArray, List.length_cons, List.length_nil, Nat.reduceAdd, Nat.zero_add, List.range, List.range.loop]) | (refine WpM.op_k rfl (by rfl) ?_; intro zu zR; obtain ⟨dd, zh⟩ := zR; subst zh; (try simp only [at_at']); intro zK zhK; go_simp; (try (unfold stored; go_simp)); refine zhK _ _ ⟨?_, ?_⟩; (focus (refine m_idle ?_; simp [go_sem, Instr.field, asAgg]; done)); clear zhK zK; try walk_nrm) | fail)
        repeat (refine WpM.unwanted rfl (by rfl) ?_; try walk_nrm)
        repeat (first | ((first | refine WpM.seq ?_ | refine WpM.block ?_ | refine WpM.region ?_ | refine WpM.region_end ?_ | refine WpM.ret ?_ | refine WpM.skip ?_ | refine WpM.exit ?_); try simp only [thenM, inBlockM, if_true, if_false, reduceIte, Nat.reduceEqDiff, List.size_toArray, List.length_cons, List.length_nil, Nat.reduceAdd, Nat.zero_add, List.range, List.range.loop]) | (refine WpM.op_k rfl (by rfl) ?_; intro zu zR; obtain ⟨dd, zh⟩ := zR; subst zh; (try simp only [at_at']); intro zK zhK; go_simp; (try (unfold stored; go_simp)); refine zhK _ _ ⟨?_, ?_⟩; (focus (refine m_idle ?_; simp [go_sem, Instr.field, asAgg]; done)); clear zhK zK; try walk_nrm) | fail)
        repeat (refine WpM.unwanted rfl (by rfl) ?_; try walk_nrm)
        repeat (first | ((first | refine WpM.seq ?_ | refine WpM.block ?_ | refine WpM.region ?_ | refine WpM.region_end ?_ | refine WpM.ret ?_ | refine WpM.skip ?_ | refine WpM.exit ?_); try simp only [thenM, inBlockM, if_true, if_false, reduceIte, Nat.reduceEqDiff, List.size_toArray, List.length_cons, List.length_nil, Nat.reduceAdd, Nat.zero_add, List.range, List.range.loop]) | (refine WpM.op_k rfl (by rfl) ?_; intro zu zR; obtain ⟨dd, zh⟩ := zR; subst zh; (try simp only [at_at']); intro zK zhK; go_simp; (try (unfold stored; go_simp)); refine zhK _ _ ⟨?_, ?_⟩; (focus (refine m_idle ?_; simp [go_sem, Instr.field, asAgg]; done)); clear zhK zK; try walk_nrm) | fail)
        refine WpM.cond (t := false) (by simp [Act.eval]) ?_
        simp only [if_false, Bool.false_eq_true]
        repeat (first | ((first | refine WpM.seq ?_ | refine WpM.block ?_ | refine WpM.region ?_ | refine WpM.region_end ?_ | refine WpM.ret ?_ | refine WpM.skip ?_ | refine WpM.exit ?_); try simp only [thenM, inBlockM, if_true, if_false, reduceIte, Nat.reduceEqDiff, List.size_toArray, List.length_cons, List.length_nil, Nat.reduceAdd, Nat.zero_add, List.range, List.range.loop]) | (refine WpM.op_k rfl (by rfl) ?_; intro zu zR; obtain ⟨dd, zh⟩ := zR; subst zh; (try simp only [at_at']); intro zK zhK; go_simp; (try (unfold stored; go_simp)); refine zhK _ _ ⟨?_, ?_⟩; (focus (refine m_idle ?_; simp [go_sem, Instr.field, asAgg]; done)); clear zhK zK; try walk_nrm) | fail)
        try simp only [hw1]
        exact ⟨j - 1, by omega, trivial, below_at hb3 _, i + 1, _, _, _, _, _, _, _, _, _, _, _, _, _, _, _, _, _, _, _, _, _, _, _, _, _, _, _, _, _, _, _, _, _, by omega, by rw [HN]; rfl⟩
      · rw [decide_eq_false hm, e108] at HBQ
        generalize (⟨endS l p⟩ : ByteArray) = E at *
        (refine WpM.op_k rfl (by rfl) ?_; intro zu zR; obtain ⟨dd, zh⟩ := zR; subst zh; (try simp only [at_at']); intro zK zhK; (have hh := HBQ); go_simp; (try (unfold stored; go_simp)); refine zhK _ _ ⟨?_, ?_⟩; (focus (refine m_idle ?_; simp [go_sem, HBQ]; done)); clear zhK zK; try walk_nrm)
        repeat (first | ((first | refine WpM.seq ?_ | refine WpM.block ?_ | refine WpM.region ?_ | refine WpM.region_end ?_ | refine WpM.ret ?_ | refine WpM.skip ?_ | refine WpM.exit ?_); try simp only [thenM, inBlockM, if_true, if_false, reduceIte, Nat.reduceEqDiff, List.size_toArray, List.length_cons, List.length_nil, Nat.reduceAdd, Nat.zero_add, List.range, List.range.loop]) | (refine WpM.op_k rfl (by rfl) ?_; intro zu zR; obtain ⟨dd, zh⟩ := zR; subst zh; (try simp only [at_at']); intro zK zhK; go_simp; (try (unfold stored; go_simp)); refine zhK _ _ ⟨?_, ?_⟩; (focus (refine m_idle ?_; simp [go_sem, Instr.field, asAgg]; done)); clear zhK zK; try walk_nrm) | fail)
        (refine WpM.op_k rfl (by rfl) ?_; intro zu zR; obtain ⟨dd, zh⟩ := zR; subst zh; (try simp only [at_at']); intro zK zhK; (have hx : (V2.at dd).cell? ⟨u.heap.size, 0, none⟩ = some (.slice A l.length c) := hG3.cell 0); go_simp; (try (unfold stored; go_simp)); refine zhK _ _ ⟨?_, ?_⟩; (focus (refine Mode.look _ _ (looks_cells fun e he => ?_); have hm := mem_listed he; simp [go_sem, hx] at hm; exact ⟨_, hm⟩; done)); clear zhK zK; try walk_nrm)
        repeat (first | ((first | refine WpM.seq ?_ | refine WpM.block ?_ | refine WpM.region ?_ | refine WpM.region_end ?_ | refine WpM.ret ?_ | refine WpM.skip ?_ | refine WpM.exit ?_); try simp only [thenM, inBlockM, if_true, if_false, reduceIte, Nat.reduceEqDiff, List.size_toArray, List.length_cons, List.length_nil, Nat.reduceAdd, Nat.zero_add, List.range, List.range.loop]) | (refine WpM.op_k rfl (by rfl) ?_; intro zu zR; obtain ⟨dd, zh⟩ := zR; subst zh; (try simp only [at_at']); intro zK zhK; go_simp; (try (unfold stored; go_simp)); refine zhK _ _ ⟨?_, ?_⟩; (focus (refine m_idle ?_; simp [go_sem, Instr.field, asAgg]; done)); clear zhK zK; try walk_nrm) | fail)
        by_cases hl : m0 < l.length
        · rw [if_pos ⟨hm, hl⟩] at HN
          have hli : (m0 : Int) < (l.length : Int) := by omega
          refine WpM.cond (t := true) (by simp [Act.eval, hl, hli]) ?_
          simp only [if_true]
          refine WpM.of_wp fns_ok no_early ⟨_, Try.func37, by rfl⟩ (by kernel_rfl) rfl (fun τ δ => ?_)
          have hx : (re (V2.at dd) τ δ).cell? ⟨u.heap.size, 0, none⟩ = some (.slice A l.length c) := hG3.cell 0
          have HRE := Lib.hid (fun (k d : Nat) => show re ((re (V2.at dd) τ δ).drewN k) (V2.at dd).tape d = V2.at d from rfl)
          generalize re (V2.at dd) τ δ = W at *
          go_wp2_with fail
          go_quiet (fail)
          go_wp2_with fail
          intro d
          simp only [thenM, inBlockM, if_true, if_false, reduceIte, Nat.reduceEqDiff, List.size_toArray, List.length_cons, List.length_nil, Nat.reduceAdd, Nat.zero_add, List.range, List.range.loop]
          rw [HRE.out]
          repeat (first | ((first | refine WpM.seq ?_ | refine WpM.block ?_ | refine WpM.region ?_ | refine WpM.region_end ?_ | refine WpM.ret ?_ | refine WpM.skip ?_ | refine WpM.exit ?_); try simp only [thenM, inBlockM, if_true, if_false, reduceIte, Nat.reduceEqDiff, List.size_toArray, List.length_cons, List.length_nil, Nat.reduceAdd, Nat.zero_add, List.range, List.range.loop]) | (refine WpM.op_k rfl (by rfl) ?_; intro zu zR; obtain ⟨dd, zh⟩ := zR; subst zh; (try simp only [at_at']); intro zK zhK; go_simp; (try (unfold stored; go_simp)); refine zhK _ _ ⟨?_, ?_⟩; (focus (refine m_idle ?_; simp [go_sem, Instr.field, asAgg]; done)); clear zhK zK; try walk_nrm) | fail)
          try simp only [hw1]
          exact ⟨j - 1, by omega, trivial, below_at hb3 _, i + 1, _, _, _, _, _, _, _, _, _, _, _, _, _, _, _, _, _, _, _, _, _, _, _, _, _, _, _, _, _, _, _, _, _, by omega, by rw [HN]; rfl⟩
        · rw [if_neg (fun h => hl h.2)] at HN
          have hli : ¬ (m0 : Int) < (l.length : Int) := by omega
          refine WpM.cond (t := false) (by simp [Act.eval]; omega) ?_
          simp only [if_false, Bool.false_eq_true]
          repeat (first | ((first | refine WpM.seq ?_ | refine WpM.block ?_ | refine WpM.region ?_ | refine WpM.region_end ?_ | refine WpM.ret ?_ | refine WpM.skip ?_ | refine WpM.exit ?_); try simp only [thenM, inBlockM, if_true, if_false, reduceIte, Nat.reduceEqDiff, List.size_toArray, List.length_cons, List.length_nil, Nat.reduceAdd, Nat.zero_add, List.range, List.range.loop]) | (refine WpM.op_k rfl (by rfl) ?_; intro zu zR; obtain ⟨dd, zh⟩ := zR; subst zh; (try simp only [at_at']); intro zK zhK; go_simp; (try (unfold stored; go_simp)); refine zhK _ _ ⟨?_, ?_⟩; (focus (refine m_idle ?_; simp [go_sem, Instr.field, asAgg]; done)); clear zhK zK; try walk_nrm) | fail)
          try simp only [hw1]
          exact ⟨j - 1, by omega, trivial, below_at hb3 _, i + 1, _, _, _, _, _, _, _, _, _, _, _, _, _, _, _, _, _, _, _, _, _, _, _, _, _, _, _, _, _, _, _, _, _, by omega, by rw [HN]; rfl⟩
    · obtain rfl : i = xs.length := by omega
      have hli : ¬ (xs.length : Int) < (xs.length : Int) := by omega
      repeat (first | ((first | refine WpM.seq ?_ | refine WpM.block ?_ | refine WpM.region ?_ | refine WpM.region_end ?_ | refine WpM.ret ?_ | refine WpM.skip ?_ | refine WpM.exit ?_); try simp only [thenM, inBlockM, if_true, if_false, reduceIte, Nat.reduceEqDiff, List.size_toArray, List.length_cons, List.length_nil, Nat.reduceAdd, Nat.zero_add, List.range, List.range.loop]) | (refine WpM.op_k rfl (by rfl) ?_; intro zu zR; obtain ⟨dd, zh⟩ := zR; subst zh; (try simp only [at_at']); intro zK zhK; go_simp; (try (unfold stored; go_simp)); refine zhK _ _ ⟨?_, ?_⟩; (focus (refine m_idle ?_; simp [go_sem, Instr.field, asAgg]; done)); clear zhK zK; try walk_nrm) | fail)
      refine WpM.cond (t := false) (by simp [Act.eval]) ?_
      simp only [if_false, Bool.false_eq_true]
      repeat (first | ((first | refine WpM.seq ?_ | refine WpM.block ?_ | refine WpM.region ?_ | refine WpM.region_end ?_ | refine WpM.ret ?_ | refine WpM.skip ?_ | refine WpM.exit ?_); try simp only [thenM, inBlockM, if_true, if_false, reduceIte, Nat.reduceEqDiff, List.size_toArray, List.length_cons, List.length_nil, Nat.reduceAdd, Nat.zero_add, List.range, List.range.loop]) | (refine WpM.op_k rfl (by rfl) ?_; intro zu zR; obtain ⟨dd, zh⟩ := zR; subst zh; (try simp only [at_at']); intro zK zhK; go_simp; (try (unfold stored; go_simp)); refine zhK _ _ ⟨?_, ?_⟩; (focus (refine m_idle ?_; simp [go_sem, Instr.field, asAgg]; done)); clear zhK zK; try walk_nrm) | fail)
      exact ⟨trivial, trivial, trivial, _, resultsC_tmp3 (by rfl) _, by rw [e1, e2, e3, show decide (0 < ((loP xs xs.length).2 : Int)) = decide (0 < (loP xs xs.length).2) by simp]; rfl, below_at hbw _⟩


end Go.Proofs.Ytcnellnpnlcodaa
