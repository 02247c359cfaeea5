/- The first step on the paths of two balls: the model alone; the program beside leavers. -/
import Derived.Test.YtcnellnpnlcodaaBaU
set_option linter.unusedSimpArgs false
namespace Go.Proofs.Ytcnellnpnlcodaa
open Go.Conc Go.RowKit

/-- the first number of a list that stands in another, too: whether there is one -/
def fsOk (one two : List Int) : Nat → Bool
  | 0 => false
  | k + 1 => fsOk one two k || hasB two (one.getD k 0)
def fsAt (one two : List Int) : Nat → Int
  | 0 => 0
  | k + 1 => if fsOk one two k then fsAt one two k else if hasB two (one.getD k 0) then one.getD k 0 else 0
theorem fs_no {one two : List Int} : ∀ {k : Nat}, fsOk one two k = false → fsAt one two k = 0
  | 0, _ => rfl
  | k + 1, h => by
    simp only [fsOk, Bool.or_eq_false_iff] at h
    show (if fsOk one two k = true then fsAt one two k else if hasB two (one.getD k 0) = true then one.getD k 0 else 0) = 0
    rw [h.1, h.2]; rfl
theorem fs_hit {one two : List Int} {k : Nat} (h : fsOk one two k = false) (hh : hasB two (one.getD k 0) = true) : ∀ {n : Nat}, k < n → fsOk one two n = true ∧ fsAt one two n = one.getD k 0
  | 0, hk => absurd hk (by omega)
  | n + 1, hk => by
    by_cases e : k = n
    · subst e
      refine ⟨?_, ?_⟩
      · show (fsOk one two k || hasB two (one.getD k 0)) = true
        rw [h, hh]; rfl
      · show (if fsOk one two k = true then fsAt one two k else if hasB two (one.getD k 0) = true then one.getD k 0 else 0) = _
        rw [h, hh]; rfl
    · obtain ⟨h1, h2⟩ := fs_hit h hh (show k < n by omega)
      exact ⟨by simp [fsOk, h1], by simp [fsAt, h1, h2]⟩
def fsV (xs : List Int) (a b : Int) : Bool := ballB xs a && ballB xs b
def fsB (xs : List Int) (a b : Int) : Bool := fsV xs a b && fsOk (courseB xs a).1 (courseB xs b).1 (courseB xs a).1.length
def fsI (xs : List Int) (a b : Int) : Int := if fsV xs a b then fsAt (courseB xs a).1 (courseB xs b).1 (courseB xs a).1.length else 0
theorem fs_bad {xs : List Int} {a b : Int} (h : fsV xs a b = false) : fsB xs a b = false ∧ fsI xs a b = 0 := ⟨by simp [fsB, h], by simp [fsI, h]⟩
theorem fs_good {xs : List Int} {a b : Int} (h : fsV xs a b = true) : fsB xs a b = fsOk (courseB xs a).1 (courseB xs b).1 (courseB xs a).1.length ∧ fsI xs a b = fsAt (courseB xs a).1 (courseB xs b).1 (courseB xs a).1.length := ⟨by simp [fsB, h], by simp [fsI, h]⟩

set_option maxHeartbeats 2000000 in
theorem specFirstSame_any (A : Option Addr) (c : Nat) (xs : List Int) (a b : Int) (B : Nat) (w : World) (hr : Rd w B A c xs) (hB : B ≤ w.heap.size) (hn : xs.length ≤ 1048576) :
    Calls Try.prog 38 #[.slice A xs.length c, .int .i64 a, .int .i64 b] w fun e w' => e = .returned (.tuple #[.int .i64 (fsI xs a b), .bool (fsB xs a b)]) ∧ Below w.heap.size w w' := by
  cases ha : ballB xs a
  · have HT := Lib.hid (fs_bad (xs := xs) (a := a) (b := b) (by simp [fsV, ha]))
    have H := Lib.hid ha
    clear ha
    go_enter Try.func38, Try.ntmps38
    go_wp2_with fail
    refine (baStep_any A c xs a B w hr hn).mono ?_
    rintro e w' ⟨rfl, rfl⟩
    rw [H.out]
    go_wp2_with fail
    go_ret2
    exact ⟨by rw [HT.out.1, HT.out.2]; rfl, Below.refl _ _⟩
  · cases hb : ballB xs b
    · have HT := Lib.hid (fs_bad (xs := xs) (a := a) (b := b) (by simp [fsV, ha, hb]))
      have H := Lib.hid ha
      have H2 := Lib.hid hb
      clear ha hb
      go_enter Try.func38, Try.ntmps38
      go_wp2_with fail
      refine (baStep_any A c xs a B w hr hn).mono ?_
      rintro e w' ⟨rfl, rfl⟩
      rw [H.out]
      go_wp2_with fail
      refine (baStep_any A c xs b B w hr hn).mono ?_
      rintro e w' ⟨rfl, rfl⟩
      rw [H2.out]
      go_wp2_with fail
      go_ret2
      exact ⟨by rw [HT.out.1, HT.out.2]; rfl, Below.refl _ _⟩
    · have HT := Lib.hid (fs_good (xs := xs) (a := a) (b := b) (by simp [fsV, ha, hb]))
      have hJ := (ballB_le ha).1
      have hla := course_len hJ a
      have hlb := course_len hJ b
      have HPA := Lib.hid (baPath_any A c xs a B w hr hB hJ)
      have HPB := Lib.hid (fun u h => baPath_any A c xs b B u ((hr.below h hB)) (Nat.le_trans hB h.size) hJ)
      have H := Lib.hid ha
      have H2 := Lib.hid hb
      clear ha hb hJ
      generalize (courseB xs a).1 = one at *
      generalize (courseB xs b).1 = two at *
      generalize (courseB xs a).2 = pa at *
      generalize (courseB xs b).2 = pb at *
      go_enter Try.func38, Try.ntmps38
      go_wp2_with fail
      refine (baStep_any A c xs a B w hr hn).mono ?_
      rintro e w' ⟨rfl, rfl⟩
      rw [H.out]
      go_wp2_with fail
      refine (baStep_any A c xs b B w hr hn).mono ?_
      rintro e w' ⟨rfl, rfl⟩
      rw [H2.out]
      go_wp2_with fail
      refine HPA.out.mono ?_
      rintro e w1 ⟨v1, rfl, ho1, hb1⟩
      obtain ⟨A1, c1, rfl, hr1⟩ := ho1.form
      go_wp2_with fail
      refine (HPB.out w1 hb1).mono ?_
      rintro e w2 ⟨v2, rfl, ho2, hb2⟩
      obtain ⟨A2, c2, rfl, hr2⟩ := ho2.form
      have hr1' := hr1.below hb2 (Nat.le_refl _)
      have hbt := hb1.trans (hb2.mono hb1.size)
      clear ho1 ho2 hr1
      go_wp2_with fail
      go_loop [38] (fun i => ∃ k : Nat, k ≤ one.length ∧ i = .int .i64 (k : Int) ∧ Hid (fsOk one two k = false)) (fun i => one.length - (intOf i).toNat)
      case atStart => exact ⟨0, Nat.zero_le _, rfl, Lib.hid rfl⟩
      case round =>
        obtain ⟨k, hk, rfl, HK⟩ := hrel
        by_cases hlt : k < one.length
        · obtain ⟨bb, oo, rfl, _, hc⟩ := hr1'.at_ hlt
          have HN := Lib.hid (show fsOk one two (k + 1) = (fsOk one two k || hasB two (one.getD k 0)) from rfl)
          have HH := Lib.hid (fun h => fs_hit HK.out h hlt)
          generalize one.getD k 0 = x at *
          have HC := Lib.hid (l1Has_any A2 c2 two x _ w2 hr2 (by omega))
          cases hx : hasB two x
          · have HN2 : Hid (fsOk one two (k + 1) = false) := Lib.hid (by rw [HN.out, HK.out, hx]; rfl)
            have HX := Lib.hid hx
            clear hx
            go_wp2_with fail
            refine HC.out.mono ?_
            rintro e w' ⟨rfl, rfl⟩
            rw [HX.out]
            go_wp2_with fail
            go_round
            case rel => exact ⟨k + 1, by omega, by go_num, HN2⟩
            case measure => simp [intOf]; omega
          · have HF := Lib.hid (HH.out hx)
            have HX := Lib.hid hx
            clear hx
            go_wp2_with fail
            refine HC.out.mono ?_
            rintro e w' ⟨rfl, rfl⟩
            rw [HX.out]
            go_wp2_with fail
            go_ret2
            exact ⟨by rw [HT.out.1, HT.out.2, HF.out.1, HF.out.2]; rfl, hbt⟩
        · obtain rfl : k = one.length := by omega
          have HZ := Lib.hid (fs_no HK.out)
          go_wp2_with fail
          go_ret2
          exact ⟨by rw [HT.out.1, HT.out.2, HK.out, HZ.out]; rfl, hbt⟩

set_option maxRecDepth 100000 in
set_option maxHeartbeats 8000000 in
theorem implFirstSame_m (A0 : Option Addr) (c0 : Nat) (xs : List Int) (a b : Int) (B : Nat) (w : World) (hr : Rd w B A0 c0 xs) (hB : B ≤ w.heap.size) (hn : xs.length ≤ 1048576) :
    CallsM Try.prog .aside 39 #[.slice A0 xs.length c0, .int .i64 a, .int .i64 b] w fun x w' => x = .tuple #[.int .i64 (fsI xs a b), .bool (fsB xs a b)] ∧ Below w.heap.size w w' := by
  refine callsM_of Try.func39 rfl ?_
  simp only [Try.ntmps39, List.size_toArray, List.length_cons, List.length_nil, Nat.reduceAdd, Nat.reduceSub, Array.replicate_succ, Array.replicate_zero, List.push_toArray, List.append_toArray, List.nil_append, List.cons_append]
  repeat (first | ((first | refine WpM.seq ?_ | refine WpM.block ?_ | refine WpM.region ?_ | refine WpM.region_end ?_ | refine WpM.ret ?_ | refine WpM.skip ?_ | refine WpM.exit ?_); try simp only [thenM, inBlockM, if_true, if_false, reduceIte, Nat.reduceEqDiff, List.size_toArray, List.length_cons, List.length_nil, Nat.reduceAdd, Nat.zero_add, List.range, List.range.loop]) | (refine WpM.op_k rfl (by rfl) ?_; intro zu zR; obtain ⟨dd, zh⟩ := zR; subst zh; (try simp only [at_at']); intro zK zhK; go_simp; (try (unfold stored; go_simp)); refine zhK _ _ ⟨?_, ?_⟩; (focus (refine m_idle ?_; simp [go_sem, Instr.field, asAgg]; done)); clear zhK zK; try walk_nrm) | fail)
  refine WpM.callL (vs := #[.slice A0 xs.length c0, .int .i64 a]) fns_ok no_early ⟨_, Try.func39, by rfl⟩ (by kernel_rfl) rfl rfl (by rfl) rfl Try.func42 (by rfl) (by rfl) (by simp [Act.eval]) (fun vv uu => vv = .bool (ballB xs a) ∧ RW (w.at dd) uu) (lone_same (w := (w.at dd)) (V := .bool (ballB xs a)) fun τ δ => hasBall_any A0 c0 xs a B _ ⟨hr.1, hr.2⟩ hn) ?_; rintro _ _ ⟨rfl, d5, rfl⟩; (try walk_nrm); try simp only [at_at']
  cases ha : ballB xs a
  · obtain ⟨e1, e2⟩ := fs_bad (xs := xs) (a := a) (b := b) (by simp [fsV, ha])
    repeat (first | ((first | refine WpM.seq ?_ | refine WpM.block ?_ | refine WpM.region ?_ | refine WpM.region_end ?_ | refine WpM.ret ?_ | refine WpM.skip ?_ | refine WpM.exit ?_); try simp only [thenM, inBlockM, if_true, if_false, reduceIte, Nat.reduceEqDiff, List.size_toArray, List.length_cons, List.length_nil, Nat.reduceAdd, Nat.zero_add, List.range, List.range.loop]) | (refine WpM.op_k rfl (by rfl) ?_; intro zu zR; obtain ⟨dd, zh⟩ := zR; subst zh; (try simp only [at_at']); intro zK zhK; go_simp; (try (unfold stored; go_simp)); refine zhK _ _ ⟨?_, ?_⟩; (focus (refine m_idle ?_; simp [go_sem, Instr.field, asAgg]; done)); clear zhK zK; try walk_nrm) | fail)
    repeat (refine WpM.unwanted rfl (by rfl) ?_; try walk_nrm)
    repeat (first | ((first | refine WpM.seq ?_ | refine WpM.block ?_ | refine WpM.region ?_ | refine WpM.region_end ?_ | refine WpM.ret ?_ | refine WpM.skip ?_ | refine WpM.exit ?_); try simp only [thenM, inBlockM, if_true, if_false, reduceIte, Nat.reduceEqDiff, List.size_toArray, List.length_cons, List.length_nil, Nat.reduceAdd, Nat.zero_add, List.range, List.range.loop]) | (refine WpM.op_k rfl (by rfl) ?_; intro zu zR; obtain ⟨dd, zh⟩ := zR; subst zh; (try simp only [at_at']); intro zK zhK; go_simp; (try (unfold stored; go_simp)); refine zhK _ _ ⟨?_, ?_⟩; (focus (refine m_idle ?_; simp [go_sem, Instr.field, asAgg]; done)); clear zhK zK; try walk_nrm) | fail)
    refine WpM.cond (t := true) (by simp [Act.eval]) ?_
    simp only [if_true]
    repeat (first | ((first | refine WpM.seq ?_ | refine WpM.block ?_ | refine WpM.region ?_ | refine WpM.region_end ?_ | refine WpM.ret ?_ | refine WpM.skip ?_ | refine WpM.exit ?_); try simp only [thenM, inBlockM, if_true, if_false, reduceIte, Nat.reduceEqDiff, List.size_toArray, List.length_cons, List.length_nil, Nat.reduceAdd, Nat.zero_add, List.range, List.range.loop]) | (refine WpM.op_k rfl (by rfl) ?_; intro zu zR; obtain ⟨dd, zh⟩ := zR; subst zh; (try simp only [at_at']); intro zK zhK; go_simp; (try (unfold stored; go_simp)); refine zhK _ _ ⟨?_, ?_⟩; (focus (refine m_idle ?_; simp [go_sem, Instr.field, asAgg]; done)); clear zhK zK; try walk_nrm) | fail)
    exact ⟨trivial, trivial, trivial, _, resultsC_tmp2 (by rfl) _, by rw [e1, e2]; rfl, below_at (Below.refl _ _) _⟩
  · have hJ := (ballB_le ha).1
    have hBE : ballB xs b = inB b 0 ((xs.length : Int) - 1) := by simp [ballB, hJ]
    repeat (first | ((first | refine WpM.seq ?_ | refine WpM.block ?_ | refine WpM.region ?_ | refine WpM.region_end ?_ | refine WpM.ret ?_ | refine WpM.skip ?_ | refine WpM.exit ?_); try simp only [thenM, inBlockM, if_true, if_false, reduceIte, Nat.reduceEqDiff, List.size_toArray, List.length_cons, List.length_nil, Nat.reduceAdd, Nat.zero_add, List.range, List.range.loop]) | (refine WpM.op_k rfl (by rfl) ?_; intro zu zR; obtain ⟨dd, zh⟩ := zR; subst zh; (try simp only [at_at']); intro zK zhK; go_simp; (try (unfold stored; go_simp)); refine zhK _ _ ⟨?_, ?_⟩; (focus (refine m_idle ?_; simp [go_sem, Instr.field, asAgg]; done)); clear zhK zK; try walk_nrm) | fail)
    refine WpM.callL (vs := #[.slice A0 xs.length c0, .int .i64 b]) fns_ok no_early ⟨_, Try.func39, by rfl⟩ (by kernel_rfl) rfl rfl (by rfl) rfl Try.func59 (by rfl) (by rfl) (by simp [Act.eval]) (fun vv uu => vv = .bool (inB b 0 ((xs.length : Int) - 1)) ∧ RW (w.at dd) uu) (lone_same (w := (w.at dd)) (V := .bool (inB b 0 ((xs.length : Int) - 1))) fun τ δ => isOn_any A0 c0 xs.length b _ (by omega)) ?_; rintro _ _ ⟨rfl, d5, rfl⟩; (try walk_nrm); try simp only [at_at']
    cases hb : inB b 0 ((xs.length : Int) - 1)
    · rw [hb] at hBE
      obtain ⟨e1, e2⟩ := fs_bad (xs := xs) (a := a) (b := b) (by simp [fsV, ha, hBE])
      repeat (first | ((first | refine WpM.seq ?_ | refine WpM.block ?_ | refine WpM.region ?_ | refine WpM.region_end ?_ | refine WpM.ret ?_ | refine WpM.skip ?_ | refine WpM.exit ?_); try simp only [thenM, inBlockM, if_true, if_false, reduceIte, Nat.reduceEqDiff, List.size_toArray, List.length_cons, List.length_nil, Nat.reduceAdd, Nat.zero_add, List.range, List.range.loop]) | (refine WpM.op_k rfl (by rfl) ?_; intro zu zR; obtain ⟨dd, zh⟩ := zR; subst zh; (try simp only [at_at']); intro zK zhK; go_simp; (try (unfold stored; go_simp)); refine zhK _ _ ⟨?_, ?_⟩; (focus (refine m_idle ?_; simp [go_sem, Instr.field, asAgg]; done)); clear zhK zK; try walk_nrm) | fail)
      refine WpM.cond (t := true) (by simp [Act.eval]) ?_
      simp only [if_true]
      repeat (first | ((first | refine WpM.seq ?_ | refine WpM.block ?_ | refine WpM.region ?_ | refine WpM.region_end ?_ | refine WpM.ret ?_ | refine WpM.skip ?_ | refine WpM.exit ?_); try simp only [thenM, inBlockM, if_true, if_false, reduceIte, Nat.reduceEqDiff, List.size_toArray, List.length_cons, List.length_nil, Nat.reduceAdd, Nat.zero_add, List.range, List.range.loop]) | (refine WpM.op_k rfl (by rfl) ?_; intro zu zR; obtain ⟨dd, zh⟩ := zR; subst zh; (try simp only [at_at']); intro zK zhK; go_simp; (try (unfold stored; go_simp)); refine zhK _ _ ⟨?_, ?_⟩; (focus (refine m_idle ?_; simp [go_sem, Instr.field, asAgg]; done)); clear zhK zK; try walk_nrm) | fail)
      exact ⟨trivial, trivial, trivial, _, resultsC_tmp2 (by rfl) _, by rw [e1, e2]; rfl, below_at (Below.refl _ _) _⟩
    · rw [hb] at hBE
      obtain ⟨e1, e2⟩ := fs_good (xs := xs) (a := a) (b := b) (by simp [fsV, ha, hBE])
      have hla := course_len hJ a
      have hlb := course_len hJ b
      repeat (first | ((first | refine WpM.seq ?_ | refine WpM.block ?_ | refine WpM.region ?_ | refine WpM.region_end ?_ | refine WpM.ret ?_ | refine WpM.skip ?_ | refine WpM.exit ?_); try simp only [thenM, inBlockM, if_true, if_false, reduceIte, Nat.reduceEqDiff, List.size_toArray, List.length_cons, List.length_nil, Nat.reduceAdd, Nat.zero_add, List.range, List.range.loop]) | (refine WpM.op_k rfl (by rfl) ?_; intro zu zR; obtain ⟨dd, zh⟩ := zR; subst zh; (try simp only [at_at']); intro zK zhK; go_simp; (try (unfold stored; go_simp)); refine zhK _ _ ⟨?_, ?_⟩; (focus (refine m_idle ?_; simp [go_sem, Instr.field, asAgg]; done)); clear zhK zK; try walk_nrm) | fail)
      refine WpM.cond (t := false) (by simp [Act.eval]) ?_
      simp only [if_false, Bool.false_eq_true]
      repeat (first | ((first | refine WpM.seq ?_ | refine WpM.block ?_ | refine WpM.region ?_ | refine WpM.region_end ?_ | refine WpM.ret ?_ | refine WpM.skip ?_ | refine WpM.exit ?_); try simp only [thenM, inBlockM, if_true, if_false, reduceIte, Nat.reduceEqDiff, List.size_toArray, List.length_cons, List.length_nil, Nat.reduceAdd, Nat.zero_add, List.range, List.range.loop]) | (refine WpM.op_k rfl (by rfl) ?_; intro zu zR; obtain ⟨dd, zh⟩ := zR; subst zh; (try simp only [at_at']); intro zK zhK; go_simp; (try (unfold stored; go_simp)); refine zhK _ _ ⟨?_, ?_⟩; (focus (refine m_idle ?_; simp [go_sem, Instr.field, asAgg]; done)); clear zhK zK; try walk_nrm) | fail)
      refine WpM.callM rfl (by rfl) rfl Try.func43 (by rfl) (by rfl) (by simp [Act.eval]) (course_m A0 c0 xs b B (w.at dd) (rd_at hr _) hB hJ) ?_
      rintro x u1 ⟨v1, rfl, ho1, hb1⟩
      have hbu1 : Below w.heap.size w u1 := (below_at (Below.refl _ _) _).trans hb1
      try walk_nrm
      repeat (first | ((first | refine WpM.seq ?_ | refine WpM.block ?_ | refine WpM.region ?_ | refine WpM.region_end ?_ | refine WpM.ret ?_ | refine WpM.skip ?_ | refine WpM.exit ?_); try simp only [thenM, inBlockM, if_true, if_false, reduceIte, Nat.reduceEqDiff, List.size_toArray, List.length_cons, List.length_nil, Nat.reduceAdd, Nat.zero_add, List.range, List.range.loop]) | (refine WpM.op_k rfl (by rfl) ?_; intro zu zR; obtain ⟨dd, zh⟩ := zR; subst zh; (try simp only [at_at']); intro zK zhK; go_simp; (try (unfold stored; go_simp)); refine zhK _ _ ⟨?_, ?_⟩; (focus (refine m_idle ?_; simp [go_sem, Instr.field, asAgg]; done)); clear zhK zK; try walk_nrm) | fail)
      refine WpM.callM rfl (by rfl) rfl Try.func43 (by rfl) (by rfl) (by simp [Act.eval]) (course_m A0 c0 xs a B (u1.at dd) (rd_at (hr.below hbu1 hB) _) (Nat.le_trans hB hbu1.size) hJ) ?_
      rintro x u2 ⟨v2, rfl, ho2, hb2⟩
      have hbu2 : Below w.heap.size w u2 := (below_at hbu1 _).trans (hb2.mono hbu1.size)
      have ho1' : OwnI u2 w.heap.size v1 (courseB xs b).1 := (show OwnI (u1.at dd) _ _ _ from ho1).below hb2 (Nat.le_refl _)
      try walk_nrm
      rw [e1, e2]
      generalize (courseB xs a).1 = one at *
      generalize (courseB xs b).1 = two at *
      obtain ⟨A1, c1, rfl, hr1⟩ := ho2.form
      obtain ⟨A2, c2, rfl, hr2⟩ := ho1'.form
      clear ho1 ho1' ho2 hb1 hb2
      repeat (first | ((first | refine WpM.seq ?_ | refine WpM.block ?_ | refine WpM.region ?_ | refine WpM.region_end ?_ | refine WpM.ret ?_ | refine WpM.skip ?_ | refine WpM.exit ?_); try simp only [thenM, inBlockM, if_true, if_false, reduceIte, Nat.reduceEqDiff, List.size_toArray, List.length_cons, List.length_nil, Nat.reduceAdd, Nat.zero_add, List.range, List.range.loop]) | (refine WpM.op_k rfl (by rfl) ?_; intro zu zR; obtain ⟨dd, zh⟩ := zR; subst zh; (try simp only [at_at']); intro zK zhK; go_simp; (try (unfold stored; go_simp)); refine zhK _ _ ⟨?_, ?_⟩; (focus (refine m_idle ?_; simp [go_sem, Instr.field, asAgg]; done)); clear zhK zK; try walk_nrm) | fail)
      refine WpM.loop (fun j m' a' u => m' = .aside ∧ RW u2 u ∧ ∃ (i : Nat) (u9 u10 u11 u12 u13 u14 u15 u16 u17 u18 u19 u20 u21 u22 u23 u24 u25 u26 u27 u31 u32 u33 u34 u35 u36 u37 u38 u3 u4 u5 u6 u7 : Value), i + j = one.length ∧ fsOk one two i = false ∧ a' = { tmps := #[.slice A0 xs.length c0, .int .i64 a, .int .i64 b, u3, u4, u5, u6, u7, .slice A2 two.length c2, u9, u10, u11, u12, u13, u14, u15, u16, u17, u18, u19, u20, u21, u22, u23, u24, u25, u26, u27, .slice A1 one.length c1, .int .i64 one.length, .int .i64 (i : Int), u31, u32, u33, u34, u35, u36, u37, u38], defers := [] }) ?_ one.length ⟨rfl, ⟨_, rfl⟩, 0, _, _, _, _, _, _, _, _, _, _, _, _, _, _, _, _, _, _, _, _, _, _, _, _, _, _, _, _, _, _, _, _, by omega, rfl, rfl⟩
      rintro j m a' u ⟨rfl, ⟨d0, rfl⟩, i, u9, u10, u11, u12, u13, u14, u15, u16, u17, u18, u19, u20, u21, u22, u23, u24, u25, u26, u27, u31, u32, u33, u34, u35, u36, u37, u38, u3, u4, u5, u6, u7, hij, hno, rfl⟩
      by_cases hlt : i < one.length
      · have hlt' : (i : Int) < (one.length : Int) := by omega
        obtain ⟨bb, oo, rfl, _, hc⟩ := hr1.at_ hlt
        have hw1 : IntKind.i64.wrap ((i : Int) + 1) = ((i + 1 : Nat) : Int) := IntWalk.i64_in _ (by omega)
        have HH := fun h => fs_hit (one := one) (two := two) hno h hlt
        have HN : fsOk one two (i + 1) = (fsOk one two i || hasB two (one.getD i 0)) := rfl
        generalize one.getD i 0 = x at *
        repeat (first | ((first | refine WpM.seq ?_ | refine WpM.block ?_ | refine WpM.region ?_ | refine WpM.region_end ?_ | refine WpM.ret ?_ | refine WpM.skip ?_ | refine WpM.exit ?_); try simp only [thenM, inBlockM, if_true, if_false, reduceIte, Nat.reduceEqDiff, List.size_toArray, List.length_cons, List.length_nil, Nat.reduceAdd, Nat.zero_add, List.range, List.range.loop]) | (refine WpM.op_k rfl (by rfl) ?_; intro zu zR; obtain ⟨dd, zh⟩ := zR; subst zh; (try simp only [at_at']); intro zK zhK; go_simp; (try (unfold stored; go_simp)); refine zhK _ _ ⟨?_, ?_⟩; (focus (refine m_idle ?_; simp [go_sem, Instr.field, asAgg]; done)); clear zhK zK; try walk_nrm) | fail)
        refine WpM.cond (t := true) (by simp [Act.eval, hlt, hlt']) ?_
        simp only [if_true]
        repeat (first | ((first | refine WpM.seq ?_ | refine WpM.block ?_ | refine WpM.region ?_ | refine WpM.region_end ?_ | refine WpM.ret ?_ | refine WpM.skip ?_ | refine WpM.exit ?_); try simp only [thenM, inBlockM, if_true, if_false, reduceIte, Nat.reduceEqDiff, List.size_toArray, List.length_cons, List.length_nil, Nat.reduceAdd, Nat.zero_add, List.range, List.range.loop]) | (refine WpM.op_k rfl (by rfl) ?_; intro zu zR; obtain ⟨dd, zh⟩ := zR; subst zh; (try simp only [at_at']); intro zK zhK; go_simp; (try (unfold stored; go_simp)); refine zhK _ _ ⟨?_, ?_⟩; (focus (refine m_idle ?_; simp [go_sem, Instr.field, asAgg]; done)); clear zhK zK; try walk_nrm) | fail)
        (refine WpM.op_k rfl (by rfl) ?_; intro zu zR; obtain ⟨dd, zh⟩ := zR; subst zh; (try simp only [at_at']); intro zK zhK; (have hh := hlt); go_simp; (try (unfold stored; go_simp)); refine zhK _ _ ⟨?_, ?_⟩; (focus (exact m_idle (by simp [go_sem, *]); done)); clear zhK zK; try walk_nrm)
        (refine WpM.op_k rfl (by rfl) ?_; intro zu zR; obtain ⟨dd, zh⟩ := zR; subst zh; (try simp only [at_at']); intro zK zhK; (have hx : (u2.at dd).cell? ⟨bb, oo + i, none⟩ = some (.int .i64 x) := hc); go_simp; (try (unfold stored; go_simp)); refine zhK _ _ ⟨?_, ?_⟩; (focus (refine Mode.look _ _ (looks_cells fun e he => ?_); have hm := mem_listed he; simp [go_sem, hx] at hm; exact ⟨_, hm⟩; done)); clear zhK zK; try walk_nrm)
        repeat (first | ((first | refine WpM.seq ?_ | refine WpM.block ?_ | refine WpM.region ?_ | refine WpM.region_end ?_ | refine WpM.ret ?_ | refine WpM.skip ?_ | refine WpM.exit ?_); try simp only [thenM, inBlockM, if_true, if_false, reduceIte, Nat.reduceEqDiff, List.size_toArray, List.length_cons, List.length_nil, Nat.reduceAdd, Nat.zero_add, List.range, List.range.loop]) | (refine WpM.op_k rfl (by rfl) ?_; intro zu zR; obtain ⟨dd, zh⟩ := zR; subst zh; (try simp only [at_at']); intro zK zhK; go_simp; (try (unfold stored; go_simp)); refine zhK _ _ ⟨?_, ?_⟩; (focus (refine m_idle ?_; simp [go_sem, Instr.field, asAgg]; done)); clear zhK zK; try walk_nrm) | fail)
        refine WpM.callM rfl (by rfl) rfl Try.func60 (by rfl) (by rfl) (by simp [Act.eval]) (contains_m .aside A2 _ c2 two x _ (rd_at hr2 _) (by omega)) ?_
        rintro v u3' ⟨rfl, d1, rfl⟩
        try walk_nrm
        try simp only [at_at']
        by_cases hx : x ∈ two
        · obtain ⟨r1, r2⟩ := HH (by rw [hasB_dec]; exact decide_eq_true hx)
          refine WpM.region_end ?_
          refine WpM.cond (t := true) (by simp [Act.eval, hx]) ?_
          simp only [if_true]
          repeat (first | ((first | refine WpM.seq ?_ | refine WpM.block ?_ | refine WpM.region ?_ | refine WpM.region_end ?_ | refine WpM.ret ?_ | refine WpM.skip ?_ | refine WpM.exit ?_); try simp only [thenM, inBlockM, if_true, if_false, reduceIte, Nat.reduceEqDiff, List.size_toArray, List.length_cons, List.length_nil, Nat.reduceAdd, Nat.zero_add, List.range, List.range.loop]) | (refine WpM.op_k rfl (by rfl) ?_; intro zu zR; obtain ⟨dd, zh⟩ := zR; subst zh; (try simp only [at_at']); intro zK zhK; go_simp; (try (unfold stored; go_simp)); refine zhK _ _ ⟨?_, ?_⟩; (focus (refine m_idle ?_; simp [go_sem, Instr.field, asAgg]; done)); clear zhK zK; try walk_nrm) | fail)
          exact ⟨trivial, trivial, trivial, _, resultsC_tmp2 (by rfl) _, by rw [r1, r2]; rfl, below_at hbu2 _⟩
        · repeat (first | ((first | refine WpM.seq ?_ | refine WpM.block ?_ | refine WpM.region ?_ | refine WpM.region_end ?_ | refine WpM.ret ?_ | refine WpM.skip ?_ | refine WpM.exit ?_); try simp only [thenM, inBlockM, if_true, if_false, reduceIte, Nat.reduceEqDiff, List.size_toArray, List.length_cons, List.length_nil, Nat.reduceAdd, Nat.zero_add, List.range, List.range.loop]) | (refine WpM.op_k rfl (by rfl) ?_; intro zu zR; obtain ⟨dd, zh⟩ := zR; subst zh; (try simp only [at_at']); intro zK zhK; go_simp; (try (unfold stored; go_simp)); refine zhK _ _ ⟨?_, ?_⟩; (focus (refine m_idle ?_; simp [go_sem, Instr.field, asAgg]; done)); clear zhK zK; try walk_nrm) | fail)
          refine WpM.cond (t := false) (by simp [Act.eval, hx]) ?_
          simp only [if_false, Bool.false_eq_true]
          repeat (first | ((first | refine WpM.seq ?_ | refine WpM.block ?_ | refine WpM.region ?_ | refine WpM.region_end ?_ | refine WpM.ret ?_ | refine WpM.skip ?_ | refine WpM.exit ?_); try simp only [thenM, inBlockM, if_true, if_false, reduceIte, Nat.reduceEqDiff, List.size_toArray, List.length_cons, List.length_nil, Nat.reduceAdd, Nat.zero_add, List.range, List.range.loop]) | (refine WpM.op_k rfl (by rfl) ?_; intro zu zR; obtain ⟨dd, zh⟩ := zR; subst zh; (try simp only [at_at']); intro zK zhK; go_simp; (try (unfold stored; go_simp)); refine zhK _ _ ⟨?_, ?_⟩; (focus (refine m_idle ?_; simp [go_sem, Instr.field, asAgg]; done)); clear zhK zK; try walk_nrm) | fail)
          try simp only [hw1]
          exact ⟨j - 1, by omega, trivial, ⟨_, rfl⟩, i + 1, _, _, _, _, _, _, _, _, _, _, _, _, _, _, _, _, _, _, _, _, _, _, _, _, _, _, _, _, _, _, _, _, by omega, by rw [HN, hno, hasB_dec, decide_eq_false hx]; rfl, rfl⟩
      · obtain rfl : i = one.length := by omega
        repeat (first | ((first | refine WpM.seq ?_ | refine WpM.block ?_ | refine WpM.region ?_ | refine WpM.region_end ?_ | refine WpM.ret ?_ | refine WpM.skip ?_ | refine WpM.exit ?_); try simp only [thenM, inBlockM, if_true, if_false, reduceIte, Nat.reduceEqDiff, List.size_toArray, List.length_cons, List.length_nil, Nat.reduceAdd, Nat.zero_add, List.range, List.range.loop]) | (refine WpM.op_k rfl (by rfl) ?_; intro zu zR; obtain ⟨dd, zh⟩ := zR; subst zh; (try simp only [at_at']); intro zK zhK; go_simp; (try (unfold stored; go_simp)); refine zhK _ _ ⟨?_, ?_⟩; (focus (refine m_idle ?_; simp [go_sem, Instr.field, asAgg]; done)); clear zhK zK; try walk_nrm) | fail)
        refine WpM.cond (t := false) (by simp [Act.eval]) ?_
        simp only [if_false, Bool.false_eq_true]
        repeat (first | ((first | refine WpM.seq ?_ | refine WpM.block ?_ | refine WpM.region ?_ | refine WpM.region_end ?_ | refine WpM.ret ?_ | refine WpM.skip ?_ | refine WpM.exit ?_); try simp only [thenM, inBlockM, if_true, if_false, reduceIte, Nat.reduceEqDiff, List.size_toArray, List.length_cons, List.length_nil, Nat.reduceAdd, Nat.zero_add, List.range, List.range.loop]) | (refine WpM.op_k rfl (by rfl) ?_; intro zu zR; obtain ⟨dd, zh⟩ := zR; subst zh; (try simp only [at_at']); intro zK zhK; go_simp; (try (unfold stored; go_simp)); refine zhK _ _ ⟨?_, ?_⟩; (focus (refine m_idle ?_; simp [go_sem, Instr.field, asAgg]; done)); clear zhK zK; try walk_nrm) | fail)
        exact ⟨trivial, trivial, trivial, _, resultsC_tmp2 (by rfl) _, by rw [hno, fs_no hno]; rfl, below_at hbu2 _⟩

end Go.Proofs.Ytcnellnpnlcodaa
