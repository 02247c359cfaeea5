/- The law FnExactPlaceAfter beside leavers. -/
import Derived.Test.YtigmjbjingjkhaaBaX
set_option linter.unusedSimpArgs false
namespace Go.Proofs.Ytigmjbjingjkhaa
open Go.Conc Go.RowKit

/-- the functions that are walked for one goroutine alone -/
def Lb2 (f : FuncId) : Bool := [14, 16, 42, 55, 59, 48, 66, 40, 54, 46, 65, 58, 61, 41, 44, 19, 21, 47].contains f
set_option maxRecDepth 100000 in
theorem fns_ok2 : ∀ f, Lb2 f = true → fnOk Try.prog Lb2 f = true := by
  intro f hf
  simp only [Lb2, List.contains_cons, List.contains_nil, Bool.or_false, Bool.or_eq_true, beq_iff_eq] at hf
  rcases hf with rfl | rfl | rfl | rfl | rfl | rfl | rfl | rfl | rfl | rfl | rfl | rfl | rfl | rfl | rfl | rfl | rfl | rfl <;> kernel_rfl

theorem below_re2 {B : Nat} {w w' : World} {τ : Nat → Question → Nat} {δ : Nat} {d : Nat} (h : Below B (re w τ δ) w') : Below B w (re w' w.tape d) := ⟨h.os, rfl, h.output, h.size, h.block⟩

set_option maxRecDepth 100000 in
set_option maxHeartbeats 8000000 in
theorem placeAfter_run (Z0 : Option Addr) (d0 : Nat) (xs0 : List Int) (n1 n2 : Int) (w0 : World) (R0 : Rd w0 w0.heap.size Z0 d0 xs0) (hm0 : xs0.length ≤ 9223372036854775807) :
    ∃ M last o w' t', runNT Try.prog (M + 1) (solo (G (Frame.enter Try.prog 5 #[.slice Z0 xs0.length d0, .int .i64 n1, .int .i64 n2] .normal) []) w0) #[] = (.ended o w', t') ∧ runN Try.prog M (solo (G (Frame.enter Try.prog 5 #[.slice Z0 xs0.length d0, .int .i64 n1, .int .i64 n2] .normal) []) w0) = .next last ∧ step Try.prog last = .ended o w' ∧
      Go.Conc.Good Try.prog (fun v w' => v = .bool true ∧ Below w0.heap.size w0 w') last o w' t' := by
  refine law_ends Try.func5 rfl (by kernel_rfl) ?_
  simp only [Try.ntmps5, List.size_toArray, List.length_cons, List.length_nil, Nat.reduceAdd, Nat.reduceSub, Array.replicate_succ, Array.replicate_zero, List.push_toArray, List.append_toArray, List.nil_append, List.cons_append]
  m_ctl
  m_ctl
  m_opw dd (skip) (exact m_idle (by simp [go_sem]))
  m_ctl
  m_ctl
  m_ctl
  m_ctl
  m_opw dd (skip) (exact m_idle (by simp [go_sem]))
  m_opw dd (skip) (exact m_idle (by simp [go_sem]))
  by_cases hn : 1048576 < xs0.length
  · have hh : (1048576 : Int) < (xs0.length : Int) := by omega
    m_opw dd (have h1 := hh) (exact m_idle (by simp [go_sem]))
    m_ctl
    refine WpM.cond (t := true) (by simp [Act.eval]) ?_
    simp only [if_true]
    m_ctl
    m_ctl
    m_opw dd (skip) (exact m_idle (by simp [go_sem]))
    m_ctl
    m_ctl
    exact ⟨trivial, trivial, trivial, _, resultsC_tmp (by rfl) _, fun d => ⟨rfl, below_at (below_at (Below.refl _ _) _) d⟩⟩
  have hn0 : xs0.length ≤ 1048576 := by omega
  have hh : ¬ (1048576 : Int) < (xs0.length : Int) := by omega
  m_opw dd (have h1 := hh) (exact m_idle (by simp [go_sem]))
  m_ctl
  refine WpM.cond (t := false) (by simp [Act.eval]) ?_
  simp only [if_false, Bool.false_eq_true]
  m_ctl
  m_ctl
  m_ctl
  m_opw d7 (skip) (exact m_idle (by simp [go_sem]))
  refine WpM.callL (vs := #[.slice Z0 xs0.length d0]) fns_ok2 no_early ⟨_, Try.func5, by rfl⟩ (by kernel_rfl) rfl rfl (by rfl) rfl Try.func14 (by rfl) (by rfl) (by simp [Act.eval]) (fun vv uu => ∃ g, vv = .slice (some ⟨g, 0, none⟩) xs0.length xs0.length ∧ (w0.at d7).heap.size ≤ g ∧ Blk uu g 3 (ints xs0) ∧ Below (w0.at d7).heap.size (w0.at d7) uu) (fun τ δ => (toIntS_new Z0 d0 xs0 w0.heap.size (re (w0.at d7) τ δ) ⟨R0.1, R0.2⟩ (by show w0.heap.size ≤ (w0.at d7).heap.size; first | exact Nat.le_refl _ | assumption) hn0).mono fun e w' ⟨g, he, hg, hB, hb⟩ => ⟨_, he, fun d => ⟨g, rfl, hg, hB, below_re2 hb⟩⟩) ?_; rintro _ u1 ⟨a0, rfl, a0g, Ha0, hbu1⟩; (try walk_nrm); try simp only [at_at']
  have B1 : Below w0.heap.size w0 u1 := (below_at (Below.refl _ _) d7).trans hbu1
  have R1 := R0.below B1 (Nat.le_refl _)
  m_opw dd (skip) (exact m_idle (by simp [go_sem]))
  m_opw d8 (skip) (exact m_idle (by simp [go_sem]))
  refine WpM.callM rfl (by rfl) rfl Try.func21 (by rfl) (by rfl) (by simp [Act.eval]) (specPlace_m _ _ xs0 n1 n2 u1.heap.size (u1.at d8) (rd_at (Ha0.rd (B := u1.heap.size) (c := xs0.length) Ha0.lt (Nat.le_refl _)) _) (Nat.le_refl _) hn0) ?_
  rintro x u2 ⟨rfl, hbu2⟩
  try walk_nrm
  have B2 : Below w0.heap.size w0 u2 := (below_at B1 d8).trans (hbu2.mono B1.size)
  have R2 := R0.below B2 (Nat.le_refl _)
  m_opw dd (skip) (exact m_idle (by simp [go_sem]))
  m_opw dd (skip) (exact m_idle (by simp [go_sem]))
  m_opw dd (skip) (exact m_idle (by simp [go_sem]))
  m_opw dd (skip) (exact m_idle (by simp [go_sem]))
  m_opw dd (skip) (exact m_idle (by simp [go_sem]))
  m_ctl
  m_ctl
  m_ctl
  m_opw d7 (skip) (exact m_idle (by simp [go_sem]))
  have z2 : w0.heap.size ≤ (u2.at d7).heap.size := B2.size
  refine WpM.callL (vs := #[.slice Z0 xs0.length d0]) fns_ok2 no_early ⟨_, Try.func5, by rfl⟩ (by kernel_rfl) rfl rfl (by rfl) rfl Try.func14 (by rfl) (by rfl) (by simp [Act.eval]) (fun vv uu => ∃ g, vv = .slice (some ⟨g, 0, none⟩) xs0.length xs0.length ∧ (u2.at d7).heap.size ≤ g ∧ Blk uu g 3 (ints xs0) ∧ Below (u2.at d7).heap.size (u2.at d7) uu) (fun τ δ => (toIntS_new Z0 d0 xs0 w0.heap.size (re (u2.at d7) τ δ) ⟨R2.1, R2.2⟩ (by show w0.heap.size ≤ (u2.at d7).heap.size; first | exact Nat.le_refl _ | assumption) hn0).mono fun e w' ⟨g, he, hg, hB, hb⟩ => ⟨_, he, fun d => ⟨g, rfl, hg, hB, below_re2 hb⟩⟩) ?_; rintro _ u3 ⟨b0, rfl, b0g, Hb0, hbu3⟩; (try walk_nrm); try simp only [at_at']
  have B3 : Below w0.heap.size w0 u3 := (below_at B2 d7).trans (hbu3.mono B2.size)
  have R3 := R0.below B3 (Nat.le_refl _)
  m_opw dd (skip) (exact m_idle (by simp [go_sem]))
  m_ctl
  m_ctl
  m_ctl
  m_opw dd (skip) (exact m_idle (by simp [go_sem]))
  m_opw dd (skip) (exact m_idle (by simp [go_sem]))
  m_opw d8 (skip) (exact m_idle (by simp [go_sem]))
  refine WpM.callM rfl (by rfl) rfl Try.func22 (by rfl) (by rfl) (by simp [Act.eval]) (implPlace_m _ _ xs0 n1 n2 u3.heap.size (u3.at d8) (rd_at (Hb0.rd (B := u3.heap.size) (c := xs0.length) Hb0.lt (Nat.le_refl _)) _) (Nat.le_refl _) hn0) ?_
  rintro x u4 ⟨rfl, hbu4⟩
  try walk_nrm
  have B4 : Below w0.heap.size w0 u4 := (below_at B3 d8).trans (hbu4.mono B3.size)
  have R4 := R0.below B4 (Nat.le_refl _)
  have Hb4 : Blk u4 b0 3 (ints xs0) := (show Blk (u3.at d8) _ _ _ from Hb0).below hbu4 Hb0.lt
  m_opw dd (skip) (exact m_idle (by simp [go_sem]))
  m_opw dd (skip) (exact m_idle (by simp [go_sem]))
  m_opw dd (skip) (exact m_idle (by simp [go_sem]))
  m_opw dd (skip) (exact m_idle (by simp [go_sem]))
  m_opw dd (skip) (exact m_idle (by simp [go_sem]))
  m_ctl
  m_ctl
  m_ctl
  m_ctl
  m_opw dd (skip) (exact m_idle (by simp [go_sem]))
  m_opw dd (skip) (exact m_idle (by simp [go_sem]))
  m_opw dd (skip) (exact m_idle (by simp [go_sem]))
  m_opw dd (skip) (exact m_idle (by simp [go_sem]))
  m_opw dd (skip) (exact m_idle (by simp [go_sem]))
  m_opw dd (skip) (exact m_idle (by simp [go_sem]))
  m_opw dd (skip) (exact m_idle (by cases placeB xs0 n1 n2 <;> (simp [go_sem]; first | rfl | simp [binOp, go_sem] | simp [binOp])))
  m_opw dd (skip) (exact m_idle (by simp [go_sem]))
  m_ctl
  refine WpM.cond (t := false) (by simp [Act.eval]) ?_
  simp only [if_false, Bool.false_eq_true]
  m_ctl
  m_ctl
  m_ctl
  m_ctl
  m_opw dd (skip) (exact m_idle (by simp [go_sem]))
  m_opw d7 (skip) (exact m_idle (by simp [go_sem]))
  have z4 : w0.heap.size ≤ (u4.at d7).heap.size := B4.size
  refine WpM.callL (vs := #[.slice Z0 xs0.length d0]) fns_ok2 no_early ⟨_, Try.func5, by rfl⟩ (by kernel_rfl) rfl rfl (by rfl) rfl Try.func14 (by rfl) (by rfl) (by simp [Act.eval]) (fun vv uu => ∃ g, vv = .slice (some ⟨g, 0, none⟩) xs0.length xs0.length ∧ (u4.at d7).heap.size ≤ g ∧ Blk uu g 3 (ints xs0) ∧ Below (u4.at d7).heap.size (u4.at d7) uu) (fun τ δ => (toIntS_new Z0 d0 xs0 w0.heap.size (re (u4.at d7) τ δ) ⟨R4.1, R4.2⟩ (by show w0.heap.size ≤ (u4.at d7).heap.size; first | exact Nat.le_refl _ | assumption) hn0).mono fun e w' ⟨g, he, hg, hB, hb⟩ => ⟨_, he, fun d => ⟨g, rfl, hg, hB, below_re2 hb⟩⟩) ?_; rintro _ u5 ⟨c0, rfl, c0g, Hc0, hbu5⟩; (try walk_nrm); try simp only [at_at']
  have B5 : Below w0.heap.size w0 u5 := (below_at B4 d7).trans (hbu5.mono B4.size)
  have Hb5 : Blk u5 b0 3 (ints xs0) := (show Blk (u4.at d7) _ _ _ from Hb4).below hbu5 Hb4.lt
  refine WpM.callL (vs := #[.slice (some ⟨b0, 0, none⟩) xs0.length xs0.length, .slice (some ⟨c0, 0, none⟩) xs0.length xs0.length]) fns_ok2 no_early ⟨_, Try.func5, by rfl⟩ (by kernel_rfl) rfl rfl (by rfl) rfl Try.func16 (by rfl) (by rfl) (by simp [Act.eval]) (fun vv uu => vv = .bool (eqB xs0 xs0) ∧ Below u5.heap.size u5 uu) (fun τ δ => (eqIntS_new _ _ _ _ xs0 xs0 u5.heap.size u5.heap.size (re u5 τ δ) (show Rd (re u5 τ δ) _ _ _ _ from ⟨(Hb5.rd (B := u5.heap.size) (c := xs0.length) Hb5.lt (Nat.le_refl _)).1, (Hb5.rd (B := u5.heap.size) (c := xs0.length) Hb5.lt (Nat.le_refl _)).2⟩) (show Rd (re u5 τ δ) _ _ _ _ from ⟨(Hc0.rd (B := u5.heap.size) (c := xs0.length) Hc0.lt (Nat.le_refl _)).1, (Hc0.rd (B := u5.heap.size) (c := xs0.length) Hc0.lt (Nat.le_refl _)).2⟩) hn0).mono fun e w' ⟨he, hb⟩ => ⟨_, he, fun d => ⟨rfl, below_re2 hb⟩⟩) ?_; rintro _ u6 ⟨rfl, hbu6⟩; (try walk_nrm); try simp only [at_at']
  have B6 : Below w0.heap.size w0 u6 := B5.trans (hbu6.mono B5.size)
  rw [eqB_self]
  m_opw dd (skip) (exact m_idle (by simp [go_sem]))
  m_ctl
  refine WpM.cond (t := false) (by simp [Act.eval]) ?_
  simp only [if_false, Bool.false_eq_true]
  m_ctl
  m_ctl
  m_ctl
  m_opw dd (skip) (exact m_idle (by simp [go_sem]))
  m_ctl
  m_ctl
  exact ⟨trivial, trivial, trivial, _, resultsC_tmp (by rfl) _, fun d => ⟨rfl, below_at (below_at B6 _) d⟩⟩
end Go.Proofs.Ytigmjbjingjkhaa
