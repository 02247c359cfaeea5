/- Walks in company: is a number within two, is a place a step, where a jump leads, the next place: each looks at nothing but its arguments and the jumps. -/
import Derived.Test.YtiacfaeanlkalaaBaB
import Derived.Conc.CompanyMem
set_option linter.unusedSimpArgs false
namespace Go.Proofs.Ytiacfaeanlkalaa
set_option maxRecDepth 100000
open Go.Conc Go.RowKit

section
variable {main : Bool} {R : World → World → Prop} {D : World → World → Array Event → Prop}

theorem ev_min (t : TypeId) (x y : Int) (P : Program) (w : World) : (Builtin.min_ #[t, t] t #[.int .i64 x, .int .i64 y]).events P w #[] = #[] := rfl
theorem ev_max (t : TypeId) (x y : Int) (P : Program) (w : World) : (Builtin.max_ #[t, t] t #[.int .i64 x, .int .i64 y]).events P w #[] = #[] := rfl

set_option maxRecDepth 100000 in
theorem isWithin_c (T : Terms R D) (n lo hi : Int) :
    ∃ k, ∀ w0 w : World, Since R w0 w → CallsC Try.prog main R D 48 #[.int .i64 n, .int .i64 lo, .int .i64 hi] k w fun v w' => v = .bool (inB n lo hi) ∧ Since R w0 w' := by
  by_cases h1 : lo ≤ n
  ·
    co_apply Exists.intro
    intro w0 w hF
    co_apply callsC_of_wpC Try.func48 (by rfl) rfl
    simp only [Try.ntmps48, List.size_toArray, List.length_cons, List.length_nil, Nat.reduceAdd, Nat.reduceSub, Array.replicate_succ, Array.replicate_zero, List.push_toArray, List.append_toArray, List.nil_append, List.cons_append]
    co_go T (Since.rely T) hF (co_quiet T)
    exact ⟨rfl, _, resultsC_tmp (by rfl) _, by simp [inB, h1], hF⟩
  ·
    co_apply Exists.intro
    intro w0 w hF
    co_apply callsC_of_wpC Try.func48 (by rfl) rfl
    simp only [Try.ntmps48, List.size_toArray, List.length_cons, List.length_nil, Nat.reduceAdd, Nat.reduceSub, Array.replicate_succ, Array.replicate_zero, List.push_toArray, List.append_toArray, List.nil_append, List.cons_append]
    co_go T (Since.rely T) hF (co_quiet T)
    repeat (co_apply opsC_unwanted T rfl (by rfl); try walk_nrm)
    co_go T (Since.rely T) hF (co_quiet T)
    exact ⟨rfl, _, resultsC_tmp (by rfl) _, by simp [inB, h1], hF⟩

set_option maxRecDepth 100000 in
theorem isOn_c (T : Terms R D) (A : Option Addr) (n c : Nat) (p : Int) (hn : n ≤ 1048576) :
    ∃ k, ∀ w0 w : World, Since R w0 w → CallsC Try.prog main R D 52 #[.slice A n c, .int .i64 p] k w fun v w' => v = .bool (inB p 0 ((n : Int) - 1)) ∧ Since R w0 w' := by
  have hw : IntKind.i64.wrap ((n : Int) - 1) = (n : Int) - 1 := IntWalk.i64_in _ (by omega)
  obtain ⟨k1, hc⟩ := isWithin_c (main := main) T p 0 ((n : Int) - 1)
  co_apply Exists.intro
  intro w0 w hF
  co_apply callsC_of_wpC Try.func52 (by rfl) rfl
  simp only [Try.ntmps52, List.size_toArray, List.length_cons, List.length_nil, Nat.reduceAdd, Nat.reduceSub, Array.replicate_succ, Array.replicate_zero, List.push_toArray, List.append_toArray, List.nil_append, List.cons_append]
  co_go T (Since.rely T) hF (co_quiet T)
  co_apply opsC_call T (nf := k1) (Post := fun v w' => v = .bool (inB p 0 ((n : Int) - 1)) ∧ Since R w0 w') rfl (by rfl) rfl
  focus (simpa [Act.eval] using hc w0 _ hF)
  rintro v w2 ⟨rfl, hF⟩
  try walk_nrm
  co_go T (Since.rely T) hF (co_quiet T)
  exact ⟨rfl, _, resultsC_tmp (by rfl) _, rfl, hF⟩

set_option maxRecDepth 100000 in
theorem placeBy_c (T : Terms R D) (A : Option Addr) (n c : Nat) (s j : Int) (hn : n ≤ 1048576) (hs : -1000 ≤ s) (hs' : s ≤ 1000000000) (hj : -1000 ≤ j) (hj' : j ≤ 1000) :
    ∃ k, ∀ w0 w : World, Since R w0 w → CallsC Try.prog main R D 70 #[.slice A n c, .int .i64 s, .int .i64 j] k w fun v w' => v = .int .i64 (clampI n (s + j)) ∧ Since R w0 w' := by
  have hw : IntKind.i64.wrap (s + j) = s + j := IntWalk.i64_in _ (by omega)
  co_apply Exists.intro
  intro w0 w hF
  co_apply callsC_of_wpC Try.func70 (by rfl) rfl
  simp only [Try.ntmps70, List.size_toArray, List.length_cons, List.length_nil, Nat.reduceAdd, Nat.reduceSub, Array.replicate_succ, Array.replicate_zero, List.push_toArray, List.append_toArray, List.nil_append, List.cons_append]
  co_go T (Since.rely T) hF ((rw [listed_nil (by simp [go_sem, ev_min, ev_max])]; exact Terms.idle T _))
  refine ⟨rfl, _, resultsC_tmp (by rfl) _, ?_, hF⟩
  show Value.int .i64 _ = Value.int .i64 _
  congr 1
  unfold clampI
  split <;> (repeat' split) <;> omega

set_option maxRecDepth 100000 in
theorem nextPlace_c (T : Terms R D) (b o c : Nat) (hT : ∀ w o, D w w #[⟨.cell ⟨b, o, none⟩, false, false⟩]) (xs : List Int) (p : Int) (hJ : jumpsB xs = true) (hR : ∀ w w1, R w w1 → ∀ k, k < xs.length → w1.cell? ⟨b, o + k, none⟩ = some (.int .i64 (xs.getD k 0))) :
    ∃ n, ∀ w0 w : World, (∀ k, k < xs.length → w0.cell? ⟨b, o + k, none⟩ = some (.int .i64 (xs.getD k 0))) → Since R w0 w → CallsC Try.prog main R D 69 #[.slice (some ⟨b, o, none⟩) xs.length c, .int .i64 p] n w fun v w' => v = .int .i64 (nextI xs p) ∧ Since R w0 w' := by
  have hl := jumpsB_le hJ
  obtain ⟨k1, hc⟩ := isOn_c (main := main) T (some ⟨b, o, none⟩) xs.length c p (by omega)
  by_cases h : 0 ≤ p ∧ p < xs.length
  · obtain ⟨k, rfl⟩ := Int.eq_ofNat_of_zero_le h.1
    have hk : k < xs.length := by omega
    have hat := jumpsB_at hJ k hk
    have HI := inB_yes (n := (k : Int)) (lo := 0) (hi := (xs.length : Int) - 1) (by omega) (by omega)
    have HE := nextI_on hk
    obtain ⟨k2, hc2⟩ := placeBy_c (main := main) T (some ⟨b, o, none⟩) xs.length c (k : Int) (xs.getD k 0) (by omega) (by omega) (by omega) (by omega) (by omega)
    rw [HI] at hc
    have hR' : ∀ w w1, R w w1 → w1.cell? ⟨b, o + k, none⟩ = some (.int .i64 (xs.getD k 0)) := fun w w1 r => hR _ _ r k hk
    have hc0' : ∀ w0 : World, (∀ k, k < xs.length → w0.cell? ⟨b, o + k, none⟩ = some (.int .i64 (xs.getD k 0))) → w0.cell? ⟨b, o + k, none⟩ = some (.int .i64 (xs.getD k 0)) := fun w0 h => h k hk
    generalize xs.getD k 0 = x at HE hc2 hR' hc0'
    co_apply Exists.intro
    intro w0 w hc0 hF
    co_apply callsC_of_wpC Try.func69 (by rfl) rfl
    simp only [Try.ntmps69, List.size_toArray, List.length_cons, List.length_nil, Nat.reduceAdd, Nat.reduceSub, Array.replicate_succ, Array.replicate_zero, List.push_toArray, List.append_toArray, List.nil_append, List.cons_append]
    have hcell : ∀ u, Since R w0 u → u.cell? ⟨b, o + k, none⟩ = some (.int .i64 x) := fun u hu => hu.elim (fun e => e ▸ hc0' _ hc0) (fun r => hR' _ _ r)
    co_go T (Since.rely T) hF (co_quiet T)
    co_apply opsC_call T (nf := k1) (Post := fun v w' => v = .bool true ∧ Since R w0 w') rfl (by rfl) rfl
    focus (simpa [Act.eval] using hc w0 _ hF)
    rintro v w2 ⟨rfl, hF⟩
    try walk_nrm
    co_go T (Since.rely T) hF (co_quiet T)
    co_apply wpC_cond T (t := false)
    focus (simp [Act.eval])
    simp only [if_true, if_false, reduceIte, Bool.false_eq_true]
    co_ctl T
    co_then
    co_ctl T
    co_reg T
    co_op (Since.rely T) hF (co_quiet T)
    co_op (Since.rely T) hF (co_quiet T)
    co_op (Since.rely T) hF (co_quiet T)
    co_op (Since.rely T) hF (co_quiet T)
    co_op (Since.rely T) hF (co_still T)
    co_opw (Since.rely T) hF (have hx := hcell _ hF) (refine (congrArg (D _ _) ?_).mpr (hT _ (o + k)); simp [listed, go_sem, hx]; exact rfl)
    co_apply opsC_call T (nf := k2) (Post := fun v w' => v = .int .i64 (clampI (xs.length) ((k : Int) + x)) ∧ Since R w0 w') rfl (by rfl) rfl
    focus (simpa [Act.eval] using hc2 w0 _ hF)
    rintro v w2 ⟨rfl, hF⟩
    try walk_nrm
    co_go T (Since.rely T) hF (co_quiet T)
    exact ⟨rfl, _, resultsC_tmp (by rfl) _, by rw [HE]; rfl, hF⟩
  · have HI := inB_no (n := p) (lo := 0) (hi := (xs.length : Int) - 1) (by omega)
    have HE : nextI xs p = p := nextI_out (by omega)
    rw [HI] at hc
    co_apply Exists.intro
    intro w0 w _ hF
    co_apply callsC_of_wpC Try.func69 (by rfl) rfl
    simp only [Try.ntmps69, List.size_toArray, List.length_cons, List.length_nil, Nat.reduceAdd, Nat.reduceSub, Array.replicate_succ, Array.replicate_zero, List.push_toArray, List.append_toArray, List.nil_append, List.cons_append]
    co_stmt T (Since.rely T) hF (co_quiet T)
    co_apply wpC_seq T (n₂ := 0)
    co_go T (Since.rely T) hF (co_quiet T)
    co_apply opsC_call T (nf := k1) (Post := fun v w' => v = .bool false ∧ Since R w0 w') rfl (by rfl) rfl
    focus (simpa [Act.eval] using hc w0 _ hF)
    rintro v w2 ⟨rfl, hF⟩
    try walk_nrm
    co_go T (Since.rely T) hF (co_quiet T)
    co_apply wpC_cond T (t := true)
    focus (simp [Act.eval])
    simp only [if_true, if_false, reduceIte, Bool.false_eq_true]
    co_go T (Since.rely T) hF (co_quiet T)
    exact ⟨rfl, _, resultsC_tmp (by rfl) _, by rw [HE]; rfl, hF⟩


end
end Go.Proofs.Ytiacfaeanlkalaa
