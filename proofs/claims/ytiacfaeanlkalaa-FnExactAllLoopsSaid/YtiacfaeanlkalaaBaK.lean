/- Chapter 7's course of a ball: the taker beside its sender. -/
import Derived.Test.YtiacfaeanlkalaaBaS
import Derived.Test.YtiacfaeanlkalaaGnN
import Derived.Test.YtiacfaeanlkalaaBaI
import Derived.Test.YtiacfaeanlkalaaBaJ
import Derived.Test.YtiacfaeanlkalaaBaP
import Derived.Conc.Script
set_option linter.unusedSimpArgs false
namespace Go.Proofs.Ytiacfaeanlkalaa
set_option maxRecDepth 100000
open Go.Conc Go.RowKit

theorem d_gen {P : Program} {X : Gen P} {w : World} {es : Array Event} (h : es = #[]) : DG X w w es := by subst h; exact dg_idle w
theorem wpm_abs {P : Program} {X0 : Gen P} {x : Int} {fn : FuncId} {it : Item} {Q : Exit → Mode P → Act → World → Prop} {a : Act} {w : World} (h : ∀ X : Gen P, X.c1 = X0.c1 → X.c2 = X0.c2 → X.K = X0.K → X.N = X0.N → X.nx = X0.nx → WpM fn (.gen X x) it Q a w) : WpM fn (.gen X0 x) it Q a w := h X0 rfl rfl rfl rfl rfl
theorem jm_chan {b o c : Nat} {xs : List Int} {w : World} {cap : Nat} {buf : Array Value} {cl : Bool} {p q : Nat} {tm : Bool} (hc : c ≠ b) (h : Jm b o xs w) : Jm b o xs (w.setChan c cap buf cl p q tm) := by
  intro k hk
  rw [← h k hk]
  simp [World.cell?, World.setChan, Array.getElem?_setIfInBounds_ne hc]
theorem d_alloc {P : Program} {w w' : World} {es : Array Event} (h : es = #[]) : (Mode.aside (P := P)).C.D w w' es := by subst h; exact fun e he => by simp at he

/-- what stands ahead of the go statement -/
def Laid (b o c : Nat) (xs : List Int) (x0 : Int) (w : World) (a : Act) (w' : World) : Prop :=
  ∃ c1 c2, w.heap.size < c1 ∧ w.heap.size < c2 ∧ c1 < w.heap.size + 3 ∧ c2 < w.heap.size + 3 ∧ c1 ≠ c2 ∧ w'.heap[c1]? = some (.chan 0 #[] false 0 0 false) ∧ w'.heap[c2]? = some (.chan 0 #[] false 0 0 false) ∧
    Blk w' w.heap.size 49 #[.slice none 0 0, .int .i64 0] ∧ Turned w w' [] ∧ w'.heap.size = w.heap.size + 3 ∧
    a = { tmps := #[.slice (some ⟨b, o, none⟩) xs.length c, .int .i64 x0, undef, undef, .pointer (some ⟨w.heap.size, 0, none⟩), .chan (some c1), .chan (some c2), undef, .chan (some c1), .chan (some c2), undef, undef, undef, undef, undef, undef, undef, undef, undef, undef, undef, undef, undef, undef, undef, undef, undef, undef, undef, undef, undef, undef, undef, undef, undef, undef, undef, undef, undef, undef, undef, undef, undef], defers := [] }

theorem under_ch (w : World) : (underlying 59).run Try.prog w = .ok (.chan .both 3) w := by simp [go_sem]

theorem turned_met (u : World) (d c k : Nat) (cl : Bool) : Turned u (metW u d c k cl) [c] := ⟨rfl, rfl, rfl, by simp [metW, World.setChan, World.at], fun i _ hn => by
  show (u.heap.setIfInBounds c _)[i]? = _
  rw [Array.getElem?_setIfInBounds_ne (by rintro rfl; simp at hn)]⟩
theorem turned_met' {w u : World} {d c k : Nat} {cl : Bool} (h : Turned w u []) (hc : w.heap.size ≤ c) : Turned w (metW u d c k cl) [] :=
  ⟨h.os, h.tape, h.output, by have := (turned_met u d c k cl).size; have := h.size; omega, fun i hi _ => ((turned_met u d c k cl).block i (by have := h.size; omega) (by simp; omega)).trans (h.block i hi (by simp))⟩

theorem turned_at {w u : World} {L : List Nat} (h : Turned w u L) (d : Nat) : Turned w (u.at d) L := ⟨h.os, h.tape, h.output, h.size, h.block⟩
/-- what stands while the course is walked: it has taken l, and stands at p -/
structure Cs (w : World) (v : Value) (l : List Int) (p : Int) (u : World) : Prop where
  T : Turned w u []
  sz : w.heap.size + 4 ≤ u.heap.size
  B : Blk u w.heap.size 49 #[.slice none 0 0, .int .i64 0]
  G : Blk u (w.heap.size + 3) 49 #[v, .int .i64 p]
  own : OwnI u (w.heap.size + 4) v l
theorem Cs.at {w u : World} {v : Value} {l : List Int} {p : Int} (h : Cs w v l p u) (d : Nat) : Cs w v l p (u.at d) := ⟨turned_at h.T d, h.sz, h.B, h.G, h.own⟩
theorem ev_slice (P : Program) (w : World) (es : Array Event) (a : Addr) (A : Option Addr) (n c : Nat) (m : Go.Mode) : (store a (.slice A n c) m).events P w es = storedEv P w es a (.slice A n c) m := events_store P w es a _ m rfl
theorem turned_set (u : World) (g i : Nat) (x : Value) : Turned u (u.setCell ⟨g, i, none⟩ x) [g] := ⟨rfl, rfl, rfl, by simp [World.setCell], fun k _ hn => Below.heap_setCell _ _ _ _ (by simpa using hn)⟩
theorem turned_far {w u u' : World} {L : List Nat} (h : Turned w u []) (k : Turned u u' L) (hL : ∀ i ∈ L, w.heap.size ≤ i) : Turned w u' [] :=
  ⟨k.os.trans h.os, k.tape.trans h.tape, k.output.trans h.output, Nat.le_trans h.size k.size, fun i hi hn => (k.block i (Nat.lt_of_lt_of_le hi h.size) (fun hm => by have := hL i hm; omega)).trans (h.block i hi hn)⟩
theorem Cs.put1 {w u : World} {v : Value} {l : List Int} {p : Int} (h : Cs w v l p u) (p' : Int) : Cs w v l p' (u.setCell ⟨w.heap.size + 3, 1, none⟩ (.int .i64 p')) :=
  ⟨turned_far h.T (turned_set _ _ _ _) (by simp), Nat.le_trans h.sz (turned_set _ _ _ _).size, h.B.far (by simp) _, h.G.set_ 1 _, h.own.turned (turned_set _ _ _ _) (fun k hk => by have := (h.own.lt k hk).1; simp; omega)⟩
theorem Cs.put0 {w u u' : World} {v v' : Value} {l l' : List Int} {p : Int} {d : Nat} (h : Cs w v l p u) (hT : Turned (u.at d) u' (ownL v)) (ho : OwnI u' (w.heap.size + 4) v' l') : Cs w v' l' p (u'.setCell ⟨w.heap.size + 3, 0, none⟩ v') := by
  have far : ∀ k ∈ ownL v, w.heap.size + 4 ≤ k := fun k hk => (h.own.lt k (ownL_mem hk)).1
  have h1 : Turned w u' [] := turned_far (turned_at h.T d) hT (fun i hi => by have := far i hi; omega)
  exact ⟨turned_far h1 (turned_set _ _ _ _) (by simp), Nat.le_trans h.sz (Nat.le_trans hT.size (turned_set _ _ _ _).size), ((show Blk (u.at d) _ _ _ from h.B).turned hT (fun hm => by have := far _ hm; omega)).far (by simp) _,
    ((show Blk (u.at d) _ _ _ from h.G).turned hT (fun hm => by have := far _ hm; omega)).set_ 0 _, ho.turned (turned_set _ _ _ _) (fun k hk => by have := (ho.lt k hk).1; simp; omega)⟩
theorem Cs.more {w u u' : World} {v : Value} {l : List Int} {p : Int} (h : Cs w v l p u) (hT : Turned u u' []) : Cs w v l p u' :=
  ⟨turned_far h.T hT (by simp), Nat.le_trans h.sz hT.size, h.B.turned hT (by simp), h.G.turned hT (by simp), h.own.turned hT (by simp)⟩
/-- it has met the sender -/
theorem Cs.met {w u : World} {v : Value} {l : List Int} {p : Int} (h : Cs w v l p u) {c1 : Nat} (h1 : w.heap.size < c1) (h2 : c1 < w.heap.size + 3) (d k : Nat) (cl : Bool) : Cs w v l p (metW u d c1 k cl) :=
  ⟨turned_met' h.T (by omega), Nat.le_trans h.sz (turned_met _ _ _ _ _).size, h.B.turned (turned_met _ _ _ _ _) (by simp; omega), h.G.turned (turned_met _ _ _ _ _) (by simp; omega), h.own.turned (turned_met _ _ _ _ _) (fun k hk => by have := (h.own.lt k hk).1; simp; omega)⟩

/-- the course: f places more at most -/
def walkB (xs : List Int) : Nat → List Int → Int → List Int × Int
  | 0, l, p => (l, p)
  | f + 1, l, p => if inB p 0 ((xs.length : Int) - 1) && !decide (p ∈ l) then walkB xs f (l ++ [p]) (nextI xs p) else (l, p)
def courseB (xs : List Int) (x0 : Int) : List Int × Int := walkB xs (xs.length + 1) [] x0

theorem at_size (w : World) (d : Nat) : (w.at d).heap.size = w.heap.size := rfl

theorem laid_of {b o c c1 c2 : Nat} {xs : List Int} {x0 : Int} {w W : World} {a : Act} (h : c1 = w.heap.size + 1 ∧ c2 = w.heap.size + 2 ∨ c1 = w.heap.size + 2 ∧ c2 = w.heap.size + 1) (h1 : W.os = w.os) (h2 : W.tape = w.tape) (h3 : W.output = w.output)
    (hh : W.heap = ((w.heap.push (.cells #[.slice none 0 0, .int .i64 0] 49)).push (.chan 0 #[] false 0 0 false)).push (.chan 0 #[] false 0 0 false))
    (ha : a = { tmps := #[.slice (some ⟨b, o, none⟩) xs.length c, .int .i64 x0, undef, undef, .pointer (some ⟨w.heap.size, 0, none⟩), .chan (some c1), .chan (some c2), undef, .chan (some c1), .chan (some c2), undef, undef, undef, undef, undef, undef, undef, undef, undef, undef, undef, undef, undef, undef, undef, undef, undef, undef, undef, undef, undef, undef, undef, undef, undef, undef, undef, undef, undef, undef, undef, undef, undef], defers := [] }) : Laid b o c xs x0 w a W := by
  obtain ⟨m0, m1, m2, m3, m4, m5, m6, m7⟩ := made3 h1 h2 h3 hh
  have hT : Turned w W [] := ⟨m5, m6, m7, by omega, fun k hk _ => m0 k hk⟩
  rcases h with ⟨rfl, rfl⟩ | ⟨rfl, rfl⟩
  · exact ⟨_, _, by omega, by omega, by omega, by omega, by omega, m2, m3, m1, hT, m4, ha⟩
  · exact ⟨_, _, by omega, by omega, by omega, by omega, by omega, m3, m2, m1, hT, m4, ha⟩

set_option maxRecDepth 100000 in
set_option maxHeartbeats 4000000 in
theorem courseOf_any (b o c : Nat) (xs : List Int) (x0 : Int) (w : World) (hJ : jumpsB xs = true) (hr : Jm b o xs w) (hb : b < w.heap.size) :
    CallsR Try.prog 43 #[.slice (some ⟨b, o, none⟩) xs.length c, .int .i64 x0] w fun v w' => ∃ pv, v = .agg #[pv, .int .i64 (courseB xs x0).2] ∧ OwnI w' w.heap.size pv (courseB xs x0).1 ∧ Below w.heap.size w w' := by
  refine callsR_of_wpM Try.func43 rfl ?_
  simp only [Try.ntmps43, List.size_toArray, List.length_cons, List.length_nil, Nat.reduceAdd, Nat.reduceSub, Array.replicate_succ, Array.replicate_zero, List.push_toArray, List.append_toArray, List.nil_append, List.cons_append]
  iterate 2 (first | ((first | refine WpM.seq ?_ | refine WpM.block ?_ | refine WpM.region ?_ | refine WpM.region_end ?_ | refine WpM.ret ?_ | refine WpM.skip ?_ | refine WpM.exit ?_); try simp only [thenM, inBlockM, if_true, if_false, reduceIte, Nat.reduceEqDiff, List.size_toArray, List.length_cons, List.length_nil, Nat.reduceAdd, Nat.zero_add, List.range, List.range.loop]) | (refine WpM.op_k rfl (by rfl) ?_; intro zu zR; obtain ⟨dd, zh⟩ := zR; subst zh; (try simp only [at_at']); intro zK zhK; go_simp; (try (unfold stored; go_simp)); refine zhK _ _ ⟨?_, ?_⟩; (focus (refine m_idle ?_; simp [go_sem, Instr.field, asAgg]; done)); clear zhK zK; try walk_nrm) | fail)
  (refine WpM.op_k rfl (by rfl) ?_; intro zu zR; obtain ⟨dd, zh⟩ := zR; subst zh; (try simp only [at_at']); intro zK zhK; go_simp; (try (unfold stored; go_simp)); refine zhK _ _ ⟨?_, ?_⟩; (focus (exact d_alloc (listed_nil (by simp [go_sem])); done)); clear zhK zK; try walk_nrm)
  iterate 2 (first | ((first | refine WpM.seq ?_ | refine WpM.block ?_ | refine WpM.region ?_ | refine WpM.region_end ?_ | refine WpM.ret ?_ | refine WpM.skip ?_ | refine WpM.exit ?_); try simp only [thenM, inBlockM, if_true, if_false, reduceIte, Nat.reduceEqDiff, List.size_toArray, List.length_cons, List.length_nil, Nat.reduceAdd, Nat.zero_add, List.range, List.range.loop]) | (refine WpM.op_k rfl (by rfl) ?_; intro zu zR; obtain ⟨dd, zh⟩ := zR; subst zh; (try simp only [at_at']); intro zK zhK; go_simp; (try (unfold stored; go_simp)); refine zhK _ _ ⟨?_, ?_⟩; (focus (refine m_idle ?_; simp [go_sem, Instr.field, asAgg]; done)); clear zhK zK; try walk_nrm) | fail)
  refine WpM.held (M := fun a' w' => Laid b o c xs x0 w a' w') (by first | kernel_rfl | rfl) (fun _ => ?_) ?_
  · simp only [List.size_toArray, List.length_cons, List.length_nil, Nat.reduceAdd, Nat.reduceSub, Array.replicate_succ, Array.replicate_zero, List.push_toArray, List.append_toArray, List.nil_append, List.cons_append]
    refine anyCH_all (rs := [0, 1]) (by first | kernel_rfl | decide +kernel) (by simp) ?_
    intro i hi
    simp only [List.mem_cons, List.not_mem_nil, or_false] at hi
    rcases hi with rfl | rfl
    · (refine opC_k rfl (by rfl) ?_; intro zu zR; obtain ⟨zd, zh⟩ := zR; subst zh; (try simp only [at_at']); intro zK zhK; go_simp; refine zhK _ _ ⟨?_, trivial, ?_⟩; (focus (exact d_alloc (listed_nil (by simp [go_sem, Instr.makeChan])); done)); clear zhK zK; (try walk_nrm); try simp only [List.set_toArray, List.set_cons_zero, List.set_cons_succ])
      refine anyCH_all (rs := [1, 2]) (by first | kernel_rfl | decide +kernel) (by simp) ?_
      intro i hi
      simp only [List.mem_cons, List.not_mem_nil, or_false] at hi
      rcases hi with rfl | rfl
      · (refine opC_k rfl (by rfl) ?_; intro zu zR; obtain ⟨zd, zh⟩ := zR; subst zh; (try simp only [at_at']); intro zK zhK; go_simp; refine zhK _ _ ⟨?_, trivial, ?_⟩; (focus (exact d_alloc (listed_nil (by simp [go_sem, Instr.makeChan])); done)); clear zhK zK; (try walk_nrm); try simp only [List.set_toArray, List.set_cons_zero, List.set_cons_succ])
        refine anyCH_all (rs := [2]) (by first | kernel_rfl | decide +kernel) (by simp) (fun i hi => ?_)
        simp only [List.mem_cons, List.not_mem_nil, or_false] at hi
        subst hi
        (refine opC_k rfl (by rfl) ?_; intro zu zR; obtain ⟨zd, zh⟩ := zR; subst zh; (try simp only [at_at']); intro zK zhK; go_simp; refine zhK _ _ ⟨?_, trivial, ?_⟩; (focus (exact m_idle (by simp [go_sem]); done)); clear zhK zK; (try walk_nrm); try simp only [List.set_toArray, List.set_cons_zero, List.set_cons_succ])
        refine anyCH_all (rs := [3]) (by first | kernel_rfl | decide +kernel) (by simp) (fun i hi => ?_)
        simp only [List.mem_cons, List.not_mem_nil, or_false] at hi
        subst hi
        (refine opC_k rfl (by rfl) ?_; intro zu zR; obtain ⟨zd, zh⟩ := zR; subst zh; (try simp only [at_at']); intro zK zhK; go_simp; refine zhK _ _ ⟨?_, trivial, ?_⟩; (focus (exact m_idle (by simp [go_sem]); done)); clear zhK zK; (try walk_nrm); try simp only [List.set_toArray, List.set_cons_zero, List.set_cons_succ])
        exact anyCH_done (by first | kernel_rfl | decide +kernel) ⟨rfl, laid_of (.inl ⟨by simp [World.alloc, World.at], by simp [World.alloc, World.at]⟩) rfl rfl rfl rfl rfl⟩ _
      · (refine opC_k rfl (by rfl) ?_; intro zu zR; obtain ⟨zd, zh⟩ := zR; subst zh; (try simp only [at_at']); intro zK zhK; go_simp; refine zhK _ _ ⟨?_, trivial, ?_⟩; (focus (exact m_idle (by simp [go_sem]); done)); clear zhK zK; (try walk_nrm); try simp only [List.set_toArray, List.set_cons_zero, List.set_cons_succ])
        refine anyCH_all (rs := [1]) (by first | kernel_rfl | decide +kernel) (by simp) (fun i hi => ?_)
        simp only [List.mem_cons, List.not_mem_nil, or_false] at hi
        subst hi
        (refine opC_k rfl (by rfl) ?_; intro zu zR; obtain ⟨zd, zh⟩ := zR; subst zh; (try simp only [at_at']); intro zK zhK; go_simp; refine zhK _ _ ⟨?_, trivial, ?_⟩; (focus (exact d_alloc (listed_nil (by simp [go_sem, Instr.makeChan])); done)); clear zhK zK; (try walk_nrm); try simp only [List.set_toArray, List.set_cons_zero, List.set_cons_succ])
        refine anyCH_all (rs := [3]) (by first | kernel_rfl | decide +kernel) (by simp) (fun i hi => ?_)
        simp only [List.mem_cons, List.not_mem_nil, or_false] at hi
        subst hi
        (refine opC_k rfl (by rfl) ?_; intro zu zR; obtain ⟨zd, zh⟩ := zR; subst zh; (try simp only [at_at']); intro zK zhK; go_simp; refine zhK _ _ ⟨?_, trivial, ?_⟩; (focus (exact m_idle (by simp [go_sem]); done)); clear zhK zK; (try walk_nrm); try simp only [List.set_toArray, List.set_cons_zero, List.set_cons_succ])
        exact anyCH_done (by first | kernel_rfl | decide +kernel) ⟨rfl, laid_of (.inl ⟨by simp [World.alloc, World.at], by simp [World.alloc, World.at]⟩) rfl rfl rfl rfl rfl⟩ _
    · (refine opC_k rfl (by rfl) ?_; intro zu zR; obtain ⟨zd, zh⟩ := zR; subst zh; (try simp only [at_at']); intro zK zhK; go_simp; refine zhK _ _ ⟨?_, trivial, ?_⟩; (focus (exact d_alloc (listed_nil (by simp [go_sem, Instr.makeChan])); done)); clear zhK zK; (try walk_nrm); try simp only [List.set_toArray, List.set_cons_zero, List.set_cons_succ])
      refine anyCH_all (rs := [0]) (by first | kernel_rfl | decide +kernel) (by simp) (fun i hi => ?_)
      simp only [List.mem_cons, List.not_mem_nil, or_false] at hi
      subst hi
      (refine opC_k rfl (by rfl) ?_; intro zu zR; obtain ⟨zd, zh⟩ := zR; subst zh; (try simp only [at_at']); intro zK zhK; go_simp; refine zhK _ _ ⟨?_, trivial, ?_⟩; (focus (exact d_alloc (listed_nil (by simp [go_sem, Instr.makeChan])); done)); clear zhK zK; (try walk_nrm); try simp only [List.set_toArray, List.set_cons_zero, List.set_cons_succ])
      refine anyCH_all (rs := [2]) (by first | kernel_rfl | decide +kernel) (by simp) (fun i hi => ?_)
      simp only [List.mem_cons, List.not_mem_nil, or_false] at hi
      subst hi
      (refine opC_k rfl (by rfl) ?_; intro zu zR; obtain ⟨zd, zh⟩ := zR; subst zh; (try simp only [at_at']); intro zK zhK; go_simp; refine zhK _ _ ⟨?_, trivial, ?_⟩; (focus (exact m_idle (by simp [go_sem]); done)); clear zhK zK; (try walk_nrm); try simp only [List.set_toArray, List.set_cons_zero, List.set_cons_succ])
      refine anyCH_all (rs := [3]) (by first | kernel_rfl | decide +kernel) (by simp) (fun i hi => ?_)
      simp only [List.mem_cons, List.not_mem_nil, or_false] at hi
      subst hi
      (refine opC_k rfl (by rfl) ?_; intro zu zR; obtain ⟨zd, zh⟩ := zR; subst zh; (try simp only [at_at']); intro zK zhK; go_simp; refine zhK _ _ ⟨?_, trivial, ?_⟩; (focus (exact m_idle (by simp [go_sem]); done)); clear zhK zK; (try walk_nrm); try simp only [List.set_toArray, List.set_cons_zero, List.set_cons_succ])
      exact anyCH_done (by first | kernel_rfl | decide +kernel) ⟨rfl, laid_of (.inr ⟨by simp [World.alloc, World.at], by simp [World.alloc, World.at]⟩) rfl rfl rfl rfl rfl⟩ _
  · rintro a w' ⟨c1, c2, l1, l2, k1, k2, h12, hc1, hc2, hB, hT, hsz, rfl⟩
    simp only [thenM, inBlockM, if_true, if_false, reduceIte, Nat.reduceEqDiff, List.size_toArray, List.length_cons, List.length_nil, Nat.reduceAdd, Nat.zero_add, List.range, List.range.loop]
    have hbw : b < w'.heap.size := by omega
    have hJw : Jm b o xs w' := jm_turned hr hT hb (by simp)
    iterate 6 (first | ((first | refine WpM.seq ?_ | refine WpM.block ?_ | refine WpM.region ?_ | refine WpM.region_end ?_ | refine WpM.ret ?_ | refine WpM.skip ?_ | refine WpM.exit ?_); try simp only [thenM, inBlockM, if_true, if_false, reduceIte, Nat.reduceEqDiff, List.size_toArray, List.length_cons, List.length_nil, Nat.reduceAdd, Nat.zero_add, List.range, List.range.loop]) | (refine WpM.op_k rfl (by rfl) ?_; intro zu zR; obtain ⟨dd, zh⟩ := zR; subst zh; (try simp only [at_at']); intro zK zhK; go_simp; (try (unfold stored; go_simp)); refine zhK _ _ ⟨?_, ?_⟩; (focus (refine m_idle ?_; simp [go_sem, Instr.field, asAgg]; done)); clear zhK zK; try walk_nrm) | fail)
    refine WpM.go (x := x0) (fun m hm => (sendsB (b := b) (o := o) (c := c) (c1 := c1) (c2 := c2) (N := w.heap.size + 3) (Jm b o xs) (fun _ h => h) (by omega) hJ x0).gen m hm k1 k2 h12 (fun _ _ h => h) (fun _ _ _ _ _ _ _ _ hc h => jm_chan (by rcases hc with rfl | rfl <;> omega) h)) (w.heap.size + 3) (fun _ _ => rfl) (fun _ _ => rfl)
      (dd := dcall 61 #[.slice (some ⟨b, o, none⟩) xs.length c, .int .i64 x0, .chan (some c1), .chan (some c2)]) (c := #[]) rfl (by rfl) (fun u => ?_) (fun u => ?_) rfl (fun _ _ => hJw) (fun _ _ => ⟨0, hc1⟩) (fun _ _ => ⟨0, hc2⟩)
      (fun _ _ => (sendsB (b := b) (o := o) (c := c) (c1 := c1) (c2 := c2) (N := w.heap.size + 3) (Jm b o xs) (fun _ h => h) (by omega) hJ x0).born.start) ?_
    · simp [execOp, resolve, Deferred.ofValue, dcall, Act.eval]
    · simp [execOp, resolve, Deferred.ofValue, Act.eval]
    intro m hm d
    refine wpm_abs fun X hXc1 hXc2 hXK hXN hXn => ?_
    replace hXc1 : X.c1 = c1 := hXc1
    replace hXc2 : X.c2 = c2 := hXc2
    replace hXK : X.K = Jm b o xs := hXK
    replace hXN : X.N = w.heap.size + 3 := hXN
    replace hXn : X.nx = nextI xs := hXn
    iterate 4 (first | ((first | refine WpM.seq ?_ | refine WpM.block ?_ | refine WpM.region ?_ | refine WpM.region_end ?_ | refine WpM.ret ?_ | refine WpM.skip ?_ | refine WpM.exit ?_); try simp only [thenM, inBlockM, if_true, if_false, reduceIte, Nat.reduceEqDiff, List.size_toArray, List.length_cons, List.length_nil, Nat.reduceAdd, Nat.zero_add, List.range, List.range.loop]) | (refine WpM.op_k rfl (by rfl) ?_; intro zu zR; obtain ⟨dd, zh⟩ := zR; subst zh; (try simp only [at_at']); intro zK zhK; go_simp; (try (unfold stored; go_simp)); refine zhK _ _ ⟨?_, ?_⟩; (focus (refine m_idle ?_; simp [go_sem, Instr.field, asAgg]; done)); clear zhK zK; try walk_nrm) | fail)
    refine WpM.recv (z := .int .i64 0) rfl (by rfl) (fun u => ?_) (fun u => ?_) (fun d1 k => ?_)
    · rw [hXc1]
      exact run_recv1 (P := Try.prog) rfl rfl under_ch zero_int u
    · exact events_recv1 (P := Try.prog) rfl under_ch u
    rw [hXn, hXc1]
    try walk_nrm
    have hT3 : Turned w (metW w' d1 c1 k false) [] := turned_met' hT (by omega)
    have hB3 : Blk (metW w' d1 c1 k false) w.heap.size 49 #[.slice none 0 0, .int .i64 0] := hB.turned (turned_met _ _ _ _ _) (by simp; omega)
    have hs3 : (metW w' d1 c1 k false).heap.size = w.heap.size + 3 := by simp [metW, World.setChan, World.at, hsz]
    change WpM _ _ _ _ _ (metW w' d1 c1 k false)
    generalize metW w' d1 c1 k false = u at hT3 hB3 hs3
    (refine WpM.op_k rfl (by rfl) ?_; intro zu zR; obtain ⟨dd, zh⟩ := zR; subst zh; (try simp only [at_at']); intro zK zhK; go_simp; (try (unfold stored; go_simp)); refine zhK _ _ ⟨?_, ?_⟩; (focus (refine m_idle ?_; simp [go_sem, Instr.field, asAgg]; done)); clear zhK zK; try walk_nrm)
    (refine WpM.op_k rfl (by rfl) ?_; intro zu zR; obtain ⟨dd, zh⟩ := zR; subst zh; (try simp only [at_at']); intro zK zhK; go_simp; (try (unfold stored; go_simp)); refine zhK _ _ ⟨?_, ?_⟩; (focus (change DG _ _ _ _; exact d_turn (L := []) hXK hXN (by omega) (by show _ ≤ u.heap.size; omega) (Turned.of_below (below_alloc _ _) _) (by simp) (by rw [listed_nil (by simp [go_sem])]; simp); done)); clear zhK zK; try walk_nrm)
    simp only [at_size, at_at', hs3]
    have hT4 : Turned w ((u.at dd).alloc (.cells #[.slice none 0 0, .int .i64 0] 49)) [] := (turned_at hT3 dd).trans (Turned.of_below (below_alloc (u.at dd) _) _)
    have hB4 : Blk ((u.at dd).alloc (.cells #[.slice none 0 0, .int .i64 0] 49)) w.heap.size 49 #[.slice none 0 0, .int .i64 0] := Blk.alloc (w := u.at dd) hB3 _
    have hG4 : Blk ((u.at dd).alloc (.cells #[.slice none 0 0, .int .i64 0] 49)) (w.heap.size + 3) 49 #[.slice none 0 0, .int .i64 0] := Blk.new' (w := u.at dd) hs3.symm
    have hs4 : ((u.at dd).alloc (.cells #[.slice none 0 0, .int .i64 0] 49)).heap.size = w.heap.size + 4 := by simp [World.alloc, World.at, hs3]
    generalize (u.at dd).alloc (.cells #[.slice none 0 0, .int .i64 0] 49) = U at hT4 hB4 hG4 hs4
    (refine WpM.op_k rfl (by rfl) ?_; intro zu zR; obtain ⟨d3, zh⟩ := zR; subst zh; (try simp only [at_at']); intro zK zhK; (have hG5 : Blk (U.at d3) _ _ _ := hG4; have k0 := hG5.cell 0; have k1 := hG5.cell 1; have f0 := hG5.frozen 0; have f1 := hG5.frozen 1); go_simp; (try (unfold stored; go_simp)); refine zhK _ _ ⟨?_, ?_⟩; (focus (change DG _ _ _ _; refine d_turn (L := [w.heap.size + 3]) hXK hXN (by omega) (by show _ ≤ U.heap.size; omega) ((turned_set _ _ _ _).trans (turned_set _ _ _ _)) (by simp) (fun e he => ?_); have hm := mem_listed he; simp [go_sem, ev_slice, k0, k1, f0, f1] at hm; rcases hm with rfl | rfl <;> exact does_cell (fun _ => Nat.le_refl _); done)); clear zhK zK; try walk_nrm)
    have hC : Cs w (.slice none 0 0) [] x0 (((U.at d3).setCell ⟨w.heap.size + 3, 0, none⟩ (.slice none 0 0)).setCell ⟨w.heap.size + 3, 1, none⟩ (.int .i64 x0)) :=
      ⟨turned_far (turned_at hT4 d3) ((turned_set _ _ _ _).trans (turned_set _ _ _ _)) (by simp), by show _ ≤ ((U.setCell _ _).setCell _ _).heap.size; have := (turned_set U (w.heap.size + 3) 0 (.slice none 0 0)).size; have := (turned_set (U.setCell ⟨w.heap.size + 3, 0, none⟩ (.slice none 0 0)) (w.heap.size + 3) 1 (.int .i64 x0)).size; omega,
        ((show Blk (U.at d3) _ _ _ from hB4).far (by simp) _).far (by simp) _, ((show Blk (U.at d3) _ _ _ from hG4).set_ 0 _).set_ 1 _, OwnI.nil _ _⟩
    generalize World.setCell _ _ _ = V at hC
    clear hG5 k0 k1 f0 f1 hT4 hB4 hG4 hs4 hT3 hB3 hs3
    iterate 2 (first | ((first | refine WpM.seq ?_ | refine WpM.block ?_ | refine WpM.region ?_ | refine WpM.region_end ?_ | refine WpM.ret ?_ | refine WpM.skip ?_ | refine WpM.exit ?_); try simp only [thenM, inBlockM, if_true, if_false, reduceIte, Nat.reduceEqDiff, List.size_toArray, List.length_cons, List.length_nil, Nat.reduceAdd, Nat.zero_add, List.range, List.range.loop]) | (refine WpM.op_k rfl (by rfl) ?_; intro zu zR; obtain ⟨dd, zh⟩ := zR; subst zh; (try simp only [at_at']); intro zK zhK; go_simp; (try (unfold stored; go_simp)); refine zhK _ _ ⟨?_, ?_⟩; (focus (refine m_idle ?_; simp [go_sem, Instr.field, asAgg]; done)); clear zhK zK; try walk_nrm) | fail)
    refine WpM.mono (Q := thenM (fun m' a u => ∃ (v : Value) (l : List Int) (p : Int) (t17 t18 t19 t20 t21 t22 t23 t24 t25 t26 t27 t28 t29 t30 t31 t32 t33 t34 t35 t36 t37 t38 : Value), m' = .gen X (nextI xs p) ∧ Cs w v l p u ∧ (l, p) = courseB xs x0 ∧ a = { tmps := #[.slice (some ⟨b, o, none⟩) xs.length c, .int .i64 x0, undef, undef, .pointer (some ⟨w.heap.size, 0, none⟩), .chan (some c1), .chan (some c2), .pointer (some ⟨w.heap.size + 3, 0, none⟩), .chan (some c1), .chan (some c2), .slice (some ⟨b, o, none⟩) xs.length c, .int .i64 x0, .chan (some c1), .chan (some c2), .chan (some c1), .int .i64 x0, .agg #[.slice none 0 0, .int .i64 x0], t17, t18, t19, t20, t21, t22, t23, t24, t25, t26, t27, t28, t29, t30, t31, t32, t33, t34, t35, t36, t37, t38, undef, undef, undef, undef], defers := [] }) (fun _ _ _ _ => False)) ?_ (fun e m' a u hq => ?_)
    rotate_left
    · cases e with
      | normal =>
        obtain ⟨v, l, p, t17, t18, t19, t20, t21, t22, t23, t24, t25, t26, t27, t28, t29, t30, t31, t32, t33, t34, t35, t36, t37, t38, rfl, hC, hlp, rfl⟩ := hq
        simp only [thenM, inBlockM, if_true, if_false, reduceIte, Nat.reduceEqDiff, List.size_toArray, List.length_cons, List.length_nil, Nat.reduceAdd, Nat.zero_add, List.range, List.range.loop]
        obtain ⟨A9, c9, rfl, _⟩ := hC.own.form
        refine WpM.part (z2 := .tuple #[]) (z4 := .int .i64 0) (by rfl) (fun u => rfl) (fun u => rfl) rfl (by rfl) (fun u => ?_) (fun u => ?_) rfl (by rfl) (fun u => rfl) (fun u => rfl) rfl (by rfl) (fun u => ?_) (fun u => ?_) (fun d d' k k' => ?_)
        · rw [hXc2]; exact run_send1 (P := Try.prog) rfl (by rfl) (by rfl) u
        · exact events_send1 (P := Try.prog) rfl u
        · rw [hXc1]; exact run_recv1 (P := Try.prog) rfl rfl under_ch zero_int u
        · exact events_recv1 (P := Try.prog) rfl under_ch u
        rw [hXc1, hXc2]
        have hC9 := (hC.met l2 k2 d k false).met l1 k1 d' k' true
        generalize metW _ _ _ _ _ = U9 at hC9
        try walk_nrm
        iterate 2 (first | ((first | refine WpM.seq ?_ | refine WpM.block ?_ | refine WpM.region ?_ | refine WpM.region_end ?_ | refine WpM.ret ?_ | refine WpM.skip ?_ | refine WpM.exit ?_); try simp only [thenM, inBlockM, if_true, if_false, reduceIte, Nat.reduceEqDiff, List.size_toArray, List.length_cons, List.length_nil, Nat.reduceAdd, Nat.zero_add, List.range, List.range.loop]) | (refine WpM.op_k rfl (by rfl) ?_; intro zu zR; obtain ⟨dd, zh⟩ := zR; subst zh; (try simp only [at_at']); intro zK zhK; go_simp; (try (unfold stored; go_simp)); refine zhK _ _ ⟨?_, ?_⟩; (focus (refine m_idle ?_; simp [go_sem, Instr.field, asAgg]; done)); clear zhK zK; try walk_nrm) | fail)
        (refine WpM.op_k rfl (by rfl) ?_; intro zu zR; obtain ⟨dd, zh⟩ := zR; subst zh; (try simp only [at_at']); intro zK zhK; (have hG5 : Blk (U9.at dd) _ _ _ := hC9.G; have k0 := hG5.cell 0; have k1 := hG5.cell 1); go_simp; (try (unfold stored; go_simp)); refine zhK _ _ ⟨?_, ?_⟩; (focus (intro e he; have hm := mem_listed he; simp [go_sem, k0, k1] at hm; rcases hm with rfl | rfl <;> exact ⟨by simp, by simp⟩; done)); clear zhK zK; try walk_nrm)
        (refine WpM.op_k rfl (by rfl) ?_; intro zu zR; obtain ⟨ds, zh⟩ := zR; subst zh; (try simp only [at_at']); intro zK zhK; (have hB5 : Blk (U9.at ds) _ _ _ := hC9.B; have k0 := hB5.cell 0; have k1 := hB5.cell 1; have f0 := hB5.frozen 0; have f1 := hB5.frozen 1); go_simp; (try (unfold stored; go_simp)); refine zhK _ _ ⟨?_, ?_⟩; (focus (intro e he; have hm := mem_listed he; simp [go_sem, ev_slice, k0, k1, f0, f1] at hm; rcases hm with rfl | rfl <;> exact ⟨by simp, by simp⟩; done)); clear zhK zK; try walk_nrm)
        have hT10 : Turned w (((U9.at ds).setCell ⟨w.heap.size, 0, none⟩ (.slice A9 l.length c9)).setCell ⟨w.heap.size, 1, none⟩ (.int .i64 p)) [] := turned_far (turned_at hC9.T ds) ((turned_set _ _ _ _).trans (turned_set _ _ _ _)) (by simp)
        have hB10 : Blk (((U9.at ds).setCell ⟨w.heap.size, 0, none⟩ (.slice A9 l.length c9)).setCell ⟨w.heap.size, 1, none⟩ (.int .i64 p)) w.heap.size 49 #[.slice A9 l.length c9, .int .i64 p] := ((show Blk (U9.at ds) _ _ _ from hC9.B).set_ 0 _).set_ 1 _
        have hO10 : OwnI (((U9.at ds).setCell ⟨w.heap.size, 0, none⟩ (.slice A9 l.length c9)).setCell ⟨w.heap.size, 1, none⟩ (.int .i64 p)) w.heap.size (.slice A9 l.length c9) l := ((show OwnI (U9.at ds) _ _ _ from hC9.own).turned ((turned_set _ _ _ _).trans (turned_set _ _ _ _)) (fun k hk => by have := (hC9.own.lt k hk).1; simp; omega)).mono (by omega)
        generalize World.setCell _ _ _ = U10 at hT10 hB10 hO10
        iterate 2 (first | ((first | refine WpM.seq ?_ | refine WpM.block ?_ | refine WpM.region ?_ | refine WpM.region_end ?_ | refine WpM.ret ?_ | refine WpM.skip ?_ | refine WpM.exit ?_); try simp only [thenM, inBlockM, if_true, if_false, reduceIte, Nat.reduceEqDiff, List.size_toArray, List.length_cons, List.length_nil, Nat.reduceAdd, Nat.zero_add, List.range, List.range.loop]) | (refine WpM.op_k rfl (by rfl) ?_; intro zu zR; obtain ⟨dd, zh⟩ := zR; subst zh; (try simp only [at_at']); intro zK zhK; go_simp; (try (unfold stored; go_simp)); refine zhK _ _ ⟨?_, ?_⟩; (focus (refine m_idle ?_; simp [go_sem, Instr.field, asAgg]; done)); clear zhK zK; try walk_nrm) | fail)
        refine ⟨trivial, trivial, trivial, _, fun u hu => ?_, .slice A9 l.length c9, rfl, by rw [← hlp]; exact hO10, hT10.below (Nat.le_refl _) (by simp)⟩
        obtain ⟨d10, rfl⟩ := hu
        have hB11 : Blk (U10.at d10) _ _ _ := hB10
        have k0 := hB11.cell 0
        have k1 := hB11.cell 1
        refine ⟨?_, fun e he => ?_⟩
        · rw [← hlp]
          simp [results, Try.results43, go_sem, k0, k1]
        · have hm := mem_seen he
          simp [results, Try.results43, go_sem, k0, k1] at hm
          rcases hm with rfl | rfl <;> exact ⟨by simp, by simp⟩
      | _ => exact hq.elim
    ((first | refine WpM.seq ?_ | refine WpM.block ?_ | refine WpM.region ?_ | refine WpM.region_end ?_ | refine WpM.ret ?_ | refine WpM.skip ?_ | refine WpM.exit ?_); try simp only [thenM, inBlockM, if_true, if_false, reduceIte, Nat.reduceEqDiff, List.size_toArray, List.length_cons, List.length_nil, Nat.reduceAdd, Nat.zero_add, List.range, List.range.loop])
    refine WpM.loop (fun j m' a u => ∃ (v : Value) (l : List Int) (p : Int) (t17 t18 t19 t20 t21 t22 t23 t24 t25 t26 t27 t28 t29 t30 t31 t32 t33 t34 t35 t36 t37 t38 : Value), m' = .gen X (nextI xs p) ∧ Cs w v l p u ∧ l.Nodup ∧ (∀ y ∈ l, 0 ≤ y ∧ y < (xs.length : Int)) ∧ j + l.length = xs.length + 1 ∧ walkB xs j l p = courseB xs x0 ∧ a = { tmps := #[.slice (some ⟨b, o, none⟩) xs.length c, .int .i64 x0, undef, undef, .pointer (some ⟨w.heap.size, 0, none⟩), .chan (some c1), .chan (some c2), .pointer (some ⟨w.heap.size + 3, 0, none⟩), .chan (some c1), .chan (some c2), .slice (some ⟨b, o, none⟩) xs.length c, .int .i64 x0, .chan (some c1), .chan (some c2), .chan (some c1), .int .i64 x0, .agg #[.slice none 0 0, .int .i64 x0], t17, t18, t19, t20, t21, t22, t23, t24, t25, t26, t27, t28, t29, t30, t31, t32, t33, t34, t35, t36, t37, t38, undef, undef, undef, undef], defers := [] }) ?_ (xs.length + 1) ⟨_, [], x0, undef, undef, undef, undef, undef, undef, undef, undef, undef, undef, undef, undef, undef, undef, undef, undef, undef, undef, undef, undef, undef, undef, rfl, hC, by simp, by simp, by simp, rfl, rfl⟩
    rintro j m a u ⟨v, l, p, t17, t18, t19, t20, t21, t22, t23, t24, t25, t26, t27, t28, t29, t30, t31, t32, t33, t34, t35, t36, t37, t38, rfl, hC, hnd, hrg, hj, hwk, rfl⟩
    dsimp only
    have hl30 := jumpsB_le hJ
    have hle := nodup_le xs.length l hnd hrg
    obtain ⟨f, rfl⟩ : ∃ f, j = f + 1 := ⟨j - 1, by omega⟩
    obtain ⟨A, cc, rfl, hrd⟩ := hC.own.form
    obtain ⟨ki, hci⟩ := isOn_c (main := true) (Mode.terms (P := Try.prog) (.gen X (nextI xs p))) (some ⟨b, o, none⟩) xs.length c p (by omega)
    iterate 5 (first | ((first | refine WpM.seq ?_ | refine WpM.block ?_ | refine WpM.region ?_ | refine WpM.region_end ?_ | refine WpM.ret ?_ | refine WpM.skip ?_ | refine WpM.exit ?_); try simp only [thenM, inBlockM, if_true, if_false, reduceIte, Nat.reduceEqDiff, List.size_toArray, List.length_cons, List.length_nil, Nat.reduceAdd, Nat.zero_add, List.range, List.range.loop]) | (refine WpM.op_k rfl (by rfl) ?_; intro zu zR; obtain ⟨dd, zh⟩ := zR; subst zh; (try simp only [at_at']); intro zK zhK; go_simp; (try (unfold stored; go_simp)); refine zhK _ _ ⟨?_, ?_⟩; (focus (refine m_idle ?_; simp [go_sem, Instr.field, asAgg]; done)); clear zhK zK; try walk_nrm) | fail)
    (refine WpM.op_k rfl (by rfl) ?_; intro zu zR; obtain ⟨dd, zh⟩ := zR; subst zh; (try simp only [at_at']); intro zK zhK; (have hx : (u.at dd).cell? ⟨w.heap.size + 3, 1, none⟩ = some (.int .i64 p) := hC.G.cell 1); go_simp; (try (unfold stored; go_simp)); refine zhK _ _ ⟨?_, ?_⟩; (focus (refine Mode.look _ _ (looks_cells fun e he => ?_); have hm := mem_listed he; simp [go_sem, hx] at hm; exact ⟨_, hm⟩; done)); clear zhK zK; try walk_nrm)
    refine WpM.callC (v := .bool (inB p 0 ((xs.length : Int) - 1))) rfl (by rfl) rfl (by simpa [Act.eval] using hci _ _ (Since.refl _)) (fun d5 => ?_)
    try walk_nrm
    try simp only [at_at']
    (refine WpM.op_k rfl (by rfl) ?_; intro zu zR; obtain ⟨dd, zh⟩ := zR; subst zh; (try simp only [at_at']); intro zK zhK; go_simp; (try (unfold stored; go_simp)); refine zhK _ _ ⟨?_, ?_⟩; (focus (refine m_idle ?_; simp [go_sem, Instr.field, asAgg]; done)); clear zhK zK; try walk_nrm)
    cases h1 : inB p 0 ((xs.length : Int) - 1)
    · repeat (refine WpM.unwanted rfl (by rfl) ?_; try walk_nrm)
      iterate 2 (first | ((first | refine WpM.seq ?_ | refine WpM.block ?_ | refine WpM.region ?_ | refine WpM.region_end ?_ | refine WpM.ret ?_ | refine WpM.skip ?_ | refine WpM.exit ?_); try simp only [thenM, inBlockM, if_true, if_false, reduceIte, Nat.reduceEqDiff, List.size_toArray, List.length_cons, List.length_nil, Nat.reduceAdd, Nat.zero_add, List.range, List.range.loop]) | (refine WpM.op_k rfl (by rfl) ?_; intro zu zR; obtain ⟨dd, zh⟩ := zR; subst zh; (try simp only [at_at']); intro zK zhK; go_simp; (try (unfold stored; go_simp)); refine zhK _ _ ⟨?_, ?_⟩; (focus (refine m_idle ?_; simp [go_sem, Instr.field, asAgg]; done)); clear zhK zK; try walk_nrm) | fail)
      refine WpM.cond (t := false) (by simp [Act.eval]) ?_
      simp only [if_false, Bool.false_eq_true]
      ((first | refine WpM.seq ?_ | refine WpM.block ?_ | refine WpM.region ?_ | refine WpM.region_end ?_ | refine WpM.ret ?_ | refine WpM.skip ?_ | refine WpM.exit ?_); try simp only [thenM, inBlockM, if_true, if_false, reduceIte, Nat.reduceEqDiff, List.size_toArray, List.length_cons, List.length_nil, Nat.reduceAdd, Nat.zero_add, List.range, List.range.loop])
      exact ⟨_, l, p, _, _, _, _, _, _, _, _, _, _, _, _, _, _, _, _, _, _, _, _, _, _, rfl, hC.at _, by rw [← hwk, walkB, h1]; simp, rfl⟩
    · have hp := inB_le h1
      (refine WpM.op_k rfl (by rfl) ?_; intro zu zR; obtain ⟨dd, zh⟩ := zR; subst zh; (try simp only [at_at']); intro zK zhK; go_simp; (try (unfold stored; go_simp)); refine zhK _ _ ⟨?_, ?_⟩; (focus (refine m_idle ?_; simp [go_sem, Instr.field, asAgg]; done)); clear zhK zK; try walk_nrm)
      (refine WpM.op_k rfl (by rfl) ?_; intro zu zR; obtain ⟨dd, zh⟩ := zR; subst zh; (try simp only [at_at']); intro zK zhK; (have hx : (u.at dd).cell? ⟨w.heap.size + 3, 0, none⟩ = some (.slice A l.length cc) := hC.G.cell 0); go_simp; (try (unfold stored; go_simp)); refine zhK _ _ ⟨?_, ?_⟩; (focus (refine Mode.look _ _ (looks_cells fun e he => ?_); have hm := mem_listed he; simp [go_sem, hx] at hm; exact ⟨_, hm⟩; done)); clear zhK zK; try walk_nrm)
      (refine WpM.op_k rfl (by rfl) ?_; intro zu zR; obtain ⟨dd, zh⟩ := zR; subst zh; (try simp only [at_at']); intro zK zhK; go_simp; (try (unfold stored; go_simp)); refine zhK _ _ ⟨?_, ?_⟩; (focus (refine m_idle ?_; simp [go_sem, Instr.field, asAgg]; done)); clear zhK zK; try walk_nrm)
      (refine WpM.op_k rfl (by rfl) ?_; intro zu zR; obtain ⟨dd, zh⟩ := zR; subst zh; (try simp only [at_at']); intro zK zhK; (have hx : (u.at dd).cell? ⟨w.heap.size + 3, 1, none⟩ = some (.int .i64 p) := hC.G.cell 1); go_simp; (try (unfold stored; go_simp)); refine zhK _ _ ⟨?_, ?_⟩; (focus (refine Mode.look _ _ (looks_cells fun e he => ?_); have hm := mem_listed he; simp [go_sem, hx] at hm; exact ⟨_, hm⟩; done)); clear zhK zK; try walk_nrm)
      refine WpM.callM rfl (by rfl) rfl Try.func53 (by rfl) (by rfl) (by simp [Act.eval]) (contains_m _ A _ cc l p _ (rd_at hrd _) (by omega)) ?_
      rintro v2 u2 ⟨rfl, d6, rfl⟩
      try walk_nrm
      try simp only [at_at']
      iterate 3 (first | ((first | refine WpM.seq ?_ | refine WpM.block ?_ | refine WpM.region ?_ | refine WpM.region_end ?_ | refine WpM.ret ?_ | refine WpM.skip ?_ | refine WpM.exit ?_); try simp only [thenM, inBlockM, if_true, if_false, reduceIte, Nat.reduceEqDiff, List.size_toArray, List.length_cons, List.length_nil, Nat.reduceAdd, Nat.zero_add, List.range, List.range.loop]) | (refine WpM.op_k rfl (by rfl) ?_; intro zu zR; obtain ⟨dd, zh⟩ := zR; subst zh; (try simp only [at_at']); intro zK zhK; go_simp; (try (unfold stored; go_simp)); refine zhK _ _ ⟨?_, ?_⟩; (focus (refine m_idle ?_; simp [go_sem, Instr.field, asAgg]; done)); clear zhK zK; try walk_nrm) | fail)
      by_cases h2 : p ∈ l
      · refine WpM.cond (t := false) (by simp [Act.eval, h2]) ?_
        simp only [if_false, Bool.false_eq_true]
        ((first | refine WpM.seq ?_ | refine WpM.block ?_ | refine WpM.region ?_ | refine WpM.region_end ?_ | refine WpM.ret ?_ | refine WpM.skip ?_ | refine WpM.exit ?_); try simp only [thenM, inBlockM, if_true, if_false, reduceIte, Nat.reduceEqDiff, List.size_toArray, List.length_cons, List.length_nil, Nat.reduceAdd, Nat.zero_add, List.range, List.range.loop])
        exact ⟨_, l, p, _, _, _, _, _, _, _, _, _, _, _, _, _, _, _, _, _, _, _, _, _, _, rfl, hC.at _, by rw [← hwk, walkB, h1]; simp [h2], rfl⟩
      · refine WpM.cond (t := true) (by simp [Act.eval, h2]) ?_
        simp only [if_true]
        iterate 5 (first | ((first | refine WpM.seq ?_ | refine WpM.block ?_ | refine WpM.region ?_ | refine WpM.region_end ?_ | refine WpM.ret ?_ | refine WpM.skip ?_ | refine WpM.exit ?_); try simp only [thenM, inBlockM, if_true, if_false, reduceIte, Nat.reduceEqDiff, List.size_toArray, List.length_cons, List.length_nil, Nat.reduceAdd, Nat.zero_add, List.range, List.range.loop]) | (refine WpM.op_k rfl (by rfl) ?_; intro zu zR; obtain ⟨dd, zh⟩ := zR; subst zh; (try simp only [at_at']); intro zK zhK; go_simp; (try (unfold stored; go_simp)); refine zhK _ _ ⟨?_, ?_⟩; (focus (refine m_idle ?_; simp [go_sem, Instr.field, asAgg]; done)); clear zhK zK; try walk_nrm) | fail)
        (refine WpM.op_k rfl (by rfl) ?_; intro zu zR; obtain ⟨dd, zh⟩ := zR; subst zh; (try simp only [at_at']); intro zK zhK; (have hx : (u.at dd).cell? ⟨w.heap.size + 3, 0, none⟩ = some (.slice A l.length cc) := hC.G.cell 0); go_simp; (try (unfold stored; go_simp)); refine zhK _ _ ⟨?_, ?_⟩; (focus (refine Mode.look _ _ (looks_cells fun e he => ?_); have hm := mem_listed he; simp [go_sem, hx] at hm; exact ⟨_, hm⟩; done)); clear zhK zK; try walk_nrm)
        (refine WpM.op_k rfl (by rfl) ?_; intro zu zR; obtain ⟨dd, zh⟩ := zR; subst zh; (try simp only [at_at']); intro zK zhK; go_simp; (try (unfold stored; go_simp)); refine zhK _ _ ⟨?_, ?_⟩; (focus (refine m_idle ?_; simp [go_sem, Instr.field, asAgg]; done)); clear zhK zK; try walk_nrm)
        (refine WpM.op_k rfl (by rfl) ?_; intro zu zR; obtain ⟨dd, zh⟩ := zR; subst zh; (try simp only [at_at']); intro zK zhK; (have hx : (u.at dd).cell? ⟨w.heap.size + 3, 1, none⟩ = some (.int .i64 p) := hC.G.cell 1); go_simp; (try (unfold stored; go_simp)); refine zhK _ _ ⟨?_, ?_⟩; (focus (refine Mode.look _ _ (looks_cells fun e he => ?_); have hm := mem_listed he; simp [go_sem, hx] at hm; exact ⟨_, hm⟩; done)); clear zhK zK; try walk_nrm)
        (refine WpM.op_k rfl (by rfl) ?_; intro zu zR; obtain ⟨db, zh⟩ := zR; subst zh; (try simp only [at_at']); intro zK zhK; go_simp; (try (unfold stored; go_simp)); refine zhK _ _ ⟨?_, ?_⟩; (focus (change DG _ _ _ _; exact d_turn (L := []) hXK hXN (by omega) (by show _ ≤ u.heap.size; have := hC.sz; omega) (Turned.of_below (below_alloc _ _) _) (by simp) (by rw [listed_nil (by simp [go_sem, Instr.buildSlice, Instr.fill])]; simp); done)); clear zhK zK; try walk_nrm)
        have hC2 : Cs w (.slice A l.length cc) l p ((u.at db).alloc (.cells #[.int .i64 p] 3)) := (hC.at db).more (Turned.of_below (below_alloc _ _) _)
        have hcell : ((u.at db).alloc (.cells #[.int .i64 p] 3)).cell? ⟨u.heap.size, 0, none⟩ = some (.int .i64 p) := (Blk.new (u.at db) _ _).cell 0
        simp only [at_size]
        generalize (u.at db).alloc (.cells #[.int .i64 p] 3) = U2 at hC2 hcell
        refine wpm_append (g := u.heap.size) (y := p) (l := l) (B0 := w.heap.size + 4) hXK hXN (by omega) (by omega) hC2.sz rfl (by rfl) rfl (by simp [Act.eval]) (by simp [Act.eval]) hC2.own hcell (by omega) (fun d7 v' u' ho' hT' => ?_)
        have far : ∀ k ∈ ownL (.slice A l.length cc), w.heap.size + 4 ≤ k := fun k hk => (hC2.own.lt k (ownL_mem hk)).1
        have hG' : Blk u' (w.heap.size + 3) 49 #[.slice A l.length cc, .int .i64 p] := (show Blk (U2.at d7) _ _ _ from hC2.G).turned hT' (fun hm => by have := far _ hm; omega)
        have hsz' : w.heap.size + 4 ≤ u'.heap.size := Nat.le_trans hC2.sz hT'.size
        obtain ⟨A', cc', rfl, _⟩ := ho'.form
        have hlen : (l ++ [p]).length = l.length + 1 := by simp
        rw [hlen] at ho'
        try simp only [hlen]
        try walk_nrm
        (refine WpM.op_k rfl (by rfl) ?_; intro zu zR; obtain ⟨dd, zh⟩ := zR; subst zh; (try simp only [at_at']); intro zK zhK; go_simp; (try (unfold stored; go_simp)); refine zhK _ _ ⟨?_, ?_⟩; (focus (refine m_idle ?_; simp [go_sem, Instr.field, asAgg]; done)); clear zhK zK; try walk_nrm)
        (refine WpM.op_k rfl (by rfl) ?_; intro zu zR; obtain ⟨ds, zh⟩ := zR; subst zh; (try simp only [at_at']); intro zK zhK; (have hG5 : Blk (u'.at ds) _ _ _ := hG'; have k0 := hG5.cell 0; have f0 := hG5.frozen 0); go_simp; (try (unfold stored; go_simp)); refine zhK _ _ ⟨?_, ?_⟩; (focus (change DG _ _ _ _; refine d_turn (L := [w.heap.size + 3]) hXK hXN (by omega) (by show _ ≤ u'.heap.size; omega) (turned_set _ _ _ _) (by simp) (fun e he => ?_); have hm := mem_listed he; simp [go_sem, ev_slice, k0, f0] at hm; subst hm; exact does_cell (fun _ => Nat.le_refl _); done)); clear zhK zK; try walk_nrm)
        have hC3 := hC2.put0 (turned_at hT' ds) (show OwnI (u'.at ds) _ _ _ from ho')
        generalize World.setCell _ _ _ = U3 at hC3
        iterate 3 (first | ((first | refine WpM.seq ?_ | refine WpM.block ?_ | refine WpM.region ?_ | refine WpM.region_end ?_ | refine WpM.ret ?_ | refine WpM.skip ?_ | refine WpM.exit ?_); try simp only [thenM, inBlockM, if_true, if_false, reduceIte, Nat.reduceEqDiff, List.size_toArray, List.length_cons, List.length_nil, Nat.reduceAdd, Nat.zero_add, List.range, List.range.loop]) | (refine WpM.op_k rfl (by rfl) ?_; intro zu zR; obtain ⟨dd, zh⟩ := zR; subst zh; (try simp only [at_at']); intro zK zhK; go_simp; (try (unfold stored; go_simp)); refine zhK _ _ ⟨?_, ?_⟩; (focus (refine m_idle ?_; simp [go_sem, Instr.field, asAgg]; done)); clear zhK zK; try walk_nrm) | fail)
        refine WpM.recv (z := .int .i64 0) rfl (by rfl) (fun u => ?_) (fun u => ?_) (fun d1 k => ?_)
        · rw [hXc1]
          exact run_recv1 (P := Try.prog) rfl rfl under_ch zero_int u
        · exact events_recv1 (P := Try.prog) rfl under_ch u
        rw [hXn, hXc1]
        try walk_nrm
        have hC4 := (hC3.at dd).met l1 k1 d1 k false
        generalize metW _ _ _ _ _ = U4 at hC4
        (refine WpM.op_k rfl (by rfl) ?_; intro zu zR; obtain ⟨dd, zh⟩ := zR; subst zh; (try simp only [at_at']); intro zK zhK; go_simp; (try (unfold stored; go_simp)); refine zhK _ _ ⟨?_, ?_⟩; (focus (refine m_idle ?_; simp [go_sem, Instr.field, asAgg]; done)); clear zhK zK; try walk_nrm)
        (refine WpM.op_k rfl (by rfl) ?_; intro zu zR; obtain ⟨ds, zh⟩ := zR; subst zh; (try simp only [at_at']); intro zK zhK; (have hG5 : Blk (U4.at ds) _ _ _ := hC4.G; have k0 := hG5.cell 1; have f0 := hG5.frozen 1); go_simp; (try (unfold stored; go_simp)); refine zhK _ _ ⟨?_, ?_⟩; (focus (change DG _ _ _ _; refine d_turn (L := [w.heap.size + 3]) hXK hXN (by omega) (by show _ ≤ U4.heap.size; have := hC4.sz; omega) (turned_set _ _ _ _) (by simp) (fun e he => ?_); have hm := mem_listed he; simp [go_sem, k0, f0] at hm; subst hm; exact does_cell (fun _ => Nat.le_refl _); done)); clear zhK zK; try walk_nrm)
        ((first | refine WpM.seq ?_ | refine WpM.block ?_ | refine WpM.region ?_ | refine WpM.region_end ?_ | refine WpM.ret ?_ | refine WpM.skip ?_ | refine WpM.exit ?_); try simp only [thenM, inBlockM, if_true, if_false, reduceIte, Nat.reduceEqDiff, List.size_toArray, List.length_cons, List.length_nil, Nat.reduceAdd, Nat.zero_add, List.range, List.range.loop])
        refine ⟨f, by omega, _, l ++ [p], nextI xs p, _, _, _, _, _, _, _, _, _, _, _, _, _, _, _, _, _, _, _, _, _, _, rfl, (hC4.at ds).put1 (nextI xs p), ?_, ?_, by simp; omega, by rw [← hwk, walkB, h1]; simp [h2], rfl⟩
        · rw [List.nodup_append]
          exact ⟨hnd, by simp, fun a ha b hb => by simp at hb; subst hb; rintro rfl; exact h2 ha⟩
        · intro y hy
          rcases List.mem_append.1 hy with hy | hy
          · exact hrg y hy
          · simp at hy; subst hy; omega
end Go.Proofs.Ytiacfaeanlkalaa
