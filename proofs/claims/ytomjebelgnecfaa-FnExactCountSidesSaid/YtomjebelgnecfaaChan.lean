/- Walks of statements that send to a buffered channel or select with a default, in one goroutine: in frames of ordinary calls. No program. -/
import Derived.Conc.LoneCalls
import Derived.Conc.LoneSelect
import Derived.WalkKit
namespace Go.Proofs.Ytomjebelgnecfaa
open Go.RowKit Go.Conc

/-- in the frame of an ordinary call the piece of code c ends in one of the ways Q -/
def WpN (P : Program) (c : Code) (Q : Exit → Act → World → Prop) (a : Act) (w : World) : Prop :=
  ∀ (b : Frame) (k : List Item) (cs : List Frame), b.kind = .normal → ∃ e a' w', Q e a' w' ∧ Arrives P (lone (b.at a (.code c :: k)) cs w) b k cs e a' w'
/-- the same of what is left of a region -/
def RegN (P : Program) (ops : Array Oper) (l : List Nat) (Q : Exit → Act → World → Prop) (a : Act) (w : World) : Prop :=
  ∀ (b : Frame) (k : List Item) (cs : List Frame), b.kind = .normal → ∃ e a' w', Q e a' w' ∧ Arrives P (lone (b.at a (.inRegion ops l :: k)) cs w) b k cs e a' w'
section
variable {P : Program} {Q : Exit → Act → World → Prop} {a : Act} {w : World}
theorem WpN.of {c : Code} (h : c.wp P Q a w) : WpN P c Q a w := fun b k cs _ => h b k cs
theorem WpN.mono {c : Code} {Q' : Exit → Act → World → Prop} (h : WpN P c Q a w) (hq : ∀ e a w, Q e a w → Q' e a w) : WpN P c Q' a w :=
  fun b k cs hk => let ⟨e, a', w', q, r⟩ := h b k cs hk; ⟨e, a', w', hq _ _ _ q, r⟩
theorem WpN.seq {x y : Code} (h : WpN P x (Exit.then (WpN P y Q) Q) a w) : WpN P (.seq x y) Q a w := by
  intro b k cs hk
  obtain ⟨e, a₁, w₁, hq, harr⟩ := h b (.code y :: k) cs hk
  by_cases hn : e = .normal
  · subst hn
    obtain ⟨e₂, a₂, w₂, hq₂, harr₂⟩ := hq b k cs hk
    exact ⟨e₂, a₂, w₂, hq₂, .of_steps (.head step_seq harr) harr₂⟩
  · have hq' : Q e a₁ w₁ := by cases e <;> first | exact absurd rfl hn | exact hq
    exact ⟨e, a₁, w₁, hq', .of_steps (.one step_seq) (.pass (x := .code y) rfl (fun _ _ => .inl hn) harr)⟩
theorem WpN.seq_of {x y : Code} (h : ∀ K : Act → World → Prop, (∀ a w, WpN P y Q a w → K a w) → x.wp P (Exit.then K (fun _ _ _ => False)) a w) : WpN P (.seq x y) Q a w :=
  WpN.seq ((WpN.of (h _ fun _ _ h => h)).mono fun e _ _ hq => by cases e <;> first | exact hq | exact hq.elim)
theorem WpN.last {x : Code} (h : ∀ K : Act → World → Prop, (∀ a w, Q .normal a w → K a w) → x.wp P (Exit.then K (fun _ _ _ => False)) a w) : WpN P x Q a w :=
  (WpN.of (h (Q .normal) fun _ _ h => h)).mono fun e _ _ hq => by cases e <;> first | exact hq | exact hq.elim
theorem WpN.skip (h : Q .normal a w) : WpN P .skip Q a w := WpN.of (wp_skip h)
theorem WpN.exit {id : Nat} (h : Q (.exit id) a w) : WpN P (.exit id) Q a w := WpN.of (wp_exit h)
theorem WpN.ret (h : Q .ret a w) : WpN P .ret Q a w := WpN.of (wp_ret h)
theorem WpN.cond {c : Operand} {x y : Code} {t : Bool} (hc : a.eval c = .bool t) (h : WpN P (if t then x else y) Q a w) : WpN P (.cond c x y) Q a w :=
  fun b k cs hk => let ⟨e, a', w', q, r⟩ := h b k cs hk; ⟨e, a', w', q, .of_steps (.one (step_cond hc)) r⟩
theorem WpN.cond_t {c : Operand} {x y : Code} (hc : a.eval c = .bool true) (h : WpN P x Q a w) : WpN P (.cond c x y) Q a w := WpN.cond (t := true) hc h
theorem WpN.cond_f {c : Operand} {x y : Code} (hc : a.eval c = .bool false) (h : WpN P y Q a w) : WpN P (.cond c x y) Q a w := WpN.cond (t := false) hc h
theorem WpN.block {id : Nat} {c : Code} (h : WpN P c (Exit.inBlock id Q) a w) : WpN P (.block id c) Q a w := by
  intro b k cs hk
  obtain ⟨e, a₁, w₁, hq, harr⟩ := h b (.inBlock id :: k) cs hk
  cases e with
  | normal => exact ⟨.normal, a₁, w₁, hq, .head step_block (Steps.trans harr (.one step_inBlock))⟩
  | exit j =>
    by_cases hj : j = id
    · subst hj
      rw [show Exit.inBlock j Q (.exit j) a₁ w₁ = Q .normal a₁ w₁ by simp [Exit.inBlock]] at hq
      exact ⟨.normal, a₁, w₁, hq, .head step_block (harr k (by simp [exitTo]))⟩
    · rw [show Exit.inBlock id Q (.exit j) a₁ w₁ = Q (.exit j) a₁ w₁ by simp [Exit.inBlock, hj]] at hq
      exact ⟨.exit j, a₁, w₁, hq, fun k' hk' => .head step_block (harr k' (by simp [exitTo, Ne.symm hj, hk']))⟩
  | goto l => exact ⟨_, a₁, w₁, hq, fun k' hk' => .head step_block (harr k' (by simp [gotoIn, hk']))⟩
  | ret => exact ⟨.ret, a₁, w₁, hq, .of_steps (.one step_block) harr⟩
  | panic ch => exact ⟨.panic ch, a₁, w₁, hq, .of_steps (.one step_block) harr⟩
  | outgrown => exact ⟨.outgrown, a₁, w₁, hq, .of_steps (b := b) (k := k) (cs := cs) (e := .outgrown) (.one step_block) harr⟩
theorem WpN.loop {c : Code} (I : Nat → Act → World → Prop) (round : ∀ n a w, I n a w → WpN P c (Exit.then (fun a' w' => ∃ m, m < n ∧ I m a' w') Q) a w) : ∀ (n : Nat) (a : Act) (w : World), I n a w → WpN P (.loop c) Q a w := by
  have key : ∀ n a w, I n a w → ∀ (b : Frame) (k : List Item) (cs : List Frame), b.kind = .normal → ∃ e a' w', Q e a' w' ∧ Arrives P (lone (b.at a (.code c :: .inLoop c :: k)) cs w) b k cs e a' w' := by
    intro n
    induction n using Nat.strongRecOn with
    | _ n ih =>
      intro a w hI b k cs hk
      obtain ⟨e, a₁, w₁, hq, harr⟩ := round n a w hI b (.inLoop c :: k) cs hk
      by_cases hn : e = .normal
      · subst hn
        obtain ⟨m, hm, hI₁⟩ := hq
        obtain ⟨e₂, a₂, w₂, hq₂, harr₂⟩ := ih m hm a₁ w₁ hI₁ b k cs hk
        exact ⟨e₂, a₂, w₂, hq₂, .of_steps (Steps.trans harr (.one step_inLoop)) harr₂⟩
      · have hq' : Q e a₁ w₁ := by cases e <;> first | exact absurd rfl hn | exact hq
        exact ⟨e, a₁, w₁, hq', .pass (x := .inLoop c) rfl (fun _ _ => .inl hn) harr⟩
  intro n a w hI b k cs hk
  obtain ⟨e, a', w', hq, harr⟩ := key n a w hI b k cs hk
  exact ⟨e, a', w', hq, .of_steps (.one step_loop) harr⟩
variable {ops : Array Oper} {i : Nat} {rest : List Nat} {o : Oper}
theorem WpN.region {id : Nat} (h : RegN P ops (List.range ops.size) Q a w) : WpN P (.region id ops false) Q a w :=
  fun b k cs hk => let ⟨e, a', w', q, r⟩ := h b k cs hk; ⟨e, a', w', q, .of_steps (.one step_region) r⟩
theorem RegN.of {l : List Nat} (h : wpOps P ops Q l a w) : RegN P ops l Q a w := fun b k cs _ => wp_ops l a w h b k cs
theorem RegN.nil (h : Q .normal a w) : RegN P ops [] Q a w := fun _ _ _ _ => ⟨.normal, a, w, h, .one step_region_end⟩
theorem RegN.value {v : Value} {w' : World} (ho : ops[i]? = some o) (hw : Region.wanted o (yielded ops a.tmps) = true) (hr : (execOp a.eval o).run P w = .ok (.value v) w')
    (h : RegN P ops rest Q (a.put o.dst v) w') : RegN P ops (i :: rest) Q a w := by
  intro b k cs hk
  obtain ⟨e, a', w'', hq, harr⟩ := h b k cs hk
  have hfin : (b.at a (.inRegion ops (i :: rest) :: k)).finish v = b.at (a.put o.dst v) (.inRegion ops rest :: k) := by rw [Frame.finish_at, ho]; rfl
  refine ⟨e, a', w'', hq, .of_steps (.one (step_lone_go ?_)) harr⟩
  rw [stepG_op ho hw, ← hfin]; simp [stepG.apply, hr]
variable {c cap s r : Nat} {buf : Array Value} {z v : Value} {tm closed : Bool}
theorem RegN.send (ho : ops[i]? = some o) (hw : Region.wanted o (yielded ops a.tmps) = true) (hr : (execOp a.eval o).run P w = .ok (.comm #[scase c v z] true .send) w)
    (hc : w.heap[c]? = some (.chan cap buf false s r tm)) (hroom : buf.size < cap) (h : RegN P ops rest Q (a.put o.dst undef) (w.setChan c cap (buf.push v) false (s + 1) r tm)) : RegN P ops (i :: rest) Q a w := by
  intro b k cs hk
  obtain ⟨e, a', w'', hq, harr⟩ := h b k cs hk
  have hs := step_lone_send_room (stepG_comm (b := b) (k := k) (cs := cs) (rest := rest) ho hw (by rw [hk]; decide) hr) hc hroom
  rw [Frame.finish_at, ho] at hs
  exact ⟨e, a', w'', hq, .of_steps (.one hs) harr⟩
theorem RegN.got (ho : ops[i]? = some o) (hw : Region.wanted o (yielded ops a.tmps) = true) (hr : (execOp a.eval o).run P w = .ok (.comm #[rcase c z] false .select) w)
    (hc : w.heap[c]? = some (.chan cap buf closed s r tm)) (hsome : 0 < buf.size) (h : RegN P ops rest Q (a.put o.dst (.tuple #[goInt 0, .bool true, buf.getD 0 undef])) (w.setChan c cap (buf.extract 1 buf.size) closed s (r + 1) tm)) : RegN P ops (i :: rest) Q a w := by
  intro b k cs hk
  obtain ⟨e, a', w'', hq, harr⟩ := h b k cs hk
  have hs := step_lone_select_recv_buf (stepG_comm (b := b) (k := k) (cs := cs) (rest := rest) ho hw (by rw [hk]; decide) hr) hc hsome
  rw [Frame.finish_at, ho] at hs
  exact ⟨e, a', w'', hq, .of_steps (.one hs) harr⟩
theorem RegN.none (ho : ops[i]? = some o) (hw : Region.wanted o (yielded ops a.tmps) = true) (hr : (execOp a.eval o).run P w = .ok (.comm #[rcase c z] false .select) w)
    (hc : w.heap[c]? = some (.chan cap #[] false s r tm)) (h : RegN P ops rest Q (a.put o.dst (.tuple #[goInt (-1), .bool false, z])) w) : RegN P ops (i :: rest) Q a w := by
  intro b k cs hk
  obtain ⟨e, a', w'', hq, harr⟩ := h b k cs hk
  have hs := step_lone_select_default (stepG_comm (b := b) (k := k) (cs := cs) (rest := rest) ho hw (by rw [hk]; decide) hr) hc
  rw [Frame.finish_at, ho] at hs
  exact ⟨e, a', w'', hq, .of_steps (.one hs) harr⟩
theorem calls_of_wpN {f : FuncId} {fn : Func} {c : Code} {args : Array Value} {R : Ending → World → Prop} (hf : P.funcs[f]? = some fn) (hb : fn.body = some c)
    (h : WpN P c (bodyPost P fn R) { tmps := args ++ Array.replicate (fn.ntmps - args.size) undef, defers := [] } w) : Calls P f args w R := by
  intro cs
  have henter : Frame.enter P f args .normal = (base f).at { tmps := args ++ Array.replicate (fn.ntmps - args.size) undef, defers := [] } [.code c] := by
    simp [Frame.enter, Frame.at, hf, hb, base]
  obtain ⟨e, a', w', hq, harr⟩ := h (base f) [] cs rfl
  rw [← henter] at harr
  cases e with
  | normal => exact ⟨.returned hq.2.choose, w', _, hq.2.choose_spec.2, Steps.trans harr (.one step_end), rfl, rfl, hq.1, rfl, fn, hf, hq.2.choose_spec.1⟩
  | ret => exact ⟨.returned hq.2.choose, w', _, hq.2.choose_spec.2, harr.choose_spec, rfl, rfl, hq.1, rfl, fn, hf, hq.2.choose_spec.1⟩
  | panic chain => exact ⟨.panicked chain, w', _, hq.2, harr.choose_spec, rfl, rfl, hq.1, fn, hf⟩
  | exit id => exact hq.elim
  | goto l => exact hq.elim
  | outgrown => exact ⟨.outgrown, w', base f, hq, harr.resolve_left (by simp [base]), rfl, trivial⟩
end

end Go.Proofs.Ytomjebelgnecfaa
