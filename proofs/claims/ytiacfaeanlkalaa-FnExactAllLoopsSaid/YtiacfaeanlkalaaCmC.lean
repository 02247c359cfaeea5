/- A walk made for one goroutine alone is carried over to a machine of many, part C. No program. -/
import Derived.Test.YtiacfaeanlkalaaCmB
namespace Go.Proofs.Ytiacfaeanlkalaa
set_option maxRecDepth 100000
open Go.Conc

def NextOk (L : FuncId → Bool) : Next → Prop
  | .value _ | .skip => True
  | .enter f _ => L f = true
  | _ => False

theorem calm_v {P : Program} {L : FuncId → Bool} {s : Sem Value} (h : Calm P (fun _ => True) s) : Calm P (NextOk L) (do pure (.value (← s)) : Sem Next) := calm_bind h fun _ _ => trivial
theorem calm_u {P : Program} {L : FuncId → Bool} {s : Sem Unit} (h : Calm P (fun _ => True) s) : Calm P (NextOk L) (do s; pure .skip : Sem Next) := calm_bind h fun _ _ => trivial

/-- the calls that calm code makes: of functions of the set, of five of the language's own -/
def callOk (P : Program) (L : FuncId → Bool) (c : Call) : Bool := match c.callee with
  | .builtin .len | .builtin .cap | .builtin .append | .builtin .min | .builtin .max => true
  | .value (.func f) => L f && (match P.funcs[f]? with | some fn => fn.body.isSome && !(fn.name == "runtime.NumGoroutine") | none => false)
  | _ => false
def opOk (P : Program) (L : FuncId → Bool) (o : Oper) : Bool := match o.op with
  | .move _ | .assign _ | .pick .. | .alloc _ | .box .. | .load .. | .store .. | .binOp .. | .unOp .. | .extract .. | .field .. | .fieldAddr .. | .indexAddr .. | .index .. | .slice .. | .buildSlice .. | .makeSlice .. | .makeInterface .. | .makeFunc .. | .panic .. => true
  | .call c => callOk P L c
  | _ => false

theorem calm_callFunc {P : Program} {L : FuncId → Bool} {f : FuncId} {args : Array Value} (hf : L f = true) (hb : (match P.funcs[f]? with | some fn => fn.body.isSome && !(fn.name == "runtime.NumGoroutine") | none => false) = true) :
    Calm P (NextOk L) (callFunc f args) := by
  unfold callFunc
  refine calm_bind (ok := fun p => p = P) rfl (fun p hp => ?_)
  subst hp
  cases h : p.funcs[f]? with
  | none => exact trivial
  | some fn =>
    rw [h] at hb
    simp only [Bool.and_eq_true, Bool.not_eq_true', beq_eq_false_iff_ne] at hb
    simp only [beq_iff_eq, hb.2, if_false]
    rw [if_neg (by cases hx : fn.body <;> simp [hx] at hb ⊢)]
    exact hf

theorem opOk_calm {P : Program} {L : FuncId → Bool} {o : Oper} (h : opOk P L o = true) {ρ : Operand → Value} (hρ : ∀ f, ρ (.func f) = .func (.func f) #[] #[]) : Calm P (NextOk L) (execOp ρ o) := by
  unfold opOk at h
  unfold execOp
  cases ho : o.op <;> rw [ho] at h <;> simp only at h ⊢
  all_goals first | (cases h; done) | exact trivial | skip
  case pick => exact calm_bind (calm_asBool _) fun _ _ => trivial
  case alloc => exact calm_v (calm_alloc _ _ _)
  case box => exact calm_v (calm_box _ _)
  case buildSlice => exact calm_v (calm_buildSlice _ _ _)
  case load => exact calm_v (calm_loadAt _ _)
  case store => exact calm_u (calm_storeAt _ _ _)
  case binOp => exact calm_v (calm_bind (calm_eqGuard _ _ _ _ _ _) fun _ _ => calm_binOp _ _ _ _)
  case unOp => exact calm_v (calm_unary _ _)
  case makeInterface => exact calm_v (calm_makeIface _ _)
  case makeSlice => exact calm_v (calm_makeSlice _ _ _)
  case slice => exact calm_v (calm_sliceAt _ _ _ _ _)
  case fieldAddr => exact calm_v (calm_fieldAt _ _ _)
  case field => exact calm_v (calm_field _ _ _)
  case indexAddr => exact calm_v (calm_indexAt _ _ _)
  case index => exact calm_v (calm_index _ _ _)
  case extract => exact calm_v (calm_extract _ _)
  case panic => exact calm_v (calm_panic _)
  case call c =>
    unfold callOk at h
    unfold resolve
    split at h
    all_goals first | (cases h; done) | skip
    · rename_i hc; simp only [hc]; exact calm_bind (ok := fun d => ∃ a b c e, d = { target := .builtin .len a b c, args := e }) ⟨_, _, _, _, rfl⟩ (fun d hd => by obtain ⟨a, b, c, e, rfl⟩ := hd; exact calm_v (calm_len _ _ _))
    · rename_i hc; simp only [hc]; exact calm_bind (ok := fun d => ∃ a b c e, d = { target := .builtin .cap a b c, args := e }) ⟨_, _, _, _, rfl⟩ (fun d hd => by obtain ⟨a, b, c, e, rfl⟩ := hd; exact calm_v (calm_cap _ _ _))
    · rename_i hc; simp only [hc]; exact calm_bind (ok := fun d => ∃ a b c e, d = { target := .builtin .append a b c, args := e }) ⟨_, _, _, _, rfl⟩ (fun d hd => by obtain ⟨a, b, c, e, rfl⟩ := hd; exact calm_v (calm_append _ _ _))
    · rename_i hc; simp only [hc]; exact calm_bind (ok := fun d => ∃ a b c e, d = { target := .builtin .min a b c, args := e }) ⟨_, _, _, _, rfl⟩ (fun d hd => by obtain ⟨a, b, c, e, rfl⟩ := hd; exact calm_v (calm_min _ _ _))
    · rename_i hc; simp only [hc]; exact calm_bind (ok := fun d => ∃ a b c e, d = { target := .builtin .max a b c, args := e }) ⟨_, _, _, _, rfl⟩ (fun d hd => by obtain ⟨a, b, c, e, rfl⟩ := hd; exact calm_v (calm_max _ _ _))
    · rename_i f hc
      simp only [hc, hρ, Deferred.ofValue]
      rw [Bool.and_eq_true] at h
      exact calm_bind (ok := fun d => ∃ a b, d = { target := .fn (.func f) a, args := b }) ⟨_, _, rfl⟩ (fun d hd => by obtain ⟨a, b, rfl⟩ := hd; exact calm_callFunc h.1 h.2)

/-! ### code -/
def codeOk (op : Oper → Bool) : Code → Bool
  | .skip | .ret | .exit _ | .label _ | .goto _ => true
  | .region _ ops _ => ops.all op
  | .seq a b | .cond _ a b => codeOk op a && codeOk op b
  | .block _ c | .loop c | .scope c => codeOk op c
  | .rangeFunc .. | .refuse _ => false
def itemOk (op : Oper → Bool) : Item → Bool
  | .code c | .inLoop c | .inScope c => codeOk op c
  | .inBlock _ => true
  | .inRegion ops l => l.all fun i => (ops[i]?).all op
  | _ => false
theorem itemOk_region {op : Oper → Bool} {ops : Array Oper} (l : List Nat) (h : ops.all op = true) : itemOk op (.inRegion ops l) = true := by
  simp only [itemOk, List.all_eq_true]
  intro i _
  cases ho : ops[i]? with
  | none => rfl
  | some o => exact Array.all_eq_true'.1 h o (Array.mem_of_getElem? ho)
theorem itemOk_tail {op : Oper → Bool} {ops : Array Oper} {i : Nat} {rest : List Nat} (h : itemOk op (.inRegion ops (i :: rest)) = true) : itemOk op (.inRegion ops rest) = true := by
  simp only [itemOk, List.all_cons, Bool.and_eq_true] at h ⊢
  exact h.2
theorem itemOk_head {op : Oper → Bool} {ops : Array Oper} {i : Nat} {rest : List Nat} {o : Oper} (h : itemOk op (.inRegion ops (i :: rest)) = true) (ho : ops[i]? = some o) : op o = true := by
  simp only [itemOk, List.all_cons, Bool.and_eq_true, ho, Option.all_some] at h
  exact h.1
def resFn (fn : Func) : Bool := match fn.results.toList with
  | [] | [.tmp _] | [.tmp _, .tmp _] | [.tmp _, .tmp _, .tmp _] | [.tmp _, .tmp _, .tmp _, .tmp _] | [.tmp _, .tmp _, .tmp _, .tmp _, .tmp _] => true
  | _ => false
def fnOk (P : Program) (L : FuncId → Bool) (f : FuncId) : Bool := match P.funcs[f]? with
  | some fn => resFn fn && (match fn.body with | some c => codeOk (opOk P L) c | none => false)
  | none => false

theorem findLabel_ok {op : Oper → Bool} {l : Nat} : ∀ {c r : Code}, codeOk op c = true → findLabel c l = some r → codeOk op r = true
  | .seq a b, r, h, e => by
    simp only [codeOk, Bool.and_eq_true] at h
    unfold findLabel at e
    cases ha : findLabel a l with
    | some x => rw [ha] at e; cases e; simp only [codeOk, Bool.and_eq_true]; exact ⟨findLabel_ok h.1 ha, h.2⟩
    | none => rw [ha] at e; exact findLabel_ok h.2 e
  | .label l', r, _, e => by
    unfold findLabel at e
    split at e
    · cases e; rfl
    · cases e
  | .skip, _, _, e | .ret, _, _, e | .exit _, _, _, e | .goto _, _, _, e | .region .., _, _, e | .cond .., _, _, e | .block .., _, _, e | .loop _, _, _, e | .scope _, _, _, e | .rangeFunc .., _, _, e | .refuse _, _, _, e => by cases e

theorem exitTo_app {id : Nat} : ∀ {k k' : List Item} (kk : List Item), exitTo id k = some k' → exitTo id (k ++ kk) = some (k' ++ kk)
  | [], _, _, h => by cases h
  | x :: k, k', kk, h => by
    by_cases hx : ∃ i, x = .inBlock i
    · obtain ⟨i, rfl⟩ := hx
      simp only [exitTo, List.cons_append] at h ⊢
      split at h
      · rename_i hi; cases h; simp [hi]
      · rename_i hi; simp only [hi]; exact exitTo_app kk h
    · have e : ∀ l, exitTo id (x :: l) = exitTo id l := fun l => by cases x <;> first | rfl | exact absurd ⟨_, rfl⟩ hx
      rw [e] at h
      rw [List.cons_append, e]
      exact exitTo_app kk h
theorem exitTo_none {id : Nat} : ∀ {k kk : List Item}, exitTo id k = none → exitTo id kk = none → exitTo id (k ++ kk) = none
  | [], _, _, h => h
  | x :: k, kk, h, hk => by
    by_cases hx : ∃ i, x = .inBlock i
    · obtain ⟨i, rfl⟩ := hx
      simp only [exitTo, List.cons_append] at h ⊢
      split at h
      · cases h
      · rename_i hi; simp only [hi]; exact exitTo_none h hk
    · have e : ∀ l, exitTo id (x :: l) = exitTo id l := fun l => by cases x <;> first | rfl | exact absurd ⟨_, rfl⟩ hx
      rw [e] at h
      rw [List.cons_append, e]
      exact exitTo_none h hk
theorem exitTo_mem {id : Nat} : ∀ {k k' : List Item}, exitTo id k = some k' → ∀ x ∈ k', x ∈ k
  | [], _, h => by cases h
  | y :: k, k', h => by
    intro x hx'
    by_cases hx : ∃ i, y = .inBlock i
    · obtain ⟨i, rfl⟩ := hx
      simp only [exitTo] at h
      split at h
      · cases h; exact List.mem_cons_of_mem _ hx'
      · exact List.mem_cons_of_mem _ (exitTo_mem h x hx')
    · have e : ∀ l, exitTo id (y :: l) = exitTo id l := fun l => by cases y <;> first | rfl | exact absurd ⟨_, rfl⟩ hx
      rw [e] at h
      exact List.mem_cons_of_mem _ (exitTo_mem h x hx')
theorem gotoIn_app {l : Nat} : ∀ {k k' : List Item} (kk : List Item), gotoIn l k = some k' → gotoIn l (k ++ kk) = some (k' ++ kk)
  | [], _, _, h => by cases h
  | x :: k, k', kk, h => by
    by_cases hx : ∃ i, x = .inScope i
    · obtain ⟨i, rfl⟩ := hx
      simp only [gotoIn, List.cons_append] at h ⊢
      cases hf : findLabel i l with
      | some r => rw [hf] at h; cases h; rfl
      | none => rw [hf] at h; exact gotoIn_app kk h
    · have e : ∀ m, gotoIn l (x :: m) = gotoIn l m := fun m => by cases x <;> first | rfl | exact absurd ⟨_, rfl⟩ hx
      rw [e] at h
      rw [List.cons_append, e]
      exact gotoIn_app kk h
theorem gotoIn_none {l : Nat} : ∀ {k kk : List Item}, gotoIn l k = none → gotoIn l kk = none → gotoIn l (k ++ kk) = none
  | [], _, _, h => h
  | x :: k, kk, h, hk => by
    by_cases hx : ∃ i, x = .inScope i
    · obtain ⟨i, rfl⟩ := hx
      simp only [gotoIn, List.cons_append] at h ⊢
      cases hf : findLabel i l with
      | some r => rw [hf] at h; cases h
      | none => rw [hf] at h; exact gotoIn_none h hk
    · have e : ∀ m, gotoIn l (x :: m) = gotoIn l m := fun m => by cases x <;> first | rfl | exact absurd ⟨_, rfl⟩ hx
      rw [e] at h
      rw [List.cons_append, e]
      exact gotoIn_none h hk
theorem gotoIn_ok {op : Oper → Bool} {l : Nat} : ∀ {k k' : List Item}, (∀ x ∈ k, itemOk op x = true) → gotoIn l k = some k' → ∀ x ∈ k', itemOk op x = true
  | [], _, _, h => by cases h
  | y :: k, k', hk, h => by
    have hk' : ∀ x ∈ k, itemOk op x = true := fun x hx => hk x (List.mem_cons_of_mem _ hx)
    by_cases hx : ∃ i, y = .inScope i
    · obtain ⟨i, rfl⟩ := hx
      have hi : codeOk op i = true := hk (.inScope i) (by simp)
      simp only [gotoIn] at h
      cases hf : findLabel i l with
      | some r =>
        rw [hf] at h; cases h
        intro x hx
        simp only [List.mem_cons] at hx
        rcases hx with rfl | rfl | hx
        · exact findLabel_ok hi hf
        · exact hi
        · exact hk' x hx
      | none => rw [hf] at h; exact gotoIn_ok hk' h
    · have e : ∀ m, gotoIn l (y :: m) = gotoIn l m := fun m => by cases y <;> first | rfl | exact absurd ⟨_, rfl⟩ hx
      rw [e] at h
      exact gotoIn_ok hk' h
end Go.Proofs.Ytiacfaeanlkalaa
