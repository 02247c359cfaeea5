/- Contract: a set of steps is emptied and told as a rising list. -/
import Derived.Test.YtimgnollnnepbaaImplWalk
import Derived.Test.YtimgnollnnepbaaMark
import Derived.Maps.RangeWalk
import Derived.WalkMore
import Derived.ScopeJumps
namespace Go.Proofs.Ytimgnollnnepbaa
open Go.RowKit

/-- the numbers from 1 to m of which S holds, rising -/
def els (S : Int → Bool) : Nat → List Int
  | 0 => []
  | m + 1 => els S m ++ (if S ((m : Int) + 1) then [(m : Int) + 1] else [])
theorem els_len (S : Int → Bool) : ∀ m, (els S m).length ≤ m
  | 0 => by simp [els]
  | m + 1 => by have := els_len S m; simp only [els]; split <;> simp <;> omega
theorem els_skip (S : Int → Bool) (m : Nat) : ∀ d : Nat, (∀ i : Int, (m : Int) < i → i ≤ m + d → S i = false) → els S (m + d) = els S m
  | 0, _ => rfl
  | d + 1, h => by
    have e := els_skip S m d (fun i h1 h2 => h i h1 (by omega))
    rw [← Nat.add_assoc, els, e, h (((m + d : Nat) : Int) + 1) (by omega) (by omega)]
    simp
theorem els_next (S : Int → Bool) (m l : Nat) (hml : m < l) (hl : S l = true) (h : ∀ i : Int, (m : Int) < i → i < l → S i = false) : els S l = els S m ++ [(l : Int)] := by
  obtain ⟨d, rfl⟩ : ∃ d, l = m + d + 1 := ⟨l - m - 1, by omega⟩
  rw [els, els_skip S m d (fun i h1 h2 => h i h1 (by omega))]
  have e : (((m + d : Nat) : Int) + 1) = ((m + d + 1 : Nat) : Int) := by omega
  rw [e, hl]
  simp

theorem Turned.step_below {a b c : World} {L : List Nat} (h : Turned a b L) {B : Nat} (hb : Below B b c) (hB : a.heap.size ≤ B) : Turned a c L :=
  ⟨hb.os.trans h.os, hb.tape.trans h.tape, hb.output.trans h.output, Nat.le_trans h.size hb.size, fun i hi hn => (hb.block i (by omega)).trans (h.block i hi hn)⟩
theorem Turned.step_grown {a b c : World} {L : List Nat} (h : Turned a b L) {row : Option Nat} (hb : b.grownBy c row) (hr : ∀ r, row = some r → a.heap.size ≤ r ∨ r ∈ L) : Turned a c L :=
  ⟨hb.os.trans h.os, hb.tape.trans h.tape, hb.output.trans h.output, Nat.le_trans h.size hb.size, fun i hi hn => (hb.block i (Nat.lt_of_lt_of_le hi h.size) (fun e => by
    rcases hr i e.symm with h1 | h1
    · omega
    · exact hn h1)).trans (h.block i hi hn)⟩
theorem OwnI.kept {w w' : World} {B : Nat} {v : Value} {xs : List Int} {row : Option Nat} (h : OwnI w B v xs) (hg : w.grownBy w' row) (hne : ∀ k, v.ownBlock = some k → row ≠ some k) : OwnI w' B v xs := by
  refine World.ownsRow.kept h hg ?_
  cases hv : v.ownBlock with
  | none => exact .inl rfl
  | some k => exact .inr (fun e => hne k hv e.symm)

/-- A scope that begins with 'pre' and then jumps back to one label again and again: 'J' holds at the label each time. -/
theorem wp_scope_again {P : Program} {a : Act} {w : World} {Q : Exit → Act → World → Prop} {pre rest : Code} (l : Nat) (J : Act → World → Prop) (μ : Act → World → Nat)
    (hf : findLabel (pre.seq ((Code.label l).seq rest)) l = some (Code.skip.seq rest))
    (first : ∀ Q' : Exit → Act → World → Prop, (∀ a w, J a w → Q' .normal a w) → pre.wp P Q' a w)
    (pass : ∀ a w, J a w → rest.wp P (Exit.jump l (fun a' w' => J a' w' ∧ μ a' w' < μ a w) Q) a w) : (Code.scope (pre.seq ((Code.label l).seq rest))).wp P Q a w := by
  refine wp_scope_jumps l J μ hf ?_ ?_
  · refine wp_seq (first _ fun a w hJ => ?_)
    refine wp_seq (wp_label ?_)
    refine Code.wp_mono ?_ (pass a w hJ)
    intro e a' w' h
    cases e <;> first | exact ⟨h.1, h.2.1⟩ | exact h
  · intro a w hJ
    exact wp_seq (wp_skip (pass a w hJ))

theorem plainElem_bool_inv {v : Value} {z : DataW Unit × List MemPlace} (h : plainElem Try.prog 4 v = some z) : ∃ c, v = .bool c := by
  unfold plainElem at h
  rw [Try.underlying4] at h
  cases v <;> simp at h
  exact ⟨_, rfl⟩

/-- The step of a range over a set of ints. -/
theorem wpList_next_set (w : World) {ops : Array Oper} {rest : List Oper} {o : Oper} {a : Act} {Q : Exit → Act → World → Prop} (hg : o.guard = none) (it : Operand) (hop : o.op = Op.next it false)
    (b r n : Nat) (D : DataW Unit) (left : Lit → Bool) (cnt : Nat) (hit : a.eval it = .pointer (some ⟨r, 0, none⟩)) (h : w.ranges Try.prog 3 (plainElem Try.prog 4) b r n D left cnt)
    (hDone : cnt = 0 → (∀ kl, left kl = false) → wpList Try.prog ops Q rest (a.put o.dst (.tuple #[.bool false])) w)
    (hMore : ∀ (x : Int) (c : Value) (w' : World) (cnt' : Nat), Maps.has D (.int .i64 x) = true → w'.ranges Try.prog 3 (plainElem Try.prog 4) b r n D (fun z => left z && !z.sameKey (.int .i64 x)) cnt' → cnt' < cnt →
      w.grownBy w' (some r) → w'.heap.size = w.heap.size → (Instr.entry (.pointer (some ⟨r, 0, none⟩))).run Try.prog w' = .ok (.tuple #[.int .i64 x, c]) w' → wpList Try.prog ops Q rest (a.put o.dst (.tuple #[.bool true, .int .i64 x, c])) w') :
    wpList Try.prog ops Q (o :: rest) a w :=
  wpList_next_ranges w hg it hop 3 setKey (plainElem Try.prog 4) (Value.int .i64) Value.bool (fun key kl hkey => by obtain ⟨x, rfl, _⟩ := Maps.keyOf_int_inv Try.underlying3 hkey; exact ⟨x, rfl⟩) (fun v y hv => plainElem_bool_inv hv)
    b r n D left cnt hit h hDone (fun x c kl y w' cnt' hkey _ _ hat hrg hlt hgr hsz hen => by
      obtain ⟨x', ex, rfl, _⟩ := Maps.keyOf_int_inv Try.underlying3 hkey
      cases ex
      exact hMore x (.bool c) w' cnt' (Maps.has_true_of_atKey hat) hrg hlt hgr hsz hen)

theorem jump_ret {l : Nat} {J : Act → World → Prop} {Q : Exit → Act → World → Prop} {a : Act} {w : World} : Exit.jump l J Q .ret a w = Q .ret a w := rfl
theorem IsSet.del {w' : World} {b n : Nat} {S : Int → Bool} {D : DataW Unit} (hs : ∀ i, Maps.has D (.int .i64 i) = S i ∧ D.atKey (.int .i64 i) (.lit (.bool false)) = .lit (.bool (S i))) (x : Int)
    (h : w'.ownsMap Try.prog 3 (plainElem Try.prog 4) b n (D.del (.int .i64 x))) : IsSet w' b n (fun i => S i && !(i == x)) := by
  refine ⟨_, h, fun i => ?_⟩
  by_cases e : i = x
  · subst e
    rw [Maps.has_del_same, Maps.atKey_del_same]
    simp
  · have ne : (Lit.int .i64 i) ≠ Lit.int .i64 x := fun hc => e (by injection hc)
    rw [Maps.has_del_other ne, Maps.atKey_del_other ne, (hs i).1, (hs i).2]
    simp [e]

theorem sameKey_int (i x : Int) : (Lit.int .i64 i).sameKey (.int .i64 x) = (i == x) := by
  by_cases h : i = x
  · subst h; simp [Lit.sameKey]
  · have : (Lit.int .i64 i) ≠ (Lit.int .i64 x) := fun e => h (by injection e)
    rw [Maps.sameKey_ne this]; simp [h]

set_option maxHeartbeats 2000000 in
theorem drained_any (b n : Nat) (S : Int → Bool) (w : World) (hset : IsSet w b n S) (hS : ∀ i, S i = true → 1 ≤ i ∧ i ≤ 60) :
    Calls Try.prog 82 #[.map (some b)] w fun e w' => ∃ v, e = .returned v ∧ OwnI w' w.heap.size v (els S 60) ∧ Turned w w' [b] := by
  have HS0 := Lib.hid hS
  have hbw := hset.lt
  clear hS
  go_enter Try.func82, Try.ntmps82
  go_wp2
  refine wp_scope_again 0 (fun a' wr => ∃ (m : Nat) (v : Value) (S' : Int → Bool) (u4 u5 u6 u7 u8 u9 u10 u11 u12 u13 u14 u15 u16 u17 u18 u19 u20 u21 u22 : Value), a' = { tmps := #[.map (some b), undef, .slice none 0 0, v, u4, u5, u6, u7, u8, u9, u10, u11, u12, u13, u14, u15, u16, u17, u18, u19, u20, u21, u22, undef], defers := [] } ∧ m ≤ 60 ∧ OwnI wr w.heap.size v (els S m) ∧ IsSet wr b n S' ∧ Hid (∀ i, S' i = (S i && decide ((m : Int) < i))) ∧ Hid (intOf u4 = m) ∧ Turned w wr [b])
    (fun a' _ => 60 - (intOf (a'.tmps.getD 4 undef)).toNat) rfl ?_ ?_
  · intro Q' hQ
    go_wp2
    exact ⟨0, .slice none 0 0, S, _, _, _, _, _, _, _, _, _, _, _, _, _, _, _, _, _, _, _, rfl, by omega, OwnI.nil _ _, hset, fun i => by
      cases h : S i
      · rfl
      · have := HS0.out i h; simp; omega, rfl, Turned.refl _ _⟩
  · rintro a' wo ⟨m, v, S', u4, u5, u6, u7, u8, u9, u10, u11, u12, u13, u14, u15, u16, u17, u18, u19, u20, u21, u22, rfl, hm, hown, hset2, HS', Hu, ht⟩
    obtain ⟨D, ho, hs⟩ := hset2
    have HS := Lib.hid hs
    have hsz := ht.size
    have HV := Lib.hid (fun k h => (hown.lt k h).2)
    have HV1 := Lib.hid (fun k h => (hown.lt k h).1)
    clear hs
    go_wp2_with (at_range; refine wpList_range_own _ rfl _ 61 rfl 3 4 setKey Try.underlying61 _ b n _ rfl ho ?_; intro w0 hrg0 hg0 hs0)
    go_frame
    go_loopw [4] (fun u wl => ∃ (left : Lit → Bool) (cnt : Nat) (l : Int), u = .int .i64 l ∧ wl.ranges Try.prog 3 (plainElem Try.prog 4) b wo.heap.size n D left cnt ∧ 1 ≤ l ∧ l ≤ 61 ∧ Hid (l = 61 ∨ S' l = true) ∧ Hid (∀ i, S' i = true → left (.int .i64 i) = true ∨ l ≤ i) ∧ OwnI wl w.heap.size v (els S m) ∧ Turned w wl [b])
      (fun _ wl => wl.rangeLeft b wo.heap.size)
    case atStart =>
      refine ⟨_, _, 61, rfl, hrg0, by omega, by omega, .inl rfl, fun i hi => .inl ?_, hown.kept hg0 (fun k _ => by simp), ht.step_grown hg0 (fun r hr => by cases hr)⟩
      rw [(HS.out i).1]; exact hi
    case round =>
      obtain ⟨left, cnt, l, rfl, hrg, hl1, hl2, HL, HA, ho1, ht1⟩ := hrel
      go_wp2_with (at_next; refine wpList_next_set _ rfl _ rfl b wo.heap.size n D _ _ rfl hrg ?_ ?_)
      · intro _ hl0
        have hno : ∀ i, S' i = true → l ≤ i := fun i hi => (HA.out i hi).elim (fun h => by rw [hl0] at h; cases h) id
        by_cases hl60 : l ≤ 60
        · have hl : S' l = true := HL.out.elim (fun h => by omega) id
          rw [HS'.out, Bool.and_eq_true, decide_eq_true_eq] at hl
          have hml : (m : Int) < l := hl.2
          have HSl := Lib.hid hl.1
          obtain ⟨ln, hln⟩ : ∃ ln : Nat, l = ln := ⟨l.toNat, by omega⟩
          have HN := Lib.hid (els_next S m ln (by omega) (by rw [← hln]; exact HSl.out) (fun i h1 h2 => by
            cases hSi : S i
            · rfl
            · have := hno i (by rw [HS'.out, hSi]; simpa using h1)
              omega))
          have HNO := Lib.hid hno
          subst hln
          have HL0 := Lib.hid hl0
          have hsz1 := ht1.size
          have hml' := els_len S m
          have hin := hrg.owns
          clear hl hno hl0 hown ht HA HL hset
          go_wp2_with (first
            | (at_delete; refine wpList_delete_own _ rfl _ _ 61 3 rfl 4 setKey Try.underlying61 _ b n D rfl hin _ _ rfl (Maps.keyOf_int_mk Try.underlying3 (wf64 (by omega) (by omega))) ?_; intro w3 hdel htn; have ho3 := ho1.kept htn.grown (fun k hk => by have := HV1.out k hk; simp; omega); have hsz3 := htn.grown.size)
            | (at_builtin; refine wpList_push _ rfl _ _ rfl w.heap.size _ (els S m) rfl (ho3.alloc _) w3.heap.size (ln : Int) rfl (by simp) (by omega) (by simp; omega) ?_; intro v2 w4 ho4 hb4))
          go_step3
          have hin4 := ((IsSet.del HS.out (ln : Int) hdel).alloc (.cells #[.int .i64 (ln : Int)] 3)).below hb4 hbw
          have hb34 : Below w.heap.size w3 w4 := ((Below.refl _ _).alloc (by omega) _).trans hb4
          have ht4 := (ht1.step_grown htn.grown (fun r hr => by cases hr; exact .inr (by simp))).step_below hb34 (Nat.le_refl _)
          refine ⟨rfl, ⟨ln, v2, _, _, _, _, _, _, _, _, _, _, _, _, _, _, _, _, _, _, _, _, rfl, by omega, by rw [HN.out]; exact ho4, hin4, ?_, rfl, ht4⟩, ?_⟩
          · intro i
            show (S' i && !(i == (ln : Int))) = _
            have h1 := HNO.out i
            rw [HS'.out i] at h1 ⊢
            cases hSi : S i
            · simp
            · rw [hSi] at h1
              by_cases h2 : (m : Int) < i
              · have h3 := h1 (by simp [h2])
                by_cases h4 : i = ln
                · subst h4; simp
                · have h5 : (ln : Int) < i := by omega
                  simp [h2, h4, h5]
              · have h5 : ¬ (ln : Int) < i := by omega
                simp [h2, h5]
          · have h1 : (intOf (Value.int .i64 (ln : Int))).toNat = ln := rfl
            have h2 := Hu.out
            simp [intOf] at h2 ⊢
            omega
        · have hE : els S 60 = els S m := by
            have := els_skip S m (60 - m) (fun i h1 h2 => by
              cases hSi : S i
              · rfl
              · have := hno i (by rw [HS'.out, hSi]; simpa using h1)
                omega)
            rw [← this]
            congr 1
            omega
          have HE := Lib.hid hE
          clear hE
          go_wp2
          rw [jump_ret]
          go_ret
          exact ⟨v, rfl, by rw [HE.out]; exact ho1, ht1⟩
      · intro x c w1 cnt1 hx hrg1 hlt hg1 hs1 hen
        have hSx : S' x = true := by rw [← (HS.out x).1]; exact hx
        have HX := Lib.hid hSx
        rw [HS'.out, Bool.and_eq_true] at hSx
        have hx60 := HS0.out x hSx.1
        have hx1 : 1 ≤ x := hx60.1
        have hx2 : x ≤ 60 := hx60.2
        clear hSx hx60 hx
        by_cases hmin : x < l
        · go_wp2
          go_roundw
          case rel => exact ⟨_, cnt1, x, rfl, hrg1, hx1, by omega, .inr HX.out, fun i hi => by
            rcases HA.out i hi with h | h
            · rw [sameKey_int]
              by_cases e : i = x
              · exact .inr (by omega)
              · exact .inl (by simp [h, e])
            · exact .inr (by omega), ho1.kept hg1 (fun k hk => by have := HV.out k hk; simp; omega), ht1.step_grown hg1 (fun r hr => by cases hr; exact .inl hsz)⟩
          case measure => rw [hrg1.left_eq, hrg.left_eq]; exact hlt
        · go_wp2
          go_roundw
          case rel => exact ⟨_, cnt1, l, rfl, hrg1, hl1, hl2, HL, fun i hi => by
            rcases HA.out i hi with h | h
            · rw [sameKey_int]
              by_cases e : i = x
              · exact .inr (by omega)
              · exact .inl (by simp [h, e])
            · exact .inr h, ho1.kept hg1 (fun k hk => by have := HV.out k hk; simp; omega), ht1.step_grown hg1 (fun r hr => by cases hr; exact .inl hsz)⟩
          case measure => rw [hrg1.left_eq, hrg.left_eq]; exact hlt

end Go.Proofs.Ytimgnollnnepbaa
