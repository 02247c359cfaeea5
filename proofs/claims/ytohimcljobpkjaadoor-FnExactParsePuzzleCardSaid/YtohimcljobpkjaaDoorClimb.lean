/- Plain facts on valid stairs, climbs and steps; a set of steps kept as a map. -/
import Derived.Test.YtohimcljobpkjaaDoorCopy
import Derived.Maps.OwnSet
namespace Go.Proofs.YtohimcljobpkjaaDoor
set_option maxRecDepth 100000
open Go.RowKit

structure Good (st : Int) (ss bs : List Int) : Prop where
  st1 : 1 ≤ st
  st2 : st ≤ 60
  l1 : 1 ≤ ss.length
  l2 : ss.length ≤ 5
  hs : ∀ x ∈ ss, 1 ≤ x ∧ x ≤ 9
  hb : ∀ x ∈ bs, 1 ≤ x ∧ x ≤ st - 1
  ps : ss.Pairwise (· < ·)
  pb : bs.Pairwise (· < ·)

theorem incB_mem {most : Int} : ∀ {l : Int} {xs : List Int}, incB most l xs = true → (∀ x ∈ xs, l < x ∧ x ≤ most) ∧ xs.Pairwise (· < ·)
  | _, [], _ => ⟨by simp, List.Pairwise.nil⟩
  | l, x :: r, h => by
    simp only [incB, Bool.and_eq_true, decide_eq_true_eq] at h
    obtain ⟨h1, h2, h3⟩ := h
    obtain ⟨a, b⟩ := incB_mem h3
    refine ⟨fun y hy => ?_, List.pairwise_cons.2 ⟨fun y hy => (a y hy).1, b⟩⟩
    rcases List.mem_cons.1 hy with rfl | hy
    · exact ⟨h1, h2⟩
    · exact ⟨by have := a y hy; omega, (a y hy).2⟩
theorem incB_of {most : Int} : ∀ {l : Int} {xs : List Int}, (∀ x ∈ xs, l < x ∧ x ≤ most) → xs.Pairwise (· < ·) → incB most l xs = true
  | _, [], _, _ => rfl
  | l, x :: r, h, hp => by
    obtain ⟨h1, h2⟩ := List.pairwise_cons.1 hp
    simp only [incB, Bool.and_eq_true, decide_eq_true_eq]
    exact ⟨(h x (by simp)).1, (h x (by simp)).2, incB_of (fun y hy => ⟨h1 y hy, (h y (by simp [hy])).2⟩) h2⟩

theorem good_of {st : Int} {ss bs : List Int} (h : goodB st ss bs = true) : Good st ss bs := by
  simp only [goodB, Bool.and_eq_true] at h
  obtain ⟨h1, h2, h3, h4⟩ := h
  have a1 := inB_le h1
  have a2 := inB_le h2
  obtain ⟨b1, b2⟩ := incB_mem h3
  obtain ⟨c1, c2⟩ := incB_mem h4
  exact ⟨a1.1, a1.2, by omega, by omega, fun x hx => ⟨by have := b1 x hx; omega, (b1 x hx).2⟩, fun x hx => ⟨by have := c1 x hx; omega, (c1 x hx).2⟩, b2, c2⟩
theorem of_good {st : Int} {ss bs : List Int} (h : Good st ss bs) : goodB st ss bs = true := by
  simp only [goodB, Bool.and_eq_true]
  have := h.l1
  have := h.l2
  exact ⟨inB_yes h.st1 h.st2, inB_yes (by omega) (by omega), incB_of (fun x hx => ⟨by have := h.hs x hx; omega, (h.hs x hx).2⟩) h.ps, incB_of (fun x hx => ⟨by have := h.hb x hx; omega, (h.hb x hx).2⟩) h.pb⟩

/-- rising numbers from 1 to m are at most m -/
theorem rising_len : ∀ {m : Nat} {l : Int} {xs : List Int}, 0 ≤ l → xs.Pairwise (· < ·) → (∀ x ∈ xs, l < x ∧ x ≤ l + m) → xs.length ≤ m
  | _, _, [], _, _, _ => by simp
  | 0, l, x :: r, _, _, h => by have := h x (by simp); omega
  | m + 1, l, x :: r, h0, hp, h => by
    obtain ⟨h1, h2⟩ := List.pairwise_cons.1 hp
    have hx := h x (by simp)
    have := rising_len (m := m) (l := x) (xs := r) (by omega) h2 (fun y hy => ⟨h1 y hy, by
      have := h y (by simp [hy])
      omega⟩)
    simp; omega
theorem Good.nb {st : Int} {ss bs : List Int} (h : Good st ss bs) : bs.length ≤ 59 := by
  refine rising_len (l := 0) (Int.le_refl _) h.pb (fun x hx => ?_)
  have := h.hb x hx
  have := h.st2
  omega

theorem mem_of_hasB {xs : List Int} {x : Int} (h : hasB xs x = true) : x ∈ xs := by simpa [hasB] using h
theorem hasB_of_mem {xs : List Int} {x : Int} (h : x ∈ xs) : hasB xs x = true := by simpa [hasB] using h
theorem getD_mem {xs : List Int} {k : Nat} (h : k < xs.length) : xs.getD k 0 ∈ xs := by
  simp [List.getD_eq_getElem?_getD, h]
theorem take_succ_getD {xs : List Int} {k : Nat} (h : k < xs.length) : xs.take (k + 1) = xs.take k ++ [xs.getD k 0] := by
  rw [List.take_succ_eq_append_getElem h]; simp [List.getD_eq_getElem?_getD, h]
theorem hasB_snoc (xs : List Int) (x i : Int) : hasB (xs ++ [x]) i = (hasB xs i || i == x) := by rw [Bool.eq_iff_iff]; simp [hasB]

/-- one can stand on step k -/
def standB (st : Int) (bs : List Int) (k : Int) : Bool := inB k 0 st && !hasB bs k
/-- from step 'at' on the list leads to the top -/
def climbB (st : Int) (ss bs : List Int) : Int → List Int → Bool
  | v, [] => decide (v = st)
  | v, x :: r => hasB ss x && (standB st bs (v + x) && climbB st ss bs (v + x) r)
/-- the steps on which one stands -/
def sumsL : Int → List Int → List Int
  | _, [] => []
  | v, x :: r => (v + x) :: sumsL (v + x) r

theorem climbB_go (st : Int) (ss bs : List Int) (v : Int) (xs : List Int) (k : Nat) (h : k < xs.length) :
    climbB st ss bs v (xs.drop k) = (hasB ss (xs.getD k 0) && (standB st bs (v + xs.getD k 0) && climbB st ss bs (v + xs.getD k 0) (xs.drop (k + 1)))) := by
  rw [drop_at xs k h]; rfl
theorem climbB_end (st : Int) (ss bs : List Int) (v : Int) (xs : List Int) (k : Nat) (h : ¬ k < xs.length) : climbB st ss bs v (xs.drop k) = decide (v = st) := by
  rw [List.drop_eq_nil_of_le (by omega)]; rfl
theorem sumsL_go (v : Int) (xs : List Int) (k : Nat) (h : k < xs.length) : sumsL v (xs.drop k) = (v + xs.getD k 0) :: sumsL (v + xs.getD k 0) (xs.drop (k + 1)) := by
  rw [drop_at xs k h]; rfl
theorem sumsL_end (v : Int) (xs : List Int) (k : Nat) (h : ¬ k < xs.length) : sumsL v (xs.drop k) = [] := by
  rw [List.drop_eq_nil_of_le (by omega)]; rfl
theorem sumsL_length : ∀ (v : Int) (xs : List Int), (sumsL v xs).length = xs.length
  | _, [] => rfl
  | v, x :: r => by simp [sumsL, sumsL_length (v + x) r]

/-! ### a set of ints kept as a map[int]bool -/
def IsSet (w : World) (b n : Nat) (S : Int → Bool) : Prop :=
  ∃ D : DataW Unit, w.ownsMap Tryd.prog 3 (plainElem Tryd.prog 4) b n D ∧ ∀ i, Maps.has D (.int .i64 i) = S i ∧ D.atKey (.int .i64 i) (.lit (.bool false)) = .lit (.bool (S i))

theorem setKey : Maps.Keyed Tryd.prog 3 := Maps.int_keyed Tryd.underlying3
theorem zeroBool (w : World) : (zeroValue 4).run Tryd.prog w = .ok (.bool false) w := by kernel_rfl
theorem wf64 {i : Int} (h0 : -9223372036854775808 ≤ i) (h1 : i ≤ 9223372036854775807) : (Lit.int .i64 i).wf = true := WalkArith.wf_i64 ⟨h0, h1⟩

theorem IsSet.made (w : World) : IsSet (w.alloc (.map #[] 0)) w.heap.size 0 (fun _ => false) := by
  refine ⟨.map [], World.ownsMap_made _ _ _ _, fun i => ⟨rfl, ?_⟩⟩
  rfl
theorem IsSet.lt {w : World} {b n : Nat} {S : Int → Bool} (h : IsSet w b n S) : b < w.heap.size := by
  obtain ⟨D, h1, _⟩ := h
  exact h1.lt
theorem IsSet.below {w w' : World} {b n B : Nat} {S : Int → Bool} (h : IsSet w b n S) (hb : Below B w w') (hlt : b < B) : IsSet w' b n S := by
  obtain ⟨D, ⟨es, cl, h1, r⟩, h2⟩ := h
  exact ⟨D, ⟨es, cl, (hb.block b hlt).trans h1, r⟩, h2⟩
theorem IsSet.alloc {w : World} {b n : Nat} {S : Int → Bool} (h : IsSet w b n S) (o : Obj) : IsSet (w.alloc o) b n S := by
  obtain ⟨D, h1, h2⟩ := h
  exact ⟨D, h1.alloc o, h2⟩
theorem IsSet.congr {w : World} {b n : Nat} {S S' : Int → Bool} (h : IsSet w b n S) (e : ∀ i, S i = S' i) : IsSet w b n S' := by
  obtain ⟨D, h1, h2⟩ := h
  exact ⟨D, h1, fun i => by rw [← e]; exact h2 i⟩
theorem IsSet.mono {w : World} {b n n' : Nat} {S : Int → Bool} (h : IsSet w b n S) (hn : n ≤ n') : IsSet w b n' S := by
  obtain ⟨D, h1, h2⟩ := h
  exact ⟨D, h1.mono hn, h2⟩
theorem IsSet.look {w : World} {b n : Nat} {S : Int → Bool} (h : IsSet w b n S) (i : Int) (h0 : -9223372036854775808 ≤ i) (h1 : i ≤ 9223372036854775807) :
    (Instr.lookup 140 (.map (some b)) (.int .i64 i) false).run Tryd.prog w = .ok (.bool (S i)) w := by
  obtain ⟨D, ho, hs⟩ := h
  obtain ⟨v, ps, hrun, hv⟩ := ho.lookup setKey Tryd.underlying140 (zeroBool w) (plainElem_bool Tryd.underlying4 false) (Maps.keyOf_int_mk Tryd.underlying3 (wf64 h0 h1))
  rw [(hs i).2] at hv
  rw [hrun]
  unfold plainElem at hv
  rw [Tryd.underlying4] at hv
  cases v <;> simp at hv
  obtain ⟨rfl, _⟩ := hv
  rfl
theorem key_lit (i : Int) : WideAt.IsKeyLit (.int .i64 i) := trivial

theorem IsSet.put {w' : World} {b n : Nat} {S : Int → Bool} {D : DataW Unit} (hs : ∀ i, Maps.has D (.int .i64 i) = S i ∧ D.atKey (.int .i64 i) (.lit (.bool false)) = .lit (.bool (S i))) (hm : Maps.IsMap D) (x : Int)
    (h : w'.ownsMap Tryd.prog 3 (plainElem Tryd.prog 4) b n (D.put (.int .i64 x) (.lit (.bool true)))) : IsSet w' b n (fun i => S i || i == x) := by
  refine ⟨_, h, fun i => ?_⟩
  by_cases e : i = x
  · subst e
    rw [Maps.has_put_same hm (key_lit i), Maps.atKey_put_same hm (key_lit i)]
    simp
  · have ne : (Lit.int .i64 i) ≠ Lit.int .i64 x := fun hc => e (by injection hc)
    rw [Maps.has_put_other ne, Maps.atKey_put_other ne, (hs i).1, (hs i).2]
    simp [e]

end Go.Proofs.YtohimcljobpkjaaDoor
