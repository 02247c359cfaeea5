/- Region.lexB of a long region by a check that the kernel bears (141 operations in some seconds): rows of numbers in the place of the operations. No program. -/
import Derived.Test.YthcoipoihieggaaDoorGInts
import Derived.Still
import Derived.Deep.QuietTactic
namespace Go.Proofs.YthcoipoihieggaaDoor
set_option maxRecDepth 100000
open Go

structure RowC where
  dst : Nat
  look : List Nat
  aft : List Nat
def hasN : List Nat → Nat → Bool
  | [], _ => false
  | x :: r, n => match Nat.beq x n with | true => true | false => hasN r n
def dstN (o : Oper) : Nat := match o.dst with | some d => d + 1 | none => 0
def tmpsN : List Operand → List Nat
  | [] => []
  | .tmp t :: r => (t + 1) :: tmpsN r
  | _ :: r => tmpsN r
def onN : List Edge → List Nat
  | [] => []
  | e :: r => if Region.binds .any e then e.on :: onN r else onN r
def rowC (l : List Oper) (o : Oper) : RowC := ⟨dstN o, (match o.guard with | some (g, _) => ((l[g]?.map dstN).getD 0) :: tmpsN o.op.operands.toList | none => tmpsN o.op.operands.toList), onN o.after.toList⟩
def pairC (i : Nat) (x y : RowC) : Bool :=
  match hasN y.aft i with
  | true => true
  | false => match x.dst with
    | 0 => (match y.dst with | 0 => true | d + 1 => match hasN x.look (d + 1) with | true => false | false => true)
    | c + 1 => match hasN y.look (c + 1) with
      | true => false
      | false => match Nat.beq y.dst (c + 1) with
        | true => false
        | false => (match y.dst with | 0 => true | d + 1 => match hasN x.look (d + 1) with | true => false | false => true)
def laterC (i : Nat) (x : RowC) : List RowC → Bool
  | [] => true
  | y :: r => match pairC i x y with | true => laterC i x r | false => false
def beforeC (i : Nat) : List Nat → Bool
  | [] => true
  | e :: r => match Nat.ble (e + 1) i with | true => beforeC i r | false => false
def rowsC : Nat → List RowC → Bool
  | _, [] => true
  | i, x :: r => match beforeC i x.aft with | true => (match laterC i x r with | true => rowsC (i + 1) r | false => false) | false => false
def calmB (l : List Oper) : Bool := rowsC 0 (l.map (rowC l))

theorem hasN_iff : ∀ {l : List Nat} {n : Nat}, hasN l n = true ↔ n ∈ l
  | [], n => by simp [hasN]
  | x :: r, n => by
    unfold hasN
    cases h : Nat.beq x n
    · have : x ≠ n := fun e => by rw [e, Nat.beq_refl] at h; cases h
      simp only [hasN_iff (l := r), List.mem_cons]
      exact ⟨.inr, fun h2 => h2.resolve_left (Ne.symm this)⟩
    · simp [Nat.eq_of_beq_eq_true h]
theorem hasN_no {l : List Nat} {n : Nat} (h : hasN l n = false) : n ∉ l := fun hm => by rw [hasN_iff.2 hm] at h; cases h
theorem mem_tmpsN : ∀ {l : List Operand} {t : Nat}, (t + 1) ∈ tmpsN l ↔ t ∈ l.filterMap (fun | .tmp t => some t | _ => none)
  | [], t => by simp [tmpsN]
  | x :: r, t => by
    cases x <;> simp [tmpsN, mem_tmpsN (l := r)]
theorem mem_onN : ∀ {l : List Edge} {n : Nat}, n ∈ onN l ↔ ∃ e ∈ l, Region.binds .any e = true ∧ e.on = n
  | [], n => by simp [onN]
  | e :: r, n => by
    unfold onN
    split
    · rename_i hb
      simp only [List.mem_cons, mem_onN (l := r)]
      constructor
      · rintro (rfl | ⟨e', he, h⟩)
        · exact ⟨e, .inl rfl, hb, rfl⟩
        · exact ⟨e', .inr he, h⟩
      · rintro ⟨e', rfl | he, h1, h2⟩
        · exact .inl h2.symm
        · exact .inr ⟨e', he, h1, h2⟩
    · rename_i hb
      rw [mem_onN (l := r)]
      constructor
      · rintro ⟨e', he, h⟩; exact ⟨e', by simp [he], h⟩
      · rintro ⟨e', he, h1, h2⟩
        rcases List.mem_cons.1 he with rfl | he
        · exact absurd h1 hb
        · exact ⟨e', he, h1, h2⟩
theorem dstN_iff {o : Oper} {d : Nat} : dstN o = d + 1 ↔ o.dst = some d := by
  unfold dstN
  cases o.dst with
  | none => simp
  | some c => simp
theorem look_iff {l : List Oper} {o : Oper} {d : Nat} : (d + 1) ∈ (rowC l o).look ↔ d ∈ o.looksAt l.toArray := by
  unfold rowC Oper.looksAt
  cases hg : o.guard with
  | none => simp only [List.append_nil]; exact mem_tmpsN
  | some p =>
    obtain ⟨g, b⟩ := p
    simp only [List.mem_cons, List.mem_append, mem_tmpsN]
    have : d + 1 = (l[g]?.map dstN).getD 0 ↔ d ∈ ((l.toArray[g]?).bind (·.dst)).toList := by
      simp only [List.getElem?_toArray]
      cases l[g]? with
      | none => simp
      | some x =>
        simp only [Option.map_some, Option.getD_some, Option.bind_some, Option.mem_toList]
        rw [eq_comm, dstN_iff]
    rw [this]
    exact Or.comm
theorem pairC_ok {l : List Oper} {i : Nat} {x y : Oper} (h : pairC i (rowC l x) (rowC l y) = true) : (y.after.any fun e => Region.binds .any e && e.on == i) = true ∨ x.apart l.toArray y = true := by
  unfold pairC at h
  cases h1 : hasN (rowC l y).aft i
  · right
    rw [h1] at h
    dsimp only at h
    have hd : ∀ o : Oper, (rowC l o).dst = dstN o := fun _ => rfl
    rw [hd, hd] at h
    have key : ∀ {d : Nat}, (match hasN (rowC l x).look (d + 1) with | true => false | false => true) = true → ¬ d ∈ x.looksAt l.toArray := by
      intro d hh
      cases h2 : hasN (rowC l x).look (d + 1)
      · intro hm; exact hasN_no h2 (look_iff.2 hm)
      · rw [h2] at hh; cases hh
    have key2 : ∀ {b : Bool}, (match b with | true => false | false => true) = true → b = false := by intro b hb; cases b <;> first | rfl | cases hb
    unfold Oper.apart
    cases hx : x.dst with
    | none =>
      have ex : dstN x = 0 := by unfold dstN; rw [hx]
      rw [ex] at h
      dsimp only at h
      cases hy : y.dst with
      | none => simp
      | some d =>
        have ey : dstN y = d + 1 := dstN_iff.2 hy
        rw [ey] at h
        have := key h
        simp [this]
    | some c =>
      have ex : dstN x = c + 1 := dstN_iff.2 hx
      rw [ex] at h
      dsimp only at h
      cases h3 : hasN (rowC l y).look (c + 1)
      · rw [h3] at h
        dsimp only at h
        have n3 : ¬ c ∈ y.looksAt l.toArray := fun hm => hasN_no h3 (look_iff.2 hm)
        cases h4 : Nat.beq (dstN y) (c + 1)
        · rw [h4] at h
          dsimp only at h
          have n4 : ¬ y.dst = some c := fun e => by rw [dstN_iff.2 e, Nat.beq_refl] at h4; cases h4
          cases hy : y.dst with
          | none => simp [n3]
          | some d =>
            have ey : dstN y = d + 1 := dstN_iff.2 hy
            rw [ey] at h
            have := key h
            rw [hy] at n4
            simp [n3, this]
            exact fun e => n4 (by rw [e])
        · rw [h4] at h; cases h
      · rw [h3] at h; cases h
  · left
    obtain ⟨e, he, hb, hi⟩ := mem_onN.1 (hasN_iff.1 h1)
    rw [Array.any_eq_true']
    exact ⟨e, by simpa using he, by simp [hb, hi]⟩
theorem beforeC_ok {i : Nat} : ∀ {l : List Nat}, beforeC i l = true → ∀ e ∈ l, e < i
  | [], _, e, he => by cases he
  | x :: r, h, e, he => by
    unfold beforeC at h
    cases h1 : Nat.ble (x + 1) i
    · rw [h1] at h; cases h
    · rw [h1] at h
      rcases List.mem_cons.1 he with rfl | he
      · exact Nat.le_of_ble_eq_true h1
      · exact beforeC_ok h e he
theorem laterC_ok {i : Nat} {x : RowC} : ∀ {l : List RowC}, laterC i x l = true → ∀ y ∈ l, pairC i x y = true
  | [], _, y, hy => by cases hy
  | z :: r, h, y, hy => by
    unfold laterC at h
    cases h1 : pairC i x z
    · rw [h1] at h; cases h
    · rw [h1] at h
      rcases List.mem_cons.1 hy with rfl | hy
      · exact h1
      · exact laterC_ok h y hy
theorem rowsC_ok : ∀ {R : List RowC} {i : Nat}, rowsC i R = true → ∀ k x, R[k]? = some x → beforeC (i + k) x.aft = true ∧ ∀ j y, k < j → R[j]? = some y → pairC (i + k) x y = true
  | [], _, _, k, x, hx => by simp at hx
  | z :: r, i, h, k, x, hx => by
    unfold rowsC at h
    cases h1 : beforeC i z.aft
    · rw [h1] at h; cases h
    · rw [h1] at h
      dsimp only at h
      cases h2 : laterC i z r
      · rw [h2] at h; cases h
      · rw [h2] at h
        dsimp only at h
        cases k with
        | zero =>
          obtain rfl : z = x := by simpa using hx
          refine ⟨h1, fun j y hj hy => ?_⟩
          cases j with
          | zero => omega
          | succ j => exact laterC_ok h2 y (List.mem_of_getElem? (by simpa using hy))
        | succ k =>
          have := rowsC_ok h k x (by simpa using hx)
          rw [show i + (k + 1) = i + 1 + k by omega]
          refine ⟨this.1, fun j y hj hy => ?_⟩
          cases j with
          | zero => omega
          | succ j => exact this.2 j y (by omega) (by simpa using hy)
theorem calm_at {l : List Oper} (h : calmB l = true) {k : Nat} {o : Oper} (ho : l[k]? = some o) : (∀ e ∈ o.after, Region.binds .any e = true → e.on < k) ∧ ∀ j oj, k < j → l[j]? = some oj → (oj.after.any fun e => Region.binds .any e && e.on == k) = true ∨ o.apart l.toArray oj = true := by
  obtain ⟨h1, h2⟩ := rowsC_ok h k (rowC l o) (by simp [ho])
  rw [Nat.zero_add] at h1
  refine ⟨fun e he hb => beforeC_ok h1 e.on (mem_onN.2 ⟨e, by simpa using he, hb, rfl⟩), fun j oj hj hoj => ?_⟩
  have := h2 j (rowC l oj) hj (by simp [hoj])
  rw [Nat.zero_add] at this
  exact pairC_ok this
theorem lexFrom_calm {l : List Oper} (h : calmB l = true) : ∀ (m k : Nat) (L : Array Bool), k + m = l.length → L.size = l.length → (∀ j, j < k → L.getD j false = true) → (∀ j, k ≤ j → j < l.length → L.getD j true = false) → Region.lexFrom .any l.toArray m k L = true
  | 0, k, L, hk, hs, h1, _ => by
    have : Region.ready .any l.toArray L = [] := by
      refine List.eq_nil_iff_forall_not_mem.2 fun j hj => ?_
      obtain ⟨h2, o, ho, _⟩ := mem_ready.1 hj
      have hjl : j < l.length := by simpa using (Array.getElem?_eq_some_iff.1 ho).1
      have h3 := h1 j (by omega)
      have hjs : j < L.size := by omega
      simp [hjs] at h2 h3
      rw [h2] at h3; cases h3
    simp [Region.lexFrom, this]
  | m + 1, k, L, hk, hs, h1, h2 => by
    have hkl : k < l.length := by omega
    have hok : l[k]? = some l[k] := List.getElem?_eq_getElem hkl
    obtain ⟨c1, c2⟩ := calm_at h hok
    have hr : k ∈ Region.ready .any l.toArray L := mem_ready.2 ⟨h2 k (Nat.le_refl _) hkl, l[k], by simp, fun e he hb => h1 e.on (c1 e he hb)⟩
    have hf : Region.free .any l.toArray L k = true := by
      unfold Region.free
      simp only [List.getElem?_toArray, hok, List.all_eq_true, List.mem_range, List.size_toArray]
      intro j hj
      by_cases hjk : j = k
      · simp [hjk]
      · by_cases hlt : j < k
        · have := h1 j hlt
          have hjs : j < L.size := by omega
          simp [hjs] at this ⊢
          simp [this]
        · have hoj : l[j]? = some l[j] := List.getElem?_eq_getElem hj
          rw [hoj]
          rcases c2 j l[j] (by omega) hoj with h3 | h3
          · simp [h3]
          · simp [h3]
    have hrest := lexFrom_calm h m (k + 1) (L.setIfInBounds k true) (by omega) (by simp [hs]) (fun j hj => by
      by_cases hjk : j = k
      · subst hjk
        have : j < L.size := by omega
        simp [this]
      · exact getD_set_true (h1 j (by omega))) (fun j hj hjl => by
      rw [getD_set_ne true (by omega)]
      exact h2 j (by omega) hjl)
    simp only [Region.lexFrom, Bool.and_eq_true]
    exact ⟨⟨by simpa using hr, hf⟩, hrest⟩
theorem lexB_calm {l : List Oper} (hs : Region.noSelect l.toArray = true) (h : calmB l = true) : Region.lexB .any l.toArray = true := by
  unfold Region.lexB
  rw [hs, Bool.true_and]
  have := lexFrom_calm h l.length 0 (Array.replicate l.length false) (by omega) (by simp) (fun j hj => by omega) (fun j _ hj => by simp [hj])
  simpa using this

end Go.Proofs.YthcoipoihieggaaDoor
