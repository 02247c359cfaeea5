/- Balls: plain mathematics, no program: places that come again, meetings, fewest changes. -/
import Derived.Test.YtiacfaeanlkalaaBaB
namespace Go.Proofs.Ytiacfaeanlkalaa
set_option maxRecDepth 100000
open Go.RowKit

/-- no list of different numbers below n is longer than n -/
theorem nodup_le : ∀ (n : Nat) (ys : List Int), ys.Nodup → (∀ y ∈ ys, 0 ≤ y ∧ y < n) → ys.length ≤ n
  | 0, ys, _, h => by
    cases ys with
    | nil => simp
    | cons y r => have := h y (by simp); omega
  | n + 1, ys, hd, h => by
    have h1 := nodup_le n (ys.erase (n : Int)) (hd.erase _) (fun y hy => by
      have hy2 := (hd.mem_erase_iff).1 hy
      have := h y hy2.2
      have hne := hy2.1
      omega)
    have h2 := List.length_erase (a := (n : Int)) (l := ys)
    split at h2 <;> omega
/-- n + 1 places among n: two of them are one -/
theorem two_same (n : Nat) (f : Nat → Int) (h : ∀ i, i ≤ n → 0 ≤ f i ∧ f i < n) : ∃ i j, i < j ∧ j ≤ n ∧ f i = f j := by
  apply Classical.byContradiction
  intro hc
  have hd : ((List.range (n + 1)).map f).Nodup := by
    unfold List.Nodup
    rw [List.pairwise_map]
    refine List.Pairwise.imp_of_mem ?_ (List.pairwise_lt_range (n := n + 1))
    intro a b ha hb hab e
    simp only [List.mem_range] at ha hb
    exact hc ⟨a, b, hab, by omega, e⟩
  have := nodup_le n _ hd (by
    intro y hy
    simp only [List.mem_map, List.mem_range] at hy
    obtain ⟨i, hi, rfl⟩ := hy
    exact h i (by omega))
  simp at this
  omega

/-- a jump that is changed by b leads to a place that is not out above -/
def okE (xs : List Int) (u b : Int) : Bool := inB u 0 ((xs.length : Int) - 1) && (inB b (-1) 1 && (inB (xs.getD u.toNat 0 + b) (-30) 30 && decide (0 ≤ u + (xs.getD u.toNat 0 + b))))
def nxE (xs : List Int) (u b : Int) : Int := clampI xs.length (u + (xs.getD u.toNat 0 + b))
/-- what a change costs -/
def costE (b : Int) : Int := if b = 0 then 0 else 1
def endW (xs : List Int) : Int → List Int → Int
  | u, [] => u
  | u, b :: r => endW xs (nxE xs u b) r
def okW (xs : List Int) : Int → List Int → Prop
  | _, [] => True
  | u, b :: r => okE xs u b = true ∧ okW xs (nxE xs u b) r
def costW : List Int → Int
  | [] => 0
  | b :: r => costE b + costW r
theorem costE_bd (b : Int) : 0 ≤ costE b ∧ costE b ≤ 1 := by unfold costE; split <;> omega
theorem costW_bd : ∀ bs : List Int, 0 ≤ costW bs ∧ costW bs ≤ bs.length
  | [] => by simp [costW]
  | b :: r => by
    have := costW_bd r
    have := costE_bd b
    simp only [costW, List.length_cons]; omega
theorem endW_app (xs : List Int) : ∀ (u : Int) (p q : List Int), endW xs u (p ++ q) = endW xs (endW xs u p) q
  | _, [], _ => rfl
  | u, b :: r, q => endW_app xs (nxE xs u b) r q
theorem okW_app (xs : List Int) : ∀ (u : Int) (p q : List Int), okW xs u (p ++ q) ↔ okW xs u p ∧ okW xs (endW xs u p) q
  | _, [], _ => by simp [okW, endW]
  | u, b :: r, q => by simp only [List.cons_append, okW, okW_app xs (nxE xs u b) r q, endW, and_assoc]
theorem costW_app : ∀ (p q : List Int), costW (p ++ q) = costW p + costW q
  | [], q => by simp [costW]
  | b :: r, q => by simp only [List.cons_append, costW, costW_app r q]; omega
theorem okE_on {xs : List Int} {u b : Int} (h : okE xs u b = true) : 0 ≤ u ∧ u < xs.length := by
  simp only [okE, inB, Bool.and_eq_true, decide_eq_true_eq] at h
  omega
/-- ahead of its end a way is on steps -/
theorem way_on {xs : List Int} : ∀ (u : Int) (bs : List Int) (i : Nat), okW xs u bs → i < bs.length → 0 ≤ endW xs u (bs.take i) ∧ endW xs u (bs.take i) < xs.length
  | u, [], i, _, h => by simp at h
  | u, b :: r, 0, h, _ => okE_on h.1
  | u, b :: r, i + 1, h, hi => way_on (nxE xs u b) r i h.2 (by simpa using hi)
/-- a way that is longer than there are steps can be cut -/
theorem way_cut (xs : List Int) : ∀ (k : Nat) (u : Int) (bs : List Int), bs.length ≤ k → okW xs u bs → ∃ bs', okW xs u bs' ∧ endW xs u bs' = endW xs u bs ∧ costW bs' ≤ costW bs ∧ bs'.length ≤ xs.length
  | 0, u, bs, hk, ho => ⟨bs, ho, rfl, Int.le_refl _, by omega⟩
  | k + 1, u, bs, hk, ho => by
    by_cases hl : bs.length ≤ xs.length
    · exact ⟨bs, ho, rfl, Int.le_refl _, hl⟩
    · obtain ⟨i, j, hij, hj, e⟩ := two_same xs.length (fun i => endW xs u (bs.take i)) (fun i hi => way_on u bs i ho (by omega))
      have hp := List.take_append_drop i bs
      have hq := List.take_append_drop j bs
      have o1 : okW xs u (bs.take i) := by rw [← hp] at ho; exact ((okW_app _ _ _ _).1 ho).1
      have o2 : okW xs (endW xs u (bs.take j)) (bs.drop j) := by rw [← hq] at ho; exact ((okW_app _ _ _ _).1 ho).2
      have c1 : costW bs = costW (bs.take j) + costW (bs.drop j) := by rw [← costW_app, hq]
      have c2 : costW (bs.take j) = costW (bs.take i) + costW ((bs.take j).drop i) := by
        have := List.take_append_drop i (bs.take j)
        rw [List.take_take, Nat.min_eq_left (by omega)] at this
        rw [← costW_app, this]
      have c3 := costW_bd ((bs.take j).drop i)
      obtain ⟨bs', b1, b2, b3, b4⟩ := way_cut xs k u (bs.take i ++ bs.drop j) (by simp; omega) ((okW_app _ _ _ _).2 ⟨o1, by rw [e]; exact o2⟩)
      refine ⟨bs', b1, ?_, ?_, b4⟩
      · rw [b2, endW_app, e, ← endW_app, hq]
      · rw [costW_app] at b3; omega
/-- a ball from u is out below with changes that cost c -/
def Leads (xs : List Int) (u c : Int) : Prop := ∃ bs, okW xs u bs ∧ endW xs u bs = xs.length ∧ costW bs = c
theorem Leads.short {xs : List Int} {u c : Int} (h : Leads xs u c) : ∃ bs, okW xs u bs ∧ endW xs u bs = xs.length ∧ costW bs ≤ c ∧ bs.length ≤ xs.length := by
  obtain ⟨bs, h1, h2, h3⟩ := h
  obtain ⟨bs', b1, b2, b3, b4⟩ := way_cut xs bs.length u bs (Nat.le_refl _) h1
  exact ⟨bs', b1, b2.trans h2, by omega, b4⟩
theorem Leads.pos {xs : List Int} {u c : Int} (h : Leads xs u c) : 0 ≤ c := by
  obtain ⟨bs, _, _, h3⟩ := h
  have := costW_bd bs; omega
open Classical in
noncomputable def fewB (xs : List Int) (u : Int) : Bool := decide (∃ c, Leads xs u c)
theorem least_ex {p : Int → Prop} (h : ∃ c, p c) (h0 : ∀ c, p c → 0 ≤ c) : ∃ c, p c ∧ ∀ d, p d → c ≤ d := by
  have key : ∀ (n : Nat) (c : Int), c.toNat ≤ n → p c → ∃ c, p c ∧ ∀ d, p d → c ≤ d := by
    intro n
    induction n with
    | zero => exact fun c hc hp => ⟨c, hp, fun d hd => by have := h0 d hd; omega⟩
    | succ n ih =>
      intro c hc hp
      by_cases hx : ∃ d, p d ∧ d < c
      · obtain ⟨d, hd, hdc⟩ := hx
        have := h0 d hd
        exact ih d (by omega) hd
      · exact ⟨c, hp, fun d hd => by
          by_cases hdc : d < c
          · exact absurd ⟨d, hd, hdc⟩ hx
          · omega⟩
  obtain ⟨c, hc⟩ := h
  exact key c.toNat c (Nat.le_refl _) hc
open Classical in
/-- the least cost, 0 where there is none -/
noncomputable def fewX (xs : List Int) (u : Int) : Int := if h : ∃ c, Leads xs u c then (least_ex h fun _ => Leads.pos).choose else 0
theorem few_is {xs : List Int} {u c : Int} (h : Leads xs u c) (hm : ∀ d, Leads xs u d → c ≤ d) : fewB xs u = true ∧ fewX xs u = c := by
  have he : ∃ c, Leads xs u c := ⟨c, h⟩
  refine ⟨by simp [fewB, he], ?_⟩
  rw [fewX, dif_pos he]
  have := (least_ex he fun _ => Leads.pos).choose_spec
  have h1 := this.2 c h
  have h2 := hm _ this.1
  omega
theorem few_none {xs : List Int} {u : Int} (h : ∀ d, ¬ Leads xs u d) : fewB xs u = false ∧ fewX xs u = 0 := by
  have he : ¬ ∃ c, Leads xs u c := fun ⟨c, hc⟩ => h c hc
  exact ⟨by simp [fewB, he], by rw [fewX, dif_neg he]⟩

/-! the program: the row of the fewest changes from each step on -/
/-- what a step's row holds: costs that lead out, or more than there are steps -/
def Sound (xs : List Int) (F : Nat → Int) : Prop := ∀ u, u < xs.length → 0 ≤ F u ∧ F u ≤ (xs.length : Int) + 1 ∧ (F u ≤ xs.length → Leads xs u (F u))
/-- changesFrom -/
def fromI (xs : List Int) (F : Nat → Int) (u : Nat) (b : Int) : Int :=
  if okE xs u b then costE b + (if nxE xs u b < xs.length then F (nxE xs u b).toNat else 0) else (xs.length : Int) + 1
theorem nxE_bd {xs : List Int} {u b : Int} (h : okE xs u b = true) : 0 ≤ nxE xs u b ∧ nxE xs u b ≤ xs.length := by
  have h0 := okE_on h
  simp only [okE, inB, Bool.and_eq_true, decide_eq_true_eq] at h
  unfold nxE clampI
  split
  · omega
  · split <;> omega
theorem fromI_lead {xs : List Int} {F : Nat → Int} (h : Sound xs F) {u : Nat} {b : Int} (hc : fromI xs F u b ≤ xs.length) : Leads xs u (fromI xs F u b) := by
  unfold fromI at *
  cases ho : okE xs u b
  · rw [ho] at hc
    simp at hc; omega
  · rw [ho] at hc
    simp only [if_true] at hc ⊢
    have hb := nxE_bd ho
    have hcb := costE_bd b
    by_cases hn : nxE xs u b < xs.length
    · rw [if_pos hn] at hc ⊢
      obtain ⟨m, hm⟩ := Int.eq_ofNat_of_zero_le hb.1
      rw [hm] at hn hc ⊢
      rw [Int.toNat_natCast] at hc ⊢
      obtain ⟨bs, b1, b2, b3⟩ := (h m (by omega)).2.2 (by omega)
      exact ⟨b :: bs, ⟨ho, by rw [hm]; exact b1⟩, by rw [endW, hm]; exact b2, by rw [costW, b3]⟩
    · rw [if_neg hn] at hc ⊢
      exact ⟨[b], ⟨ho, trivial⟩, by simp only [endW]; omega, by simp [costW]⟩
theorem fromI_bd {xs : List Int} {F : Nat → Int} (h : Sound xs F) (u : Nat) (b : Int) : 0 ≤ fromI xs F u b ∧ fromI xs F u b ≤ (xs.length : Int) + 2 := by
  unfold fromI
  have hcb := costE_bd b
  cases ho : okE xs u b
  · simp; omega
  · simp only [if_true]
    have hb := nxE_bd ho
    by_cases hn : nxE xs u b < xs.length
    · rw [if_pos hn]
      have := h (nxE xs u b).toNat (by omega)
      omega
    · rw [if_neg hn]; omega
/-- a step's number is written anew -/
def putF (F : Nat → Int) (u : Nat) (v : Int) : Nat → Int := fun k => if k = u then v else F k
theorem Sound.put {xs : List Int} {F : Nat → Int} (h : Sound xs F) {u : Nat} (hu : u < xs.length) (b : Int) : Sound xs (putF F u (min (F u) (fromI xs F u b))) := by
  intro k hk
  unfold putF
  split
  · rename_i e
    subst e
    have h1 := h k hk
    have h2 := fromI_bd h k b
    refine ⟨by omega, by omega, fun hle => ?_⟩
    by_cases g : F k ≤ fromI xs F k b
    · rw [Int.min_eq_left g] at hle ⊢; exact h1.2.2 hle
    · rw [Int.min_eq_right (by omega)] at hle ⊢; exact fromI_lead h hle
  · exact h k hk
/-- all ways of at most r jumps are known -/
def Knows' (xs : List Int) (r : Nat) (F : Nat → Int) (u : Nat) : Prop := ∀ bs, okW xs u bs → endW xs u bs = xs.length → bs.length ≤ r → F u ≤ costW bs
/-- .. that begin with such a change -/
def KnowsB (xs : List Int) (r : Nat) (F : Nat → Int) (u : Nat) (b : Int) : Prop := ∀ bs, okW xs u (b :: bs) → endW xs u (b :: bs) = xs.length → bs.length ≤ r → F u ≤ costW (b :: bs)
theorem fromI_le {xs : List Int} {F : Nat → Int} {r : Nat} (hk : ∀ v, v < xs.length → Knows' xs r F v) (u : Nat) (b : Int) : ∀ bs, okW xs u (b :: bs) → endW xs u (b :: bs) = xs.length → bs.length ≤ r → fromI xs F u b ≤ costW (b :: bs) := by
  intro bs ho he hl
  have h1 : okE xs u b = true := ho.1
  have hb := nxE_bd h1
  unfold fromI
  rw [if_pos h1, costW]
  by_cases hn : nxE xs u b < xs.length
  · rw [if_pos hn]
    have := hk (nxE xs u b).toNat (by omega) bs (by rw [Int.toNat_of_nonneg hb.1]; exact ho.2) (by rw [Int.toNat_of_nonneg hb.1]; exact he) hl
    omega
  · rw [if_neg hn]
    have := costW_bd bs
    omega
theorem Knows'.of_all {xs : List Int} {r : Nat} {F : Nat → Int} {u : Nat} (hu : u < xs.length) (h : ∀ b, -1 ≤ b → b ≤ 1 → KnowsB xs r F u b) : Knows' xs (r + 1) F u := by
  intro bs ho he hl
  cases bs with
  | nil => simp only [endW] at he; omega
  | cons b bs =>
    have hb := ho.1
    simp only [okE, inB, Bool.and_eq_true, decide_eq_true_eq] at hb
    exact h b (by omega) (by omega) bs ho he (by simpa using hl)
theorem Knows'.low {xs : List Int} {r : Nat} {F G : Nat → Int} {u : Nat} (h : Knows' xs r F u) (hg : G u ≤ F u) : Knows' xs r G u := fun bs a b c => Int.le_trans hg (h bs a b c)
theorem KnowsB.low {xs : List Int} {r : Nat} {F G : Nat → Int} {u : Nat} {b : Int} (h : KnowsB xs r F u b) (hg : G u ≤ F u) : KnowsB xs r G u b := fun bs a c d => Int.le_trans hg (h bs a c d)
theorem Knows'.zero (xs : List Int) (F : Nat → Int) (u : Nat) (hu : u < xs.length) : Knows' xs 0 F u := by
  intro bs _ he hl
  obtain rfl : bs = [] := List.eq_nil_of_length_eq_zero (by omega)
  simp only [endW] at he; omega
/-- behind as many rounds as there are steps the row tells the fewest -/
theorem few_of_row {xs : List Int} {F : Nat → Int} (hs : Sound xs F) (hk : ∀ u, u < xs.length → Knows' xs xs.length F u) {u : Nat} (hu : u < xs.length) :
    fewB xs u = decide (F u ≤ xs.length) ∧ (F u ≤ xs.length → fewX xs u = F u) ∧ (¬ F u ≤ xs.length → fewX xs u = 0) := by
  by_cases h : F u ≤ xs.length
  · have hl := (hs u hu).2.2 h
    obtain ⟨e1, e2⟩ := few_is hl fun d hd => by
      obtain ⟨bs, b1, b2, b3, b4⟩ := hd.short
      have := hk u hu bs b1 b2 b4
      omega
    exact ⟨by simp [e1, h], fun _ => e2, fun hn => absurd h hn⟩
  · obtain ⟨e1, e2⟩ := few_none (xs := xs) (u := (u : Int)) fun d hd => by
      obtain ⟨bs, b1, b2, b3, b4⟩ := hd.short
      have h1 := hk u hu bs b1 b2 b4
      have h2 := costW_bd bs
      omega
    exact ⟨by simp [e1, h], fun h2 => absurd h2 h, fun _ => e2⟩

/-! the model: the row of the fewest changes that lead from a step to each place -/
/-- what the model's row holds: -1, or what a way costs -/
def SoundM (xs : List Int) (s : Int) (G : Nat → Int) : Prop := ∀ v, v ≤ xs.length → G v = -1 ∨ (0 ≤ G v ∧ ∃ bs, okW xs s bs ∧ endW xs s bs = v ∧ costW bs = G v)
/-- nothing is found any more -/
def Still (xs : List Int) (G : Nat → Int) : Prop := ∀ (u : Nat) (b : Int), okE xs u b = true → 0 ≤ G u → 0 ≤ G (nxE xs u b).toNat ∧ G (nxE xs u b).toNat ≤ G u + costE b
theorem Still.way {xs : List Int} {G : Nat → Int} (h : Still xs G) : ∀ (bs : List Int) (u : Nat), okW xs u bs → 0 ≤ G u → 0 ≤ G (endW xs u bs).toNat ∧ G (endW xs u bs).toNat ≤ G u + costW bs
  | [], u, _, h0 => by simp only [endW, costW, Int.toNat_natCast]; omega
  | b :: r, u, ho, h0 => by
    obtain ⟨a1, a2⟩ := h u b ho.1 h0
    have hb := nxE_bd ho.1
    obtain ⟨b1, b2⟩ := Still.way h r (nxE xs u b).toNat (by rw [Int.toNat_of_nonneg hb.1]; exact ho.2) a1
    rw [Int.toNat_of_nonneg hb.1] at b1 b2
    simp only [endW, costW]
    omega
theorem few_of_model {xs : List Int} {s : Nat} {G : Nat → Int} (hs : SoundM xs s G) (h0 : G s = 0) (hst : Still xs G) :
    fewB xs s = decide (0 ≤ G xs.length) ∧ (0 ≤ G xs.length → fewX xs s = G xs.length) ∧ (¬ 0 ≤ G xs.length → fewX xs s = 0) := by
  have hall : ∀ d, Leads xs s d → 0 ≤ G xs.length ∧ G xs.length ≤ d := by
    rintro d ⟨bs, b1, b2, b3⟩
    have := hst.way bs s b1 (by omega)
    rw [b2, Int.toNat_natCast] at this
    omega
  by_cases h : 0 ≤ G xs.length
  · obtain ⟨_, bs, b1, b2, b3⟩ := (hs xs.length (Nat.le_refl _)).resolve_left (by omega)
    obtain ⟨e1, e2⟩ := few_is ⟨bs, b1, b2, b3⟩ fun d hd => (hall d hd).2
    exact ⟨by simp [e1, h], fun _ => e2, fun hn => absurd h hn⟩
  · obtain ⟨e1, e2⟩ := few_none (xs := xs) (u := (s : Int)) fun d hd => h (hall d hd).1
    exact ⟨by simp [e1, h], fun h2 => absurd h2 h, fun _ => e2⟩

def iterI (f : Int → Int) : Nat → Int → Int
  | 0, a => a
  | k + 1, a => f (iterI f k a)
theorem iterI_add (f : Int → Int) (i : Nat) : ∀ (j : Nat) (a : Int), iterI f (i + j) a = iterI f j (iterI f i a)
  | 0, _ => rfl
  | j + 1, a => by rw [← Nat.add_assoc]; exact congrArg f (iterI_add f i j a)
/-- a place that comes again comes again for ever -/
theorem again (f : Int → Int) (a : Int) {i p : Nat} (h : iterI f (i + p) a = iterI f i a) : ∀ {m : Nat}, i ≤ m → ∀ q, iterI f (m + q * p) a = iterI f m a := by
  have h1 : ∀ m, i ≤ m → iterI f (m + p) a = iterI f m a := by
    intro m hm
    obtain ⟨d, rfl⟩ := Nat.exists_eq_add_of_le hm
    rw [show i + d + p = (i + p) + d by omega, iterI_add, h, ← iterI_add]
  intro m hm q
  induction q with
  | zero => simp
  | succ q ih => rw [Nat.succ_mul, ← Nat.add_assoc, h1 _ (by omega), ih]
/-- two that are on one place for the first time are so after n seconds at most -/
theorem meet_le (f : Int → Int) (n : Nat) (a b : Int) (t : Nat) (hn : 1 ≤ t) (ha : ∀ i, i ≤ t → 0 ≤ iterI f i a ∧ iterI f i a < n) (hb : ∀ i, i ≤ t → 0 ≤ iterI f i b ∧ iterI f i b < n)
    (hne : iterI f (t - 1) a ≠ iterI f (t - 1) b) (he : iterI f t a = iterI f t b) : t ≤ n := by
  apply Classical.byContradiction
  intro hc
  obtain ⟨i, j, hij, hj, e1⟩ := two_same n (fun k => iterI f k a) (fun k hk => ha k (by omega))
  obtain ⟨k, l, hkl, hl, e2⟩ := two_same n (fun k => iterI f k b) (fun k hk => hb k (by omega))
  have p1 : iterI f (i + (j - i)) a = iterI f i a := by rw [show i + (j - i) = j by omega]; exact e1.symm
  have p2 : iterI f (k + (l - k)) b = iterI f k b := by rw [show k + (l - k) = l by omega]; exact e2.symm
  have r1 := again f a p1 (m := t - 1) (by omega) (l - k)
  have r2 := again f b p2 (m := t - 1) (by omega) (j - i)
  rw [Nat.mul_comm] at r2
  apply hne
  rw [← r1, ← r2]
  have hpos : 1 ≤ (l - k) * (j - i) := Nat.mul_pos (by omega) (by omega)
  generalize (l - k) * (j - i) = z at *
  obtain ⟨y, rfl⟩ : ∃ y, z = y + 1 := ⟨z - 1, by omega⟩
  rw [show t - 1 + (y + 1) = t + y by omega, iterI_add, iterI_add, he]

/-! two balls -/
theorem iter_next (f : Int → Int) : ∀ (k : Nat) (a : Int), iterI f k (f a) = iterI f (k + 1) a
  | 0, _ => rfl
  | k + 1, a => congrArg f (iter_next f k a)
/-- the first second, of so many, in which both are on one step -/
def meetF (f : Int → Int) (n : Nat) : Nat → Nat → Int → Int → Option (Nat × Int)
  | 0, _, _, _ => none
  | m + 1, t, a, b => if f a = f b ∧ 0 ≤ f a ∧ f a < n then some (t + 1, f a) else meetF f n m (t + 1) (f a) (f b)
/-- .. where the search ends when one is out -/
def meetS (f : Int → Int) (n : Nat) : Nat → Nat → Int → Int → Option (Nat × Int)
  | 0, _, _, _ => none
  | m + 1, t, a, b => if f a < 0 ∨ f b < 0 ∨ (n : Int) ≤ f a ∨ (n : Int) ≤ f b then none else if f a = f b then some (t + 1, f a) else meetS f n m (t + 1) (f a) (f b)
theorem iter_out {f : Int → Int} {n : Nat} (hf : ∀ p, p < 0 ∨ (n : Int) ≤ p → f p = p) {a : Int} (h : a < 0 ∨ (n : Int) ≤ a) : ∀ k, iterI f k a = a
  | 0 => rfl
  | k + 1 => by rw [iterI, iter_out hf h k]; exact hf a h
theorem meetF_out {f : Int → Int} {n : Nat} (hf : ∀ p, p < 0 ∨ (n : Int) ≤ p → f p = p) : ∀ (m t : Nat) (a b : Int), (a < 0 ∨ (n : Int) ≤ a) ∨ (b < 0 ∨ (n : Int) ≤ b) → meetF f n m t a b = none
  | 0, _, _, _, _ => rfl
  | m + 1, t, a, b, h => by
    have hn : ¬ (f a = f b ∧ 0 ≤ f a ∧ f a < n) := by
      rintro ⟨e, h1, h2⟩
      rcases h with h | h
      · rw [hf a h] at h1 h2; omega
      · rw [e, hf b h] at h1 h2; omega
    rw [meetF, if_neg hn]
    refine meetF_out hf m (t + 1) (f a) (f b) ?_
    rcases h with h | h
    · exact .inl (by rw [hf a h]; exact h)
    · exact .inr (by rw [hf b h]; exact h)
theorem meetS_F {f : Int → Int} {n : Nat} (hf : ∀ p, p < 0 ∨ (n : Int) ≤ p → f p = p) : ∀ (m t : Nat) (a b : Int), meetS f n m t a b = meetF f n m t a b
  | 0, _, _, _ => rfl
  | m + 1, t, a, b => by
    rw [meetS, meetF]
    by_cases h : f a < 0 ∨ f b < 0 ∨ (n : Int) ≤ f a ∨ (n : Int) ≤ f b
    · rw [if_pos h]
      by_cases h2 : f a = f b ∧ 0 ≤ f a ∧ f a < n
      · omega
      · rw [if_neg h2]
        exact (meetF_out hf m (t + 1) (f a) (f b) (by omega)).symm
    · rw [if_neg h]
      by_cases e : f a = f b
      · rw [if_pos e, if_pos ⟨e, by omega, by omega⟩]
      · rw [if_neg e, if_neg (fun x => e x.1)]
        exact meetS_F hf m (t + 1) (f a) (f b)
/-- where it is found -/
theorem meetF_some {f : Int → Int} {n : Nat} : ∀ (m t : Nat) (a b : Int), (∃ k, k < m ∧ (iterI f (k + 1) a = iterI f (k + 1) b ∧ 0 ≤ iterI f (k + 1) a ∧ iterI f (k + 1) a < n) ∧ (∀ j, j < k → ¬ (iterI f (j + 1) a = iterI f (j + 1) b ∧ 0 ≤ iterI f (j + 1) a ∧ iterI f (j + 1) a < n)) ∧ meetF f n m t a b = some (t + k + 1, iterI f (k + 1) a))
      ∨ ((∀ k, k < m → ¬ (iterI f (k + 1) a = iterI f (k + 1) b ∧ 0 ≤ iterI f (k + 1) a ∧ iterI f (k + 1) a < n)) ∧ meetF f n m t a b = none)
  | 0, t, a, b => .inr ⟨fun k hk => absurd hk (by omega), rfl⟩
  | m + 1, t, a, b => by
    by_cases h : f a = f b ∧ 0 ≤ f a ∧ f a < n
    · exact .inl ⟨0, by omega, h, fun j hj => absurd hj (by omega), by rw [meetF, if_pos h]; rfl⟩
    · rcases meetF_some (f := f) (n := n) m (t + 1) (f a) (f b) with ⟨k, hk, h1, h2, h3⟩ | ⟨h1, h2⟩
      · rw [iter_next, iter_next] at h1
        refine .inl ⟨k + 1, by omega, h1, fun j hj => ?_, ?_⟩
        · cases j with
          | zero => exact h
          | succ j =>
            have := h2 j (by omega)
            rw [iter_next, iter_next] at this
            exact this
        · rw [meetF, if_neg h, h3, iter_next, show t + 1 + k + 1 = t + (k + 1) + 1 by omega]
      · refine .inr ⟨fun k hk => ?_, by rw [meetF, if_neg h]; exact h2⟩
        cases k with
        | zero => exact h
        | succ k =>
          have := h1 k (by omega)
          rw [iter_next, iter_next] at this
          exact this
/-- the first second of a meeting is no later than there are steps -/
theorem meetF_more {f : Int → Int} {n : Nat} (hf : ∀ p, p < 0 ∨ (n : Int) ≤ p → f p = p) {a b : Int} (hne : a ≠ b) {m : Nat} (hm : n ≤ m) : meetF f n m 0 a b = meetF f n n 0 a b := by
  rcases meetF_some (f := f) (n := n) m 0 a b with ⟨k, hk, ⟨g1, g2, g3⟩, h2, h3⟩ | ⟨h1, h2⟩
  · have on : ∀ (c : Int), (0 ≤ iterI f (k + 1) c ∧ iterI f (k + 1) c < n) → ∀ i, i ≤ k + 1 → 0 ≤ iterI f i c ∧ iterI f i c < n := by
      intro c hc i hi
      apply Classical.byContradiction
      intro hx
      have := iter_out hf (a := iterI f i c) (by omega) (k + 1 - i)
      rw [← iterI_add, show i + (k + 1 - i) = k + 1 by omega] at this
      rw [this] at hc
      exact hx hc
    have oa := on a ⟨g2, g3⟩
    have ob := on b ⟨by rw [← g1]; exact g2, by rw [← g1]; exact g3⟩
    have hle : k + 1 ≤ n := by
      refine meet_le f n a b (k + 1) (by omega) oa ob ?_ g1
      rw [Nat.add_sub_cancel]
      cases k with
      | zero => exact hne
      | succ k => exact fun e => h2 k (by omega) ⟨e, oa (k + 1) (by omega)⟩
    rcases meetF_some (f := f) (n := n) n 0 a b with ⟨k', hk', ⟨e1, e2, e3⟩, h2', h3'⟩ | ⟨h1', h2'⟩
    · have : k = k' := by
        apply Classical.byContradiction
        intro hx
        rcases Nat.lt_or_gt_of_ne hx with hlt | hlt
        · exact h2' k hlt ⟨g1, g2, g3⟩
        · exact h2 k' hlt ⟨e1, e2, e3⟩
      subst this
      rw [h3, h3']
    · exact absurd ⟨g1, g2, g3⟩ (h1' k (by omega))
  · rcases meetF_some (f := f) (n := n) n 0 a b with ⟨k', hk', g, h2', h3'⟩ | ⟨h1', h2'⟩
    · exact absurd g (h1 k' (by omega))
    · rw [h2, h2']

/-- the steps 0, 1, .. that suit -/
def selZ (p : Int → Bool) : Nat → List Int
  | 0 => []
  | k + 1 => if p (k : Int) then selZ p k ++ [(k : Int)] else selZ p k
theorem selZ_yes {p : Int → Bool} {k : Nat} (h : p (k : Int) = true) : selZ p (k + 1) = selZ p k ++ [(k : Int)] := by rw [selZ, if_pos h]
theorem selZ_no {p : Int → Bool} {k : Nat} (h : p (k : Int) = false) : selZ p (k + 1) = selZ p k := by rw [selZ, if_neg (by simp [h])]
theorem selZ_length (p : Int → Bool) : ∀ k : Nat, (selZ p k).length ≤ k
  | 0 => Nat.le_refl _
  | k + 1 => by
    have := selZ_length p k
    unfold selZ
    split <;> simp <;> omega
def selR (b : Bool) (p : Int → Bool) (n : Nat) : List Int := if b then selZ p n else []
theorem selR_yes (p : Int → Bool) (n : Nat) : selR true p n = selZ p n := rfl
theorem selR_no (p : Int → Bool) (n : Nat) : selR false p n = [] := rfl
theorem selR_length (b : Bool) (p : Int → Bool) (n : Nat) : (selR b p n).length ≤ n := by
  unfold selR
  split
  · exact selZ_length p n
  · simp
/-- from this step a ball is on that one a second later -/
def comesP (xs : List Int) (s k : Int) : Bool := decide (nextI xs k = s)
/-- no ball comes to this step -/
def noneP (xs : List Int) (k : Int) : Bool := decide ((selZ (comesP xs k) xs.length).length = 0)

end Go.Proofs.Ytiacfaeanlkalaa
