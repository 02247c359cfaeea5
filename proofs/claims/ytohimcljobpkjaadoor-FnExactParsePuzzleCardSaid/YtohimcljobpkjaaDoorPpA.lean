/- The text of a puzzle on both sides, plain facts of reading puzzles, append of clues, a region whose last operation stores. -/
import Derived.Test.YtohimcljobpkjaaDoorOTxNin
import Derived.Lib.AtoiAllCases
import Derived.Test.YtohimcljobpkjaaDoorOTxList
import Derived.Test.YtohimcljobpkjaaDoorOTxWd
import Derived.Test.YtohimcljobpkjaaDoorOTxSplit
import Derived.Test.YtohimcljobpkjaaDoorPzS
import Derived.Test.YtohimcljobpkjaaDoorPzM
import Derived.Deep.RegionHeld3
import Derived.Maps.AppendAt
import Derived.Deep.RegionLaw
import Derived.Test.YtohimcljobpkjaaDoorProg
import Derived.OrdersIn
namespace Go.Proofs.YtohimcljobpkjaaDoor
set_option maxRecDepth 100000
open Go.RowKit

theorem text_ne {a b : ByteArray} (h : ¬ a = b) : (a.toList == b.toList) = false := by
  rw [beq_eq_false_iff_ne]
  intro e
  exact h (bytes_inj (by rwa [ByteArray.toList_eq, ByteArray.toList_eq] at e))
theorem pu_snoc (c : UInt8) : ∀ (l : List UInt8) (acc u : Nat), Lib.parseUint10 acc l = .ok u → Lib.parseUint10 acc (l ++ [c]) = Lib.parseUint10 u [c]
  | [], acc, u, h => by
    simp only [Lib.parseUint10] at h
    injection h with h
    rw [h]; rfl
  | d :: l, acc, u, h => by
    rw [List.cons_append]
    unfold Lib.parseUint10 at h
    split at h
    · next h1 =>
      split at h
      · cases h
      · next h2 =>
        split at h
        · cases h
        · next h3 =>
          have := pu_snoc c l _ u h
          rw [← this]
          conv => lhs; unfold Lib.parseUint10
          rw [if_pos h1, if_neg h2, if_neg h3]
    · cases h
theorem dec_one {n : Nat} (h : n < 10) : Lib.decDigits n = [UInt8.ofNat (48 + n)] := by rw [Lib.decDigits, dif_pos h]
theorem dec_more {n : Nat} (h : ¬ n < 10) : Lib.decDigits n = Lib.decDigits (n / 10) ++ [UInt8.ofNat (48 + n % 10)] := by rw [Lib.decDigits, dif_neg h]
theorem pu_dec : ∀ (k n : Nat), n < k → n ≤ 10000000000 → Lib.parseUint10 0 (Lib.decDigits n) = .ok n
  | 0, n, h, _ => by omega
  | k + 1, n, h, hn => by
    by_cases h1 : n < 10
    · have e := digit_toNat h1
      rw [dec_one h1]
      unfold Lib.parseUint10
      rw [e, if_pos (by omega), if_neg (by omega), if_neg (by omega)]
      unfold Lib.parseUint10
      congr 1; omega
    · have e := digit_toNat (d := n % 10) (by omega)
      rw [dec_more h1, pu_snoc _ _ _ _ (pu_dec k (n / 10) (by omega) (by omega))]
      unfold Lib.parseUint10
      rw [e, if_pos (by omega), if_neg (by omega), if_neg (by omega)]
      unfold Lib.parseUint10
      congr 1; omega
theorem atI_num {n : Int} (h0 : 0 ≤ n) (h1 : n ≤ 10000000000) : atI (numS n) = some n := by
  have hp := pu_dec (n.toNat + 1) n.toNat (by omega) (by omega)
  have e : (numS n).data.toList = Lib.decDigits n.toNat := by simp [numS]
  unfold atI
  rw [e]
  cases hd : Lib.decDigits n.toNat with
  | nil => exfalso; rw [hd] at hp; simp [Lib.parseUint10] at hp; rw [show n.toNat = 0 from hp.symm, dec_one (by omega)] at hd; cases hd
  | cons c r =>
    rw [hd] at hp
    have hc : 48 ≤ c.toNat ∧ c.toNat ≤ 57 := by
      by_cases h : 48 ≤ c.toNat ∧ c.toNat ≤ 57
      · exact h
      · unfold Lib.parseUint10 at hp; rw [if_neg h] at hp; cases hp
    have hm : Lib.parseMag (c :: r) = .ok n.toNat := by unfold Lib.parseMag; rw [if_neg (by simp)]; exact hp
    rw [Lib.atoiAll_plain c r (by omega) (by omega), hm]
    have : Lib.signless (.ok n.toNat) = .ok n := by unfold Lib.signless; simp only []; rw [if_neg (by omega)]; congr 1; omega
    rw [this]
theorem split_eq {s : ByteArray} {b : UInt8} {ws : List ByteArray} {l : ByteArray} (h1 : ∀ w ∈ ws, b ∉ w.data.toList) (h2 : b ∉ l.data.toList) (h : catL b (ws.map (·.data.toList)) l.data.toList = s.data.toList) : splitS s b = ws ++ [l] := by
  have := split_is (fun w hw => by obtain ⟨x, hx, rfl⟩ := List.mem_map.1 hw; exact h1 x hx) h2 h
  rw [show (ws.map (·.data.toList) ++ [l.data.toList]) = (ws ++ [l]).map (·.data.toList) by simp] at this
  have inj : ∀ (a c : List ByteArray), a.map (·.data.toList) = c.map (·.data.toList) → a = c := by
    intro a
    induction a with
    | nil => intro c hc; cases c with
      | nil => rfl
      | cons _ _ => simp at hc
    | cons x a ih => intro c hc; cases c with
      | nil => simp at hc
      | cons y c => simp only [List.map_cons, List.cons.injEq] at hc; rw [bytes_inj hc.1, ih c hc.2]
  exact inj _ _ this
theorem nin_nums {s : ByteArray} {b : UInt8} {ns : List Int} (h : splitS s b = ns.map numS) (hn : ∀ n ∈ ns, 0 ≤ n ∧ n ≤ 10000000000) : ninR s b = ns := by
  have hv : ∀ n ∈ ns, atI (numS n) = some n := fun n hm => atI_num (hn n hm).1 (hn n hm).2
  unfold ninR
  rw [h, if_pos (by simp only [List.all_eq_true, List.mem_map]; rintro _ ⟨y, hy, rfl⟩; rw [hv y hy]; rfl), List.map_map]
  conv => rhs; rw [← List.map_id ns]
  exact List.map_congr_left fun n hm => by simp [atV, hv n hm]

end Go.Proofs.YtohimcljobpkjaaDoor

namespace Go.Proofs.YtohimcljobpkjaaDoor
set_option maxRecDepth 100000
open Go.RowKit

theorem dg_none {s : ByteArray} {b : UInt8} (hb : b.toNat < 48 ∨ 57 < b.toNat) : ∀ k, k ≤ s.size → dgB s k = true → b ∉ s.data.toList.take k
  | 0, _, _ => by simp
  | k + 1, hk, hd => by
    have hd' : (dgB s k && (decide (48 ≤ btS s k) && decide (btS s k ≤ 57))) = true := hd
    rw [Bool.and_eq_true, Bool.and_eq_true, decide_eq_true_eq, decide_eq_true_eq] at hd'
    have ih := dg_none hb k (by omega) hd'.1
    have h2 : k < s.data.size := hk
    have h' : k < s.data.toList.length := by simpa using h2
    rw [List.take_succ_eq_append_getElem h']
    intro hm
    rcases List.mem_append.1 hm with hm | hm
    · exact ih hm
    · have e : b = s.data.toList[k] := List.mem_singleton.1 hm
      have e2 : btS s k = b.toNat := by
        unfold btS
        rw [e]
        simp only [Array.getElem_toList, Array.getD_eq_getD_getElem?]
        rw [Array.getElem?_eq_getElem h2]; rfl
      omega
theorem num_none (n : Int) (h0 : 0 ≤ n) {b : UInt8} (hb : b.toNat < 48 ∨ 57 < b.toNat) : b ∉ (numS n).data.toList := by
  have h := (numS_tells (n.toNat + 1) n h0 (by omega)).1
  have := dg_none hb _ (Nat.le_refl _) h
  rwa [List.take_of_length_le (by simp)] at this
theorem texts_inj : ∀ (a c : List ByteArray), a.map (·.data.toList) = c.map (·.data.toList) → a = c
  | [], [], _ => rfl
  | [], _ :: _, h => by simp at h
  | _ :: _, [], h => by simp at h
  | x :: a, y :: c, h => by
    simp only [List.map_cons, List.cons.injEq] at h
    rw [bytes_inj h.1, texts_inj a c h.2]
theorem wdL_succ (xs : List Int) (k : Nat) : wdL xs (k + 1) = wdL xs k ++ [(numS (xs.getD k 0)).data.toList] := by simp [wdL, List.range_succ]
theorem wdL_all (xs : List Int) : wdL xs xs.length = (xs.map numS).map (·.data.toList) := by
  apply List.ext_getElem
  · simp [wdL]
  · intro i h1 h2
    have h3 : i < xs.length := by simpa [wdL] using h1
    simp [wdL, List.getD_eq_getElem?_getD, h3]
theorem lsS_cat (b : UInt8) (xs : List Int) : ∀ k, (lsS b xs (k + 1)).data.toList = catL b (wdL xs k) (numS (xs.getD k 0)).data.toList
  | 0 => by rw [lsS_one]; rfl
  | k + 1 => by rw [lsS_more b xs (by omega), toList_snoc, lsS_cat b xs k, wdL_succ, cat_snoc, cat_app]
theorem at_of_mem {xs : List Int} {P : Int → Prop} (h : ∀ n ∈ xs, P n) {k : Nat} (hk : k < xs.length) : P (xs.getD k 0) := by
  refine h _ ?_
  rw [List.getD_eq_getElem?_getD, List.getElem?_eq_getElem hk]
  exact List.getElem_mem hk
theorem mem_of_at {xs : List Int} {P : Int → Prop} (h : ∀ k, k < xs.length → P (xs.getD k 0)) : ∀ n ∈ xs, P n := by
  intro n hn
  obtain ⟨k, hk, e⟩ := List.mem_iff_getElem.1 hn
  have := h k hk
  rwa [List.getD_eq_getElem?_getD, List.getElem?_eq_getElem hk, Option.getD_some, e] at this
/-- what is written is parted so -/
theorem ls_split {b : UInt8} (hb : b.toNat < 48 ∨ 57 < b.toNat) {xs : List Int} (hl : 1 ≤ xs.length) (hx : ∀ n ∈ xs, 0 ≤ n) : splitS (lsS b xs xs.length) b = xs.map numS := by
  obtain ⟨k, hk⟩ : ∃ k, xs.length = k + 1 := ⟨xs.length - 1, by omega⟩
  have h := split_is (s := lsS b xs xs.length) (b := b) (ws := wdL xs k) (l := (numS (xs.getD k 0)).data.toList) (fun w hw => by
    obtain ⟨j, hj, rfl⟩ := List.mem_map.1 hw
    have := List.mem_range.1 hj
    exact num_none _ (at_of_mem hx (by omega)) hb) (num_none _ (at_of_mem hx (by omega)) hb) (by rw [hk]; exact (lsS_cat b xs k).symm)
  rw [← wdL_succ, ← hk, wdL_all] at h
  exact texts_inj _ _ h
/-- the numbers of the words, as the model reads them -/
def rdL (s : ByteArray) (b : UInt8) : List Int := (splitS s b).map rdI
theorem rdL_ls {b : UInt8} (hb : b.toNat < 48 ∨ 57 < b.toNat) {xs : List Int} (hl : 1 ≤ xs.length) (hx : ∀ n ∈ xs, 0 ≤ n ∧ n < 1000000) : rdL (lsS b xs xs.length) b = xs := by
  unfold rdL
  rw [ls_split hb hl (fun n hn => (hx n hn).1), List.map_map]
  conv => rhs; rw [← List.map_id xs]
  exact List.map_congr_left fun n hm => rdI_numS (hx n hm).1 (num_len (k := 5) (by have := hx n hm; omega))
theorem ninR_ls {b : UInt8} (hb : b.toNat < 48 ∨ 57 < b.toNat) {xs : List Int} (hl : 1 ≤ xs.length) (hx : ∀ n ∈ xs, 0 ≤ n ∧ n < 1000000) : ninR (lsS b xs xs.length) b = xs :=
  nin_nums (ls_split hb hl (fun n hn => (hx n hn).1)) (fun n hn => by have := hx n hn; omega)
theorem rdL_length (s : ByteArray) (b : UInt8) : (rdL s b).length ≤ s.size + 1 := by
  have := (spW_le s b s.size).2
  simp only [rdL, splitS, List.map_append, List.map_cons, List.map_nil, List.length_append, List.length_map, List.length_singleton]
  omega
theorem cat_len {b : UInt8} {l : List UInt8} (hl : l ≠ []) : ∀ {ws : List (List UInt8)}, (∀ w ∈ ws, w ≠ []) → 2 * ws.length + 1 ≤ (catL b ws l).length
  | [], _ => by
    have := List.length_pos_iff.2 hl
    simp only [catL, List.length_nil]; omega
  | w :: r, h => by
    have h1 := List.length_pos_iff.2 (h w (by simp))
    have h2 := cat_len (b := b) hl (ws := r) (fun x hx => h x (by simp [hx]))
    simp only [catL, List.length_append, List.length_cons]; omega
theorem atI_ne {x : ByteArray} (h : (atI x).isSome = true) : x.data.toList ≠ [] := by
  intro e
  unfold atI at h
  rw [e] at h
  simp [Lib.atoiAll] at h
theorem ninR_length (s : ByteArray) (b : UInt8) : (ninR s b).length ≤ s.size := by
  unfold ninR
  split
  · next h =>
    rw [List.all_eq_true] at h
    obtain ⟨ws, l, e1, e2⟩ := split_cat s b
    rw [e1] at h ⊢
    have := cat_len (b := b) (atI_ne (h l (by simp))) (ws := ws.map (·.data.toList)) (fun w hw => by
      obtain ⟨x, hx, rfl⟩ := List.mem_map.1 hw
      exact atI_ne (h x (by simp [hx])))
    rw [e2] at this
    simp only [List.length_map, List.length_append, List.length_singleton, Array.length_toList] at this ⊢
    have : s.data.size = s.size := rfl
    omega
  · simp
theorem lsS_len (b : UInt8) {xs : List Int} {m : Nat} (hx : ∀ n ∈ xs, (numS n).size ≤ m) : ∀ k, k ≤ xs.length → (lsS b xs k).size ≤ (m + 1) * k
  | 0, _ => by simp [lsS, ByteArray.size]
  | k + 1, h => by
    have h1 := lsS_len b hx k (by omega)
    have h2 := at_of_mem (P := fun n => (numS n).size ≤ m) hx (k := k) (by omega)
    have h3 : (m + 1) * (k + 1) = (m + 1) * k + (m + 1) := Nat.mul_succ _ _
    unfold lsS
    split
    · simp only [ByteArray.size_append]
      have : (⟨#[]⟩ : ByteArray).size = 0 := rfl
      omega
    · simp only [ByteArray.size_append, one_size]
      omega

end Go.Proofs.YtohimcljobpkjaaDoor

namespace Go.Proofs.YtohimcljobpkjaaDoor
set_option maxRecDepth 100000
open Go.RowKit

theorem OwnS.below {w w' : World} {B B' : Nat} {v : Value} {xs : List ByteArray} (h : OwnS w B v xs) (hb : Below B' w w') (hB : w.heap.size ≤ B') : OwnS w' B v xs := by
  refine ⟨h.1, ?_⟩
  rcases h.2 with h0 | ⟨g, cap, cur, rfl, hg, hh, r⟩
  · exact .inl h0
  · exact .inr ⟨g, cap, cur, rfl, hg, by rw [hb.block g (Nat.lt_of_lt_of_le (Array.getElem?_eq_some_iff.1 hh).1 hB)]; exact hh, r⟩
theorem OwnS.cap {w : World} {B n c : Nat} {A : Option Addr} {xs : List ByteArray} (h : OwnS w B (.slice A n c) xs) : xs.length ≤ c := by
  rcases h.2 with ⟨hv, h0⟩ | ⟨g, cap, cur, hv, hg, hh, hc, _⟩
  · omega
  · injection hv with _ _ e; omega
/-- the text of a clue -/
def clS (p : Tri) : ByteArray := numS p.1 ++ ⟨#[46]⟩ ++ numS p.2.1 ++ ⟨#[46]⟩ ++ numS p.2.2
/-- the text of the first k clues -/
def pzS (ps : List Tri) : Nat → ByteArray
  | 0 => ⟨#[]⟩
  | k + 1 => (if k = 0 then ⟨#[]⟩ else pzS ps k ++ ⟨#[44]⟩) ++ clS (ps.getD k z3)
theorem pzS_one (ps : List Tri) : pzS ps 1 = clS (ps.getD 0 z3) := by
  apply ByteArray.ext
  simp [pzS]
theorem pzS_more (ps : List Tri) {k : Nat} (h : ¬ k = 0) : pzS ps (k + 1) = pzS ps k ++ ⟨#[44]⟩ ++ clS (ps.getD k z3) := by rw [pzS, if_neg h]
def okT (p : Tri) : Prop := (0 ≤ p.1 ∧ p.1 ≤ 1000) ∧ (0 ≤ p.2.1 ∧ p.2.1 ≤ 1000) ∧ (0 ≤ p.2.2 ∧ p.2.2 ≤ 1000)
theorem clS_size {p : Tri} (h : okT p) : (clS p).size ≤ 32 := by
  have h1 := numS_size (n := p.1) (by have := h.1; omega)
  have h2 := numS_size (n := p.2.1) (by have := h.2.1; omega)
  have h3 := numS_size (n := p.2.2) (by have := h.2.2; omega)
  simp only [clS, ByteArray.size_append, one_size]
  omega
theorem pzS_size {ps : List Tri} (hx : ∀ k, k < ps.length → okT (ps.getD k z3)) : ∀ k, k ≤ ps.length → (pzS ps k).size ≤ 33 * k
  | 0, _ => by simp [pzS, ByteArray.size]
  | k + 1, h => by
    have h1 := pzS_size hx k (by omega)
    have h2 := clS_size (hx k (by omega))
    unfold pzS
    split
    · simp only [ByteArray.size_append]
      have : (⟨#[]⟩ : ByteArray).size = 0 := rfl
      omega
    · simp only [ByteArray.size_append, one_size]
      omega
def cwL (ps : List Tri) (k : Nat) : List ByteArray := (List.range k).map fun j => clS (ps.getD j z3)
theorem cwL_length (ps : List Tri) (k : Nat) : (cwL ps k).length = k := by simp [cwL]
theorem cwL_snoc (ps : List Tri) (k : Nat) : cwL ps (k + 1) = cwL ps k ++ [clS (ps.getD k z3)] := by simp [cwL, List.range_succ]
theorem pzS_join (ps : List Tri) : ∀ k, (pzS ps k).data.toList = Lib.join ((cwL ps k).map (·.data.toList)) [44]
  | 0 => by simp [pzS, cwL, Lib.join_nil]
  | k + 1 => by
    have ih := pzS_join ps k
    rw [cwL_snoc, List.map_append, List.map_cons, List.map_nil]
    by_cases h : k = 0
    · subst h
      rw [pzS_one, show cwL ps 0 = [] from rfl, List.map_nil, List.nil_append, Lib.join_one]
    · rw [pzS_more ps h, join_snoc _ _ _ (by simp [cwL]; omega), ← ih]
      simp
theorem cl_three (x y z : Int) : lsS 46 [x, y, z] 3 = clS (x, y, z) := by
  rw [lsS_more 46 _ (by omega : ¬ 2 = 0), lsS_more 46 _ (by omega : ¬ 1 = 0), lsS_one]
  rfl
theorem puzB_six {ps : List Tri} (h : puzB ps = true) : ps.length ≤ 6 := by
  simp only [puzB, Bool.and_eq_true, decide_eq_true_eq] at h
  exact h.1
theorem puz_ok {ps : List Tri} (h : puzB ps = true) (k : Nat) (hk : k < ps.length) : okT (ps.getD k z3) := by
  simp only [puzB, Bool.and_eq_true, decide_eq_true_eq] at h
  have h2 := List.all_eq_true.1 h.2 (ps.getD k z3) (by simp [List.getD_eq_getElem?_getD, hk])
  have h3 := clueB_kind h2
  have h4 := clueB_a h2
  exact ⟨by omega, by omega, by omega⟩

set_option maxHeartbeats 8000000 in
theorem pzText_any (A : Option Addr) (c : Nat) (ps : List Tri) (B : Nat) (w : World) (hr : RdF w B A c ps) (hB : B ≤ w.heap.size) (hn : ps.length ≤ 1000) (hx : ∀ k, k < ps.length → okT (ps.getD k z3)) :
    Calls Tryd.prog 16 #[pzv A ps.length c] w fun e w' => e = .returned (.string (pzS ps ps.length)) ∧ Below w.heap.size w w' := by
  have HX := Lib.hid hx
  have HR := Lib.hid hr
  have HSZ := Lib.hid (fun k hk => pzS_size hx k hk)
  clear hx hr
  go_enter Tryd.func16, Tryd.ntmps16
  go_wp2_with fail
  go_loopw [3, 4, 5, 9] (fun s _ _ i wr => ∃ k : Nat, k ≤ ps.length ∧ i = .int .i64 k ∧ s = .string (pzS ps k) ∧ Below w.heap.size w wr) (fun _ _ _ i _ => ps.length - (intOf i).toNat)
  case atStart => exact ⟨0, Nat.zero_le _, rfl, rfl, below_alloc _ _⟩
  case round =>
    obtain ⟨k, hk, rfl, rfl, hbw⟩ := hrel
    have hz : w.heap.size ≤ wr.heap.size := hbw.size
    by_cases hlt : k < ps.length
    · by_cases k0 : k = 0
      · obtain ⟨b1, o1, rfl, hb0, d0, d1, d2⟩ := (HR.out.below hbw hB).2 k hlt
        subst k0
        rw [show o1 + 0 * 3 = o1 by omega] at d0 d1 d2
        have hx1 := HX.out 0 hlt
        have HT := Lib.hid (pzS_one ps)
        have HE := Lib.hid (show ∀ t : ByteArray, (⟨#[]⟩ : ByteArray) ++ t = t from fun t => by apply ByteArray.ext; simp)
        have z9 : (⟨#[]⟩ : ByteArray).size = 0 := rfl
        rw [show pzS ps 0 = ⟨#[]⟩ from rfl] at *
        have hcz := clS_size hx1
        have HCL := Lib.hid (show clS (ps.getD 0 z3) = numS (ps.getD 0 z3).1 ++ ⟨#[46]⟩ ++ numS (ps.getD 0 z3).2.1 ++ ⟨#[46]⟩ ++ numS (ps.getD 0 z3).2.2 from rfl)
        obtain ⟨hx0, hx2, hx3⟩ := hx1
        have H0 := Lib.hid (fun w => l1Num_any 1001 (ps.getD 0 z3).1 w (by omega) (by omega) (by omega))
        have n0 := numS_size (n := (ps.getD 0 z3).1) (by omega)
        have H1 := Lib.hid (fun w => l1Num_any 1001 (ps.getD 0 z3).2.1 w (by omega) (by omega) (by omega))
        have n1 := numS_size (n := (ps.getD 0 z3).2.1) (by omega)
        have H2 := Lib.hid (fun w => l1Num_any 1001 (ps.getD 0 z3).2.2 w (by omega) (by omega) (by omega))
        have n2 := numS_size (n := (ps.getD 0 z3).2.2) (by omega)
        generalize clS (ps.getD 0 z3) = t at *
        generalize numS (ps.getD 0 z3).1 = s0 at *
        generalize numS (ps.getD 0 z3).2.1 = s1 at *
        generalize numS (ps.getD 0 z3).2.2 = s2 at *
        change wr.cell? ⟨b1, o1, none⟩ = some (.int .i64 (ps.getD 0 z3).1) at d0
        change wr.cell? ⟨b1, o1 + 1, none⟩ = some (.int .i64 (ps.getD 0 z3).2.1) at d1
        change wr.cell? ⟨b1, o1 + 2, none⟩ = some (.int .i64 (ps.getD 0 z3).2.2) at d2
        generalize (ps.getD 0 z3).1 = x at *
        generalize (ps.getD 0 z3).2.1 = y at *
        generalize (ps.getD 0 z3).2.2 = z at *
        have A0 := fun u => run_string_add_sum (P := Tryd.prog) u (s0 : ByteArray) (⟨#[46]⟩ : ByteArray) (by simp only [one_size]; omega)
        have A1 := fun u => run_string_add_sum (P := Tryd.prog) u ((s0 ++ ⟨#[46]⟩) : ByteArray) (s1 : ByteArray) (by simp only [ByteArray.size_append, one_size]; omega)
        have A2 := fun u => run_string_add_sum (P := Tryd.prog) u ((s0 ++ ⟨#[46]⟩ ++ s1) : ByteArray) (⟨#[46]⟩ : ByteArray) (by simp only [ByteArray.size_append, one_size]; omega)
        have A3 := fun u => run_string_add_sum (P := Tryd.prog) u ((s0 ++ ⟨#[46]⟩ ++ s1 ++ ⟨#[46]⟩) : ByteArray) (s2 : ByteArray) (by simp only [ByteArray.size_append, one_size]; omega)
        have A4 := fun u => run_string_add_sum (P := Tryd.prog) u ((⟨#[]⟩ : ByteArray) : ByteArray) ((s0 ++ ⟨#[46]⟩ ++ s1 ++ ⟨#[46]⟩ ++ s2) : ByteArray) (by simp only [ByteArray.size_append, one_size]; omega)
        have S0 : (wr.alloc (.cells #[.int .i64 x, .int .i64 y, .int .i64 z] 44)).cell? ⟨wr.heap.size, 0, none⟩ = some (.int .i64 x) := by simp
        have S1 : (wr.alloc (.cells #[.int .i64 x, .int .i64 y, .int .i64 z] 44)).cell? ⟨wr.heap.size, 1, none⟩ = some (.int .i64 y) := by simp
        have S2 : (wr.alloc (.cells #[.int .i64 x, .int .i64 y, .int .i64 z] 44)).cell? ⟨wr.heap.size, 2, none⟩ = some (.int .i64 z) := by simp
        have SB : Below w.heap.size w (wr.alloc (.cells #[.int .i64 x, .int .i64 y, .int .i64 z] 44)) := hbw.alloc hz _
        have SZ : wr.heap.size + 1 ≤ (wr.alloc (.cells #[.int .i64 x, .int .i64 y, .int .i64 z] 44)).heap.size := by simp
        go_wp2_with fail
        generalize (wr.alloc (.cells #[.int .i64 x, .int .i64 y, .int .i64 z] 44)) = u at *
        go_region_held3 (fun u => u.cell? ⟨wr.heap.size, 0, none⟩ = some (.int .i64 x) ∧ u.cell? ⟨wr.heap.size, 1, none⟩ = some (.int .i64 y) ∧ u.cell? ⟨wr.heap.size, 2, none⟩ = some (.int .i64 z) ∧ Below w.heap.size w u ∧ wr.heap.size + 1 ≤ u.heap.size) (first | exact ⟨S0, S1, S2, SB.drew, SZ⟩ | exact ⟨T0_0, T0_1, T0_2, TB0, TZ0⟩ | exact ⟨T1_0, T1_1, T1_2, TB1, TZ1⟩ | exact ⟨T2_0, T2_1, T2_2, TB2, TZ2⟩)
          (first
            | (go_at_call_of 28 (Value.int .i64 x); refine (H0.out _).mono ?_; rintro e v1 ⟨rfl, hb0⟩; have T0_0 := (hb0.cell (p := ⟨wr.heap.size, 0, none⟩) (by show wr.heap.size < u.heap.size; have := SZ; omega)).trans S0; have T0_1 := (hb0.cell (p := ⟨wr.heap.size, 1, none⟩) (by show wr.heap.size < u.heap.size; have := SZ; omega)).trans S1; have T0_2 := (hb0.cell (p := ⟨wr.heap.size, 2, none⟩) (by show wr.heap.size < u.heap.size; have := SZ; omega)).trans S2; have TB0 := SB.drew.trans (hb0.mono (by show w.heap.size ≤ u.heap.size; have := SZ; omega)); have TZ0 : wr.heap.size + 1 ≤ v1.heap.size := Nat.le_trans (show wr.heap.size + 1 ≤ u.heap.size from SZ) hb0.size)
            | (go_at_call_of 28 (Value.int .i64 y); refine (H1.out _).mono ?_; rintro e v2 ⟨rfl, hb1⟩; have T1_0 := (hb1.cell (p := ⟨wr.heap.size, 0, none⟩) (by show wr.heap.size < v1.heap.size; have := TZ0; omega)).trans T0_0; have T1_1 := (hb1.cell (p := ⟨wr.heap.size, 1, none⟩) (by show wr.heap.size < v1.heap.size; have := TZ0; omega)).trans T0_1; have T1_2 := (hb1.cell (p := ⟨wr.heap.size, 2, none⟩) (by show wr.heap.size < v1.heap.size; have := TZ0; omega)).trans T0_2; have TB1 := TB0.trans (hb1.mono (by show w.heap.size ≤ v1.heap.size; have := TZ0; omega)); have TZ1 : wr.heap.size + 1 ≤ v2.heap.size := Nat.le_trans (show wr.heap.size + 1 ≤ v1.heap.size from TZ0) hb1.size)
            | (go_at_call_of 28 (Value.int .i64 z); refine (H2.out _).mono ?_; rintro e v3 ⟨rfl, hb2⟩; have T2_0 := (hb2.cell (p := ⟨wr.heap.size, 0, none⟩) (by show wr.heap.size < v2.heap.size; have := TZ1; omega)).trans T1_0; have T2_1 := (hb2.cell (p := ⟨wr.heap.size, 1, none⟩) (by show wr.heap.size < v2.heap.size; have := TZ1; omega)).trans T1_1; have T2_2 := (hb2.cell (p := ⟨wr.heap.size, 2, none⟩) (by show wr.heap.size < v2.heap.size; have := TZ1; omega)).trans T1_2; have TB2 := TB1.trans (hb2.mono (by show w.heap.size ≤ v2.heap.size; have := TZ1; omega)); have TZ2 : wr.heap.size + 1 ≤ v3.heap.size := Nat.le_trans (show wr.heap.size + 1 ≤ v2.heap.size from TZ1) hb2.size)
          )
        all_goals
          go_wp2_with fail
          go_roundw
          case rel => exact ⟨1, by omega, by go_num, by rw [HT.out, HE.out, ← HCL.out], TB2⟩
          case measure => simp [intOf]; omega
      · obtain ⟨b1, o1, rfl, hb0, d0, d1, d2⟩ := (HR.out.below hbw hB).2 k hlt
        have hx1 := HX.out k hlt
        have HT := Lib.hid (pzS_more ps k0)
        have k1 : (0 : Int) < (k : Int) := by omega
        have z2 := HSZ.out k hk
        have hcz := clS_size hx1
        have HCL := Lib.hid (show clS (ps.getD k z3) = numS (ps.getD k z3).1 ++ ⟨#[46]⟩ ++ numS (ps.getD k z3).2.1 ++ ⟨#[46]⟩ ++ numS (ps.getD k z3).2.2 from rfl)
        obtain ⟨hx0, hx2, hx3⟩ := hx1
        have H0 := Lib.hid (fun w => l1Num_any 1001 (ps.getD k z3).1 w (by omega) (by omega) (by omega))
        have n0 := numS_size (n := (ps.getD k z3).1) (by omega)
        have H1 := Lib.hid (fun w => l1Num_any 1001 (ps.getD k z3).2.1 w (by omega) (by omega) (by omega))
        have n1 := numS_size (n := (ps.getD k z3).2.1) (by omega)
        have H2 := Lib.hid (fun w => l1Num_any 1001 (ps.getD k z3).2.2 w (by omega) (by omega) (by omega))
        have n2 := numS_size (n := (ps.getD k z3).2.2) (by omega)
        generalize clS (ps.getD k z3) = t at *
        generalize numS (ps.getD k z3).1 = s0 at *
        generalize numS (ps.getD k z3).2.1 = s1 at *
        generalize numS (ps.getD k z3).2.2 = s2 at *
        change wr.cell? ⟨b1, o1 + k * 3, none⟩ = some (.int .i64 (ps.getD k z3).1) at d0
        change wr.cell? ⟨b1, o1 + k * 3 + 1, none⟩ = some (.int .i64 (ps.getD k z3).2.1) at d1
        change wr.cell? ⟨b1, o1 + k * 3 + 2, none⟩ = some (.int .i64 (ps.getD k z3).2.2) at d2
        generalize (ps.getD k z3).1 = x at *
        generalize (ps.getD k z3).2.1 = y at *
        generalize (ps.getD k z3).2.2 = z at *
        generalize pzS ps k = s at *
        have A0 := fun u => run_string_add_sum (P := Tryd.prog) u (s : ByteArray) (⟨#[44]⟩ : ByteArray) (by simp only [one_size]; omega)
        have A1 := fun u => run_string_add_sum (P := Tryd.prog) u (s0 : ByteArray) (⟨#[46]⟩ : ByteArray) (by simp only [one_size]; omega)
        have A2 := fun u => run_string_add_sum (P := Tryd.prog) u ((s0 ++ ⟨#[46]⟩) : ByteArray) (s1 : ByteArray) (by simp only [ByteArray.size_append, one_size]; omega)
        have A3 := fun u => run_string_add_sum (P := Tryd.prog) u ((s0 ++ ⟨#[46]⟩ ++ s1) : ByteArray) (⟨#[46]⟩ : ByteArray) (by simp only [ByteArray.size_append, one_size]; omega)
        have A4 := fun u => run_string_add_sum (P := Tryd.prog) u ((s0 ++ ⟨#[46]⟩ ++ s1 ++ ⟨#[46]⟩) : ByteArray) (s2 : ByteArray) (by simp only [ByteArray.size_append, one_size]; omega)
        have A5 := fun u => run_string_add_sum (P := Tryd.prog) u ((s ++ ⟨#[44]⟩) : ByteArray) ((s0 ++ ⟨#[46]⟩ ++ s1 ++ ⟨#[46]⟩ ++ s2) : ByteArray) (by simp only [ByteArray.size_append, one_size]; omega)
        have S0 : (wr.alloc (.cells #[.int .i64 x, .int .i64 y, .int .i64 z] 44)).cell? ⟨wr.heap.size, 0, none⟩ = some (.int .i64 x) := by simp
        have S1 : (wr.alloc (.cells #[.int .i64 x, .int .i64 y, .int .i64 z] 44)).cell? ⟨wr.heap.size, 1, none⟩ = some (.int .i64 y) := by simp
        have S2 : (wr.alloc (.cells #[.int .i64 x, .int .i64 y, .int .i64 z] 44)).cell? ⟨wr.heap.size, 2, none⟩ = some (.int .i64 z) := by simp
        have SB : Below w.heap.size w (wr.alloc (.cells #[.int .i64 x, .int .i64 y, .int .i64 z] 44)) := hbw.alloc hz _
        have SZ : wr.heap.size + 1 ≤ (wr.alloc (.cells #[.int .i64 x, .int .i64 y, .int .i64 z] 44)).heap.size := by simp
        go_wp2_with fail
        generalize (wr.alloc (.cells #[.int .i64 x, .int .i64 y, .int .i64 z] 44)) = u at *
        go_region_held3 (fun u => u.cell? ⟨wr.heap.size, 0, none⟩ = some (.int .i64 x) ∧ u.cell? ⟨wr.heap.size, 1, none⟩ = some (.int .i64 y) ∧ u.cell? ⟨wr.heap.size, 2, none⟩ = some (.int .i64 z) ∧ Below w.heap.size w u ∧ wr.heap.size + 1 ≤ u.heap.size) (first | exact ⟨S0, S1, S2, SB.drew, SZ⟩ | exact ⟨T0_0, T0_1, T0_2, TB0, TZ0⟩ | exact ⟨T1_0, T1_1, T1_2, TB1, TZ1⟩ | exact ⟨T2_0, T2_1, T2_2, TB2, TZ2⟩)
          (first
            | (go_at_call_of 28 (Value.int .i64 x); refine (H0.out _).mono ?_; rintro e v1 ⟨rfl, hb0⟩; have T0_0 := (hb0.cell (p := ⟨wr.heap.size, 0, none⟩) (by show wr.heap.size < u.heap.size; have := SZ; omega)).trans S0; have T0_1 := (hb0.cell (p := ⟨wr.heap.size, 1, none⟩) (by show wr.heap.size < u.heap.size; have := SZ; omega)).trans S1; have T0_2 := (hb0.cell (p := ⟨wr.heap.size, 2, none⟩) (by show wr.heap.size < u.heap.size; have := SZ; omega)).trans S2; have TB0 := SB.drew.trans (hb0.mono (by show w.heap.size ≤ u.heap.size; have := SZ; omega)); have TZ0 : wr.heap.size + 1 ≤ v1.heap.size := Nat.le_trans (show wr.heap.size + 1 ≤ u.heap.size from SZ) hb0.size)
            | (go_at_call_of 28 (Value.int .i64 y); refine (H1.out _).mono ?_; rintro e v2 ⟨rfl, hb1⟩; have T1_0 := (hb1.cell (p := ⟨wr.heap.size, 0, none⟩) (by show wr.heap.size < v1.heap.size; have := TZ0; omega)).trans T0_0; have T1_1 := (hb1.cell (p := ⟨wr.heap.size, 1, none⟩) (by show wr.heap.size < v1.heap.size; have := TZ0; omega)).trans T0_1; have T1_2 := (hb1.cell (p := ⟨wr.heap.size, 2, none⟩) (by show wr.heap.size < v1.heap.size; have := TZ0; omega)).trans T0_2; have TB1 := TB0.trans (hb1.mono (by show w.heap.size ≤ v1.heap.size; have := TZ0; omega)); have TZ1 : wr.heap.size + 1 ≤ v2.heap.size := Nat.le_trans (show wr.heap.size + 1 ≤ v1.heap.size from TZ0) hb1.size)
            | (go_at_call_of 28 (Value.int .i64 z); refine (H2.out _).mono ?_; rintro e v3 ⟨rfl, hb2⟩; have T2_0 := (hb2.cell (p := ⟨wr.heap.size, 0, none⟩) (by show wr.heap.size < v2.heap.size; have := TZ1; omega)).trans T1_0; have T2_1 := (hb2.cell (p := ⟨wr.heap.size, 1, none⟩) (by show wr.heap.size < v2.heap.size; have := TZ1; omega)).trans T1_1; have T2_2 := (hb2.cell (p := ⟨wr.heap.size, 2, none⟩) (by show wr.heap.size < v2.heap.size; have := TZ1; omega)).trans T1_2; have TB2 := TB1.trans (hb2.mono (by show w.heap.size ≤ v2.heap.size; have := TZ1; omega)); have TZ2 : wr.heap.size + 1 ≤ v3.heap.size := Nat.le_trans (show wr.heap.size + 1 ≤ v2.heap.size from TZ1) hb2.size)
          )
        all_goals
          go_wp2_with fail
          go_roundw
          case rel => exact ⟨k + 1, by omega, by go_num, by rw [HT.out, ← HCL.out], TB2⟩
          case measure => simp [intOf]; omega
    · obtain rfl : k = ps.length := by omega
      go_wp2
      go_ret
      exact ⟨rfl, hbw⟩

set_option maxHeartbeats 1000000 in
theorem specPuzText_any (A : Option Addr) (c : Nat) (ps : List Tri) (B : Nat) (w : World) (hr : RdF w B A c ps) (hB : B ≤ w.heap.size) (hn : ps.length ≤ 1048576) :
    Calls Tryd.prog 6 #[pzv A ps.length c] w (Plain (.tuple #[.string (orS (puzB ps) (pzS ps ps.length)), .bool (puzB ps)]) w) := by
  have X0 : Blk (w.alloc (.cells #[.slice A ps.length c] 30)) w.heap.size 30 #[.slice A ps.length c] := Blk.new _ _ _
  have b0 : Below w.heap.size w (w.alloc (.cells #[.slice A ps.length c] 30)) := below_alloc _ _
  have hr0 := hr.below b0 hB
  have z0 := Nat.le_trans hB b0.size
  clear hr
  cases hp : puzB ps
  · rw [orS_no]
    have HP := Lib.hid hp
    clear hp
    go_enter Tryd.func6, Tryd.ntmps6
    go_wp2_with fail
    refine (pzGood_any A c ps B _ hr0 z0 hn).mono ?_
    rintro e w1 ⟨rfl, hb⟩
    rw [HP.out]
    go_wp2_with fail
    go_ret2
    exact ⟨rfl, b0.trans (hb.mono b0.size)⟩
  · rw [orS_yes]
    have HP := Lib.hid hp
    have h6 := puzB_six hp
    have HX := Lib.hid (puz_ok hp)
    clear hp
    go_enter Tryd.func6, Tryd.ntmps6
    go_wp2_with fail
    refine (pzGood_any A c ps B _ hr0 z0 hn).mono ?_
    rintro e w1 ⟨rfl, hb⟩
    rw [HP.out]
    have X1 := X0.below hb X0.lt
    have hr1 := hr0.below hb z0
    have z1 := Nat.le_trans z0 hb.size
    have b1 := b0.trans (hb.mono b0.size)
    have p0 := X1.cell 0
    have lX := X1.lt
    go_wp2_with fail
    refine (pzText_any A c ps B w1 hr1 z1 (by omega) HX.out).mono ?_
    rintro e w2 ⟨rfl, hb2⟩
    go_wp2_with fail
    go_ret2
    exact ⟨rfl, b1.trans (hb2.mono b1.size)⟩

set_option maxHeartbeats 4000000 in
theorem implPuzText_any (A : Option Addr) (c : Nat) (ps : List Tri) (B : Nat) (w : World) (hr : RdF w B A c ps) (hB : B ≤ w.heap.size) (hn : ps.length ≤ 1048576) (ht : TabI w) :
    Calls Tryd.prog 8 #[pzv A ps.length c] w (Plain (.tuple #[.string (orS (puzB ps) (pzS ps ps.length)), .bool (puzB ps)]) w) := by
  have X0 : Blk (w.alloc (.cells #[.slice A ps.length c] 30)) w.heap.size 30 #[.slice A ps.length c] := Blk.new _ _ _
  have b0 : Below w.heap.size w (w.alloc (.cells #[.slice A ps.length c] 30)) := below_alloc _ _
  have hr0 := hr.below b0 hB
  have z0 := Nat.le_trans hB b0.size
  clear hr
  cases hp : puzB ps
  · rw [orS_no]
    have HP := Lib.hid hp
    clear hp
    go_enter Tryd.func8, Tryd.ntmps8
    go_wp2_with fail
    refine (implIsPuzzle_any A c ps B _ hr0 z0 hn).mono ?_
    rintro e w1 ⟨rfl, hb⟩
    rw [HP.out]
    go_wp2_with fail
    go_ret2
    exact ⟨rfl, b0.trans (hb.mono b0.size)⟩
  · rw [orS_yes]
    have HP := Lib.hid hp
    have h6 := puzB_six hp
    have HX := Lib.hid (puz_ok hp)
    have HSZ := pzS_size (puz_ok hp) ps.length (Nat.le_refl _)
    have HJ := Lib.hid (pzS_join ps)
    clear hp
    go_enter Tryd.func8, Tryd.ntmps8
    go_wp2_with fail
    refine (implIsPuzzle_any A c ps B _ hr0 z0 hn).mono ?_
    rintro e w1 ⟨rfl, hb⟩
    rw [HP.out]
    have X1 := X0.below hb X0.lt
    have hr1 := hr0.below hb z0
    have z1 := Nat.le_trans z0 hb.size
    have b1 := b0.trans (hb.mono b0.size)
    have p0 := X1.cell 0
    have lX := X1.lt
    clear hr0 hb X0
    have HR := Lib.hid hr1
    clear hr1
    go_wp2_with fail
    go_loopw [4, 6, 13] (fun v' _ i wr => ∃ k : Nat, k ≤ ps.length ∧ i = .int .i64 k ∧ OwnS wr w1.heap.size v' (cwL ps k) ∧ Below w1.heap.size w1 wr) (fun _ _ i _ => ps.length - (intOf i).toNat)
    case atStart => exact ⟨0, Nat.zero_le _, rfl, OwnS.nil _ _, Below.refl _ _⟩
    case round =>
      obtain ⟨k, hk, rfl, hown, hbw⟩ := hrel
      have hz : w1.heap.size ≤ wr.heap.size := hbw.size
      have bwr := b1.trans (hbw.mono b1.size)
      by_cases hlt : k < ps.length
      · obtain ⟨bb, o1, rfl, hb0, d0, d1, d2⟩ := (HR.out.below hbw z1).2 k hlt
        have hx1 := HX.out k hlt
        have HC := Lib.hid (cwL_snoc ps k)
        have HKL := Lib.hid (cwL_length ps k)
        have h3 := Lib.hid (show clS (ps.getD k z3) = lsS 46 [(ps.getD k z3).1, (ps.getD k z3).2.1, (ps.getD k z3).2.2] 3 from (cl_three _ _ _).symm)
        change wr.cell? ⟨bb, o1 + k * 3, none⟩ = some (.int .i64 (ps.getD k z3).1) at d0
        change wr.cell? ⟨bb, o1 + k * 3 + 1, none⟩ = some (.int .i64 (ps.getD k z3).2.1) at d1
        change wr.cell? ⟨bb, o1 + k * 3 + 2, none⟩ = some (.int .i64 (ps.getD k z3).2.2) at d2
        obtain ⟨hx0, hx2, hx3⟩ := hx1
        have HN := Lib.hid (show ∀ (u : World) (g : Nat), Blk u g 3 (ints [(ps.getD k z3).1, (ps.getD k z3).2.1, (ps.getD k z3).2.2]) → Below w.heap.size w u → Calls Tryd.prog 19 #[.slice (some ⟨g, 0, none⟩) 3 3, .string ⟨#[46]⟩] u (fun e w' => e = .returned (.string (clS (ps.getD k z3))) ∧ Below u.heap.size u w') from fun u g hg hu => by
          rw [h3.out]
          exact numbersText_any (some ⟨g, 0, none⟩) 3 3 [(ps.getD k z3).1, (ps.getD k z3).2.1, (ps.getD k z3).2.2] 46 u.heap.size u rfl (hg.rd hg.lt (Nat.le_refl _)) (Nat.le_refl _) (by simp) (fun j hj => by
            have : j = 0 ∨ j = 1 ∨ j = 2 := by simp at hj; omega
            rcases this with rfl | rfl | rfl
            · exact ⟨hx0.1, Int.le_trans hx0.2 (by decide)⟩
            · exact ⟨hx2.1, Int.le_trans hx2.2 (by decide)⟩
            · exact ⟨hx3.1, Int.le_trans hx3.2 (by decide)⟩) (ht.below hu))
        generalize clS (ps.getD k z3) = t at *
        generalize (ps.getD k z3).1 = x at *
        generalize (ps.getD k z3).2.1 = y at *
        generalize (ps.getD k z3).2.2 = z at *
        generalize cwL ps k = ws at *
        have hwl : ws.length ≤ 1048576 := by rw [HKL.out]; omega
        have N0 : Blk ((wr.alloc (.cells #[.int .i64 x, .int .i64 y, .int .i64 z] 44)).alloc (.cells #[.int .i64 x, .int .i64 y, .int .i64 z] 3)) (wr.heap.size + 1) 3 (ints [x, y, z]) := Blk.new' (by simp)
        have bN : Below wr.heap.size wr ((wr.alloc (.cells #[.int .i64 x, .int .i64 y, .int .i64 z] 44)).alloc (.cells #[.int .i64 x, .int .i64 y, .int .i64 z] 3)) := (below_alloc _ _).alloc (by simp) _
        have hcall := Lib.hid (HN.out _ _ N0 (bwr.trans (bN.mono bwr.size)))
        have hown2 := (hown.alloc (.cells #[.int .i64 x, .int .i64 y, .int .i64 z] 44)).alloc (.cells #[.int .i64 x, .int .i64 y, .int .i64 z] 3)
        have hbw2 := hbw.trans (bN.mono hz)
        clear hown hbw N0 bN
        go_wp2_with fail
        generalize ((wr.alloc (.cells #[.int .i64 x, .int .i64 y, .int .i64 z] 44)).alloc (.cells #[.int .i64 x, .int .i64 y, .int .i64 z] 3)) = u at *
        refine hcall.out.mono ?_
        rintro e w3 ⟨rfl, hb3⟩
        have hown3 := OwnS.below hown2 hb3 (Nat.le_refl _)
        have hbw3 := hbw2.trans (hb3.mono hbw2.size)
        have z3' := hbw3.size
        go_wp2_with (at_builtin; refine wpList_pushS _ rfl _ _ rfl w1.heap.size _ ws rfl (hown3.alloc _) w3.heap.size t rfl (by simp) hwl (by simp; omega) ?_; intro v4 w4 hown4 hb4)
        go_roundw
        case rel => exact ⟨k + 1, by omega, by go_num, by rw [HC.out]; exact hown4, (hbw3.alloc z3' _).trans hb4⟩
        case measure => simp [intOf]; omega
      · obtain rfl : k = ps.length := by omega
        obtain ⟨A4, c4, hv4, hcs⟩ := hown.form
        rw [cwL_length] at hv4 hcs
        subst hv4
        have hcap := OwnS.cap hown
        rw [cwL_length] at hcap
        by_cases h0 : ps.length = 0
        · have HJN := Lib.hid (Tryd.strings_Join_none A4 c4 ⟨#[44]⟩ wr)
          have HE := Lib.hid (show pzS ps ps.length = ⟨#[]⟩ by rw [h0]; rfl)
          have HL := Lib.hid (show Value.slice A4 ps.length c4 = .slice A4 0 c4 by rw [h0])
          have e0 : ¬ ((ps.length : Int) < (ps.length : Int)) := by omega
          clear hown hcs h0 hcap
          go_wp2_with fail
          rw [HL.out]
          refine HJN.out.mono ?_
          rintro e w3 ⟨rfl, rfl⟩
          go_wp2_with fail
          go_ret2
          exact ⟨by rw [HE.out]; rfl, bwr⟩
        · obtain ⟨g, rfl, hg, _⟩ := hcs 0 (by omega)
          have hJ := Tryd.strings_Join g 0 c4 (cwL ps ps.length) ⟨#[44]⟩ wr (fun j x hj => by
            have hj2 : j < (cwL ps ps.length).length := (List.getElem?_eq_some_iff.1 hj).1
            rw [cwL_length] at hj2
            obtain ⟨g', e, _, hc'⟩ := hcs j hj2
            cases e
            rw [Nat.zero_add, hc']
            simp [List.getD_eq_getElem?_getD, hj]) hg (by rw [cwL_length]; omega) (by rw [cwL_length]; exact hcap) (by
              have e : (Lib.join ((cwL ps ps.length).map (·.data.toList)) (⟨#[44]⟩ : ByteArray).data.toList).length = (pzS ps ps.length).size := by rw [← HJ.out]; rfl
              rw [e]; omega)
          rw [cwL_length, ← HJ.out] at hJ
          have HJ2 := Lib.hid hJ
          clear hJ hown hcs hcap
          go_wp2_with fail
          refine HJ2.out.mono ?_
          rintro e w3 ⟨rfl, hb3⟩
          go_wp2_with fail
          go_ret2
          exact ⟨rfl, bwr.trans (hb3.mono bwr.size)⟩

end Go.Proofs.YtohimcljobpkjaaDoor

namespace Go.Proofs.YtohimcljobpkjaaDoor
set_option maxRecDepth 100000
open Go.RowKit

/-- a word's clue, as the model reads it -/
def mT (x : ByteArray) : Bool := decide ((splitS x 46).length = 3)
def mC (x : ByteArray) : Tri := (rdI ((splitS x 46).getD 0 ⟨#[]⟩), rdI ((splitS x 46).getD 1 ⟨#[]⟩), rdI ((splitS x 46).getD 2 ⟨#[]⟩))
/-- .. as the program reads it -/
def gT (x : ByteArray) : Bool := decide ((ninR x 46).length = 3)
def gC (x : ByteArray) : Tri := ((ninR x 46).getD 0 0, (ninR x 46).getD 1 0, (ninR x 46).getD 2 0)
def gL (ws : List ByteArray) : List Tri := (ws.filter gT).map gC
theorem gL_snoc_yes (ws : List ByteArray) {x : ByteArray} (h : gT x = true) : gL (ws ++ [x]) = gL ws ++ [gC x] := by simp [gL, List.filter_append, h]
theorem gL_snoc_no (ws : List ByteArray) {x : ByteArray} (h : gT x = false) : gL (ws ++ [x]) = gL ws := by simp [gL, List.filter_append, h]
theorem gL_length (ws : List ByteArray) : (gL ws).length ≤ ws.length := by
  unfold gL
  rw [List.length_map]
  exact List.length_filter_le _ _
/-- the clues that the program finds -/
def ppC (s : ByteArray) : List Tri := gL (splitS s 44)
def ppB (s : ByteArray) : Bool := puzB (ppC s) && decide (pzS (ppC s) (ppC s).length = s)
def ppL (s : ByteArray) : List Tri := if ppB s then ppC s else []
/-- what the model asks -/
def mB (s : ByteArray) : Bool := decide (s.size ≤ 60) && (decide (s.size = 0) || ((splitS s 44).all mT && (puzB ((splitS s 44).map mC) && decide (pzS ((splitS s 44).map mC) (splitS s 44).length = s))))

theorem cl_toList (p : Tri) : (clS p).data.toList = (numS p.1).data.toList ++ 46 :: ((numS p.2.1).data.toList ++ 46 :: (numS p.2.2).data.toList) := by simp [clS]
theorem cl_none {p : Tri} (h : okT p) : (44 : UInt8) ∉ (clS p).data.toList := by
  rw [cl_toList]
  intro hm
  rcases List.mem_append.1 hm with hm | hm
  · exact num_none _ h.1.1 (.inl (by decide)) hm
  · rcases List.mem_cons.1 hm with hm | hm
    · exact absurd hm (by decide)
    · rcases List.mem_append.1 hm with hm | hm
      · exact num_none _ h.2.1.1 (.inl (by decide)) hm
      · rcases List.mem_cons.1 hm with hm | hm
        · exact absurd hm (by decide)
        · exact num_none _ h.2.2.1 (.inl (by decide)) hm
theorem ok_mem {p : Tri} (h : okT p) : ∀ n ∈ [p.1, p.2.1, p.2.2], 0 ≤ n ∧ n ≤ 1000 := by
  intro n hn
  simp at hn
  rcases hn with rfl | rfl | rfl
  · exact h.1
  · exact h.2.1
  · exact h.2.2
theorem cl_ls (p : Tri) : lsS 46 [p.1, p.2.1, p.2.2] [p.1, p.2.1, p.2.2].length = clS p := cl_three p.1 p.2.1 p.2.2
theorem cl_split {p : Tri} (h : okT p) : splitS (clS p) 46 = [numS p.1, numS p.2.1, numS p.2.2] := by
  have := ls_split (b := 46) (.inl (by decide)) (xs := [p.1, p.2.1, p.2.2]) (by simp) (fun n hn => (ok_mem h n hn).1)
  rw [cl_ls] at this
  exact this
theorem cl_nin {p : Tri} (h : okT p) : ninR (clS p) 46 = [p.1, p.2.1, p.2.2] := by
  have := ninR_ls (b := 46) (.inl (by decide)) (xs := [p.1, p.2.1, p.2.2]) (by simp) (fun n hn => by have := ok_mem h n hn; omega)
  rw [cl_ls] at this
  exact this
theorem rd_ok {n : Int} (h0 : 0 ≤ n) (h1 : n ≤ 1000) : rdI (numS n) = n := rdI_numS h0 (by have := num_len (n := n) (k := 3) (by omega); omega)
theorem cl_m {p : Tri} (h : okT p) : mT (clS p) = true ∧ mC (clS p) = p := by
  unfold mT mC
  rw [cl_split h]
  refine ⟨by simp, ?_⟩
  simp only [List.getD_cons_zero, List.getD_cons_succ, rd_ok h.1.1 h.1.2, rd_ok h.2.1.1 h.2.1.2, rd_ok h.2.2.1 h.2.2.2]
theorem cl_g {p : Tri} (h : okT p) : gT (clS p) = true ∧ gC (clS p) = p := by
  unfold gT gC
  rw [cl_nin h]
  exact ⟨by simp, by simp⟩
theorem gL_cl : ∀ {qs : List Tri}, (∀ q ∈ qs, okT q) → gL (qs.map clS) = qs
  | [], _ => rfl
  | q :: r, h => by
    have h1 := cl_g (h q (by simp))
    have h2 := gL_cl (qs := r) (fun x hx => h x (by simp [hx]))
    unfold gL at h2 ⊢
    rw [List.map_cons, List.filter_cons, if_pos h1.1, List.map_cons, h1.2, h2]
theorem mm_cl : ∀ {qs : List Tri}, (∀ q ∈ qs, okT q) → (qs.map clS).all mT = true ∧ (qs.map clS).map mC = qs
  | [], _ => ⟨rfl, rfl⟩
  | q :: r, h => by
    have h1 := cl_m (h q (by simp))
    have h2 := mm_cl (qs := r) (fun x hx => h x (by simp [hx]))
    simp only [List.map_cons, List.all_cons, h1.1, h2.1, Bool.and_true, h1.2, h2.2, and_self]
theorem pzS_succ (ps : List Tri) {k : Nat} (h : ¬ k = 0) : (pzS ps (k + 1)).data.toList = (pzS ps k).data.toList ++ 44 :: (clS (ps.getD k z3)).data.toList := by
  rw [pzS_more ps h]; simp
theorem pzS_cat (ps : List Tri) : ∀ k, (pzS ps (k + 1)).data.toList = catL 44 ((cwL ps k).map (·.data.toList)) (clS (ps.getD k z3)).data.toList
  | 0 => by rw [pzS_one]; rfl
  | k + 1 => by rw [pzS_succ ps (by omega), pzS_cat ps k, cwL_snoc, List.map_append, List.map_singleton, cat_snoc, cat_app]
theorem cwL_all (ps : List Tri) : cwL ps ps.length = ps.map clS := by
  apply List.ext_getElem
  · simp [cwL]
  · intro i h1 h2
    have : i < ps.length := by simp at h2; exact h2
    simp [cwL, this]
theorem ok_at {qs : List Tri} (h : ∀ q ∈ qs, okT q) {k : Nat} (hk : k < qs.length) : okT (qs.getD k z3) := h _ (by simp [List.getD_eq_getElem?_getD, hk])
theorem pz_split {qs : List Tri} (h1 : 1 ≤ qs.length) (h : ∀ q ∈ qs, okT q) : splitS (pzS qs qs.length) 44 = qs.map clS := by
  obtain ⟨k, hk⟩ : ∃ k, qs.length = k + 1 := ⟨qs.length - 1, by omega⟩
  have e := split_eq (s := pzS qs qs.length) (b := 44) (ws := cwL qs k) (l := clS (qs.getD k z3)) (fun w hw => by
    obtain ⟨j, hj, rfl⟩ := List.mem_map.1 hw
    have := List.mem_range.1 hj
    exact cl_none (ok_at h (by omega))) (cl_none (ok_at h (by omega))) (by rw [hk]; exact (pzS_cat qs k).symm)
  rw [e, ← cwL_snoc, ← hk, cwL_all]
theorem puz_mem {qs : List Tri} (h : puzB qs = true) : ∀ q ∈ qs, okT q := by
  intro q hq
  obtain ⟨k, hk, rfl⟩ := List.getElem_of_mem hq
  have := puz_ok h k hk
  rwa [List.getD_eq_getElem?_getD, List.getElem?_eq_getElem hk, Option.getD_some] at this
theorem cl_short {p : Tri} (h : clB p = true) : (clS p).size ≤ 6 := by
  have h3 := clueB_kind h
  have h4 := clueB_a h
  have z1 := num_len (n := p.1) (k := 0) (by omega)
  have z2 := num_len (n := p.2.1) (k := 0) (by omega)
  have z3 := num_len (n := p.2.2) (k := 1) (by omega)
  simp only [clS, ByteArray.size_append, one_size]
  omega
theorem pz_short {ps : List Tri} (h : ps.all clB = true) : ∀ k, k ≤ ps.length → (pzS ps k).size ≤ 7 * k
  | 0, _ => by simp [pzS, ByteArray.size]
  | k + 1, hk => by
    have h1 := pz_short h k (by omega)
    have h2 := cl_short (p := ps.getD k z3) (List.all_eq_true.1 h _ (by simp [List.getD_eq_getElem?_getD, show k < ps.length by omega]))
    unfold pzS
    split
    · simp only [ByteArray.size_append]
      have : (⟨#[]⟩ : ByteArray).size = 0 := rfl
      omega
    · simp only [ByteArray.size_append, one_size]
      omega
theorem split_ne (s : ByteArray) (b : UInt8) : 1 ≤ (splitS s b).length := by
  obtain ⟨ws, l, e, _⟩ := split_cat s b
  rw [e]; simp
theorem size_zero {s : ByteArray} (h : s.size = 0) : s = ⟨#[]⟩ := by
  apply ByteArray.ext
  exact Array.eq_empty_of_size_eq_zero h
theorem ppC_empty {s : ByteArray} (h : s.size = 0) : ppC s = [] := by
  unfold ppC gL
  have : (splitS s 44).filter gT = [] := by
    apply List.filter_eq_nil_iff.2
    intro x hx hg
    have h1 := word_le s 44 x hx
    have h2 := ninR_length x 46
    unfold gT at hg
    have := of_decide_eq_true hg
    omega
  rw [this]; rfl
theorem mB_yes {s : ByteArray} (h : mB s = true) : ppB s = true ∧ (¬ s.size = 0 → (splitS s 44).map mC = ppC s) := by
  simp only [mB, Bool.and_eq_true, Bool.or_eq_true, decide_eq_true_eq] at h
  obtain ⟨_, h0 | ⟨h1, h2, h3⟩⟩ := h
  · refine ⟨?_, fun hn => absurd h0 hn⟩
    unfold ppB
    rw [ppC_empty h0, size_zero h0]
    rfl
  · have hok := puz_mem h2
    have hne := split_ne s 44
    have e := pz_split (qs := (splitS s 44).map mC) (by simpa using hne) hok
    rw [List.length_map, h3] at e
    have e2 : ppC s = (splitS s 44).map mC := by
      show gL (splitS s 44) = _
      rw [e, List.map_map]
      have := gL_cl hok
      rw [List.map_map] at this
      conv at this => lhs; rw [← List.map_map]
      rw [← e] at this
      rw [← List.map_map, ← e]
      exact this
    refine ⟨?_, fun _ => e2.symm⟩
    unfold ppB
    rw [e2, h2, List.length_map]
    simpa using h3
theorem mB_of {s : ByteArray} (h : ppB s = true) : mB s = true := by
  simp only [ppB, Bool.and_eq_true, decide_eq_true_eq] at h
  obtain ⟨h1, h2⟩ := h
  have hok := puz_mem h1
  have h6 := puzB_six h1
  have hall : (ppC s).all clB = true := by simp only [puzB, Bool.and_eq_true] at h1; exact h1.2
  have hsz := pz_short hall (ppC s).length (Nat.le_refl _)
  rw [h2] at hsz
  have hd : decide (s.size ≤ 60) = true := decide_eq_true (by omega)
  unfold mB
  rw [hd, Bool.true_and]
  by_cases h0 : s.size = 0
  · simp [h0]
  · have hne : 1 ≤ (ppC s).length := by
      cases hq : ppC s with
      | nil => rw [hq] at h2; exact absurd (by rw [← h2]; rfl) h0
      | cons _ _ => simp
    have e := pz_split hne hok
    rw [h2] at e
    have hm := mm_cl hok
    rw [← e] at hm
    rw [hm.1, hm.2, h1, show (splitS s 44).length = (ppC s).length by rw [e, List.length_map], h2]
    simp
theorem mB_eq (s : ByteArray) : mB s = ppB s := by
  cases h : ppB s
  · cases h2 : mB s
    · rfl
    · rw [(mB_yes h2).1] at h; cases h
  · exact mB_of h
theorem ppL_len (s : ByteArray) : (ppL s).length ≤ 1048576 := by
  unfold ppL
  split
  · rename_i h
    simp only [ppB, Bool.and_eq_true] at h
    have := puzB_six h.1
    omega
  · simp

end Go.Proofs.YtohimcljobpkjaaDoor

namespace Go.Proofs.YtohimcljobpkjaaDoor
set_option maxRecDepth 100000
open Go.RowKit

theorem run_append_rdT (w : World) (ty : TypeId) (B0 B : Nat) (v : Value) (xs ys : List Tri) (hown : OwnF w B0 v xs) (A : Option Addr) (c : Nat) (hr : RdF w B A c ys) (hn : xs.length + ys.length ≤ 4194304) (hB : B0 ≤ w.heap.size) :
    ∃ v' w', (Builtin.append_ #[28, 28] ty #[v, .slice A ys.length c]).run Tryd.prog w = .ok v' w' ∧ OwnF w' B0 v' (xs ++ ys) ∧ Turned w w' (rowL v) := by
  obtain ⟨i0, hi, hz, hsz, hby⟩ := info_parts fl_info
  rcases A with _ | ad
  · have hy : ys = [] := by
      cases ys with
      | nil => rfl
      | cons y r =>
        obtain ⟨b, o, e, _⟩ := hr.2 0 (by simp)
        cases e
    subst hy
    refine ⟨v, w, ?_, by simpa using hown, Turned.refl _ _⟩
    rcases hown.2 with ⟨rfl, h0⟩ | ⟨g, cap, cur, rfl, _, _, hnc, _⟩
    · simp [Builtin.append_, run_underlying Tryd.underlying28, sizeOf, typeInfo, hi, Builtin.lenOf, Builtin.firstCells]
    · simp [Builtin.append_, run_underlying Tryd.underlying28, sizeOf, typeInfo, hi, Builtin.lenOf, Builtin.firstCells, hnc, storeCells]
  · have hnews : ∀ j u, (cellsF ys)[j]? = some u → w.cell? (ad.add j) = some u := by
      intro j u hu
      have hj : j < ys.length * 3 := by
        have := (List.getElem?_eq_some_iff.1 hu).1
        rwa [cellsF_len] at this
      obtain ⟨b, o, e, _, h0, h1, h2⟩ := hr.2 (j / 3) (by omega)
      obtain ⟨c0, c1, c2⟩ := cellsF_at ys (j / 3) (by omega)
      injection e with e
      subst e
      rw [Addr.add_lit]
      have hm : j % 3 = 0 ∨ j % 3 = 1 ∨ j % 3 = 2 := by omega
      rcases hm with hm | hm | hm
      · rw [show j = j / 3 * 3 by omega] at hu ⊢
        rw [c0] at hu
        rw [h0]; exact hu
      · rw [show j = j / 3 * 3 + 1 by omega] at hu ⊢
        rw [c1] at hu
        rw [← Nat.add_assoc, h1]; exact hu
      · rw [show j = j / 3 * 3 + 2 by omega] at hu ⊢
        rw [c2] at hu
        rw [← Nat.add_assoc, h2]; exact hu
    have hone : ∀ (zs : List Tri), ∀ u ∈ cellsF zs, u.oneCell' = true := by
      intro zs
      induction zs with
      | nil => simp [cellsF]
      | cons z r ih =>
        intro u hu
        simp only [cellsF, List.mem_cons] at hu
        rcases hu with rfl | rfl | rfl | hu
        · rfl
        · rfl
        · rfl
        · exact ih u hu
    obtain ⟨v', w', hrun, h1, h2, _, h4⟩ := run_append_own_at (P := Tryd.prog) w B0 28 ty 44 i0 (.agg #[.int .i64 0, .int .i64 0, .int .i64 0]) 3 24 Tryd.underlying28 hi hz hsz hby rfl (by decide) v xs.length _ hown ad ys.length c (cellsF ys) (cellsF_len ys) hnews (hone ys) (by simp only [maxLen]; omega) (by omega) hB
    refine ⟨v', w', hrun, ?_, Turned.of_grown h2 (fun k hk => mem_rowL.2 hk)⟩
    unfold OwnF
    rw [cellsF_app, List.length_append]
    exact h1
theorem step_appT (w : World) {ops : Array Oper} {o : Oper} {a : Act} {K : Act → World → Prop} {Q : Exit → Act → World → Prop} {E : Prop} (hgd : o.guard = none) (s x : Operand)
    (ho : o.op = .call { callee := .builtin .append, args := #[s, x], argTypes := #[28, 28] }) (B0 B : Nat) (v : Value) (xs ys : List Tri) (hs : a.eval s = v) (hown : OwnF w B0 v xs) (A : Option Addr) (n c : Nat) (hl : n = ys.length) (hx : a.eval x = .slice A n c)
    (hr : RdF w B A c ys) (hn : xs.length + ys.length ≤ 4194304) (hB : B0 ≤ w.heap.size)
    (h : ∀ v' w', OwnF w' B0 v' (xs ++ ys) → Turned w w' (rowL v) → K (a.put o.dst v') w') :
    if Region.wanted o (yielded ops a.tmps) = true then Oper.wp Tryd.prog o a w K Q else E := by
  subst hl
  have hw : Region.wanted o (yielded ops a.tmps) = true := by simp [Region.wanted, hgd]
  rw [if_pos hw]
  obtain ⟨v', w', hrun, h2, h3⟩ := run_append_rdT w o.type B0 B v xs ys hown A c hr hn hB
  unfold Oper.wp execOp
  simp only [ho, resolve, invoke, builtin, Sem.run_bind, Sem.run_pure, Result.andThen_ok, List.map_toArray, List.map_cons, List.map_nil, hs, hx, hrun]
  exact h v' w' h2 h3
theorem turned_undrewF {a w : World} {L : List Nat} (h : Turned a.drew w L) : Turned a w L := ⟨h.os, h.tape, h.output, h.size, h.block⟩

theorem below_setF (w : World) {g : Nat} {v : Value} : Below g w (w.setCell ⟨g, 0, none⟩ v) := (Below.refl g w).setCell (p := ⟨g, 0, none⟩) (Nat.le_refl g) _

theorem blk_rd1c {w : World} {g : Nat} {k a b : Int} (h : Blk w g 44 #[.int .i64 k, .int .i64 a, .int .i64 b]) : RdF w w.heap.size (some ⟨g, 0, none⟩) 1 [(k, a, b)] :=
  blk_rd (ps := [(k, a, b)]) h (by simp)

theorem Turned.cellAt {a b : World} {L : List Nat} (h : Turned a b L) {g i : Nat} (hg : g < a.heap.size) (hL : g ∉ L) : b.cell? ⟨g, i, none⟩ = a.cell? ⟨g, i, none⟩ := by
  unfold World.cell?
  rw [h.block g hg hL]
theorem Blk.farC {w : World} {g g' i j : Nat} {v : Value} (h : g ≠ g') : (w.setCell ⟨g', j, none⟩ v).cell? ⟨g, i, none⟩ = w.cell? ⟨g, i, none⟩ := by
  unfold World.cell?
  rw [Below.heap_setCell w ⟨g', j, none⟩ v g h]
theorem al_cell {a : World} {g i : Nat} {v : Value} (o : Obj) (hg : g < a.heap.size) (h : a.cell? ⟨g, i, none⟩ = some v) : (a.alloc o).cell? ⟨g, i, none⟩ = some v :=
  ((below_alloc a o).cell (p := ⟨g, i, none⟩) hg).trans h

end Go.Proofs.YtohimcljobpkjaaDoor

namespace Go.Proofs.YtohimcljobpkjaaDoor
set_option maxRecDepth 100000
open Go

section
variable {P : Program} {ops : Array Oper} {Q : Exit → Act → World → Prop} {md : Region.Mode} {S : World → Prop} {z : Nat}

/-- operation z waits for operation i -/
def waitsZ (md : Region.Mode) (ops : Array Oper) (z i : Nat) : Bool := ((ops[z]?).map fun o => o.after.any fun e => Region.binds md e && e.on == i).getD false

theorem waitsZ_ne {i j : Nat} {listed : Array Bool} (h : waitsZ md ops z i = true) (hu : listed.getD i true = false) (hj : j ∈ Region.ready md ops listed) : j ≠ z := by
  rintro rfl
  obtain ⟨_, o, ho, hall⟩ := mem_ready.1 hj
  unfold waitsZ at h
  rw [ho] at h
  obtain ⟨e, he, hb⟩ := Array.any_eq_true'.1 (show (o.after.any fun e => Region.binds md e && e.on == i) = true from h)
  simp only [Bool.and_eq_true, beq_iff_eq] at hb
  have h1 := hall e he hb.1
  rw [hb.2] at h1
  rcases Nat.lt_or_ge i listed.size with h' | h'
  · simp [h'] at hu h1; rw [hu] at h1; cases h1
  · simp [Array.getElem?_eq_none h'] at h1

/-- whatever order is picked; behind each operation but z S holds -/
def wpAnyZ (P : Program) (md : Region.Mode) (ops : Array Oper) (Q : Exit → Act → World → Prop) (S : World → Prop) (z : Nat) : Nat → Array Bool → Act → World → Prop
  | 0, listed, a, w => Region.ready md ops listed = [] ∧ Q .normal a w
  | fuel + 1, listed, a, w =>
    (Region.ready md ops listed = [] → Q .normal a w) ∧
    ∀ i ∈ Region.ready md ops listed, wpOp P ops Q i (fun a' w' => (i ≠ z → S w') ∧ wpAnyZ P md ops Q S z fuel (listed.setIfInBounds i true) a' w') a w

theorem wpAny_of_z : ∀ (fuel : Nat) (listed : Array Bool) (a : Act) (w : World), wpAnyZ P md ops Q S z fuel listed a w → wpAny P md ops Q fuel listed a w
  | 0, _, _, _, h => h
  | fuel + 1, _, _, _, h => ⟨h.1, fun i hi => wpOp_mono (fun a' w' h' => wpAny_of_z fuel _ a' w' h'.2) (h.2 i hi)⟩

theorem wpAnyZ_first {i : Nat} {oi : Oper} {v : Value} (hi : ops[i]? = some oi) (hsel : ∀ (j : Nat) (o : Oper) cs b, ops[j]? = some o → o.op ≠ .select cs b)
    (hQ : ∀ c a w, Q (.panic c) (a.put oi.dst v) w → Q (.panic c) a w) (hwz : waitsZ md ops z i = true) :
    ∀ (fuel : Nat) (listed : Array Bool) (a : Act) (w : World),
      (∀ j oj, ops[j]? = some oj → j ≠ i → listed.getD j true = false → (∀ e ∈ oj.after, Region.binds md e = true → e.on ≠ i) → oi.apart ops oj = true) →
      i ∈ Region.ready md ops listed → YieldsIf P ops S oi v a → S w →
      wpAnyZ P md ops Q S z fuel (listed.setIfInBounds i true) (a.put oi.dst v) w → wpAnyZ P md ops Q S z (fuel + 1) listed a w := by
  intro fuel
  induction fuel with
  | zero =>
    intro listed a w _ hr hy hS H
    refine ⟨fun h => (by rw [h] at hr; cases hr), fun j hj => ?_⟩
    by_cases hji : j = i
    · subst hji; exact hy.wpOp hi hS ⟨fun _ => hS, H⟩
    · have := ready_mono hj hji
      rw [H.1] at this
      cases this
  | succ fuel ih =>
    intro listed a w hfree hr hy hS H
    refine ⟨fun h => (by rw [h] at hr; cases hr), fun j hj => ?_⟩
    by_cases hji : j = i
    · subst hji; exact hy.wpOp hi hS ⟨fun _ => hS, H⟩
    · have h1 := H.2 j (ready_mono hj hji)
      have hjz := waitsZ_ne hwz (mem_ready.1 hr).1 hj
      obtain ⟨hjun, oj, hoj, hall⟩ := mem_ready.1 hj
      have hnot : ∀ e ∈ oj.after, Region.binds md e = true → e.on ≠ i := fun e he hb heq => by
        have h1 := hall e he hb
        have h0 := (mem_ready.1 hr).1
        rw [heq] at h1
        rcases Nat.lt_or_ge i listed.size with h' | h'
        · simp [h'] at h0 h1; rw [h0] at h1; cases h1
        · simp [Array.getElem?_eq_none h'] at h1
      have h2 := wpOp_putIf hoj (hfree j oj hoj hji hjun hnot) (fun cs b => hsel i oi cs b hi) (fun cs b => hsel j oj cs b hoj) hQ hy h1
      have hfree' : ∀ k ok, ops[k]? = some ok → k ≠ i → (listed.setIfInBounds j true).getD k true = false →
          (∀ e ∈ ok.after, Region.binds md e = true → e.on ≠ i) → oi.apart ops ok = true := fun k ok hk hki hun hno => by
        refine hfree k ok hk hki ?_ hno
        by_cases hjk : j = k
        · subst hjk; exact hjun
        · rw [getD_set_ne true hjk] at hun; exact hun
      refine wpOp_mono (fun a' w' h3 => ⟨h3.2.1, ih (listed.setIfInBounds j true) a' w' hfree' (ready_mono hr (Ne.symm hji)) h3.1 (h3.2.1 hjz) ?_⟩) h2
      rw [Array.setIfInBounds_comm _ _ hji]
      exact h3.2.2

theorem wpAnyZ_take {i : Nat} {oi : Oper} {v : Value} {fuel : Nat} {listed : Array Bool} {a : Act} {w : World} (hi : ops[i]? = some oi)
    (hs : Region.noSelect ops = true) (hf : Region.free md ops listed i = true) (hr : (Region.ready md ops listed).contains i = true) (hwz : waitsZ md ops z i = true)
    (hQ : ∀ c a w, Q (.panic c) (a.put oi.dst v) w → Q (.panic c) a w) (hy : YieldsIf P ops S oi v a) (hS : S w)
    (h : wpAnyZ P md ops Q S z fuel (listed.setIfInBounds i true) (a.put oi.dst v) w) : wpAnyZ P md ops Q S z (fuel + 1) listed a w :=
  wpAnyZ_first hi (Region.noSelect_spec hs) hQ hwz fuel listed a w (Region.free_spec hi hf) (by simpa using hr) hy hS h

/-- one alone may come up -/
theorem wpAnyZ_one {i : Nat} {o : Oper} {fuel : Nat} {listed : Array Bool} {a : Act} {w : World} (hr : Region.ready md ops listed = [i]) (ho : ops[i]? = some o)
    (h : ∀ K' : Act → World → Prop, Shut (∀ a w, (i ≠ z → S w) → wpAnyZ P md ops Q S z fuel (listed.setIfInBounds i true) a w → K' a w) → if Region.wanted o (yielded ops a.tmps) = true then Oper.wp P o a w K' Q else K' (a.put o.dst undef) w) : wpAnyZ P md ops Q S z (fuel + 1) listed a w :=
  ⟨fun h0 => (by rw [hr] at h0; cases h0), fun j hj => by
    rw [hr] at hj
    obtain rfl := List.mem_singleton.1 hj
    exact wpOp_step ho (fun K' hK => h K' (fun a w hS hW => hK a w ⟨hS, hW⟩))⟩

theorem wpAnyZ_done {listed : Array Bool} {a : Act} {w : World} (hr : Region.ready md ops listed = []) (h : Q .normal a w) :
    ∀ fuel, wpAnyZ P md ops Q S z fuel listed a w
  | 0 => ⟨hr, h⟩
  | _ + 1 => ⟨fun _ => h, by rw [hr]; simp⟩

theorem wp_region_z {id : Nat} {a : Act} {w : World} (S : World → Prop) (z : Nat) (hm : P.follows .mixedOrders = true) (hS : S w.drew)
    (h : S w.drew → wpAnyZ P .any ops Q S z ops.size (Array.replicate ops.size false) a w.drew) : (Code.region id ops true).wp P Q a w :=
  wp_region_any hm (wpAny_of_z _ _ _ _ (h hS))

/-! inside a fence -/
variable {F : Fence} {n : Nat}

/-- it yields v in every world that meets S, makes no call, defers nothing -/
structure YieldsZ (P : Program) (ops : Array Oper) (S : World → Prop) (o : Oper) (v : Value) (a : Act) : Prop where
  y : YieldsIf P ops S o v a
  ab : ∀ w, o.about P w a.eval = none

def noDeferZ (ops : Array Oper) : Bool := ops.all fun o => match o.op with | .defer .. => false | _ => true
theorem noDeferZ_spec (h : noDeferZ ops = true) (j : Nat) (o : Oper) (ho : ops[j]? = some o) : ∀ c, o.op ≠ .defer c := by
  intro c heq
  have := Array.all_eq_true_iff_forall_mem.1 h o (Array.mem_of_getElem? ho)
  simp [heq] at this

theorem YieldsZ.of_same {o : Oper} {v : Value} {a a' : Act} (hy : YieldsZ P ops S o v a) (he : execOp a'.eval o = execOp a.eval o)
    (hw : Region.wanted o (yielded ops a'.tmps) = Region.wanted o (yielded ops a.tmps)) (hb : ∀ w, o.about P w a'.eval = o.about P w a.eval) : YieldsZ P ops S o v a' :=
  ⟨hy.y.of_same he hw, fun w => by rw [hb w]; exact hy.ab w⟩

theorem YieldsZ.wpOpIn {i : Nat} {o : Oper} {v : Value} {a : Act} (hi : ops[i]? = some o) (hd : ∀ c, o.op ≠ .defer c) (hy : YieldsZ P ops S o v a)
    {K : Act → World → Prop} {w : World} (hS : S w) (h : K (a.put o.dst v) w) : wpOpIn F n P ops Q i K a w := by
  unfold Go.wpOpIn
  simp only [hi]
  have hab : ∀ f, o.about P w a.eval = some f → F.fn f := fun f hf => by rw [hy.ab w] at hf; cases hf
  rcases hy.y with ⟨hw, hv⟩ | ⟨hw, rfl⟩
  · simp only [hw, if_true, Oper.wpIn, Oper.semAt_eq F.round a.eval o hd, hv w hS, Oper.uponIn]; exact ⟨hab, h⟩
  · simp only [hw, Bool.false_eq_true, if_false]; exact ⟨hab, h⟩

theorem wpOpIn_putZ {j : Nat} {oi oj : Oper} {v : Value} (hd : ∀ c, oj.op ≠ .defer c) (hj : ops[j]? = some oj) (hap : oi.apart ops oj = true)
    (hsi : ∀ cs b, oi.op ≠ .select cs b) (hsj : ∀ cs b, oj.op ≠ .select cs b)
    (hQ : ∀ c a w, Q (.panic c) (a.put oi.dst v) w → Q (.panic c) a w) {K : Act → World → Prop} {a : Act} {w : World}
    (hy : YieldsZ P ops S oi v a) (h : wpOpIn F n P ops Q j K (a.put oi.dst v) w) :
    wpOpIn F n P ops Q j (fun a' w' => YieldsZ P ops S oi v a' ∧ K (a'.put oi.dst v) w') a w := by
  obtain ⟨h1, h2, h3⟩ := Oper.apart_spec hap
  have keep : ∀ (a : Act), YieldsZ P ops S oi v a → ∀ u, YieldsZ P ops S oi v (a.put oj.dst u) := fun a hy u =>
    hy.of_same (execOp_put oi hsi a oj.dst u h3) (wanted_put oi a oj.dst u h3) (fun w => about_put oi w a oj.dst u h3)
  have keepD : ∀ d, YieldsZ P ops S oi v { a with defers := d :: a.defers } := fun d => hy.of_same rfl rfl (fun _ => rfl)
  unfold wpOpIn at *
  simp only [hj] at *
  rw [wanted_put oj a oi.dst v h1, about_put oj w a oi.dst v h1] at h
  split
  · rename_i hw
    simp only [hw, if_true] at h
    unfold Oper.wpIn at *
    rw [about_put oj w a oi.dst v h1] at h
    refine ⟨h.1, ?_⟩
    have h := h.2
    rw [Oper.semAt_eq F.round _ oj hd, execOp_put oj hsj a oi.dst v h1] at h
    rw [Oper.semAt_eq F.round _ oj hd]
    generalize (execOp a.eval oj).run P w = r at *
    cases r with
    | ok x w' =>
      cases x <;> simp only [Oper.uponIn] at h ⊢
      case value u => exact ⟨keep a hy u, by rw [← Act.put_comm a v u h2]; exact h⟩
      case skip => exact ⟨keep a hy _, by rw [← Act.put_comm a v undef h2]; exact h⟩
      case defer d =>
        refine ⟨keep _ (keepD d) _, ?_⟩
        rw [← Act.put_comm _ v undef h2, ← Act.put_defers]
        exact h
      case enter f args =>
        refine ⟨h.1, CallsIn.mono h.2 fun e w'' he => ?_⟩
        cases e with
        | returned u => exact ⟨keep a hy u, by rw [← Act.put_comm a v u h2]; exact he⟩
        | panicked c => exact hQ _ _ _ he
        | outgrown => exact he
      case row row args => exact ⟨h.1, RowsIn.mono h.2 fun u w'' he => ⟨keep a hy u, by rw [← Act.put_comm a v u h2]; exact he⟩⟩
      case round l f tmps assign body =>
        refine ⟨h.1, RoundIn.mono h.2 fun e w'' he => ?_⟩
        cases e with
        | returned u => exact ⟨keep a hy u, by rw [← Act.put_comm a v u h2]; exact he⟩
        | panicked c => exact hQ _ _ _ he
        | outgrown => exact he
    | halt x w' =>
      cases x <;> simp only [Oper.uponIn] at h ⊢
      case panic u => exact hQ _ _ _ h
  · rename_i hw
    simp only [hw] at h
    exact ⟨h.1, keep a hy _, by rw [← Act.put_comm a v undef h2]; exact h.2⟩

def wpAnyZIn (F : Fence) (n : Nat) (P : Program) (md : Region.Mode) (ops : Array Oper) (Q : Exit → Act → World → Prop) (S : World → Prop) (z : Nat) : Nat → Array Bool → Act → World → Prop
  | 0, listed, a, w => Region.ready md ops listed = [] ∧ Q .normal a w
  | fuel + 1, listed, a, w =>
    (Region.ready md ops listed = [] → Q .normal a w) ∧
    ∀ i ∈ Region.ready md ops listed, wpOpIn F n P ops Q i (fun a' w' => (i ≠ z → S w') ∧ wpAnyZIn F n P md ops Q S z fuel (listed.setIfInBounds i true) a' w') a w

theorem wpAnyIn_of_z : ∀ (fuel : Nat) (listed : Array Bool) (a : Act) (w : World), wpAnyZIn F n P md ops Q S z fuel listed a w → wpAnyIn F n P md ops Q fuel listed a w
  | 0, _, _, _, h => h
  | fuel + 1, _, _, _, h => ⟨h.1, fun i hi => wpOpIn_mono (fun a' w' h' => wpAnyIn_of_z fuel _ a' w' h'.2) (h.2 i hi)⟩

theorem wpAnyZIn_first {i : Nat} {oi : Oper} {v : Value} (hdf : ∀ (j : Nat) (o : Oper), ops[j]? = some o → ∀ c, o.op ≠ .defer c) (hi : ops[i]? = some oi) (hsel : ∀ (j : Nat) (o : Oper) cs b, ops[j]? = some o → o.op ≠ .select cs b)
    (hQ : ∀ c a w, Q (.panic c) (a.put oi.dst v) w → Q (.panic c) a w) (hwz : waitsZ md ops z i = true) :
    ∀ (fuel : Nat) (listed : Array Bool) (a : Act) (w : World),
      (∀ j oj, ops[j]? = some oj → j ≠ i → listed.getD j true = false → (∀ e ∈ oj.after, Region.binds md e = true → e.on ≠ i) → oi.apart ops oj = true) →
      i ∈ Region.ready md ops listed → YieldsZ P ops S oi v a → S w →
      wpAnyZIn F n P md ops Q S z fuel (listed.setIfInBounds i true) (a.put oi.dst v) w → wpAnyZIn F n P md ops Q S z (fuel + 1) listed a w := by
  intro fuel
  induction fuel with
  | zero =>
    intro listed a w _ hr hy hS H
    refine ⟨fun h => (by rw [h] at hr; cases hr), fun j hj => ?_⟩
    by_cases hji : j = i
    · subst hji; exact hy.wpOpIn hi (hdf _ _ hi) hS ⟨fun _ => hS, H⟩
    · have := ready_mono hj hji
      rw [H.1] at this
      cases this
  | succ fuel ih =>
    intro listed a w hfree hr hy hS H
    refine ⟨fun h => (by rw [h] at hr; cases hr), fun j hj => ?_⟩
    by_cases hji : j = i
    · subst hji; exact hy.wpOpIn hi (hdf _ _ hi) hS ⟨fun _ => hS, H⟩
    · have h1 := H.2 j (ready_mono hj hji)
      have hjz := waitsZ_ne hwz (mem_ready.1 hr).1 hj
      obtain ⟨hjun, oj, hoj, hall⟩ := mem_ready.1 hj
      have hnot : ∀ e ∈ oj.after, Region.binds md e = true → e.on ≠ i := fun e he hb heq => by
        have h1 := hall e he hb
        have h0 := (mem_ready.1 hr).1
        rw [heq] at h1
        rcases Nat.lt_or_ge i listed.size with h' | h'
        · simp [h'] at h0 h1; rw [h0] at h1; cases h1
        · simp [Array.getElem?_eq_none h'] at h1
      have h2 := wpOpIn_putZ (hdf _ _ hoj) hoj (hfree j oj hoj hji hjun hnot) (fun cs b => hsel i oi cs b hi) (fun cs b => hsel j oj cs b hoj) hQ hy h1
      have hfree' : ∀ k ok, ops[k]? = some ok → k ≠ i → (listed.setIfInBounds j true).getD k true = false →
          (∀ e ∈ ok.after, Region.binds md e = true → e.on ≠ i) → oi.apart ops ok = true := fun k ok hk hki hun hno => by
        refine hfree k ok hk hki ?_ hno
        by_cases hjk : j = k
        · subst hjk; exact hjun
        · rw [getD_set_ne true hjk] at hun; exact hun
      refine wpOpIn_mono (fun a' w' h3 => ⟨h3.2.1, ih (listed.setIfInBounds j true) a' w' hfree' (ready_mono hr (Ne.symm hji)) h3.1 (h3.2.1 hjz) ?_⟩) h2
      rw [Array.setIfInBounds_comm _ _ hji]
      exact h3.2.2

theorem wpAnyZIn_take {i : Nat} {oi : Oper} {v : Value} {fuel : Nat} {listed : Array Bool} {a : Act} {w : World} (hi : ops[i]? = some oi) (hdf : noDeferZ ops = true)
    (hs : Region.noSelect ops = true) (hf : Region.free md ops listed i = true) (hr : (Region.ready md ops listed).contains i = true) (hwz : waitsZ md ops z i = true)
    (hQ : ∀ c a w, Q (.panic c) (a.put oi.dst v) w → Q (.panic c) a w) (hy : YieldsZ P ops S oi v a) (hS : S w)
    (h : wpAnyZIn F n P md ops Q S z fuel (listed.setIfInBounds i true) (a.put oi.dst v) w) : wpAnyZIn F n P md ops Q S z (fuel + 1) listed a w :=
  wpAnyZIn_first (noDeferZ_spec hdf) hi (Region.noSelect_spec hs) hQ hwz fuel listed a w (Region.free_spec hi hf) (by simpa using hr) hy hS h

theorem wpAnyZIn_one {i : Nat} {o : Oper} {fuel : Nat} {listed : Array Bool} {a : Act} {w : World} (hr : Region.ready md ops listed = [i]) (ho : ops[i]? = some o)
    (h : ∀ K' : Act → World → Prop, Shut (∀ a w, (i ≠ z → S w) → wpAnyZIn F n P md ops Q S z fuel (listed.setIfInBounds i true) a w → K' a w) → if Region.wanted o (yielded ops a.tmps) = true then Oper.wpIn F n P o a w K' Q else (∀ f, o.about P w a.eval = some f → F.fn f) ∧ K' (a.put o.dst undef) w) : wpAnyZIn F n P md ops Q S z (fuel + 1) listed a w :=
  ⟨fun h0 => (by rw [hr] at h0; cases h0), fun j hj => by
    rw [hr] at hj
    obtain rfl := List.mem_singleton.1 hj
    exact wpOpIn_step ho (fun K' hK => h K' (fun a w hS hW => hK a w ⟨hS, hW⟩))⟩

theorem wpAnyZIn_done {listed : Array Bool} {a : Act} {w : World} (hr : Region.ready md ops listed = []) (h : Q .normal a w) :
    ∀ fuel, wpAnyZIn F n P md ops Q S z fuel listed a w
  | 0 => ⟨hr, h⟩
  | _ + 1 => ⟨fun _ => h, by rw [hr]; simp⟩

theorem wpIn_region_z {id : Nat} {a : Act} {w : World} (S : World → Prop) (z : Nat) (hm : P.follows .mixedOrders = true) (hS : S w.drew)
    (h : S w.drew → wpAnyZIn F n P .any ops Q S z ops.size (Array.replicate ops.size false) a w.drew) : (Code.region id ops true).wpIn F n P Q a w :=
  wpIn_region_any hm (wpAnyIn_of_z _ _ _ _ (h hS))

end

end Go.Proofs.YtohimcljobpkjaaDoor
