/- Reading houses: plain facts. No program. -/
import Derived.Test.YtenhlppijpmdgaaDoorTxLs
import Derived.Test.YtenhlppijpmdgaaDoorTxCut
import Derived.Test.YtenhlppijpmdgaaDoorTxHouse
namespace Go.Proofs.YtenhlppijpmdgaaDoor
open Go.RowKit
set_option maxRecDepth 100000

theorem split_none (s : ByteArray) (b : UInt8) : ∀ x ∈ splitS s b, b ∉ x.data.toList := by
  obtain ⟨_, c2, c3⟩ := spW_cat s b s.size (Nat.le_refl _)
  intro x hx
  rcases List.mem_append.1 hx with hx | hx
  · exact c2 _ (List.mem_map.2 ⟨x, hx, rfl⟩)
  · obtain rfl : x = _ := List.mem_singleton.1 hx
    rw [pieL_ext s _ _ (Nat.le_refl _)]; exact c3
/-- parted at the first byte, the rest holds the other words -/
theorem cut_split {s w : ByteArray} {b : UInt8} {r : List ByteArray} (h : splitS s b = w :: r) (hr : r ≠ []) : cutA s b = w ∧ splitS (cutZ s b) b = r := by
  obtain ⟨ws, l, e1, e2⟩ := split_cat s b
  have hn := split_none s b
  rw [h] at hn e1
  cases ws with
  | nil =>
    simp only [List.nil_append, List.cons.injEq] at e1
    exact absurd e1.2 hr
  | cons w' ws =>
    simp only [List.cons_append, List.cons.injEq] at e1
    obtain ⟨rfl, rfl⟩ := e1
    obtain ⟨z, hz⟩ : ∃ z : ByteArray, z.data.toList = catL b (ws.map (·.data.toList)) l.data.toList := ⟨⟨(catL b (ws.map (·.data.toList)) l.data.toList).toArray⟩, by simp⟩
    have hs : s.data.toList = w.data.toList ++ b :: z.data.toList := by rw [hz, ← e2]; rfl
    obtain ⟨c1, c2⟩ := cut_is hs (hn w (by simp))
    refine ⟨c1, ?_⟩
    rw [c2]
    exact split_eq (fun x hx => hn x (by simp [hx])) (hn l (by simp)) hz.symm

/-- a floor's word -/
def flW (ss bs : List Int) (k : Nat) : ByteArray := numS (ss.getD k 0) ++ ⟨#[58]⟩ ++ numS (bs.getD (k + 1) 0)
/-- the first words of a house -/
def hoW (ss bs : List Int) (k : Nat) : List ByteArray := numS (bs.getD 0 0) :: (List.range k).map (flW ss bs)
theorem hoW_succ (ss bs : List Int) (k : Nat) : hoW ss bs (k + 1) = hoW ss bs k ++ [flW ss bs k] := by simp [hoW, List.range_succ]
theorem hsS_succ (ss bs : List Int) (k : Nat) : (hsS ss bs (k + 1)).data.toList = (hsS ss bs k).data.toList ++ 94 :: (flW ss bs k).data.toList := by
  simp [hsS, flW]
theorem hsS_cat (ss bs : List Int) : ∀ k, (hsS ss bs (k + 1)).data.toList = catL 94 ((hoW ss bs k).map (·.data.toList)) (flW ss bs k).data.toList
  | 0 => by rw [hsS_succ]; rfl
  | k + 1 => by rw [hsS_succ, hsS_cat ss bs k, hoW_succ, List.map_append, List.map_singleton, cat_snoc, cat_app]
theorem flW_none {c : UInt8} (hc : c.toNat < 48 ∨ 57 < c.toNat) (h58 : c ≠ 58) {ss bs : List Int} {k : Nat} (h0 : 0 ≤ ss.getD k 0) (h1 : 0 ≤ bs.getD (k + 1) 0) : c ∉ (flW ss bs k).data.toList := by
  unfold flW
  rw [toList_snoc]
  intro hm
  rcases List.mem_append.1 hm with hm | hm
  · exact num_none _ h0 hc hm
  · rcases List.mem_cons.1 hm with hm | hm
    · exact h58 hm
    · exact num_none _ h1 hc hm
theorem flW_split {ss bs : List Int} {k : Nat} (h0 : 0 ≤ ss.getD k 0) (h1 : 0 ≤ bs.getD (k + 1) 0) : splitS (flW ss bs k) 58 = [numS (ss.getD k 0), numS (bs.getD (k + 1) 0)] :=
  split_eq (ws := [numS (ss.getD k 0)]) (fun w hw => by obtain rfl := List.mem_singleton.1 hw; exact num_none _ h0 (.inr (by decide))) (num_none _ h1 (.inr (by decide))) (by unfold flW; rw [toList_snoc]; rfl)
structure GoodW (ss bs : List Int) : Prop where
  n0 : 1 ≤ ss.length
  n1 : ss.length ≤ 11
  nb : bs.length = ss.length + 1
  hs : ∀ k, k < ss.length → 1 ≤ ss.getD k 0 ∧ ss.getD k 0 ≤ 40
  hb : ∀ k, k < bs.length → 0 ≤ bs.getD k 0 ∧ bs.getD k 0 ≤ 20
theorem goodW_of {ss bs : List Int} (h : goodH ss bs = true) : GoodW ss bs := by
  simp only [goodH, Bool.and_eq_true, decide_eq_true_eq] at h
  obtain ⟨h1, h2, h3, h4⟩ := h
  have := inB_le h1
  exact ⟨by omega, by omega, by omega, fun k hk => allB_at h3 hk, fun k hk => allB_at h4 hk⟩
theorem ho_split {ss bs : List Int} (h : goodH ss bs = true) : splitS (hoS ss bs) 94 = hoW ss bs ss.length := by
  have G := goodW_of h
  obtain ⟨k, hk⟩ : ∃ k, ss.length = k + 1 := ⟨ss.length - 1, by have := G.n0; omega⟩
  have nb := G.nb
  unfold hoS
  rw [hk, hoW_succ]
  refine split_eq (fun w hw => ?_) (flW_none (.inr (by decide)) (by decide) (by have := G.hs k (by omega); omega) (by have := G.hb (k + 1) (by omega); omega)) (hsS_cat ss bs k).symm
  rcases List.mem_cons.1 hw with rfl | hw
  · exact num_none _ (by have := G.hb 0 (by omega); omega) (.inr (by decide))
  · obtain ⟨j, hj, rfl⟩ := List.mem_map.1 hw
    have := List.mem_range.1 hj
    exact flW_none (.inr (by decide)) (by decide) (by have := G.hs j (by omega); omega) (by have := G.hb (j + 1) (by omega); omega)

def phU (p : ByteArray) : Int := rdI ((splitS p 58).getD 0 ⟨#[]⟩)
def phV (p : ByteArray) : Int := rdI ((splitS p 58).getD 1 ⟨#[]⟩)
def phT (p : ByteArray) : Bool := decide ((splitS p 58).length = 2)
def phA (s : ByteArray) : List Int := (splitS s 94).tail.map phU
def phD (s : ByteArray) : List Int := rdI ((splitS s 94).getD 0 ⟨#[]⟩) :: (splitS s 94).tail.map phV
def phB (s : ByteArray) : Bool := decide (s.size ≤ 84) && ((splitS s 94).tail.all phT && (goodH (phA s) (phD s) && decide (hoS (phA s) (phD s) = s)))
theorem range_get (xs : List Int) (f : Nat → Int) (n : Nat) (hn : n = xs.length) (h : ∀ k, k < n → f k = xs.getD k 0) : (List.range n).map f = xs := by
  subst hn
  apply List.ext_getElem
  · simp
  · intro i h1 h2
    rw [List.getElem_map, List.getElem_range, h i h2, List.getD_eq_getElem?_getD, List.getElem?_eq_getElem h2, Option.getD_some]
theorem hs_size {ss bs : List Int} (hs : ∀ k, k < ss.length → 0 ≤ ss.getD k 0 ∧ ss.getD k 0 < 100) (hb : ∀ k, k < bs.length → 0 ≤ bs.getD k 0 ∧ bs.getD k 0 < 100) (hl : bs.length = ss.length + 1) : ∀ k, k ≤ ss.length → (hsS ss bs k).size ≤ 2 + 6 * k
  | 0, _ => by
    have := num_len (n := bs.getD 0 0) (k := 1) (by have := hb 0 (by omega); omega)
    unfold hsS; omega
  | k + 1, h => by
    have h1 := hs_size hs hb hl k (by omega)
    have h2 := num_len (n := ss.getD k 0) (k := 1) (by have := hs k (by omega); omega)
    have h3 := num_len (n := bs.getD (k + 1) 0) (k := 1) (by have := hb (k + 1) (by omega); omega)
    unfold hsS
    simp only [ByteArray.size_append, one_size]
    omega
theorem ph_of {ss bs : List Int} (h : goodH ss bs = true) : phB (hoS ss bs) = true ∧ phA (hoS ss bs) = ss ∧ phD (hoS ss bs) = bs := by
  have G := goodW_of h
  have nb := G.nb
  have n0 := G.n0
  have e := ho_split h
  have w0 : ∀ k, k < ss.length → splitS (flW ss bs k) 58 = [numS (ss.getD k 0), numS (bs.getD (k + 1) 0)] := fun k hk => flW_split (by have := G.hs k hk; omega) (by have := G.hb (k + 1) (by omega); omega)
  have eA : phA (hoS ss bs) = ss := by
    unfold phA
    rw [e]
    show ((List.range ss.length).map (flW ss bs)).map phU = ss
    rw [List.map_map]
    exact range_get ss _ _ rfl (fun k hk => by
      show phU (flW ss bs k) = _
      unfold phU
      rw [w0 k hk]
      exact rdI_numS (by have := G.hs k hk; omega) (num_len (k := 5) (by have := G.hs k hk; omega)))
  have eD : phD (hoS ss bs) = bs := by
    unfold phD
    rw [e]
    have e0 : rdI ((hoW ss bs ss.length).getD 0 ⟨#[]⟩) = bs.getD 0 0 := rdI_numS (by have := G.hb 0 (by omega); omega) (num_len (k := 5) (by have := G.hb 0 (by omega); omega))
    rw [e0]
    show bs.getD 0 0 :: ((List.range ss.length).map (flW ss bs)).map phV = bs
    rw [List.map_map]
    cases bs with
    | nil => simp at nb
    | cons b0 br =>
      congr 1
      exact range_get br _ _ (by simpa using nb.symm) (fun k hk => by
        show phV (flW ss (b0 :: br) k) = _
        unfold phV
        rw [w0 k hk]
        exact rdI_numS (n := br.getD k 0) (by have a9 := G.hb (k + 1) (by omega); rw [List.getD_cons_succ] at a9; omega) (num_len (k := 5) (by have a9 := G.hb (k + 1) (by omega); rw [List.getD_cons_succ] at a9; omega)))
  have sz : (hoS ss bs).size ≤ 84 := by
    have := hs_size (ss := ss) (bs := bs) (fun k hk => by have := G.hs k hk; omega) (fun k hk => by have := G.hb k hk; omega) nb ss.length (Nat.le_refl _)
    have := G.n1
    unfold hoS; omega
  refine ⟨?_, eA, eD⟩
  unfold phB
  rw [eA, eD, h, decide_eq_true sz, decide_eq_true (rfl : hoS ss bs = hoS ss bs), e]
  simp only [Bool.true_and, Bool.and_true, List.all_eq_true]
  intro x hx
  obtain ⟨k, hk, rfl⟩ := List.mem_map.1 (show x ∈ (List.range ss.length).map (flW ss bs) from hx)
  unfold phT
  rw [w0 k (List.mem_range.1 hk)]
  rfl
theorem ph_to {s : ByteArray} (h : phB s = true) : goodH (phA s) (phD s) = true ∧ hoS (phA s) (phD s) = s := by
  simp only [phB, Bool.and_eq_true, decide_eq_true_eq] at h
  exact h.2.2
/-- what the program finds -/
def pgT (s : ByteArray) : Bool := (splitS (cutZ s 94) 94).all fun w => decide ((ninR w 58).length = 2)
def pgA (s : ByteArray) : List Int := (splitS (cutZ s 94) 94).map fun w => (ninR w 58).getD 0 0
def pgD (s : ByteArray) : List Int := ninR (cutA s 94) 58 ++ (splitS (cutZ s 94) 94).map fun w => (ninR w 58).getD 1 0
theorem pg_of {ss bs : List Int} (h : goodH ss bs = true) : pgT (hoS ss bs) = true ∧ pgA (hoS ss bs) = ss ∧ pgD (hoS ss bs) = bs := by
  have G := goodW_of h
  have nb := G.nb
  have n0 := G.n0
  obtain ⟨c1, c2⟩ := cut_split (ho_split h) (by intro e; have h9 : ss.length = 0 := (by have := congrArg List.length e; rwa [List.length_map, List.length_range] at this); omega)
  have w0 : ∀ k, k < ss.length → ninR (flW ss bs k) 58 = [ss.getD k 0, bs.getD (k + 1) 0] := fun k hk => by
    have a0 := G.hs k hk
    have a1 := G.hb (k + 1) (by omega)
    exact nin_nums (ns := [ss.getD k 0, bs.getD (k + 1) 0]) (flW_split (by omega) (by omega)) (fun n hn => by
      simp only [List.mem_cons, List.not_mem_nil, or_false] at hn
      rcases hn with rfl | rfl <;> omega)
  have b0 : ninR (numS (bs.getD 0 0)) 58 = [bs.getD 0 0] := by
    have a0 := G.hb 0 (by omega)
    exact nin_nums (ns := [bs.getD 0 0]) (split_eq (ws := []) (fun w hw => by cases hw) (num_none _ (by omega) (.inr (by decide))) rfl) (fun n hn => by
      simp only [List.mem_cons, List.not_mem_nil, or_false] at hn
      subst hn; omega)
  refine ⟨?_, ?_, ?_⟩
  · unfold pgT
    rw [c2, List.all_eq_true]
    intro x hx
    obtain ⟨k, hk, rfl⟩ := List.mem_map.1 hx
    rw [w0 k (List.mem_range.1 hk)]; rfl
  · unfold pgA
    rw [c2, List.map_map]
    exact range_get ss _ _ rfl (fun k hk => by
      show (ninR (flW ss bs k) 58).getD 0 0 = _
      rw [w0 k hk]; rfl)
  · unfold pgD
    rw [c1, c2, List.map_map, b0]
    cases bs with
    | nil => simp at nb
    | cons b1 br =>
      show b1 :: _ = b1 :: br
      congr 1
      exact range_get br _ _ (by simpa using nb.symm) (fun k hk => by
        show (ninR (flW ss (b1 :: br) k) 58).getD 1 0 = _
        rw [w0 k hk]; rfl)
theorem ph_find {s : ByteArray} (h : phB s = true) : pgT s = true ∧ pgA s = phA s ∧ pgD s = phD s := by
  obtain ⟨h1, h2⟩ := ph_to h
  have := pg_of h1
  rwa [h2] at this
/-- .. and the other way -/
theorem pg_to {s : ByteArray} (h : goodH (pgA s) (pgD s) = true) (e : hoS (pgA s) (pgD s) = s) : phB s = true := by
  have := (ph_of h).1
  rwa [e] at this

end Go.Proofs.YtenhlppijpmdgaaDoor
