/- Reading stairs: plain facts. No program. -/
import Derived.Test.YtfojcefbgdaelaaDoorOTxLs
import Derived.Test.YtfojcefbgdaelaaDoorOTxCut
import Derived.Test.YtfojcefbgdaelaaDoorTxStairs
namespace Go.Proofs.YtfojcefbgdaelaaDoor
open Go.RowKit
set_option maxRecDepth 100000

def psR (t : ByteArray) : ByteArray := (splitS t 115).getD 1 ⟨#[]⟩
def psP (t : ByteArray) : List ByteArray := splitS (psR t) 120
def psS (t : ByteArray) : Int := rdI ((splitS t 115).getD 0 ⟨#[]⟩)
def psA (t : ByteArray) : List Int := rdL ((psP t).getD 0 ⟨#[]⟩) 44
def psK (t : ByteArray) : List Int := if (psP t).length = 2 then rdL ((psP t).getD 1 ⟨#[]⟩) 44 else []
def psB (t : ByteArray) : Bool := decide (t.size ≤ 200) && (decide ((splitS t 115).length = 2) && (decide ((psP t).length ≤ 2) && goodB (psS t) (psA t) (psK t)))
theorem two_words {s : ByteArray} {b : UInt8} (h : (splitS s b).length = 2) : ∃ x y, splitS s b = [x, y] ∧ s.data.toList = x.data.toList ++ b :: y.data.toList := by
  obtain ⟨ws, l, e1, e2⟩ := split_cat s b
  rw [e1] at h
  have h4 : ws.length = 1 := by simpa using h
  match ws, h4 with
  | [a], _ => exact ⟨a, l, e1, by rw [← e2]; rfl⟩
theorem one_word {s : ByteArray} {b : UInt8} (h : ¬ (splitS s b).length = 2) (h2 : (splitS s b).length ≤ 2) : splitS s b = [s] := by
  obtain ⟨ws, l, e1, e2⟩ := split_cat s b
  rw [e1] at h h2 ⊢
  have h4 : ws.length = 0 := by simp at h h2; omega
  obtain rfl := List.eq_nil_of_length_eq_zero h4
  rw [show l = s from ext_list e2]; rfl
/-- what the model reads is written so -/
theorem ls_rdL {r : ByteArray} {b : UInt8} (h : ∀ n ∈ rdL r b, 0 ≤ n) : lsS b (rdL r b) (rdL r b).length = r := by
  obtain ⟨ws, l, e1, e2⟩ := split_cat r b
  have hl : (rdL r b).length = ws.length + 1 := by unfold rdL; rw [e1]; simp
  have hw : ∀ x ∈ ws ++ [l], numS (rdI x) = x := fun x hx => numS_rdI (h _ (by unfold rdL; rw [e1]; exact List.mem_map.2 ⟨x, hx, rfl⟩))
  apply ext_list
  rw [hl, lsS_cat, ← e2]
  have g : ∀ j (hj : j < (ws ++ [l]).length), (numS ((rdL r b).getD j 0)).data.toList = ((ws ++ [l])[j]).data.toList := fun j hj => by
    have : (rdL r b).getD j 0 = rdI ((ws ++ [l])[j]) := by
      unfold rdL
      rw [e1]
      rw [List.getD_eq_getElem?_getD, List.getElem?_map, List.getElem?_eq_getElem hj]
      rfl
    rw [this, hw _ (List.getElem_mem hj)]
  congr 1
  · unfold wdL
    apply List.ext_getElem
    · simp
    · intro i h1 h2
      have h3 : i < ws.length := by simpa using h2
      have := g i (by simp; omega)
      rw [List.getElem_append_left h3] at this
      simpa using this
  · have := g ws.length (by simp)
    simpa using this
/-- the text behind the number of steps -/
def stR (ss bs : List Int) : ByteArray := if bs.length = 0 then lsS 44 ss ss.length else lsS 44 ss ss.length ++ ⟨#[120]⟩ ++ lsS 44 bs bs.length
theorem stS_toL (st : Int) (ss bs : List Int) : (stS st ss bs).data.toList = (numS st).data.toList ++ 115 :: (stR ss bs).data.toList := by
  unfold stS stR
  split <;> simp
theorem ls_none {c : UInt8} (hc : c.toNat < 48 ∨ 57 < c.toNat) (h44 : c ≠ 44) {xs : List Int} (hx : ∀ n ∈ xs, 0 ≤ n) : ∀ k, k ≤ xs.length → c ∉ (lsS 44 xs k).data.toList
  | 0, _ => by simp [lsS]
  | 1, h => by rw [lsS_one]; exact num_none _ (at_of_mem hx (by omega)) hc
  | k + 2, h => by
    rw [lsS_more 44 xs (by omega), toList_snoc]
    intro hm
    rcases List.mem_append.1 hm with hm | hm
    · exact ls_none hc h44 hx (k + 1) (by omega) hm
    · rcases List.mem_cons.1 hm with hm | hm
      · exact h44 hm
      · exact num_none _ (at_of_mem hx (by omega)) hc hm
theorem stR_none {c : UInt8} (hc : c.toNat < 48 ∨ 57 < c.toNat) (h44 : c ≠ 44) (h120 : c ≠ 120) {ss bs : List Int} (hs : ∀ n ∈ ss, 0 ≤ n) (hb : ∀ n ∈ bs, 0 ≤ n) : c ∉ (stR ss bs).data.toList := by
  unfold stR
  split
  · exact ls_none hc h44 hs _ (Nat.le_refl _)
  · rw [toList_snoc]
    intro hm
    rcases List.mem_append.1 hm with hm | hm
    · exact ls_none hc h44 hs _ (Nat.le_refl _) hm
    · rcases List.mem_cons.1 hm with hm | hm
      · exact h120 hm
      · exact ls_none hc h44 hb _ (Nat.le_refl _) hm
structure GoodL (st : Int) (ss bs : List Int) : Prop where
  a : 1 ≤ st ∧ st ≤ 60
  l : 1 ≤ ss.length ∧ ss.length ≤ 5
  m : bs.length ≤ 60
  s : ∀ n ∈ ss, 1 ≤ n ∧ n ≤ 9
  b : ∀ n ∈ bs, 1 ≤ n ∧ n ≤ 59
theorem goodL_of {st : Int} {ss bs : List Int} (h : goodB st ss bs = true) : GoodL st ss bs := by
  have G := good_of h
  have H := goodS_of h
  exact ⟨⟨G.st1, G.st2⟩, ⟨G.l1, G.l2⟩, H.2.1.2, G.hs, fun n hn => by have := G.hb n hn; have := G.st2; omega⟩
theorem ps_of {st : Int} {ss bs : List Int} (h : goodB st ss bs = true) : psB (stS st ss bs) = true ∧ psS (stS st ss bs) = st ∧ psA (stS st ss bs) = ss ∧ psK (stS st ss bs) = bs := by
  have G := goodL_of h
  have ga := G.a
  have gl := G.l
  have l0 : (numS st).size ≤ 2 := num_len (k := 1) (by omega)
  have e1 : splitS (stS st ss bs) 115 = [numS st, stR ss bs] :=
    split_eq (ws := [numS st]) (fun w hw => by obtain rfl := List.mem_singleton.1 hw; exact num_none st (by omega) (.inr (by decide))) (stR_none (.inr (by decide)) (by decide) (by decide) (fun n hn => by have := G.s n hn; omega) (fun n hn => by have := G.b n hn; omega)) (stS_toL st ss bs).symm
  have eR : psR (stS st ss bs) = stR ss bs := by unfold psR; rw [e1]; rfl
  have eS : psS (stS st ss bs) = st := by unfold psS; rw [e1]; exact rdI_numS (by omega) (by omega)
  have r1 : rdL (lsS 44 ss ss.length) 44 = ss := rdL_ls (.inl (by decide)) (by omega) (fun n hn => by have := G.s n hn; omega)
  have z1 := lsS_len 44 (xs := ss) (m := 1) (fun n hn => num_len (k := 0) (by have := G.s n hn; omega)) _ (Nat.le_refl _)
  have z2 := lsS_len 44 (xs := bs) (m := 2) (fun n hn => num_len (k := 1) (by have := G.b n hn; omega)) _ (Nat.le_refl _)
  have gm := G.m
  have sz : (stS st ss bs).size ≤ 200 := by
    have e : (stS st ss bs).size = (stS st ss bs).data.toList.length := by rw [Array.length_toList]; rfl
    rw [e, stS_toL]
    have e2 : (stR ss bs).data.toList.length = (stR ss bs).size := by rw [Array.length_toList]; rfl
    have e3 : (numS st).data.toList.length = (numS st).size := by rw [Array.length_toList]; rfl
    have z3 : (stR ss bs).size ≤ 10 + 1 + 180 := by
      unfold stR
      split
      · omega
      · simp only [ByteArray.size_append, one_size]
        omega
    rw [List.length_append, List.length_cons]
    omega
  by_cases hb : bs.length = 0
  · have hbn : bs = [] := List.eq_nil_of_length_eq_zero hb
    have eQ : stR ss bs = lsS 44 ss ss.length := by unfold stR; rw [if_pos hb]
    have e2 : splitS (stR ss bs) 120 = [lsS 44 ss ss.length] := by
      rw [eQ]
      exact split_eq (ws := []) (fun w hw => by cases hw) (ls_none (.inr (by decide)) (by decide) (fun n hn => by have := G.s n hn; omega) _ (Nat.le_refl _)) rfl
    have eP : psP (stS st ss bs) = [lsS 44 ss ss.length] := by unfold psP; rw [eR, e2]
    have eA : psA (stS st ss bs) = ss := by unfold psA; rw [eP]; exact r1
    have eK : psK (stS st ss bs) = bs := by unfold psK; rw [eP, hbn]; rfl
    exact ⟨by unfold psB; rw [eS, eA, eK, h, e1, eP, decide_eq_true sz]; rfl, eS, eA, eK⟩
  · have eQ : stR ss bs = lsS 44 ss ss.length ++ ⟨#[120]⟩ ++ lsS 44 bs bs.length := by unfold stR; rw [if_neg hb]
    have e2 : splitS (stR ss bs) 120 = [lsS 44 ss ss.length, lsS 44 bs bs.length] :=
      split_eq (ws := [lsS 44 ss ss.length]) (fun w hw => by obtain rfl := List.mem_singleton.1 hw; exact ls_none (.inr (by decide)) (by decide) (fun n hn => by have := G.s n hn; omega) _ (Nat.le_refl _)) (ls_none (.inr (by decide)) (by decide) (fun n hn => by have := G.b n hn; omega) _ (Nat.le_refl _)) (by rw [eQ, toList_snoc]; rfl)
    have eP : psP (stS st ss bs) = [lsS 44 ss ss.length, lsS 44 bs bs.length] := by unfold psP; rw [eR, e2]
    have eA : psA (stS st ss bs) = ss := by unfold psA; rw [eP]; exact r1
    have eK : psK (stS st ss bs) = bs := by
      unfold psK
      rw [eP]
      show rdL (lsS 44 bs bs.length) 44 = bs
      exact rdL_ls (.inl (by decide)) (by omega) (fun n hn => by have := G.b n hn; omega)
    exact ⟨by unfold psB; rw [eS, eA, eK, h, e1, eP, decide_eq_true sz]; rfl, eS, eA, eK⟩
theorem ps_to {t : ByteArray} (h : psB t = true) : goodB (psS t) (psA t) (psK t) = true ∧ stS (psS t) (psA t) (psK t) = t := by
  simp only [psB, Bool.and_eq_true, decide_eq_true_eq] at h
  obtain ⟨_, h2, h3, h4⟩ := h
  refine ⟨h4, ?_⟩
  have G := goodL_of h4
  obtain ⟨a, r, e1, c1⟩ := two_words h2
  have eR : psR t = r := by unfold psR; rw [e1]; rfl
  have eS : psS t = rdI a := by unfold psS; rw [e1]; rfl
  have n1 : numS (psS t) = a := by have := G.a; rw [eS] at this ⊢; exact numS_rdI (by omega)
  have key : stR (psA t) (psK t) = r := by
    clear n1 eS h2 e1
    by_cases hp : (psP t).length = 2
    · have hp' : (splitS r 120).length = 2 := by rw [← eR]; exact hp
      obtain ⟨p, q, e2, c2⟩ := two_words hp'
      have eP : psP t = [p, q] := by unfold psP; rw [eR, e2]
      have eA : psA t = rdL p 44 := by unfold psA; rw [eP]; rfl
      have eK : psK t = rdL q 44 := by unfold psK; rw [eP]; rfl
      have hA := G.s
      have hK := G.b
      rw [eA] at hA
      rw [eK] at hK
      have hl : ¬ (rdL q 44).length = 0 := by
        obtain ⟨ws, l, w1, _⟩ := split_cat q 44
        unfold rdL
        rw [w1, List.length_map, List.length_append, List.length_singleton]; omega
      rw [eA, eK]
      unfold stR
      rw [if_neg hl]
      apply ext_list
      rw [toList_snoc, ls_rdL (fun n hn => by have := hA n hn; omega), ls_rdL (fun n hn => by have := hK n hn; omega), c2]
    · have e2 : splitS r 120 = [r] := one_word (by rw [← eR]; exact hp) (by rw [← eR]; exact h3)
      have eP : psP t = [r] := by unfold psP; rw [eR, e2]
      have eA : psA t = rdL r 44 := by unfold psA; rw [eP]; rfl
      have eK : psK t = [] := by unfold psK; rw [eP]; rfl
      have hA := G.s
      rw [eA] at hA
      rw [eA, eK]
      unfold stR
      rw [if_pos (show ([] : List Int).length = 0 from rfl), ls_rdL (fun n hn => by have := hA n hn; omega)]
  apply ext_list
  rw [stS_toL, n1, key, c1]
/-- what the program finds -/
def pcA (t : ByteArray) : List Int := ninR (cutA (cutZ t 115) 120) 44
def pcK (t : ByteArray) : List Int := ninR (cutZ (cutZ t 115) 120) 44
theorem nin_empty (b : UInt8) : ninR ⟨#[]⟩ b = [] := by
  cases h : ninR ⟨#[]⟩ b with
  | nil => rfl
  | cons x r => have := ninR_length ⟨#[]⟩ b; rw [h] at this; exact absurd this (by simp [ByteArray.size])
theorem ps_cut {st : Int} {ss bs : List Int} (h : goodB st ss bs = true) : atI (cutA (stS st ss bs) 115) = some st ∧ pcA (stS st ss bs) = ss ∧ pcK (stS st ss bs) = bs := by
  have G := goodL_of h
  have ga := G.a
  have gl := G.l
  obtain ⟨c1, c2⟩ := cut_is (s := stS st ss bs) (x := numS st) (r := stR ss bs) (b := 115) (stS_toL st ss bs) (num_none st (by omega) (.inr (by decide)))
  have r1 : ninR (lsS 44 ss ss.length) 44 = ss := ninR_ls (.inl (by decide)) (by omega) (fun n hn => by have := G.s n hn; omega)
  refine ⟨by rw [c1]; exact atI_num (by omega) (by omega), ?_⟩
  unfold pcA pcK
  rw [c2]
  by_cases hb : bs.length = 0
  · have hbn : bs = [] := List.eq_nil_of_length_eq_zero hb
    have eQ : stR ss bs = lsS 44 ss ss.length := by unfold stR; rw [if_pos hb]
    obtain ⟨d1, d2⟩ := cut_no (s := stR ss bs) (b := 120) (by rw [eQ]; exact ls_none (.inr (by decide)) (by decide) (fun n hn => by have := G.s n hn; omega) _ (Nat.le_refl _))
    rw [d1, d2, eQ, r1, nin_empty, hbn]
    exact ⟨rfl, rfl⟩
  · have eQ : stR ss bs = lsS 44 ss ss.length ++ ⟨#[120]⟩ ++ lsS 44 bs bs.length := by unfold stR; rw [if_neg hb]
    obtain ⟨d1, d2⟩ := cut_is (s := stR ss bs) (x := lsS 44 ss ss.length) (r := lsS 44 bs bs.length) (b := 120) (by rw [eQ, toList_snoc]) (ls_none (.inr (by decide)) (by decide) (fun n hn => by have := G.s n hn; omega) _ (Nat.le_refl _))
    rw [d1, d2, r1]
    exact ⟨rfl, ninR_ls (.inl (by decide)) (by omega) (fun n hn => by have := G.b n hn; omega)⟩
theorem ps_find {t : ByteArray} (h : psB t = true) : atI (cutA t 115) = some (psS t) ∧ pcA t = psA t ∧ pcK t = psK t := by
  obtain ⟨h1, h2⟩ := ps_to h
  have := ps_cut h1
  rwa [h2] at this

end Go.Proofs.YtfojcefbgdaelaaDoor
