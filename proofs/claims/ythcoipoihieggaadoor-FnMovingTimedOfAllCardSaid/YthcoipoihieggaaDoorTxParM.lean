/- Contracts: the model's reading of a moving stair. -/
import Derived.Test.YthcoipoihieggaaDoorTxWords
import Derived.Test.YthcoipoihieggaaDoorTxMov
import Derived.Deep.RegionHeld3
namespace Go.Proofs.YthcoipoihieggaaDoor
open Go.RowKit
set_option maxRecDepth 100000

def mpX (s : ByteArray) : Int := rdI ((splitS s 118).getD 0 ⟨#[]⟩)
def mpY (s : ByteArray) : Int := rdI ((splitS s 118).getD 1 ⟨#[]⟩)
def mpB (s : ByteArray) : Bool := decide (s.size ≤ 6) && (decide ((splitS s 118).length = 2) && movB (mpX s) (mpY s))
def moV (b : Bool) (x y : Int) : Value := if b then .agg #[.int .i64 x, .int .i64 y] else .agg #[.int .i64 0, .int .i64 0]
theorem moV_no (x y : Int) : moV false x y = .agg #[.int .i64 0, .int .i64 0] := rfl
theorem moV_yes (x y : Int) : moV true x y = .agg #[.int .i64 x, .int .i64 y] := rfl
theorem word_le (s : ByteArray) (b : UInt8) : ∀ x ∈ splitS s b, x.size ≤ s.size := by
  have key : ∀ i, i ≤ s.size → ∀ x ∈ (spW s b i).1, x.size ≤ s.size := by
    intro i
    induction i with
    | zero => intro _ x hx; simp [spW] at hx
    | succ i ih =>
      intro h x hx
      unfold spW at hx
      split at hx
      · rcases List.mem_append.1 hx with hx | hx
        · exact ih (by omega) x hx
        · obtain rfl : x = _ := List.mem_singleton.1 hx
          simp; omega
      · exact ih (by omega) x hx
  intro x hx
  rcases List.mem_append.1 hx with hx | hx
  · exact key _ (Nat.le_refl _) x hx
  · obtain rfl : x = _ := List.mem_singleton.1 hx
    simp

theorem toList_snoc (a c : ByteArray) (b : UInt8) : (a ++ ⟨#[b]⟩ ++ c).data.toList = a.data.toList ++ b :: c.data.toList := by simp
theorem ext_list {a c : ByteArray} (h : a.data.toList = c.data.toList) : a = c := by
  apply ByteArray.ext
  exact Array.toList_inj.1 h
theorem dg_not {s : ByteArray} {b : UInt8} (hb : 57 < b.toNat) : ∀ k, k ≤ s.size → dgB s k = true → b ∉ s.data.toList.take k
  | 0, _, _ => by simp
  | k + 1, hk, hd => by
    have hd' : (dgB s k && (decide (48 ≤ btS s k) && decide (btS s k ≤ 57))) = true := hd
    rw [Bool.and_eq_true, Bool.and_eq_true, decide_eq_true_eq, decide_eq_true_eq] at hd'
    have ih := dg_not hb k (by omega) hd'.1
    have h2 : k < s.data.size := hk
    have h' : k < s.data.toList.length := by simpa using h2
    rw [List.take_succ_eq_append_getElem h']
    intro hm
    rcases List.mem_append.1 hm with hm | hm
    · exact ih hm
    · have e : b = s.data.toList[k] := List.mem_singleton.1 hm
      have e2 : btS s k = b.toNat := by
        unfold btS
        rw [e]
        simp only [Array.getElem_toList, Array.getD_eq_getD_getElem?]
        rw [Array.getElem?_eq_getElem h2]; rfl
      omega
theorem num_not (n : Int) (h0 : 0 ≤ n) {b : UInt8} (hb : 57 < b.toNat) : b ∉ (numS n).data.toList := by
  have h := (numS_tells (n.toNat + 1) n h0 (by omega)).1
  have := dg_not hb _ (Nat.le_refl _) h
  rwa [List.take_of_length_le (by simp)] at this
theorem num_len {n : Int} {k : Nat} (h : n.toNat < 10 ^ (k + 1)) : (numS n).size ≤ k + 1 := by
  have := dec_len k n.toNat h
  simpa [numS, ByteArray.size] using this
theorem mp_of {x y : Int} (h : movB x y = true) : mpB (moS x y) = true ∧ mpX (moS x y) = x ∧ mpY (moS x y) = y := by
  have b := movB_le h
  have lx : (numS x).size ≤ 3 := num_len (k := 2) (by omega)
  have ly : (numS y).size ≤ 2 := num_len (k := 1) (by omega)
  have hs := split_is (s := moS x y) (b := 118) (ws := [(numS x).data.toList]) (l := (numS y).data.toList) (fun w hw => by
    obtain rfl : w = _ := List.mem_singleton.1 hw
    exact num_not x (by omega) (by decide)) (num_not y (by omega) (by decide)) (by unfold moS; rw [toList_snoc]; rfl)
  obtain ⟨a, c, hac⟩ : ∃ a c, splitS (moS x y) 118 = [a, c] := by
    have hl : (splitS (moS x y) 118).length = 2 := by have := congrArg List.length hs; simpa using this
    match h : splitS (moS x y) 118, hl with
    | [a, c], _ => exact ⟨a, c, rfl⟩
  rw [hac] at hs
  simp only [List.map_cons, List.map_nil, List.cons_append, List.nil_append, List.cons.injEq, and_true] at hs
  obtain rfl := ext_list hs.1
  obtain rfl := ext_list hs.2
  have ex : mpX (moS x y) = x := by unfold mpX; rw [hac]; exact rdI_numS (by omega) (by omega)
  have ey : mpY (moS x y) = y := by unfold mpY; rw [hac]; exact rdI_numS (by omega) (by omega)
  have sz : (moS x y).size ≤ 6 := by unfold moS; simp only [ByteArray.size_append, one_size]; omega
  exact ⟨by unfold mpB; rw [hac, ex, ey, h]; simp [sz], ex, ey⟩
theorem mp_to {s : ByteArray} (h : mpB s = true) : movB (mpX s) (mpY s) = true ∧ moS (mpX s) (mpY s) = s := by
  simp only [mpB, Bool.and_eq_true, decide_eq_true_eq] at h
  obtain ⟨_, h2, h3⟩ := h
  refine ⟨h3, ?_⟩
  have b := movB_le h3
  obtain ⟨ws, l, e1, e2⟩ := split_cat s 118
  obtain ⟨a, rfl⟩ : ∃ a, ws = [a] := by
    rw [e1] at h2
    have h4 : ws.length = 1 := by simpa using h2
    match ws, h4 with
    | [a], _ => exact ⟨a, rfl⟩
  have ex : mpX s = rdI a := by unfold mpX; rw [e1]; rfl
  have ey : mpY s = rdI l := by unfold mpY; rw [e1]; rfl
  rw [ex, ey] at b ⊢
  unfold moS
  rw [numS_rdI (by omega), numS_rdI (by omega)]
  apply ext_list
  rw [toList_snoc, ← e2]
  rfl

end Go.Proofs.YthcoipoihieggaaDoor
