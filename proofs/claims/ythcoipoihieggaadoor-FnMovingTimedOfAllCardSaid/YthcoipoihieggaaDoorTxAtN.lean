/- The program's numbersIn at texts of numerals. No program. -/
import Derived.Test.YthcoipoihieggaaDoorTxNin
import Derived.Lib.AtoiAllCases
namespace Go.Proofs.YthcoipoihieggaaDoor
open Go.RowKit
set_option maxRecDepth 100000

theorem text_ne {a b : ByteArray} (h : ¬ a = b) : (a.toList == b.toList) = false := by
  rw [beq_eq_false_iff_ne]
  intro e
  exact h (bytes_inj (by rwa [ByteArray.toList_eq, ByteArray.toList_eq] at e))
theorem pu_snoc (c : UInt8) : ∀ (l : List UInt8) (acc u : Nat), Lib.parseUint10 acc l = .ok u → Lib.parseUint10 acc (l ++ [c]) = Lib.parseUint10 u [c]
  | [], acc, u, h => by
    simp only [Lib.parseUint10] at h
    injection h with h
    rw [h]; rfl
  | d :: l, acc, u, h => by
    rw [List.cons_append]
    unfold Lib.parseUint10 at h
    split at h
    · next h1 =>
      split at h
      · cases h
      · next h2 =>
        split at h
        · cases h
        · next h3 =>
          have := pu_snoc c l _ u h
          rw [← this]
          conv => lhs; unfold Lib.parseUint10
          rw [if_pos h1, if_neg h2, if_neg h3]
    · cases h
theorem dec_one {n : Nat} (h : n < 10) : Lib.decDigits n = [UInt8.ofNat (48 + n)] := by rw [Lib.decDigits, dif_pos h]
theorem dec_more {n : Nat} (h : ¬ n < 10) : Lib.decDigits n = Lib.decDigits (n / 10) ++ [UInt8.ofNat (48 + n % 10)] := by rw [Lib.decDigits, dif_neg h]
theorem pu_dec : ∀ (k n : Nat), n < k → n ≤ 10000000000 → Lib.parseUint10 0 (Lib.decDigits n) = .ok n
  | 0, n, h, _ => by omega
  | k + 1, n, h, hn => by
    by_cases h1 : n < 10
    · have e := digit_toNat h1
      rw [dec_one h1]
      unfold Lib.parseUint10
      rw [e, if_pos (by omega), if_neg (by omega), if_neg (by omega)]
      unfold Lib.parseUint10
      congr 1; omega
    · have e := digit_toNat (d := n % 10) (by omega)
      rw [dec_more h1, pu_snoc _ _ _ _ (pu_dec k (n / 10) (by omega) (by omega))]
      unfold Lib.parseUint10
      rw [e, if_pos (by omega), if_neg (by omega), if_neg (by omega)]
      unfold Lib.parseUint10
      congr 1; omega
theorem atI_num {n : Int} (h0 : 0 ≤ n) (h1 : n ≤ 10000000000) : atI (numS n) = some n := by
  have hp := pu_dec (n.toNat + 1) n.toNat (by omega) (by omega)
  have e : (numS n).data.toList = Lib.decDigits n.toNat := by simp [numS]
  unfold atI
  rw [e]
  cases hd : Lib.decDigits n.toNat with
  | nil => exfalso; rw [hd] at hp; simp [Lib.parseUint10] at hp; rw [show n.toNat = 0 from hp.symm, dec_one (by omega)] at hd; cases hd
  | cons c r =>
    rw [hd] at hp
    have hc : 48 ≤ c.toNat ∧ c.toNat ≤ 57 := by
      by_cases h : 48 ≤ c.toNat ∧ c.toNat ≤ 57
      · exact h
      · unfold Lib.parseUint10 at hp; rw [if_neg h] at hp; cases hp
    have hm : Lib.parseMag (c :: r) = .ok n.toNat := by unfold Lib.parseMag; rw [if_neg (by simp)]; exact hp
    rw [Lib.atoiAll_plain c r (by omega) (by omega), hm]
    have : Lib.signless (.ok n.toNat) = .ok n := by unfold Lib.signless; simp only []; rw [if_neg (by omega)]; congr 1; omega
    rw [this]
theorem split_eq {s : ByteArray} {b : UInt8} {ws : List ByteArray} {l : ByteArray} (h1 : ∀ w ∈ ws, b ∉ w.data.toList) (h2 : b ∉ l.data.toList) (h : catL b (ws.map (·.data.toList)) l.data.toList = s.data.toList) : splitS s b = ws ++ [l] := by
  have := split_is (fun w hw => by obtain ⟨x, hx, rfl⟩ := List.mem_map.1 hw; exact h1 x hx) h2 h
  rw [show (ws.map (·.data.toList) ++ [l.data.toList]) = (ws ++ [l]).map (·.data.toList) by simp] at this
  have inj : ∀ (a c : List ByteArray), a.map (·.data.toList) = c.map (·.data.toList) → a = c := by
    intro a
    induction a with
    | nil => intro c hc; cases c with
      | nil => rfl
      | cons _ _ => simp at hc
    | cons x a ih => intro c hc; cases c with
      | nil => simp at hc
      | cons y c => simp only [List.map_cons, List.cons.injEq] at hc; rw [bytes_inj hc.1, ih c hc.2]
  exact inj _ _ this
theorem nin_nums {s : ByteArray} {b : UInt8} {ns : List Int} (h : splitS s b = ns.map numS) (hn : ∀ n ∈ ns, 0 ≤ n ∧ n ≤ 10000000000) : ninR s b = ns := by
  have hv : ∀ n ∈ ns, atI (numS n) = some n := fun n hm => atI_num (hn n hm).1 (hn n hm).2
  unfold ninR
  rw [h, if_pos (by simp only [List.all_eq_true, List.mem_map]; rintro _ ⟨y, hy, rfl⟩; rw [hv y hy]; rfl), List.map_map]
  conv => rhs; rw [← List.map_id ns]
  exact List.map_congr_left fun n hm => by simp [atV, hv n hm]

end Go.Proofs.YthcoipoihieggaaDoor
