/- The model's loop of a ball, for one goroutine alone. -/
import Derived.Test.YtiacfaeanlkalaaBaZ
set_option linter.unusedSimpArgs false
namespace Go.Proofs.Ytiacfaeanlkalaa
set_option maxRecDepth 100000
open Go.Conc Go.RowKit

set_option maxHeartbeats 1000000 in
theorem baPlace_any (A : Option Addr) (c n : Nat) (l : List Int) (p : Int) (B : Nat) (w : World) (hl : n = l.length) (hr : Rd w B A c l) (hn : l.length ≤ 1000) :
    Calls Try.prog 47 #[.slice A n c, .int .i64 p] w fun e w' => e = .returned (.int .i64 (posC l p)) ∧ w = w' := by
  subst hl
  have HF := Lib.hid (fun (k : Int) (h : Pos l p k) => posC_is h)
  go_enter Try.func47, Try.ntmps47
  go_wp2_with fail
  go_loop [9] (fun i => ∃ k : Nat, k ≤ l.length ∧ i = .int .i64 (k : Int) ∧ Hid (∀ j, j < k → l.getD j 0 ≠ p)) (fun i => l.length - (intOf i).toNat)
  case atStart => exact ⟨0, Nat.zero_le _, rfl, Lib.hid (by omega)⟩
  case round =>
    obtain ⟨k, hk, rfl, HN⟩ := hrel
    by_cases hlt : k < l.length
    · obtain ⟨b, o, rfl, _, hc⟩ := hr.at_ hlt
      by_cases he : l.getD k 0 = p
      · have HP := Lib.hid (HF.out (k : Int) (.inr ⟨k, rfl, hlt, he, HN.out⟩))
        rw [he] at hc
        clear he
        go_wp2_with fail
        go_ret
        exact ⟨by rw [HP.out]; rfl, rfl⟩
      · have HN2 : Hid (∀ j, j < k + 1 → l.getD j 0 ≠ p) := Lib.hid fun j hj => by
          by_cases hjk : j = k
          · subst hjk; exact he
          · exact HN.out j (by omega)
        generalize l.getD k 0 = y at *
        go_wp2_with fail
        go_round
        case rel => exact ⟨k + 1, by omega, by go_num, HN2⟩
        case measure => simp [intOf]; omega
    · obtain rfl : k = l.length := by omega
      have HP := Lib.hid (HF.out (-1) (.inl ⟨rfl, fun hm => by
        obtain ⟨j, hj, hx⟩ := List.mem_iff_getElem.1 hm
        exact HN.out j hj (by simp [List.getD_eq_getElem?_getD, hj, hx])⟩))
      go_wp2_with fail
      go_ret
      exact ⟨by rw [HP.out]; rfl, rfl⟩

/-- the place of the least number of the first k, the first one of several -/
def lix (d : List Int) : Nat → Nat
  | 0 => 0
  | k + 1 => if d.getD k 0 < d.getD (lix d k) 0 then k else lix d k
theorem lix_lt (d : List Int) (h : 1 ≤ d.length) : ∀ k, k ≤ d.length → lix d k < d.length
  | 0, _ => by simp [lix]; omega
  | k + 1, hk => by
    have := lix_lt d h k (by omega)
    unfold lix
    split <;> omega
/-- a loop from its least step on -/
def turnD (d : List Int) : List Int := d.drop (lix d d.length) ++ d.take (lix d d.length)
theorem turnD_length (d : List Int) (h : 1 ≤ d.length) : (turnD d).length = d.length := by
  have := lix_lt d h d.length (Nat.le_refl _)
  simp only [turnD, List.length_append, List.length_drop, List.length_take]
  omega
noncomputable def loopD (l : List Int) (p : Int) : List Int := l.drop (posC l p).toNat
theorem least_nat {P : Nat → Prop} (h : ∃ i, P i) : ∃ i, P i ∧ ∀ k, k < i → ¬ P k := by
  obtain ⟨n, hn⟩ := h
  induction n using Nat.strongRecOn with
  | _ n ih =>
    by_cases hx : ∃ k, k < n ∧ P k
    · obtain ⟨k, hk, hp⟩ := hx
      exact ih k hk hp
    · exact ⟨n, hn, fun k hk hp => hx ⟨k, hk, hp⟩⟩
theorem pos_in {l : List Int} {p : Int} (h : p ∈ l) : ∃ i : Nat, posC l p = (i : Int) ∧ i < l.length := by
  obtain ⟨j, hj, hx⟩ := List.mem_iff_getElem.1 h
  have hex : ∃ i, i < l.length ∧ l.getD i 0 = p := ⟨j, hj, by simp [List.getD_eq_getElem?_getD, hj, hx]⟩
  obtain ⟨i, ⟨hi, hp⟩, hmin⟩ := least_nat hex
  have hP : Pos l p (i : Int) := .inr ⟨i, rfl, hi, hp, fun k hk hkp => hmin k hk ⟨by omega, hkp⟩⟩
  exact ⟨i, posC_is hP, hi⟩

theorem step_append_rd2 (w : World) {ops : Array Oper} {o : Oper} {a : Act} {K : Act → World → Prop} {Q : Exit → Act → World → Prop} {E : Prop} (hgd : o.guard = none) (s x : Operand)
    (ho : o.op = .call { callee := .builtin .append, args := #[s, x], argTypes := #[22, 22] }) (B0 B : Nat) (v : Value) (xs ys : List Int) (hs : a.eval s = v) (hown : OwnI w B0 v xs) (A : Option Addr) (n c : Nat) (hx : a.eval x = .slice A n c) (hlen : n = ys.length)
    (hr : Rd w B A c ys) (hn : xs.length + ys.length ≤ 4194304) (hB : B0 ≤ w.heap.size)
    (h : ∀ v' w', OwnI w' B0 v' (xs ++ ys) → Below B0 w w' → w.grownBy w' v.ownBlock → (v'.ownBlock = v.ownBlock ∨ v'.ownBlock = some w.heap.size) → K (a.put o.dst v') w') :
    if Region.wanted o (yielded ops a.tmps) = true then Oper.wp Try.prog o a w K Q else E := by
  subst hlen
  exact step_append_rd w hgd s x ho B0 B v xs ys hs hown A c hx hr hn hB h

set_option maxHeartbeats 4000000 in
theorem baLoop_any (A : Option Addr) (c : Nat) (xs : List Int) (s : Int) (B : Nat) (w : World) (hr : Rd w B A c xs) (hB : B ≤ w.heap.size) (hJ : jumpsB xs = true) (hm : (courseB xs s).2 ∈ (courseB xs s).1) :
    Calls Try.prog 50 #[.slice A xs.length c, .int .i64 s] w fun e w' => ∃ pv, e = .returned (.tuple #[pv, .int .i64 (posC (courseB xs s).1 (courseB xs s).2)]) ∧ OwnI w' w.heap.size pv (turnD (loopD (courseB xs s).1 (courseB xs s).2)) ∧ Below w.heap.size w w' := by
  have hlen := course_len hJ s
  have HP := Lib.hid (baPath_any A c xs s B w hr hB hJ)
  clear hJ hr
  generalize (courseB xs s).2 = p at *
  generalize (courseB xs s).1 = l at *
  obtain ⟨i, hi, hil⟩ := pos_in hm
  have HD : Hid (loopD l p = l.drop i) := Lib.hid (by rw [loopD, hi, Int.toNat_natCast])
  have HPL := Lib.hid (fun A' c' B' (u : World) h => baPlace_any A' c' l.length l p B' u rfl h hlen)
  rw [hi] at HPL ⊢
  clear hm hi
  go_enter Try.func50, Try.ntmps50
  go_wp2_with fail
  refine HP.out.mono ?_
  rintro e w1 ⟨pv, rfl, hown, hb1⟩
  obtain ⟨A1, c1, rfl, hrd⟩ := hown.form
  obtain ⟨b, o, rfl, hbb, _⟩ := hrd.at_ hil
  have hlc := hrd.1
  obtain ⟨d, hd⟩ : ∃ d, d = l.drop i := ⟨_, rfl⟩
  have hn2 : d.length = l.length - i := by rw [hd]; simp
  have hne : ¬ c1 = i := by omega
  have hrD : Rd w1 w1.heap.size (some ⟨b, o + i, none⟩) (c1 - i) d := by
    have := hrd.drop (k := i) (by omega)
    rw [if_neg hne, ← hd] at this
    have e : (⟨b, o, none⟩ : Addr).add i = ⟨b, o + i, none⟩ := Addr.add_lit _ _ _
    rw [Option.map_some, e] at this
    exact this
  have HD2 := Lib.hid (HD.out.trans hd.symm)
  have HPL1 := Lib.hid (HPL.out _ _ _ w1 hrd)
  have hc2 : l.length - i ≤ c1 - i := by omega
  have h1n : 1 ≤ l.length - i := by omega
  have HDF := Lib.hid hd
  have HDN := Lib.hid hn2
  have hn1000 : l.length - i ≤ 1000 := by omega
  have i0 : (0 : Int) ≤ (i : Int) := by omega
  have i1 : (i : Int) ≤ (l.length : Int) := by omega
  have i2 : (l.length : Int) ≤ (c1 : Int) := by omega
  clear hrd hd hn2 hown
  go_wp2_with fail
  refine HPL1.out.mono ?_
  rintro e w' ⟨rfl, rfl⟩
  go_wp2_with fail
  generalize hn : l.length - i = n2 at *
  generalize hc : c1 - i = c2 at *
  clear hn hc i0 i1 i2 hne
  have HL := Lib.hid (fun k h => lix_lt d (by rw [HDN.out]; exact h1n) k h)
  have hrDc := fun k (h : k < n2) => hrD.at_ (k := k) (by rw [HDN.out]; exact h)
  have HRC := Lib.hid hrDc
  have HRD := Lib.hid hrD
  clear hrDc hrD
  go_loop [10, 27] (fun m i => ∃ k : Nat, k ≤ n2 ∧ i = .int .i64 (k : Int) ∧ m = .int .i64 ((lix d k : Nat) : Int)) (fun _ i => n2 - (intOf i).toNat)
  case atStart => exact ⟨0, Nat.zero_le _, rfl, rfl⟩
  case round =>
    obtain ⟨k, hk, rfl, rfl⟩ := hrel
    have hlx := HL.out k (by rw [HDN.out]; exact hk)
    rw [HDN.out] at hlx
    by_cases hlt : k < n2
    · obtain ⟨b1, o1, e1, _, hx1⟩ := HRC.out k hlt
      cases e1
      obtain ⟨b2, o2, e2, _, hx2⟩ := HRC.out (lix d k) hlx
      cases e2
      have HT := Lib.hid (show lix d (k + 1) = if d.getD k 0 < d.getD (lix d k) 0 then k else lix d k from rfl)
      generalize d.getD k 0 = x at *
      generalize d.getD (lix d k) 0 = y at *
      have k0 : (0 : Int) ≤ (k : Int) := by omega
      have k1 : (k : Int) < (n2 : Int) := by omega
      by_cases hxy : x < y
      · rw [if_pos hxy] at HT
        generalize lix d k = j at *
        have j0 : (0 : Int) ≤ (j : Int) := by omega
        have j1 : (j : Int) < (n2 : Int) := by omega
        go_wp2_with fail
        go_round
        case rel => exact ⟨k + 1, by omega, by go_num, by rw [HT.out]⟩
        case measure => simp [intOf]; omega
      · rw [if_neg hxy] at HT
        generalize lix d k = j at *
        have j0 : (0 : Int) ≤ (j : Int) := by omega
        have j1 : (j : Int) < (n2 : Int) := by omega
        go_wp2_with fail
        go_round
        case rel => exact ⟨k + 1, by omega, by go_num, by rw [HT.out]⟩
        case measure => simp [intOf]; omega
    · obtain rfl : k = n2 := by omega
      have HTD : Hid (turnD (loopD l p) = d.drop (lix d k) ++ d.take (lix d k)) := Lib.hid (by rw [HD2.out, turnD, HDN.out])
      generalize lix d k = j at *
      have hjc : ¬ c2 = j := by omega
      have j0 : (0 : Int) ≤ (j : Int) := by omega
      have j1 : (j : Int) ≤ (k : Int) := by omega
      have j2 : (k : Int) ≤ (c2 : Int) := by omega
      have j3 : (j : Int) ≤ (c2 : Int) := by omega
      have hrJ : Rd w1 w1.heap.size (some ⟨b, o + i + j, none⟩) (c2 - j) (d.drop j) := by
        have := HRD.out.drop (k := j) (by rw [HDN.out]; omega)
        rw [if_neg hjc] at this
        have e : (⟨b, o + i, none⟩ : Addr).add j = ⟨b, o + i + j, none⟩ := Addr.add_lit _ _ _
        rw [Option.map_some, e] at this
        exact this
      have hrT : Rd w1 w1.heap.size (some ⟨b, o + i, none⟩) c2 (d.take j) := HRD.out.take (by rw [HDN.out]; omega)
      have hdl : (d.drop j).length = k - j := by rw [List.length_drop, HDN.out]
      have htl : (d.take j).length = j := by rw [List.length_take, HDN.out]; omega
      have HOW : Hid (∀ u, Below w1.heap.size w1 u → Calls Try.prog 63 #[.slice (some ⟨b, o + i + j, none⟩) (k - j) (c2 - j)] u fun e w' => ∃ v, e = .returned v ∧ OwnI w' u.heap.size v (d.drop j) ∧ Below u.heap.size u w') := Lib.hid fun u hu => by
        have := l1Own_any (some ⟨b, o + i + j, none⟩) (c2 - j) (d.drop j) w1.heap.size u (hrJ.below hu (Nat.le_refl _)) hu.size (by rw [hdl]; omega)
        rwa [hdl] at this
      have HRT := Lib.hid hrT
      have HTL := Lib.hid htl
      have HDL := Lib.hid hdl
      have hkl : k ≤ 1000 := hn1000
      clear hrT htl hdl hrJ
      go_wp2_with fail
      first | (go_region_law (first | (go_simp; go_at_call 63; (refine (HOW.out w1.drew (Below.refl _ _).drew).mono ?_); rintro e2 w2 ⟨v2, rfl, hO2', hb2'⟩; have hb2 : Below w1.heap.size w1 w2 := below_undrew hb2'; have hO2 : OwnI w2 w1.heap.size v2 (d.drop j) := hO2') | (refine step_append_rd2 _ (by rfl) _ _ (by rfl) w1.heap.size w1.heap.size _ (d.drop j) (d.take j) (by rfl) hO2 (some ⟨b, o + i, none⟩) j c2 (by rfl) HTL.out.symm (HRT.out.below hb2 (Nat.le_refl _)) (by rw [HDL.out, HTL.out]; omega) hb2.size ?_; intro v9 w9 hown9 hb9 _ _) | fail)) | fail
      all_goals go_wp2_with fail
      all_goals go_ret2
      all_goals exact ⟨_, rfl, by rw [HTD.out]; exact hown9.mono hb1.size, hb1.trans ((hb2.trans hb9).mono hb1.size)⟩
end Go.Proofs.Ytiacfaeanlkalaa
