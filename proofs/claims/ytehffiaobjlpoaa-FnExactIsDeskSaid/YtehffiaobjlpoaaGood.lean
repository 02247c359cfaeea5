/- Contracts: stairs that are valid, on both sides; copies and comparisons of stairs. -/
import Derived.Test.YtehffiaobjlpoaaLeaf
import Derived.Deep.RegionHeld3
namespace Go.Proofs.Ytehffiaobjlpoaa
set_option maxRecDepth 100000
open Go.RowKit

def inB (n lo hi : Int) : Bool := decide (lo ≤ n) && decide (n ≤ hi)
theorem inB_yes {n lo hi : Int} (h : lo ≤ n) (h' : n ≤ hi) : inB n lo hi = true := by simp [inB, h, h']
theorem inB_no {n lo hi : Int} (h : n < lo ∨ hi < n) : inB n lo hi = false := by
  rcases h with h | h
  · simp [inB, show ¬ lo ≤ n by omega]
  · simp [inB, show ¬ n ≤ hi by omega]
theorem inB_le {n lo hi : Int} (h : inB n lo hi = true) : lo ≤ n ∧ n ≤ hi := by simpa [inB] using h
theorem inB_gt {n lo hi : Int} (h : inB n lo hi = false) : n < lo ∨ hi < n := by
  by_cases h1 : lo ≤ n
  · by_cases h2 : n ≤ hi
    · rw [inB_yes h1 h2] at h; cases h
    · exact .inr (by omega)
  · exact .inl (by omega)

set_option maxHeartbeats 400000 in
theorem l1In_any (n lo hi : Int) (w : World) :
    Calls Try.prog 55 #[.int .i64 n, .int .i64 lo, .int .i64 hi] w fun e w' => e = .returned (.bool (inB n lo hi)) ∧ w = w' := by
  by_cases h1 : lo ≤ n
  · by_cases h2 : n ≤ hi
    · rw [inB_yes h1 h2]
      go_enter Try.func55, Try.ntmps55
      go_wp2
      go_ret
      exact ⟨rfl, rfl⟩
    · rw [inB_no (.inr (by omega))]
      go_enter Try.func55, Try.ntmps55
      go_wp2
      go_ret
      exact ⟨rfl, rfl⟩
  · rw [inB_no (.inl (by omega))]
    go_enter Try.func55, Try.ntmps55
    go_wp2
    go_ret
    exact ⟨rfl, rfl⟩

def hasB (xs : List Int) (x : Int) : Bool := xs.contains x
theorem hasB_at {xs : List Int} {k : Nat} {x : Int} (hk : k < xs.length) (h : xs.getD k 0 = x) : true = hasB xs x := by
  symm
  have e : xs.getD k 0 = xs[k] := by simp [List.getD_eq_getElem?_getD, hk]
  simp only [hasB, List.contains_iff_mem]
  rw [← h, e]
  exact List.getElem_mem hk
theorem hasB_none {xs : List Int} {x : Int} (h : ∀ j, j < xs.length → ¬ xs.getD j 0 = x) : false = hasB xs x := by
  symm
  rw [hasB, Bool.eq_false_iff]
  intro hc
  rw [List.contains_iff_mem] at hc
  obtain ⟨j, hj, e⟩ := List.getElem_of_mem hc
  exact h j hj (by simpa [List.getD_eq_getElem?_getD, hj] using e)

set_option maxHeartbeats 400000 in
theorem l1Has_any (A : Option Addr) (c : Nat) (xs : List Int) (x : Int) (B : Nat) (w : World) (hr : Rd w B A c xs) (hn : xs.length ≤ 1048576) :
    Calls Try.prog 86 #[.slice A xs.length c, .int .i64 x] w fun e w' => e = .returned (.bool (hasB xs x)) ∧ w = w' := by
  go_enter Try.func86, Try.ntmps86
  go_wp2
  go_loop [9] (fun i => ∃ (k : Nat), k ≤ xs.length ∧ i = .int .i64 k ∧ Hid (∀ j, j < k → ¬ xs.getD j 0 = x)) (fun i => xs.length - (intOf i).toNat)
  case atStart => exact ⟨0, Nat.zero_le _, rfl, fun j hj => absurd hj (by omega)⟩
  case round =>
    obtain ⟨k, hk, rfl, H⟩ := hrel
    by_cases hlt : k < xs.length
    · obtain ⟨b, o, rfl, hb, hcell⟩ := hr.at_ hlt
      have H1 := Lib.hid (fun h : xs.getD k 0 = x => hasB_at hlt h)
      generalize hY : xs.getD k 0 = y at *
      have HY := Lib.hid hY
      clear hY
      by_cases he : y = x
      · have H2 := Lib.hid (H1.out he)
        subst he
        go_wp2
        go_ret
        exact ⟨ret_bool H2.out, rfl⟩
      · have H2 : Hid (∀ j, j < k + 1 → ¬ xs.getD j 0 = x) := fun j hj => by
          rcases Nat.lt_succ_iff_lt_or_eq.1 hj with h | rfl
          · exact H.out j h
          · rw [HY.out]; exact he
        go_wp2
        go_round
        case rel => exact ⟨k + 1, by omega, by go_num, H2⟩
        case measure => simp [intOf]; omega
    · have H2 := Lib.hid (hasB_none fun j hj => H.out j (by omega))
      go_wp2
      go_ret
      exact ⟨ret_bool H2.out, rfl⟩

set_option maxHeartbeats 400000 in
theorem rise_any (A : Option Addr) (c : Nat) (xs : List Int) (most : Int) (B : Nat) (w : World) (hr : Rd w B A c xs) (hn : xs.length ≤ 1048576) :
    Calls Try.prog 80 #[.slice A xs.length c, .int .i64 1, .int .i64 most] w fun e w' => e = .returned (.bool (incB most 0 xs)) ∧ w = w' := by
  go_enter Try.func80, Try.ntmps80
  go_wp2
  go_loop [11] (fun i => ∃ (k : Nat) (v : Int), k ≤ xs.length ∧ 0 ≤ v ∧ i = .int .i64 k ∧ Hid (incB most 0 xs = incB most v (xs.drop k)) ∧ Hid (k = 0 ∧ v = 0 ∨ 0 < k ∧ v = xs.getD (k - 1) 0)) (fun i => xs.length - (intOf i).toNat)
  case atStart => exact ⟨0, 0, Nat.zero_le _, Int.le_refl _, rfl, by simp [Hid], .inl ⟨rfl, rfl⟩⟩
  case round =>
    obtain ⟨k, v, hk, hv, rfl, H, HV⟩ := hrel
    by_cases hlt : k < xs.length
    · obtain ⟨b, o, rfl, hb, hcell⟩ := hr.at_ hlt
      have E := Lib.hid (incB_go most v xs k hlt)
      rcases HV.out with ⟨rfl, rfl⟩ | ⟨hk0, rfl⟩
      · rw [Nat.add_zero] at hcell
        generalize hX : xs.getD 0 0 = x at *
        have HX := Lib.hid hX
        clear hX
        cases hin : inB x 1 most
        · have Hn := Lib.hid (inB_gt hin)
          go_wp2_with (go_at_call 55; refine (l1In_any _ _ _ _).mono ?_; rintro e w' ⟨rfl, rfl⟩)
          go_ret
          exact ⟨ret_bool (inc_stop H.out E.out (by have := Hn.out; omega)), rfl⟩
        · have Hn := Lib.hid (inB_le hin)
          go_wp2_with (go_at_call 55; refine (l1In_any _ _ _ _).mono ?_; rintro e w' ⟨rfl, rfl⟩)
          go_round
          case rel => exact ⟨1, x, by omega, by have := Hn.out; omega, rfl, inc_step H.out E.out (by have := Hn.out; omega) (by have := Hn.out; omega), .inr ⟨by omega, HX.out.symm⟩⟩
          case measure => simp [intOf]; omega
      · obtain ⟨j, rfl⟩ : ∃ j, k = j + 1 := ⟨k - 1, by omega⟩
        obtain ⟨b', o', hA, hb', hcell'⟩ := hr.at_ (k := j) (by omega)
        obtain ⟨rfl, rfl⟩ : b' = b ∧ o' = o := by injection hA with hA; injection hA with h1 h2; exact ⟨h1.symm, h2.symm⟩
        clear hA
        rw [show j + 1 - 1 = j from rfl] at *
        generalize hX : xs.getD (j + 1) 0 = x at *
        generalize xs.getD j 0 = y at *
        have HX := Lib.hid hX
        clear hX
        cases hin : inB x 1 most
        · have Hn := Lib.hid (inB_gt hin)
          go_wp2_with (go_at_call 55; refine (l1In_any _ _ _ _).mono ?_; rintro e w' ⟨rfl, rfl⟩)
          go_ret
          exact ⟨ret_bool (inc_stop H.out E.out (by have := Hn.out; omega)), rfl⟩
        · have Hn := Lib.hid (inB_le hin)
          by_cases hyx : x ≤ y
          · go_wp2_with (go_at_call 55; refine (l1In_any _ _ _ _).mono ?_; rintro e w' ⟨rfl, rfl⟩)
            go_ret
            exact ⟨ret_bool (inc_stop H.out E.out (by omega)), rfl⟩
          · go_wp2_with (go_at_call 55; refine (l1In_any _ _ _ _).mono ?_; rintro e w' ⟨rfl, rfl⟩)
            go_round
            case rel => exact ⟨j + 1 + 1, x, by omega, by have := Hn.out; omega, by go_num, inc_step H.out E.out (by omega) (by have := Hn.out; omega), .inr ⟨by omega, HX.out.symm⟩⟩
            case measure => simp [intOf]; omega
    · go_wp2
      go_ret
      exact ⟨ret_bool (by rw [H.out, incB_end _ _ _ _ hlt]), rfl⟩

/-- the stairs are valid -/
def goodB (st : Int) (ss bs : List Int) : Bool := inB st 1 60 && (inB ss.length 1 5 && (incB 9 0 ss && incB (st - 1) 0 bs))

/-- WHAT A VALUE OF TYPE Stairs HOLDS: the agg of a number and two slices that read as lists, all below B. -/
structure St (w : World) (B : Nat) (st : Int) (A A' : Option Addr) (c c' : Nat) (ss bs : List Int) : Prop where
  rs : Rd w B A c ss
  rb : Rd w B A' c' bs
  ns : ss.length ≤ 1048576
  nb : bs.length ≤ 1048576
theorem St.below {w w' : World} {B B' : Nat} {st : Int} {A A' : Option Addr} {c c' : Nat} {ss bs : List Int} (h : St w B st A A' c c' ss bs) (hb : Below B' w w') (hB : B ≤ B') : St w' B st A A' c c' ss bs :=
  ⟨h.rs.below hb hB, h.rb.below hb hB, h.ns, h.nb⟩
theorem St.alloc {w : World} {B : Nat} {st : Int} {A A' : Option Addr} {c c' : Nat} {ss bs : List Int} (h : St w B st A A' c c' ss bs) (hB : B ≤ w.heap.size) (o : Obj) : St (w.alloc o) B st A A' c c' ss bs :=
  h.below ((Below.refl w.heap.size w).alloc (Nat.le_refl _) o) hB

abbrev stv (st : Int) (A A' : Option Addr) (c c' : Nat) (ss bs : List Int) : Value := .agg #[.int .i64 st, .slice A ss.length c, .slice A' bs.length c']

set_option maxHeartbeats 800000 in
theorem clGood_any (st : Int) (A A' : Option Addr) (c c' : Nat) (ss bs : List Int) (B : Nat) (w : World) (h : St w B st A A' c c' ss bs) (hB : B ≤ w.heap.size) :
    Calls Try.prog 63 #[stv st A A' c c' ss bs] w fun e w' => e = .returned (.bool (goodB st ss bs)) ∧ Below w.heap.size w w' := by
  have h1 := h.alloc hB
  cases g1 : inB st 1 60
  · rw [show goodB st ss bs = false by simp [goodB, g1]]
    go_enter Try.func63, Try.ntmps63
    go_wp2_with fail
    refine (l1In_any _ _ _ _).mono ?_
    rintro e w1 ⟨rfl, rfl⟩
    go_wp2_with fail
    go_ret
    exact ⟨rfl, (Below.refl _ _).alloc (Nat.le_refl _) _⟩
  · have b1 := Lib.hid (inB_le g1)
    cases g2 : inB ss.length 1 5
    · rw [show goodB st ss bs = false by simp [goodB, g2]]
      have hns := h.ns
      go_enter Try.func63, Try.ntmps63
      go_wp2_with fail
      refine (l1In_any _ _ _ _).mono ?_
      rintro e w1 ⟨rfl, rfl⟩
      go_wp2_with fail
      refine (l1In_any _ _ _ _).mono ?_
      rintro e w1 ⟨rfl, rfl⟩
      go_wp2_with fail
      go_ret
      exact ⟨rfl, (Below.refl _ _).alloc (Nat.le_refl _) _⟩
    · have hns := h.ns
      have hnb := h.nb
      have hst : 1 ≤ st := b1.out.1
      have hst' : st ≤ 60 := b1.out.2
      rw [show goodB st ss bs = (incB 9 0 ss && incB (st - 1) 0 bs) by simp [goodB, g1, g2]]
      cases g3 : incB 9 0 ss
      · rw [Bool.false_and]
        go_enter Try.func63, Try.ntmps63
        go_wp2_with fail
        refine (l1In_any _ _ _ _).mono ?_
        rintro e w1 ⟨rfl, rfl⟩
        go_wp2_with fail
        refine (l1In_any _ _ _ _).mono ?_
        rintro e w1 ⟨rfl, rfl⟩
        go_wp2_with fail
        refine (rise_any _ _ _ _ _ _ (h1 _).rs hns).mono ?_
        rintro e w1 ⟨rfl, rfl⟩
        go_wp2_with fail
        go_ret
        exact ⟨rfl, (Below.refl _ _).alloc (Nat.le_refl _) _⟩
      · rw [Bool.true_and]
        go_enter Try.func63, Try.ntmps63
        go_wp2_with fail
        refine (l1In_any _ _ _ _).mono ?_
        rintro e w1 ⟨rfl, rfl⟩
        go_wp2_with fail
        refine (l1In_any _ _ _ _).mono ?_
        rintro e w1 ⟨rfl, rfl⟩
        go_wp2_with fail
        refine (rise_any _ _ _ _ _ _ (h1 _).rs hns).mono ?_
        rintro e w1 ⟨rfl, rfl⟩
        go_wp2_with fail
        refine (rise_any _ _ _ _ _ _ (h1 _).rb hnb).mono ?_
        rintro e w1 ⟨rfl, rfl⟩
        go_wp2_with fail
        go_ret
        exact ⟨rfl, (Below.refl _ _).alloc (Nat.le_refl _) _⟩

set_option maxHeartbeats 800000 in
theorem implAre_any (st : Int) (A A' : Option Addr) (c c' : Nat) (ss bs : List Int) (B : Nat) (w : World) (h : St w B st A A' c c' ss bs) (hB : B ≤ w.heap.size) :
    Calls Try.prog 41 #[stv st A A' c c' ss bs] w fun e w' => e = .returned (.bool (goodB st ss bs)) ∧ Below w.heap.size w w' := by
  have h1 := h.alloc hB
  have hns := h.ns
  have hnb := h.nb
  by_cases a1 : st < 1
  · rw [show goodB st ss bs = false by simp [goodB, inB_no (.inl a1)]]
    go_enter Try.func41, Try.ntmps41
    go_wp2_with fail
    go_ret
    exact ⟨rfl, (Below.refl _ _).alloc (Nat.le_refl _) _⟩
  by_cases a2 : 60 < st
  · rw [show goodB st ss bs = false by simp [goodB, inB_no (.inr a2)]]
    go_enter Try.func41, Try.ntmps41
    go_wp2_with fail
    go_ret
    exact ⟨rfl, (Below.refl _ _).alloc (Nat.le_refl _) _⟩
  by_cases a3 : ss.length < 1
  · rw [show goodB st ss bs = false by simp [goodB, inB_no (n := (ss.length : Int)) (lo := 1) (hi := 5) (.inl (by omega))]]
    go_enter Try.func41, Try.ntmps41
    go_wp2_with fail
    go_ret
    exact ⟨rfl, (Below.refl _ _).alloc (Nat.le_refl _) _⟩
  by_cases a4 : 5 < ss.length
  · rw [show goodB st ss bs = false by simp [goodB, inB_no (n := (ss.length : Int)) (lo := 1) (hi := 5) (.inr (by omega))]]
    go_enter Try.func41, Try.ntmps41
    go_wp2_with fail
    go_ret
    exact ⟨rfl, (Below.refl _ _).alloc (Nat.le_refl _) _⟩
  rw [show goodB st ss bs = (incB 9 0 ss && incB (st - 1) 0 bs) by simp [goodB, inB_yes (n := st) (lo := 1) (hi := 60) (by omega) (by omega), inB_yes (n := (ss.length : Int)) (lo := 1) (hi := 5) (by omega) (by omega)]]
  cases g3 : incB 9 0 ss
  · rw [Bool.false_and]
    go_enter Try.func41, Try.ntmps41
    go_wp2_with fail
    refine (inc_any _ _ _ _ _ _ (h1 _).rs hns).mono ?_
    rintro e w1 ⟨rfl, rfl⟩
    go_wp2_with fail
    go_ret
    exact ⟨rfl, (Below.refl _ _).alloc (Nat.le_refl _) _⟩
  · rw [Bool.true_and]
    go_enter Try.func41, Try.ntmps41
    go_wp2_with fail
    refine (inc_any _ _ _ _ _ _ (h1 _).rs hns).mono ?_
    rintro e w1 ⟨rfl, rfl⟩
    go_wp2_with fail
    refine (inc_any _ _ _ _ _ _ (h1 _).rb hnb).mono ?_
    rintro e w1 ⟨rfl, rfl⟩
    go_wp2_with fail
    go_ret
    exact ⟨rfl, (Below.refl _ _).alloc (Nat.le_refl _) _⟩

end Go.Proofs.Ytehffiaobjlpoaa
