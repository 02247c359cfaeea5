/- Plain facts: as far up as possible each time. And the contracts of the fewest steps of a climb over bears, on both sides. -/
import Derived.Test.YtopcpejbjjjmdaaWearCount
namespace Go.Proofs.Ytopcpejbjjjmdaa
open Go.RowKit

/-- where one comes on and the top is too far, one of the next places is on a way -/
theorem aX_pos {xs : List Int} {r d : Nat} : ∀ j, j ≤ d + 1 → 0 < aX xs r d j → ∃ i, i < j ∧ 0 < wX xs r (d - i)
  | 0, _, h => by rw [aX_zero] at h; omega
  | j + 1, hj, h => by
    rw [aX_succ (by omega)] at h
    by_cases h2 : 0 < wX xs r (d - j)
    · exact ⟨j, by omega, h2⟩
    · obtain ⟨i, hi, hw⟩ := aX_pos (xs := xs) (r := r) (d := d) j (by omega) (by have := wX_nonneg xs r (d - j); omega)
      exact ⟨i, by omega, hw⟩
theorem next_some {xs : List Int} {r a : Nat} (ha : a ≤ xs.length) (ht : ¬ xs.length + 1 ≤ a + r) (hw : 0 < wX xs r (xs.length + 1 - a)) : ∃ i, i < r ∧ 0 < wX xs r (xs.length + 1 - (a + 1 + i)) := by
  have hv : 0 < vX xs r (xs.length - a) := by
    rw [show xs.length + 1 - a = (xs.length - a) + 1 by omega] at hw
    by_cases hd : xs.length - a + 1 ≤ xs.length ∧ xs.getD (xs.length - (xs.length - a + 1)) 0 = 0
    · rw [wX_dead hd.1 hd.2] at hw; omega
    · rw [wX_alive (fun h h' => hd ⟨h, h'⟩)] at hw; exact hw
  rw [← aX_end] at hv
  obtain ⟨i, hi, hp⟩ := aX_pos r (by omega) hv
  exact ⟨i, hi, by rw [show xs.length + 1 - (a + 1 + i) = xs.length - a - i by omega]; exact hp⟩

theorem aX_ge {xs : List Int} {r d : Nat} : ∀ j i, i < j → j ≤ d + 1 → wX xs r (d - i) ≤ aX xs r d j
  | 0, i, h, _ => by omega
  | j + 1, i, h, hj => by
    rw [aX_succ (by omega)]
    have h1 := wX_nonneg xs r (d - j)
    have h2 : 0 ≤ aX xs r d j := (vX_bd xs r d j).1
    by_cases e : i = j
    · subst e; omega
    · have := aX_ge (xs := xs) (r := r) (d := d) j i (by omega) (by omega)
      omega
/-- one can stand on place a -/
def liveX (xs : List Int) (a : Nat) : Prop := a = 0 ∨ ¬ xs.getD (a - 1) 0 = 0
/-- from where one can stand, a place in reach that is on a way puts one on a way -/
theorem pos_step {xs : List Int} {r a q : Nat} (ha : a ≤ xs.length) (hl : liveX xs a) (h1 : a < q) (h2 : q ≤ a + r) (h3 : q ≤ xs.length + 1) (hw : 0 < wX xs r (xs.length + 1 - q)) : 0 < wX xs r (xs.length + 1 - a) := by
  have hv : wX xs r (xs.length + 1 - a) = vX xs r (xs.length - a) := by
    rw [show xs.length + 1 - a = (xs.length - a) + 1 by omega]
    refine wX_alive (fun h => ?_)
    rcases hl with e | e
    · omega
    · rw [show xs.length - (xs.length - a + 1) = a - 1 by omega]; exact e
  have hg : wX xs r (xs.length - a - (q - a - 1)) ≤ vX xs r (xs.length - a) := by
    by_cases e : xs.length - a + 1 ≤ r
    · rw [← aX_top e]; exact aX_ge _ _ (by omega) (Nat.le_refl _)
    · rw [← aX_end]; exact aX_ge _ _ (by omega) (by omega)
  rw [show xs.length - a - (q - a - 1) = xs.length + 1 - q by omega] at hg
  omega
/-- whoever stands beyond one who comes on comes on, too -/
theorem pos_beyond {xs : List Int} {r : Nat} : ∀ (k p s : Nat), s - p ≤ k → p ≤ s → s ≤ xs.length → liveX xs s → 0 < wX xs r (xs.length + 1 - p) → 0 < wX xs r (xs.length + 1 - s)
  | 0, p, s, h, h1, _, _, hw => by
    obtain rfl : p = s := by omega
    exact hw
  | k + 1, p, s, h, h1, h2, hl, hw => by
    by_cases e : p = s
    · subst e; exact hw
    · by_cases ht : xs.length + 1 ≤ p + r
      · exact pos_step h2 hl (by omega) (by omega) (Nat.le_refl _) (by rw [Nat.sub_self, wX_zero]; omega)
      · obtain ⟨i, hi, hq⟩ := next_some (by omega) ht hw
        by_cases hqs : p + 1 + i ≤ s
        · exact pos_beyond k (p + 1 + i) s (by omega) hqs h2 hl hq
        · exact pos_step h2 hl (by omega) (by omega) (by omega) hq
/-- the last place from s down to a on which one can stand -/
def lastX (xs : List Int) (a : Nat) : Nat → Nat
  | 0 => 0
  | s + 1 => if a < s + 1 ∧ xs.getD s 0 = 0 then lastX xs a s else s + 1
theorem lastX_stop {xs : List Int} {a s : Nat} (h : ¬ (a < s ∧ xs.getD (s - 1) 0 = 0)) : lastX xs a s = s := by
  cases s with
  | zero => rfl
  | succ s => rw [lastX, if_neg (by simpa using h)]
theorem lastX_go {xs : List Int} {a s : Nat} (h1 : a < s) (h2 : xs.getD (s - 1) 0 = 0) : lastX xs a s = lastX xs a (s - 1) := by
  cases s with
  | zero => omega
  | succ s => rw [lastX, if_pos ⟨h1, by simpa using h2⟩]; rfl
theorem lastX_bd {xs : List Int} {a : Nat} : ∀ s, a ≤ s → a ≤ lastX xs a s ∧ lastX xs a s ≤ s
  | 0, h => by simp [lastX]; omega
  | s + 1, h => by
    unfold lastX
    split
    · next h2 => have := lastX_bd (xs := xs) (a := a) s (by omega); omega
    · omega
theorem lastX_live {xs : List Int} {a : Nat} : ∀ s, a ≤ s → lastX xs a s = a ∨ liveX xs (lastX xs a s)
  | 0, h => .inl (by simp [lastX]; omega)
  | s + 1, h => by
    by_cases h2 : a < s + 1 ∧ xs.getD s 0 = 0
    · rw [lastX, if_pos h2]; exact lastX_live s (by omega)
    · rw [lastX, if_neg h2]
      by_cases e : a < s + 1
      · right; right; simpa using fun h3 => h2 ⟨e, h3⟩
      · left; omega
/-- all places behind the last one, up to s, are dead -/
theorem lastX_dead {xs : List Int} {a : Nat} : ∀ s q, lastX xs a s < q → q ≤ s → a ≤ s → xs.getD (q - 1) 0 = 0
  | 0, q, h1, h2, _ => by simp [lastX] at h1; omega
  | s + 1, q, h1, h2, h3 => by
    by_cases hc : a < s + 1 ∧ xs.getD s 0 = 0
    · rw [lastX, if_pos hc] at h1
      by_cases e : q = s + 1
      · subst e; simpa using hc.2
      · exact lastX_dead s q h1 (by omega) (by omega)
    · rw [lastX, if_neg hc] at h1; omega
/-- how many steps one needs who goes as far up as possible each time -/
def fewX (xs : List Int) (r : Nat) : Nat → Nat → Option Nat
  | 0, _ => none
  | f + 1, a => if xs.length + 1 ≤ a + r then some 0 else if lastX xs a (a + r) = a then none else (fewX xs r f (lastX xs a (a + r))).map (· + 1)
theorem fewX_some {xs : List Int} {r : Nat} : ∀ (f a : Nat), a ≤ xs.length → xs.length + 1 ≤ f + a → liveX xs a → 0 < wX xs r (xs.length + 1 - a) → (fewX xs r f a).isSome = true
  | 0, a, h1, h2, _, _ => by omega
  | f + 1, a, h1, h2, hl, hw => by
    unfold fewX
    by_cases ht : xs.length + 1 ≤ a + r
    · rw [if_pos ht]; rfl
    · rw [if_neg ht]
      have hb := lastX_bd (xs := xs) (a := a) (a + r) (by omega)
      have hne : ¬ lastX xs a (a + r) = a := by
        intro e
        obtain ⟨i, hi, hq⟩ := next_some h1 ht hw
        have hd := lastX_dead (xs := xs) (a := a) (a + r) (a + 1 + i) (by omega) (by omega) (by omega)
        rw [show xs.length + 1 - (a + 1 + i) = (xs.length - (a + 1 + i)) + 1 by omega, wX_dead (by omega) (by rw [show xs.length - (xs.length - (a + 1 + i) + 1) = a + 1 + i - 1 by omega]; exact hd)] at hq
        omega
      rw [if_neg hne]
      have hll : liveX xs (lastX xs a (a + r)) := by
        rcases lastX_live (xs := xs) (a := a) (a + r) (by omega) with e | e
        · exact absurd e hne
        · exact e
      have := fewX_some (xs := xs) (r := r) f (lastX xs a (a + r)) (by omega) (by omega) hll (pos_beyond _ a _ (Nat.le_refl _) hb.1 (by omega) hll hw)
      simpa using this
theorem fewX_pos {xs : List Int} {r : Nat} (hr : 1 ≤ r) : ∀ (f a : Nat), a ≤ xs.length → liveX xs a → (fewX xs r f a).isSome = true → 0 < wX xs r (xs.length + 1 - a)
  | 0, a, _, _, h => by simp [fewX] at h
  | f + 1, a, h1, hl, h => by
    unfold fewX at h
    by_cases ht : xs.length + 1 ≤ a + r
    · exact pos_step h1 hl (by omega) ht (Nat.le_refl _) (by rw [Nat.sub_self, wX_zero]; omega)
    · rw [if_neg ht] at h
      by_cases hne : lastX xs a (a + r) = a
      · rw [if_pos hne] at h; simp at h
      · rw [if_neg hne] at h
        have hb := lastX_bd (xs := xs) (a := a) (a + r) (by omega)
        have hll : liveX xs (lastX xs a (a + r)) := by
          rcases lastX_live (xs := xs) (a := a) (a + r) (by omega) with e | e
          · exact absurd e hne
          · exact e
        exact pos_step h1 hl (by omega) hb.2 (by omega) (fewX_pos hr f _ (by omega) hll (by simpa using h))

def fewB (xs : List Int) (n : Int) : Bool := reachB xs n && decide (0 < wGround xs n)
def fewN (xs : List Int) (n : Int) : Int := ((fewX xs n.toNat (xs.length + 1) 0).getD 0 : Nat)
theorem few_yes {xs : List Int} {r c : Nat} (h : reachB xs (r : Int) = true) (hr : 1 ≤ r) (hf : fewX xs r (xs.length + 1) 0 = some c) : fewB xs (r : Int) = true ∧ fewN xs (r : Int) = (c : Int) := by
  have hw := fewX_pos (xs := xs) (r := r) hr (xs.length + 1) 0 (Nat.zero_le _) (.inl rfl) (by rw [hf]; rfl)
  rw [Nat.sub_zero] at hw
  exact ⟨by simp [fewB, h, wGround, hw], by simp [fewN, hf]⟩
theorem few_no {xs : List Int} {r : Nat} (hf : fewX xs r (xs.length + 1) 0 = none) : fewB xs (r : Int) = false := by
  have hw : ¬ 0 < wX xs r (xs.length + 1) := fun hw => by
    have := fewX_some (xs := xs) (r := r) (xs.length + 1) 0 (Nat.zero_le _) (by omega) (.inl rfl) (by rw [Nat.sub_zero]; exact hw)
    rw [hf] at this; cases this
  simp [fewB, wGround, hw]
theorem map_add (o : Option Nat) (a b : Nat) : (o.map (· + a)).map (· + b) = o.map (· + (a + b)) := by
  cases o with
  | none => rfl
  | some x => simp [Nat.add_assoc]
theorem fewX_end {xs : List Int} {r f a : Nat} (h : xs.length + 1 ≤ a + r) : fewX xs r (f + 1) a = some 0 := by rw [fewX, if_pos h]
theorem fewX_stuck {xs : List Int} {r f a : Nat} (h : ¬ xs.length + 1 ≤ a + r) (h2 : lastX xs a (a + r) = a) : fewX xs r (f + 1) a = none := by rw [fewX, if_neg h, if_pos h2]
theorem fewX_next {xs : List Int} {r f a s : Nat} (h : ¬ xs.length + 1 ≤ a + r) (h2 : lastX xs a (a + r) = s) (h3 : a < s) : fewX xs r (f + 1) a = (fewX xs r f s).map (· + 1) := by
  rw [fewX, if_neg h, h2, if_neg (by omega)]

set_option maxHeartbeats 2000000 in
theorem impFew_any (A : Option Addr) (c : Nat) (xs : List Int) (n : Int) (B : Nat) (w : World) (hr : Rd w B A c xs) (hn : xs.length ≤ 1048576) :
    Calls Try.prog 7 #[.slice A xs.length c, .int .i64 n] w (Plain (.tuple #[.int .i64 (orI (fewB xs n) (fewN xs n)), .bool (fewB xs n)]) w) := by
  cases h : reachB xs n
  · rw [show fewB xs n = false by simp [fewB, h], orI_no]
    have H := Lib.hid h
    clear h
    go_enter Try.func7, Try.ntmps7
    go_wp2_with fail
    refine (canWear_any _ _ _ _ _ _ hr hn).mono ?_
    rintro e w' ⟨rfl, rfl⟩
    rw [H.out]
    go_wp2_with fail
    go_ret2
    exact ⟨rfl, Below.refl _ _⟩
  · have hp := (reachB_le h).2
    obtain ⟨r, rfl⟩ : ∃ r : Nat, n = (r : Int) := ⟨n.toNat, by omega⟩
    have H := Lib.hid h
    clear h
    go_enter Try.func7, Try.ntmps7
    go_wp2_with fail
    refine (canWear_any _ _ _ _ _ _ hr hn).mono ?_
    rintro e w' ⟨rfl, rfl⟩
    rw [H.out]
    go_wp2_with fail
    go_loop [6, 7] (fun m i => ∃ a q f : Nat, a ≤ xs.length ∧ q ≤ a ∧ m = .int .i64 q ∧ i = .int .i64 a ∧ Hid (liveX xs a) ∧ xs.length + 1 ≤ f + a ∧ Hid (fewX xs r (xs.length + 1) 0 = (fewX xs r f a).map (· + q))) (fun _ i => (21 - intOf i).toNat)
    case atStart => exact ⟨0, 0, xs.length + 1, by omega, by omega, rfl, rfl, .inl rfl, by omega, Lib.hid (by simp)⟩
    case round =>
      obtain ⟨a, q, f, ha, hqa, rfl, rfl, HL, hf, HC⟩ := hrel
      obtain ⟨f, rfl⟩ : ∃ f', f = f' + 1 := ⟨f - 1, by omega⟩
      by_cases htop : xs.length + 1 ≤ a + r
      · have HY := Lib.hid (few_yes H.out (by omega) (show fewX xs r (xs.length + 1) 0 = some q by rw [HC.out, fewX_end htop]; simp))
        have HD := Lib.hid (show decide ((xs.length : Int) + 1 - (a : Int) ≤ (r : Int)) = true by simp; omega)
        clear htop
        go_wp2_with fail
        refine (topIn_any _ _ _ _ _ _ (by omega) (by omega) (by omega) (by omega) (by omega)).mono ?_
        rintro e w' ⟨rfl, rfl⟩
        rw [HD.out]
        go_wp2_with fail
        go_ret2
        exact ⟨by rw [HY.out.1, HY.out.2]; rfl, Below.refl _ _⟩
      · have HD := Lib.hid (show decide ((xs.length : Int) + 1 - (a : Int) ≤ (r : Int)) = false by simp; omega)
        have HT := Lib.hid htop
        have ht1 : a + r ≤ xs.length := by omega
        clear htop
        go_wp2_with fail
        refine (topIn_any _ _ _ _ _ _ (by omega) (by omega) (by omega) (by omega) (by omega)).mono ?_
        rintro e w' ⟨rfl, rfl⟩
        rw [HD.out]
        go_wp2_with fail
        go_loop [8] (fun v => ∃ s : Nat, a ≤ s ∧ s ≤ a + r ∧ v = .int .i64 s ∧ Hid (lastX xs a (a + r) = lastX xs a s)) (fun v => (intOf v).toNat)
        case atStart => exact ⟨a + r, by omega, Nat.le_refl _, by go_num, rfl⟩
        case round =>
          obtain ⟨s, hs1, hs2, rfl, HS⟩ := hrel
          by_cases hsa : a < s
          · obtain ⟨b, o, rfl, hb, hcell⟩ := hr.at_ (k := s - 1) (by omega)
            have hsI : (a : Int) < (s : Int) := by omega
            by_cases hx : xs.getD (s - 1) 0 = 0
            · have HS2 := Lib.hid (HS.out.trans (lastX_go hsa hx))
              rw [hx] at hcell
              clear hx
              go_wp2_with fail
              go_round
              case rel => exact ⟨s - 1, by omega, by omega, congrArg (Value.int .i64) (by omega), HS2⟩
              case measure => simp [intOf]; omega
            · have HS2 := Lib.hid (HS.out.trans (lastX_stop (fun h => hx h.2)))
              have HLs : Hid (liveX xs s) := .inr hx
              have HN := Lib.hid (show fewX xs r (xs.length + 1) 0 = (fewX xs r f s).map (· + (q + 1)) by rw [HC.out, fewX_next HT.out HS2.out hsa, map_add, Nat.add_comm 1 q])
              have hxb : (xs.getD (s - 1) 0 == 0) = false := by simpa using hx
              have hse : ((s : Int) == (a : Int)) = false := by simp; omega
              generalize xs.getD (s - 1) 0 = x at hcell hxb hx
              clear hx
              go_wp2_with fail
              go_round
              case rel => exact ⟨s, q + 1, f, by omega, by omega, by go_num, rfl, HLs, by omega, HN⟩
              case measure => simp [intOf]; omega
          · obtain rfl : s = a := by omega
            have HZ := Lib.hid (few_no (show fewX xs r (xs.length + 1) 0 = none by rw [HC.out, fewX_stuck HT.out (HS.out.trans (lastX_stop (fun h => hsa h.1)))]; rfl))
            go_wp2_with fail
            go_ret2
            exact ⟨by rw [HZ.out, orI_no]; rfl, Below.refl _ _⟩

set_option maxHeartbeats 2000000 in
theorem specFew_any (A : Option Addr) (c : Nat) (xs : List Int) (n : Int) (B : Nat) (w : World) (hr : Rd w B A c xs) (hB : B ≤ w.heap.size) (hn : xs.length ≤ 1048576) :
    Calls Try.prog 5 #[.slice A xs.length c, .int .i64 n] w (Plain (.tuple #[.int .i64 (orI (fewB xs n) (fewN xs n)), .bool (fewB xs n)]) w) := by
  cases h : reachB xs n
  · rw [show fewB xs n = false by simp [fewB, h], orI_no]
    have H := Lib.hid h
    clear h
    go_enter Try.func5, Try.ntmps5
    go_wp2_with fail
    refine (weReach_any _ _ _ _ _ _ hr hn).mono ?_
    rintro e w' ⟨rfl, rfl⟩
    rw [H.out]
    go_wp2_with fail
    go_ret2
    exact ⟨rfl, Below.refl _ _⟩
  · have hp0 := reachB_le h
    have hp := hp0.2
    obtain ⟨r, rfl⟩ : ∃ r : Nat, n = (r : Int) := ⟨n.toNat, by omega⟩
    have H := Lib.hid h
    have HP := Lib.hid (fun b hb => (bears_at hp0.1 b hb).1)
    have E := Lib.hid (outL_zero (xs := xs) (r := r))
    by_cases hw : 0 < wX xs r (xs.length + 1)
    · have hwb : (wX xs r (xs.length + 1) == 0) = false := by simp; omega
      have HW0 : Hid (0 < wX xs r (xs.length + 1 - 0)) := Lib.hid hw
      clear h hp0 hw
      go_enter Try.func5, Try.ntmps5
      go_wp2_with fail
      refine (weReach_any _ _ _ _ _ _ hr hn).mono ?_
      rintro e w' ⟨rfl, rfl⟩
      rw [H.out]
      go_wp2_with fail
      refine (weWays_any _ _ _ _ _ _ hr hB (by omega) (by omega) (by omega) (by omega) HP.out).mono ?_
      rintro e w1 ⟨g, rfl, hg, hblk, hb⟩
      have k := hblk.int_at (k := 0) (by unfold outL; rw [tell_length]; omega)
      rw [E.out] at k
      have HB := Lib.hid hb
      have HR := Lib.hid (hr.below hb hB)
      generalize wX xs r (xs.length + 1) = v0 at k hwb
      clear hblk hb
      go_wp2_with fail
      clear k hwb
      go_loop [6, 7] (fun m i => ∃ a q f : Nat, a ≤ xs.length ∧ q ≤ a ∧ m = .int .i64 q ∧ i = .int .i64 a ∧ Hid (liveX xs a) ∧ xs.length + 1 ≤ f + a ∧ Hid (fewX xs r (xs.length + 1) 0 = (fewX xs r f a).map (· + q)) ∧ Hid (0 < wX xs r (xs.length + 1 - a))) (fun _ i => (21 - intOf i).toNat)
      case atStart => exact ⟨0, 0, xs.length + 1, by omega, by omega, rfl, rfl, .inl rfl, by omega, Lib.hid (by simp), HW0⟩
      case round =>
        obtain ⟨a, q, f, ha, hqa, rfl, rfl, HL, hf, HC, HWa⟩ := hrel
        obtain ⟨f, rfl⟩ : ∃ f', f = f' + 1 := ⟨f - 1, by omega⟩
        by_cases htop : xs.length + 1 ≤ a + r
        · have HY := Lib.hid (few_yes H.out (by omega) (show fewX xs r (xs.length + 1) 0 = some q by rw [HC.out, fewX_end htop]; simp))
          have hle : (xs.length : Int) + 1 - (a : Int) ≤ (r : Int) := by omega
          clear htop
          go_wp2_with fail
          go_ret2
          exact ⟨by rw [HY.out.1, HY.out.2]; rfl, HB.out⟩
        · have HT := Lib.hid htop
          have hgt : (r : Int) < (xs.length : Int) + 1 - (a : Int) := by omega
          have ht1 : a + r ≤ xs.length := by omega
          have HNE := Lib.hid (show ¬ lastX xs a (a + r) = a from fun e => by
            have := fewX_some (xs := xs) (r := r) (f + 1) a ha hf HL.out HWa.out
            rw [fewX_stuck htop e] at this; cases this)
          clear htop
          go_wp2_with fail
          go_loop [7] (fun v => ∃ s : Nat, a < s ∧ s ≤ a + r ∧ v = .int .i64 s ∧ Hid (lastX xs a (a + r) = lastX xs a s)) (fun v => (intOf v).toNat)
          case atStart => exact ⟨a + r, by omega, Nat.le_refl _, by go_num, rfl⟩
          case round =>
            obtain ⟨s, hs1, hs2, rfl, HS⟩ := hrel
            obtain ⟨b, o, rfl, hb, hcell⟩ := HR.out.at_ (k := s - 1) (by omega)
            by_cases hx : xs.getD (s - 1) 0 = 0
            · have HS2 := Lib.hid (HS.out.trans (lastX_go hs1 hx))
              have hs3 : a < s - 1 := by
                by_cases e : a = s - 1
                · exact absurd (HS2.out.trans (by rw [← e]; exact lastX_stop (fun h => by omega))) HNE.out
                · omega
              rw [hx] at hcell
              clear hx
              go_wp2_with fail
              go_round
              case rel => exact ⟨s - 1, by omega, by omega, congrArg (Value.int .i64) (by omega), HS2⟩
              case measure => simp [intOf]; omega
            · have HS2 := Lib.hid (HS.out.trans (lastX_stop (fun h => hx h.2)))
              have HLs : Hid (liveX xs s) := .inr hx
              have HN := Lib.hid (show fewX xs r (xs.length + 1) 0 = (fewX xs r f s).map (· + (q + 1)) by rw [HC.out, fewX_next HT.out HS2.out hs1, map_add, Nat.add_comm 1 q])
              have HWs := Lib.hid (pos_beyond (xs := xs) (r := r) _ a s (Nat.le_refl _) (by omega) (by omega) HLs.out HWa.out)
              have hxb : (xs.getD (s - 1) 0 == 0) = false := by simpa using hx
              generalize xs.getD (s - 1) 0 = x at hcell hxb hx
              clear hx
              go_wp2_with fail
              go_round
              case rel => exact ⟨s, q + 1, f, by omega, by omega, by go_num, rfl, HLs, by omega, HN, HWs⟩
              case measure => simp [intOf]; omega
    · rw [show fewB xs (r : Int) = false by simp [fewB, wGround, hw], orI_no]
      have hw0 : wX xs r (xs.length + 1) = 0 := by have := wX_nonneg xs r (xs.length + 1); omega
      rw [hw0] at E
      clear h hp0 hw hw0
      go_enter Try.func5, Try.ntmps5
      go_wp2_with fail
      refine (weReach_any _ _ _ _ _ _ hr hn).mono ?_
      rintro e w' ⟨rfl, rfl⟩
      rw [H.out]
      go_wp2_with fail
      refine (weWays_any _ _ _ _ _ _ hr hB (by omega) (by omega) (by omega) (by omega) HP.out).mono ?_
      rintro e w1 ⟨g, rfl, hg, hblk, hb⟩
      have k := hblk.int_at (k := 0) (by unfold outL; rw [tell_length]; omega)
      rw [E.out] at k
      go_wp2_with fail
      go_ret2
      exact ⟨rfl, hb⟩

end Go.Proofs.Ytopcpejbjjjmdaa
