/- Contracts: the first climb over bears, on both sides. -/
import Derived.Test.YtkfacfhneooaiaaWearCount
import Derived.Deep.LoopGhost
import Derived.WalkMore
namespace Go.Proofs.Ytkfacfhneooaiaa
open Go.RowKit

/-- the first place from p on from which one comes on to the top; k places are asked -/
def findX (xs : List Int) (r : Nat) : Nat → Nat → Nat
  | 0, p => p
  | k + 1, p => if 0 < wX xs r (xs.length + 1 - p) then p else findX xs r k (p + 1)
theorem findX_eq {xs : List Int} {r : Nat} : ∀ (k p s : Nat), p ≤ s → s ≤ p + k → (∀ q, p ≤ q → q < s → ¬ 0 < wX xs r (xs.length + 1 - q)) → 0 < wX xs r (xs.length + 1 - s) → findX xs r k p = s
  | 0, p, s, h1, h2, _, _ => by
    obtain rfl : p = s := by omega
    rfl
  | k + 1, p, s, h1, h2, h3, h4 => by
    unfold findX
    by_cases e : p = s
    · subst e; rw [if_pos h4]
    · rw [if_neg (h3 p (Nat.le_refl _) (by omega))]
      exact findX_eq k (p + 1) s (by omega) (by omega) (fun q a b => h3 q (by omega) b) h4
/-- the first climb from place a on -/
def climbX (xs : List Int) (r : Nat) : Nat → Nat → List Int
  | 0, _ => []
  | f + 1, a => if xs.length + 1 ≤ a + r then [] else (findX xs r xs.length (a + 1) : Int) :: climbX xs r f (findX xs r xs.length (a + 1))
theorem climbX_end {xs : List Int} {r f a : Nat} (h : xs.length + 1 ≤ a + r) : climbX xs r f a = [] := by
  cases f with
  | zero => rfl
  | succ f => rw [climbX, if_pos h]
theorem climbX_step {xs : List Int} {r f a s : Nat} (h : ¬ xs.length + 1 ≤ a + r) (h1 : a < s) (h2 : s ≤ xs.length) (h3 : ∀ q, a + 1 ≤ q → q < s → ¬ 0 < wX xs r (xs.length + 1 - q)) (h4 : 0 < wX xs r (xs.length + 1 - s)) :
    climbX xs r (f + 1) a = (s : Int) :: climbX xs r f s := by
  rw [climbX, if_neg h, findX_eq xs.length (a + 1) s (by omega) (by omega) h3 h4]
theorem climbX_length (xs : List Int) (r : Nat) : ∀ f a, (climbX xs r f a).length ≤ f
  | 0, _ => Nat.le_refl _
  | f + 1, a => by
    unfold climbX
    split
    · simp
    · simpa using climbX_length xs r f _
/-- where one comes on and the top is too far, one of the next places is on a way -/
theorem aX_pos {xs : List Int} {r d : Nat} : ∀ j, j ≤ d + 1 → 0 < aX xs r d j → ∃ i, i < j ∧ 0 < wX xs r (d - i)
  | 0, _, h => by rw [aX_zero] at h; omega
  | j + 1, hj, h => by
    rw [aX_succ (by omega)] at h
    by_cases h2 : 0 < wX xs r (d - j)
    · exact ⟨j, by omega, h2⟩
    · obtain ⟨i, hi, hw⟩ := aX_pos (xs := xs) (r := r) (d := d) j (by omega) (by have := wX_nonneg xs r (d - j); omega)
      exact ⟨i, by omega, hw⟩
theorem aX_none {xs : List Int} {r d : Nat} : ∀ j, j ≤ d + 1 → aX xs r d j ≤ 0 → ∀ i, i < j → ¬ 0 < wX xs r (d - i)
  | 0, _, _, i, hi => by omega
  | j + 1, hj, h, i, hi => by
    rw [aX_succ (by omega)] at h
    have h1 := wX_nonneg xs r (d - j)
    have h2 := (vX_bd xs r d j).1
    have h3 : 0 ≤ aX xs r d j := h2
    by_cases e : i = j
    · subst e; omega
    · exact aX_none j (by omega) (by omega) i (by omega)
theorem next_some {xs : List Int} {r a : Nat} (ha : a ≤ xs.length) (ht : ¬ xs.length + 1 ≤ a + r) (hw : 0 < wX xs r (xs.length + 1 - a)) : ∃ i, i < r ∧ 0 < wX xs r (xs.length + 1 - (a + 1 + i)) := by
  have hv : 0 < vX xs r (xs.length - a) := by
    rw [show xs.length + 1 - a = (xs.length - a) + 1 by omega] at hw
    by_cases hd : xs.length - a + 1 ≤ xs.length ∧ xs.getD (xs.length - (xs.length - a + 1)) 0 = 0
    · rw [wX_dead hd.1 hd.2] at hw; omega
    · rw [wX_alive (fun h h' => hd ⟨h, h'⟩)] at hw; exact hw
  rw [← aX_end] at hv
  obtain ⟨i, hi, hp⟩ := aX_pos r (by omega) hv
  exact ⟨i, hi, by rw [show xs.length + 1 - (a + 1 + i) = xs.length - a - i by omega]; exact hp⟩
theorem none_first {xs : List Int} {r : Nat} (hw : ¬ 0 < wX xs r (xs.length + 1)) : ¬ xs.length + 1 ≤ 0 + r ∧ ∀ q, 1 ≤ q → q < 1 + r → ¬ 0 < wX xs r (xs.length + 1 - q) := by
  rw [wX_ground] at hw
  have hb := (vX_bd xs r xs.length r).1
  have hne : ¬ xs.length + 1 ≤ 0 + r := fun h => by
    have h1 := aX_top (xs := xs) (r := r) (d := xs.length) (by omega)
    rw [← h1, aX_succ (Nat.le_refl _), Nat.sub_self, wX_zero] at hw
    have h3 : 0 ≤ aX xs r xs.length xs.length := (vX_bd xs r xs.length xs.length).1
    omega
  refine ⟨hne, fun q h1 h2 => ?_⟩
  have := aX_none (xs := xs) (r := r) (d := xs.length) r (by omega) (by rw [aX_end]; omega) (q - 1) (by omega)
  rw [show xs.length + 1 - q = xs.length - (q - 1) by omega]
  exact this

def firstB (xs : List Int) (n : Int) : Bool := reachB xs n && decide (0 < wGround xs n)
def firstR (xs : List Int) (n : Int) : List Int := if firstB xs n then climbX xs n.toNat (xs.length + 1) 0 else []
theorem firstR_length (xs : List Int) (n : Int) : (firstR xs n).length ≤ 1048576 := by
  unfold firstR
  split
  · next h =>
    have h1 : reachB xs n = true := by simp only [firstB, Bool.and_eq_true] at h; exact h.1
    have := reachB_le h1
    have := climbX_length xs n.toNat (xs.length + 1) 0
    omega
  · simp
theorem outL_at {xs : List Int} {r s : Nat} (h : s ≤ xs.length) : (outL xs r).getD s 0 = vX xs r (xs.length - s) := by
  unfold outL; rw [tell_getD _ _ _ (by omega), if_neg (by omega)]
theorem onL_at {xs : List Int} {r s : Nat} (h : s ≤ xs.length + 1) : (onL xs r).getD s 0 = wX xs r (xs.length + 1 - s) := by
  unfold onL; rw [tell_getD _ _ _ (by omega)]
theorem pos_iff {xs : List Int} {r s : Nat} (h1 : 1 ≤ s) (h : s ≤ xs.length) : 0 < wX xs r (xs.length + 1 - s) ↔ ¬ xs.getD (s - 1) 0 = 0 ∧ ¬ vX xs r (xs.length - s) = 0 := by
  have hb := (vX_bd xs r (xs.length - s) r).1
  have hv : 0 ≤ vX xs r (xs.length - s) := hb
  rw [show xs.length + 1 - s = (xs.length - s) + 1 by omega]
  by_cases hd : xs.getD (s - 1) 0 = 0
  · rw [wX_dead (by omega) (by rw [show xs.length - (xs.length - s + 1) = s - 1 by omega]; exact hd)]
    simp; intro h'; exact absurd hd h'
  · rw [wX_alive (fun _ => by rw [show xs.length - (xs.length - s + 1) = s - 1 by omega]; exact hd)]
    constructor
    · intro h; exact ⟨hd, by omega⟩
    · intro h; have := h.2; omega

set_option maxRecDepth 100000 in
set_option maxHeartbeats 2000000 in
theorem specFirst_any (A : Option Addr) (c : Nat) (xs : List Int) (n : Int) (B : Nat) (w : World) (hr : Rd w B A c xs) (hB : B ≤ w.heap.size) (hn : xs.length ≤ 1048576) :
    Calls Try.prog 39 #[.slice A xs.length c, .int .i64 n] w (Lists w (firstR xs n) (firstB xs n)) := by
  cases h : reachB xs n
  · rw [show firstR xs n = [] by simp [firstR, firstB, h], show firstB xs n = false by simp [firstB, h]]
    have H := Lib.hid h
    clear h
    go_enter Try.func39, Try.ntmps39
    go_wp2_with fail
    refine (weReach_any _ _ _ _ _ _ hr hn).mono ?_
    rintro e w' ⟨rfl, rfl⟩
    rw [H.out]
    go_wp2_with fail
    go_ret2
    exact ⟨_, rfl, OwnI.nil _ _, Below.refl _ _⟩
  · have hp := reachB_le h
    obtain ⟨r, rfl⟩ : ∃ r : Nat, n = (r : Int) := ⟨n.toNat, by omega⟩
    have H := Lib.hid h
    have HP := Lib.hid (fun b hb => (bears_at hp.1 b hb).1)
    have E := Lib.hid (outL_zero (xs := xs) (r := r))
    by_cases hw : 0 < wX xs r (xs.length + 1)
    · rw [show firstB xs (r : Int) = true by simp [firstB, h, wGround, hw], show firstR xs (r : Int) = climbX xs r (xs.length + 1) 0 by simp [firstR, firstB, h, wGround, hw]]
      clear h
      have hwb : (wX xs r (xs.length + 1) == 0) = false := by simp; omega
      have HW := Lib.hid hw
      clear hw
      go_enter Try.func39, Try.ntmps39
      go_wp2_with fail
      refine (weReach_any _ _ _ _ _ _ hr hn).mono ?_
      rintro e w' ⟨rfl, rfl⟩
      rw [H.out]
      go_wp2_with fail
      refine (weWays_any _ _ _ _ _ _ hr hB (by omega) (by omega) (by omega) (by omega) HP.out).mono ?_
      rintro e w1 ⟨g, rfl, hg, hblk, hb⟩
      have k := hblk.int_at (k := 0) (by unfold outL; rw [tell_length]; omega)
      rw [E.out] at k
      have zz := hb.size
      have HWX := HW
      generalize hv0 : wX xs r (xs.length + 1) = v0 at *
      have HV0 := Lib.hid hv0
      clear hv0
      go_wp2_with fail
      have HBase := Lib.hid (show climbX xs r (xs.length + 1) 0 = [] ++ climbX xs r (xs.length + 1) 0 from rfl)
      have HW0 : Hid (0 < wX xs r (xs.length + 1 - 0)) := Lib.hid (by rw [Nat.sub_zero, HV0.out]; exact HWX.out)
      go_loopw [7, 8] (fun v i wr => ∃ (ys : List Int) (a f : Nat), a ≤ xs.length ∧ i = .int .i64 a ∧ Hid (climbX xs r (xs.length + 1) 0 = ys ++ climbX xs r f a) ∧ xs.length + 1 ≤ f + a ∧ ys.length + f ≤ xs.length + 1 ∧ Hid (0 < wX xs r (xs.length + 1 - a)) ∧ OwnI wr w1.heap.size v ys ∧ Below w1.heap.size w1 wr) (fun _ i _ => (21 - intOf i).toNat)
      case atStart => exact ⟨[], 0, xs.length + 1, by omega, rfl, HBase, by omega, by simp, HW0, OwnI.nil _ _, Below.refl _ _⟩
      case round =>
        obtain ⟨ys, a, f, ha, rfl, HC, hf, hyl, HWa, hown, hbw⟩ := hrel
        by_cases htop : xs.length + 1 ≤ a + r
        · have HY := Lib.hid (by rw [HC.out, climbX_end htop, List.append_nil] : climbX xs r (xs.length + 1) 0 = ys)
          have ht1 : (xs.length : Int) + 1 - (a : Int) ≤ (r : Int) := by omega
          clear htop
          go_wp2_with fail
          go_ret2
          exact ⟨_, rfl, by rw [HY.out]; exact hown.mono (by omega), hb.trans (hbw.mono (by omega))⟩
        · have ht1 : (r : Int) < (xs.length : Int) + 1 - (a : Int) := by omega
          obtain ⟨i, hi, hpos⟩ := next_some ha htop HWa.out
          have HPos := Lib.hid hpos
          have HT := Lib.hid htop
          clear hpos htop
          have hz : w1.heap.size ≤ wr.heap.size := hbw.size
          have hblk2 := hblk.below hbw hblk.lt
          have hr2 := (hr.below hb hB).below hbw (by omega)
          obtain ⟨f, rfl⟩ : ∃ f', f = f' + 1 := ⟨f - 1, by omega⟩
          go_wp2_with fail
          go_loop [8] (fun q => ∃ s : Nat, a + 1 ≤ s ∧ s ≤ a + 1 + i ∧ q = .int .i64 s ∧ Hid (∀ q, a + 1 ≤ q → q < s → ¬ 0 < wX xs r (xs.length + 1 - q))) (fun q => (22 - intOf q).toNat)
          case atStart => exact ⟨a + 1, by omega, by omega, by go_num, fun q h1 h2 => by omega⟩
          case round =>
            obtain ⟨s, hs1, hs2, rfl, HQ⟩ := hrel
            obtain ⟨bb, o, rfl, hb0, hcell⟩ := hr2.at_ (k := s - 1) (by omega)
            have k2 := hblk2.int_at (k := s) (by unfold outL; rw [tell_length]; omega)
            rw [outL_at (by omega)] at k2
            have PI := Lib.hid (pos_iff (xs := xs) (r := r) (s := s) (by omega) (by omega))
            by_cases hgo : 0 < wX xs r (xs.length + 1 - s)
            · have hg2 := PI.out.1 hgo
              have HN := Lib.hid (climbX_step (f := f) HT.out (by omega) (by omega) HQ.out hgo)
              have HG := Lib.hid hgo
              have q1 : (xs.getD (s - 1) 0 == 0) = false := by simp only [beq_eq_false_iff_ne]; exact hg2.1
              have q2 : (vX xs r (xs.length - s) == 0) = false := by simp only [beq_eq_false_iff_ne]; exact hg2.2
              generalize xs.getD (s - 1) 0 = x at *
              generalize vX xs r (xs.length - s) = y at *
              clear hgo hg2 k
              go_wp2_with (at_builtin; refine wpList_pushI _ rfl _ _ rfl w1.heap.size _ ys rfl (hown.alloc _) wr.heap.size (s : Int) rfl (by simp) (by omega) (by simp; omega) ?_; intro A1 c1 w2 hown1 hg1)
              go_roundw
              case rel => exact ⟨ys ++ [(s : Int)], s, f, by omega, rfl, Lib.hid (by rw [HC.out, HN.out, List.append_assoc]; rfl), by omega, by simp; omega, HG, hown1, (hbw.alloc hz _).trans hg1⟩
              case measure => simp [intOf]; omega
            · have hlt : s < a + 1 + i := by
                by_cases e : s = a + 1 + i
                · rw [e] at hgo; exact absurd HPos.out hgo
                · omega
              have HQ2 : Hid (∀ q, a + 1 ≤ q → q < s + 1 → ¬ 0 < wX xs r (xs.length + 1 - q)) := fun q h1 h2 => by
                rcases Nat.lt_succ_iff_lt_or_eq.1 h2 with h | rfl
                · exact HQ.out q h1 h
                · exact hgo
              by_cases hx : xs.getD (s - 1) 0 = 0
              · rw [hx] at hcell
                clear hx hgo k
                go_wp2
                go_round
                case rel => exact ⟨s + 1, by omega, by omega, by go_num, HQ2⟩
                case measure => simp [intOf]; omega
              · have q1 : (xs.getD (s - 1) 0 == 0) = false := by simp only [beq_eq_false_iff_ne]; exact hx
                have hy : vX xs r (xs.length - s) = 0 := by
                  by_cases e : vX xs r (xs.length - s) = 0
                  · exact e
                  · exact absurd (PI.out.2 ⟨hx, e⟩) hgo
                rw [hy] at k2
                generalize xs.getD (s - 1) 0 = x at *
                clear hx hgo hy k
                go_wp2
                go_round
                case rel => exact ⟨s + 1, by omega, by omega, by go_num, HQ2⟩
                case measure => simp [intOf]; omega
    · rw [show firstB xs (r : Int) = false by simp [firstB, h, wGround, hw], show firstR xs (r : Int) = [] by simp [firstR, firstB, h, wGround, hw]]
      clear h
      have hw0 : wX xs r (xs.length + 1) = 0 := by have := wX_nonneg xs r (xs.length + 1); omega
      rw [hw0] at E
      clear hw0 hw
      go_enter Try.func39, Try.ntmps39
      go_wp2_with fail
      refine (weReach_any _ _ _ _ _ _ hr hn).mono ?_
      rintro e w' ⟨rfl, rfl⟩
      rw [H.out]
      go_wp2_with fail
      refine (weWays_any _ _ _ _ _ _ hr hB (by omega) (by omega) (by omega) (by omega) HP.out).mono ?_
      rintro e w1 ⟨g, rfl, hg, hblk, hb⟩
      have k := hblk.int_at (k := 0) (by unfold outL; rw [tell_length]; omega)
      rw [E.out] at k
      go_wp2_with fail
      go_ret2
      exact ⟨_, rfl, OwnI.nil _ _, hb⟩

set_option maxRecDepth 100000 in
set_option maxHeartbeats 2000000 in
theorem impFirst_any (A : Option Addr) (c : Nat) (xs : List Int) (n : Int) (B : Nat) (w : World) (hr : Rd w B A c xs) (hB : B ≤ w.heap.size) (hn : xs.length ≤ 1048576) :
    Calls Try.prog 40 #[.slice A xs.length c, .int .i64 n] w (Lists w (firstR xs n) (firstB xs n)) := by
  cases h : reachB xs n
  · rw [show firstR xs n = [] by simp [firstR, firstB, h], show firstB xs n = false by simp [firstB, h]]
    have H := Lib.hid h
    clear h
    go_enter Try.func40, Try.ntmps40
    go_wp2_with fail
    go_step3
    go_wp2_with fail
    refine (canWear_any _ _ _ _ _ _ hr hn).mono ?_
    rintro e w' ⟨rfl, rfl⟩
    rw [H.out]
    go_wp2_with fail
    try rw [Exit.noGoto_ret]
    go_ret2
    exact ⟨_, rfl, OwnI.nil _ _, Below.refl _ _⟩
  · have hp := reachB_le h
    obtain ⟨r, rfl⟩ : ∃ r : Nat, n = (r : Int) := ⟨n.toNat, by omega⟩
    have H := Lib.hid h
    by_cases hw : 0 < wX xs r (xs.length + 1)
    · rw [show firstB xs (r : Int) = true by simp [firstB, h, wGround, hw], show firstR xs (r : Int) = climbX xs r (xs.length + 1) 0 by simp [firstR, firstB, h, wGround, hw]]
      clear h
      have HW0 : Hid (0 < wX xs r (xs.length + 1 - 0)) := Lib.hid hw
      clear hw
      go_enter Try.func40, Try.ntmps40
      go_wp2_with fail
      go_step3
      go_wp2_with fail
      refine (canWear_any _ _ _ _ _ _ hr hn).mono ?_
      rintro e w' ⟨rfl, rfl⟩
      rw [H.out]
      go_wp2_with fail
      refine (waysOn_any _ _ _ _ _ _ hr hB (by omega) (by omega) (by omega) (by omega)).mono ?_
      rintro e w1 ⟨g, rfl, hg, hblk, hb⟩
      have zz := hb.size
      go_wp2_with fail
      go_step3
      go_wp2_with fail
      have HBase := Lib.hid (show climbX xs r (xs.length + 1) 0 = [] ++ climbX xs r (xs.length + 1) 0 from rfl)
      go_loopg [7, 8, 9] 21 (fun gg v i _ wr => ∃ (ys : List Int) (a f : Nat), a ≤ xs.length ∧ gg + a = 21 ∧ i = .int .i64 a ∧ Hid (climbX xs r (xs.length + 1) 0 = ys ++ climbX xs r f a) ∧ xs.length + 1 ≤ f + a ∧ ys.length + f ≤ xs.length + 1 ∧ Hid (0 < wX xs r (xs.length + 1 - a)) ∧ OwnI wr w1.heap.size v ys ∧ Below w1.heap.size w1 wr)
      case atStart => exact ⟨[], 0, xs.length + 1, by omega, by omega, rfl, HBase, by omega, by simp, HW0, OwnI.nil _ _, Below.refl _ _⟩
      case round =>
        obtain ⟨ys, a, f, ha, hga, rfl, HC, hf, hyl, HWa, hown, hbw⟩ := hrel
        by_cases htop : xs.length + 1 ≤ a + r
        · have HY := Lib.hid (by rw [HC.out, climbX_end htop, List.append_nil] : climbX xs r (xs.length + 1) 0 = ys)
          have HD := Lib.hid (show decide ((xs.length : Int) + 1 - (a : Int) ≤ (r : Int)) = true by simp; omega)
          clear htop
          go_wp2_with fail
          refine (topIn_any _ _ _ _ _ _ (by omega) (by omega) (by omega) (by omega) (by omega)).mono ?_
          rintro e w' ⟨rfl, rfl⟩
          rw [HD.out]
          go_wp2_with fail
          try rw [Exit.noGoto_ret]
          go_ret2
          exact ⟨_, rfl, by rw [HY.out]; exact hown.mono (by omega), hb.trans (hbw.mono (by omega))⟩
        · have HD := Lib.hid (show decide ((xs.length : Int) + 1 - (a : Int) ≤ (r : Int)) = false by simp; omega)
          obtain ⟨i, hi, hpos⟩ := next_some ha htop HWa.out
          have HPos := Lib.hid hpos
          have HT := Lib.hid htop
          have hT1 : a + r ≤ xs.length := by omega
          clear hpos htop
          have hz : w1.heap.size ≤ wr.heap.size := hbw.size
          have hblk2 := hblk.below hbw hblk.lt
          obtain ⟨f, rfl⟩ : ∃ f', f = f' + 1 := ⟨f - 1, by omega⟩
          go_wp2_with fail
          refine (topIn_any _ _ _ _ _ _ (by omega) (by omega) (by omega) (by omega) (by omega)).mono ?_
          rintro e w' ⟨rfl, rfl⟩
          rw [HD.out]
          go_wp2_with fail
          obtain ⟨go, hgo⟩ : ∃ go, go = gk := ⟨_, rfl⟩
          rw [← hgo] at hga
          have hgo1 : go ≤ gk := by omega
          clear hgo
          have HV := Lib.hid hown
          obtain ⟨wo, hwo⟩ : ∃ wo : World, wo = wr := ⟨_, rfl⟩
          rw [← hwo] at hown hbw hz hblk2 HV
          have HWO := Lib.hid hwo
          clear hwo
          go_loopg [7, 8, 9] 22 (fun g9 v i8 q wr => g9 + 0 ≤ 22 ∧ i8 = .int .i64 a ∧ OwnI wr w1.heap.size v ys ∧ wr = wo ∧ ∃ s : Nat, g9 + s = 23 + a ∧ a + 1 ≤ s ∧ s ≤ a + 1 + i ∧ q = .int .i64 s ∧ Hid (∀ q, a + 1 ≤ q → q < s → ¬ 0 < wX xs r (xs.length + 1 - q)))
          case atStart => exact ⟨by omega, rfl, by rw [← HWO.out]; exact hown, HWO.out.symm, a + 1, by omega, by omega, by omega, by go_num, fun q h1 h2 => by omega⟩
          case round =>
            clear hown
            obtain ⟨_, rfl, hown, rfl, s, hgs, hs1, hs2, rfl, HQ⟩ := hrel
            have k2 := hblk2.int_at (k := s) (by unfold onL; rw [tell_length]; omega)
            rw [onL_at (by omega)] at k2
            have hle : (s : Int) ≤ (a : Int) + (r : Int) := by omega
            by_cases hgo : 0 < wX xs r (xs.length + 1 - s)
            · have HN := Lib.hid (climbX_step (f := f) HT.out (by omega) (by omega) HQ.out hgo)
              have HG := Lib.hid hgo
              generalize wX xs r (xs.length + 1 - s) = y at k2 hgo
              go_wp2_with (at_builtin; refine wpList_pushI _ rfl _ _ rfl w1.heap.size _ ys rfl (hown.alloc _) wr.heap.size (s : Int) rfl (by simp) (by omega) (by simp; omega) ?_; intro A1 c1 w2 hown1 hg1)
              go_roundg (21 - s)
              case rel => exact ⟨ys ++ [(s : Int)], s, f, by omega, by omega, rfl, Lib.hid (by rw [HC.out, HN.out, List.append_assoc]; rfl), by omega, by simp; omega, HG, hown1, (hbw.alloc hz _).trans hg1⟩
              case measure => omega
            · have hlt : s < a + 1 + i := by
                by_cases e : s = a + 1 + i
                · rw [e] at hgo; exact absurd HPos.out hgo
                · omega
              have HQ2 : Hid (∀ q, a + 1 ≤ q → q < s + 1 → ¬ 0 < wX xs r (xs.length + 1 - q)) := fun q h1 h2 => by
                rcases Nat.lt_succ_iff_lt_or_eq.1 h2 with h | rfl
                · exact HQ.out q h1 h
                · exact hgo
              generalize wX xs r (xs.length + 1 - s) = y at *
              go_wp2
              go_roundg (gk - 1)
              case rel => exact ⟨by omega, rfl, hown, rfl, s + 1, by omega, by omega, by omega, by go_num, HQ2⟩
              case measure => omega
    · have hw0 : wX xs r (xs.length + 1) = 0 := by have := wX_nonneg xs r (xs.length + 1); omega
      rw [show firstB xs (r : Int) = false by simp [firstB, wGround, hw], show firstR xs (r : Int) = [] by simp [firstR, firstB, wGround, hw]]
      obtain ⟨hn1, hn2⟩ := none_first (xs := xs) (r := r) hw
      have HN2 := Lib.hid hn2
      have HD := Lib.hid (show decide ((xs.length : Int) + 1 - (0 : Int) ≤ (r : Int)) = false by simp; omega)
      have hT1 : r ≤ xs.length := by omega
      clear h hw hw0 hn1 hn2
      go_enter Try.func40, Try.ntmps40
      go_wp2_with fail
      go_step3
      go_wp2_with fail
      refine (canWear_any _ _ _ _ _ _ hr hn).mono ?_
      rintro e w' ⟨rfl, rfl⟩
      rw [H.out]
      go_wp2_with fail
      refine (waysOn_any _ _ _ _ _ _ hr hB (by omega) (by omega) (by omega) (by omega)).mono ?_
      rintro e w1 ⟨g, rfl, hg, hblk, hb⟩
      have zz := hb.size
      go_wp2_with fail
      go_step3
      go_wp2_with fail
      go_loopg [7, 8, 9] 1 (fun gg v i _ wr => i = .int .i64 0 ∧ wr = w1 ∧ gg = 1)
      case atStart => exact ⟨rfl, rfl, rfl⟩
      case round =>
        obtain ⟨rfl, rfl, rfl⟩ := hrel
        go_wp2_with fail
        refine (topIn_any _ _ _ _ _ _ (by omega) (by omega) (by omega) (by omega) (by omega)).mono ?_
        rintro e w' ⟨rfl, rfl⟩
        rw [HD.out]
        go_wp2_with fail
        go_loopg [7, 8, 9] 22 (fun g9 v i8 q wx => i8 = .int .i64 0 ∧ wx = wr ∧ ∃ s : Nat, g9 + s = 23 ∧ 1 ≤ s ∧ s ≤ 1 + r ∧ q = .int .i64 s)
        case atStart => exact ⟨rfl, rfl, 1, by omega, by omega, by omega, rfl⟩
        case round =>
          obtain ⟨rfl, rfl, s, hgs, hs1, hs2, rfl⟩ := hrel
          by_cases hs : s < 1 + r
          · have k2 := hblk.int_at (k := s) (by unfold onL; rw [tell_length]; omega)
            rw [onL_at (by omega)] at k2
            have hz := HN2.out s hs1 hs
            generalize wX xs r (xs.length + 1 - s) = y at *
            have hle : (s : Int) ≤ (r : Int) := by omega
            go_wp2
            go_roundg (gk - 1)
            case rel => exact ⟨rfl, rfl, s + 1, by omega, by omega, by omega, by go_num⟩
            case measure => omega
          · have hgt : (r : Int) < (s : Int) := by omega
            go_wp2_with fail
            try rw [Exit.noGoto_ret]
            go_ret2
            exact ⟨_, rfl, OwnI.nil _ _, hb⟩

end Go.Proofs.Ytkfacfhneooaiaa
