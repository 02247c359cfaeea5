/- Contracts: the ways on to the top over bears, on both sides. -/
import Derived.Test.YtopcpejbjjjmdaaWearIs
import Derived.Test.YtopcpejbjjjmdaaWays
import Derived.Test.YtopcpejbjjjmdaaGMake
import Derived.WalkLawsBesides
import Derived.Deep.RegionWith
namespace Go.Proofs.Ytopcpejbjjjmdaa
open Go.RowKit

/-- what the program's row holds behind m places from the top on: place p -/
def onK (xs : List Int) (r m : Nat) (p : Nat) : Int := if xs.length < p + m then wX xs r (xs.length + 1 - p) else 0
/-- the same while the place a = n - m is being summed, j strides done -/
def onJ (xs : List Int) (r m j : Nat) (p : Nat) : Int := if p + m = xs.length then aX xs r m j else onK xs r m p
theorem onK_zero {xs : List Int} {r p : Nat} (hp : p < xs.length + 1) : onK xs r 0 p = 0 := by
  unfold onK; rw [if_neg (by omega)]
theorem onK_first (xs : List Int) (r : Nat) : onK xs r 0 (xs.length + 1) = 1 := by
  unfold onK; rw [if_pos (by omega), show xs.length + 1 - (xs.length + 1) = 0 by omega]; rfl
theorem onJ_zero {xs : List Int} {r m p : Nat} : onJ xs r m 0 p = onK xs r m p := by
  unfold onJ
  split
  · next h => unfold onK; rw [if_neg (by omega)]; rfl
  · rfl
theorem onK_dead {xs : List Int} {r m p a : Nat} (ha : a + 1 + m = xs.length) (h0 : xs.getD a 0 = 0) : onK xs r m p = onK xs r (m + 1) p := by
  unfold onK
  by_cases h : xs.length < p + m
  · rw [if_pos h, if_pos (by omega)]
  · rw [if_neg h]
    by_cases h2 : xs.length < p + (m + 1)
    · rw [if_pos h2, show xs.length + 1 - p = m + 1 by omega, wX_dead (by omega) (by rw [show xs.length - (m + 1) = a by omega]; exact h0)]
    · rw [if_neg h2]
theorem onJ_end {xs : List Int} {r m j p a : Nat} (ha : a + m = xs.length) (hv : aX xs r m j = vX xs r m) (h0 : ∀ b, a = b + 1 → ¬ xs.getD b 0 = 0) : onJ xs r m j p = onK xs r (m + 1) p := by
  have hw : wX xs r (m + 1) = vX xs r m := wX_alive (fun h => by
    have := h0 (a - 1) (by omega)
    rw [show xs.length - (m + 1) = a - 1 by omega]; exact this)
  unfold onJ
  split
  · next h => unfold onK; rw [if_pos (by omega), show xs.length + 1 - p = m + 1 by omega, hw, hv]
  · next h =>
    unfold onK
    by_cases h2 : xs.length < p + m
    · rw [if_pos h2, if_pos (by omega)]
    · rw [if_neg h2, if_neg (by omega)]

def onL (xs : List Int) (r : Nat) : List Int := tell (xs.length + 2) fun p => wX xs r (xs.length + 1 - p)
/-- WHAT THE PROGRAM's waysOn LEAVES -/
def WaysPost (xs : List Int) (r : Nat) (T : TypeId) (w : World) (e : Ending) (w' : World) : Prop :=
  ∃ g, e = .returned (.slice (some ⟨g, 0, none⟩) (xs.length + 2) (xs.length + 2)) ∧ w.heap.size ≤ g ∧ Blk w' g T (ints (onL xs r)) ∧ Below w.heap.size w w'


/-- what the model's row holds behind m places from the top on: place p -/
def outK (xs : List Int) (r m : Nat) (p : Nat) : Int := if xs.length < p + m then (if p = xs.length + 1 then 1 else vX xs r (xs.length - p)) else 0
def outJ (xs : List Int) (r m j : Nat) (p : Nat) : Int := if p + m = xs.length then aX xs r m j else outK xs r m p
theorem outK_zero {xs : List Int} {r p : Nat} (hp : p < xs.length + 1) : outK xs r 0 p = 0 := by
  unfold outK; rw [if_neg (by omega)]
theorem outK_first (xs : List Int) (r : Nat) : outK xs r 0 (xs.length + 1) = 1 := by
  unfold outK; rw [if_pos (by omega), if_pos rfl]
theorem outJ_zero {xs : List Int} {r m p : Nat} : outJ xs r m 0 p = outK xs r m p := by
  unfold outJ
  split
  · next h => unfold outK; rw [if_neg (by omega)]; rfl
  · rfl
theorem outJ_end {xs : List Int} {r m j p : Nat} (hv : aX xs r m j = vX xs r m) : outJ xs r m j p = outK xs r (m + 1) p := by
  unfold outJ
  split
  · next h => unfold outK; rw [if_pos (by omega), if_neg (by omega), show xs.length - p = m by omega, hv]
  · next h =>
    unfold outK
    by_cases h2 : xs.length < p + m
    · have h3 : xs.length < p + (m + 1) := by omega
      simp only [h2, h3, if_true]
    · have h3 : ¬ xs.length < p + (m + 1) := by omega
      simp only [h2, h3, if_false]
def outL (xs : List Int) (r : Nat) : List Int := tell (xs.length + 2) fun p => if p = xs.length + 1 then 1 else vX xs r (xs.length - p)
/-- WHAT THE MODEL's ways LEAVE -/
def OutPost (xs : List Int) (r : Nat) (T : TypeId) (w : World) (e : Ending) (w' : World) : Prop :=
  ∃ g, e = .returned (.slice (some ⟨g, 0, none⟩) (xs.length + 2) (xs.length + 2)) ∧ w.heap.size ≤ g ∧ Blk w' g T (ints (outL xs r)) ∧ Below w.heap.size w w'

set_option maxRecDepth 100000 in
set_option maxHeartbeats 4000000 in
theorem weWays_any (A : Option Addr) (c : Nat) (xs : List Int) (r : Nat) (B : Nat) (w : World) (hr : Rd w B A c xs) (hB : B ≤ w.heap.size) (hl1 : 1 ≤ xs.length) (hl : xs.length ≤ 20) (hr1 : 1 ≤ r) (hr2 : r ≤ 20) (h0 : ∀ b, b < xs.length → 0 ≤ xs.getD b 0) :
    Calls Try.prog 18 #[.slice A xs.length c, .int .i64 (r : Int)] w (OutPost xs r 3 w) := by
  obtain ⟨n, hn⟩ : ∃ n, n = xs.length := ⟨_, rfl⟩
  have HN := Lib.hid hn
  have HP := Lib.hid h0
  clear h0
  have hmk : ∀ u : World, (Instr.makeSlice 22 (.int .i64 ((n : Int) + 2)) (.int .i64 ((n : Int) + 2))).run Try.prog u = .ok (.slice (some ⟨u.heap.size, 0, none⟩) (n + 2) (n + 2)) (u.alloc (.cells (ints (List.replicate (n + 2) 0)) 3)) := fun u => by
    rw [show (n : Int) + 2 = ((n + 2 : Nat) : Int) by omega]
    exact make_run (n + 2) (by omega) u
  have Z := Lib.hid (tell_zero (n := n + 2) (f := fun _ => 0) (fun _ _ => rfl))
  have hf : (ints (List.replicate (n + 2) 0))[n + 1]? = some (.int .i64 0) := by rw [ints_get _ _ (by simp)]; simp [List.getD_eq_getElem?_getD]
  have hg : (ints (List.replicate (n + 2) 0)).setIfInBounds (n + 1) (.int .i64 1) = ints (tell (n + 2) (outK xs r 0)) := by
    rw [ints_set, Z.out, tell_set (g := outK xs r 0) (by omega) (by rw [hn]; exact outK_first xs r) (fun j h1 h2 => (outK_zero (by omega)).symm)]
  rw [← hn] at hl1 hl
  rw [← hn]
  clear hn
  go_enter Try.func18, Try.ntmps18
  go_wp2
  go_loopw [6] (fun a wr => ∃ m : Nat, m ≤ n + 1 ∧ a = .int .i64 ((n : Int) - m) ∧ Blk wr w.heap.size 3 (ints (tell (n + 2) (outK xs r m))) ∧ Below w.heap.size w wr) (fun a _ => (intOf a + 1).toNat)
  case atStart => exact ⟨0, by omega, by go_num, Blk.new _ _ _, below_alloc _ _⟩
  case round =>
    obtain ⟨m, hm, rfl, hblk, hbel⟩ := hrel
    by_cases hlt : m ≤ n
    · obtain ⟨a, ha⟩ : ∃ a, a + m = n := ⟨n - m, by omega⟩
      rw [show (n : Int) - m = a by omega]
      have HA := Lib.hid ha
      rw [← funext (fun p => outJ_zero (xs := xs) (r := r) (m := m) (p := p))] at hblk
      go_wp2
      go_loopw [7] (fun s wr => ∃ j : Nat, j ≤ r ∧ j ≤ m + 1 ∧ s = .int .i64 ((a : Int) + 1 + j) ∧ Blk wr w.heap.size 3 (ints (tell (n + 2) (outJ xs r m j))) ∧ Below w.heap.size w wr) (fun s _ => ((n : Int) + 2 - intOf s).toNat)
      case atStart => exact ⟨0, by omega, by omega, by go_num, hblk, hbel⟩
      case round =>
        obtain ⟨j, hj1, hj2, rfl, hblk2, hbel2⟩ := hrel
        clear hblk hbel
        have hs : (a : Int) + 1 + j = ((a + 1 + j : Nat) : Int) := by omega
        rw [hs]
        clear hs
        obtain ⟨s, hs⟩ : ∃ s, s = a + 1 + j := ⟨_, rfl⟩
        rw [← hs]
        by_cases hin : j < r ∧ j < m + 1
        · obtain ⟨hin1, hin2⟩ := hin
          have k1 := hblk2.int_at (k := a) (by rw [tell_length]; omega)
          have k2 := hblk2.int_at (k := s) (by rw [tell_length]; omega)
          rw [tell_getD _ _ _ (by omega)] at k1 k2
          rw [show outJ xs r m j a = aX xs r m j by unfold outJ; rw [if_pos (by rw [← HN.out]; omega)]] at k1
          have f1 := hblk2.frozen a
          have f2 := hblk2.frozen s
          have bd1 := aX_bd xs (r := r) (d := m) (j := j) (by omega)
          have bd2 := wX_bd xs r (d := m - j) (by omega)
          have hc1 : (s : Int) ≤ (a : Int) + (r : Int) := by omega
          have hc2 : (s : Int) ≤ (n : Int) + 1 := by omega
          have hc3 : (s : Int) < (n : Int) + 2 := by omega
          have hc4 : (a : Int) < (n : Int) + 2 := by omega
          have SE : Hid ((tell (n + 2) (outJ xs r m j)).set a (aX xs r m j + wX xs r (m - j)) = tell (n + 2) (outJ xs r m (j + 1))) := Lib.hid (tell_set (by omega) (by unfold outJ; rw [if_pos (by rw [← HN.out]; omega), aX_succ (by omega)]) (fun p _ hp => by unfold outJ; rw [if_neg (by rw [← HN.out]; omega), if_neg (by rw [← HN.out]; omega)]))
          have HS2 := Lib.hid hs
          have hs1 : s ≤ a + 1 + j := by omega
          have hs2 : a + 1 + j ≤ s := by omega
          by_cases htop : s = n + 1
          · rw [show outJ xs r m j s = wX xs r (m - j) by unfold outJ outK; rw [if_neg (by rw [← HN.out]; omega), if_pos (by rw [← HN.out]; omega), ← HN.out, if_pos htop, show m - j = 0 by omega]; rfl] at k2
            generalize aX xs r m j = u at *
            generalize wX xs r (m - j) = v at *
            have hct : (n : Int) < (s : Int) := by omega
            have E1 : IntKind.i64.wrap (u + v) = u + v := IntWalk.i64_in _ (by omega)
            have E2 : leastI (u + v) 1000000000001 = u + v := by unfold leastI; rw [if_pos (by omega)]
            clear hs htop
            go_wp2
            go_region_with (go_at_call 28; refine (l1Least_any _ _ _).mono ?_; rintro e w' ⟨rfl, rfl⟩)
            all_goals
              go_wp2
              go_roundw
              case rel => exact ⟨j + 1, by omega, by omega, congrArg (Value.int .i64) (by have := HS2.out; omega), by rw [← SE.out]; exact (hblk2.int_set a (u + v)), (hbel2.setCell (Nat.le_refl _) _).drew⟩
              case measure => simp [intOf]; omega
          · obtain ⟨bb, o, rfl, hb, hcell⟩ := (hr.below hbel2 hB).at_ (k := s - 1) (by rw [← HN.out]; omega)
            have hx0 := HP.out (s - 1) (by rw [← HN.out]; omega)
            have hct : (s : Int) ≤ (n : Int) := by omega
            by_cases hd : xs.getD (s - 1) 0 = 0
            · have e0 : wX xs r (m - j) = 0 := by
                rw [show m - j = (m - j - 1) + 1 by omega]
                exact wX_dead (by rw [← HN.out]; omega) (by rw [← HN.out, show n - (m - j - 1 + 1) = s - 1 by omega]; exact hd)
              rw [hd] at hcell
              have SE2 : Hid (tell (n + 2) (outJ xs r m j) = tell (n + 2) (outJ xs r m (j + 1))) := Lib.hid (tell_ext fun p _ => by unfold outJ; rw [aX_succ (by omega), e0, Int.add_zero])
              rw [SE2.out] at hblk2
              clear hs htop hd e0 SE bd2 k2 k1
              go_wp2
              go_roundw
              case rel => exact ⟨j + 1, by omega, by omega, congrArg (Value.int .i64) (by have := HS2.out; omega), hblk2, hbel2⟩
              case measure => simp [intOf]; omega
            · rw [show outJ xs r m j s = wX xs r (m - j) by
                unfold outJ outK
                rw [if_neg (by rw [← HN.out]; omega), if_pos (by rw [← HN.out]; omega), ← HN.out, if_neg (by omega), show m - j = (n - s) + 1 by omega]
                exact (wX_alive (fun _ => by rw [← HN.out, show n - (n - s + 1) = s - 1 by omega]; exact hd)).symm] at k2
              generalize aX xs r m j = u at *
              generalize wX xs r (m - j) = v at *
              generalize xs.getD (s - 1) 0 = x at *
              have hxp : 0 < x := by omega
              have E1 : IntKind.i64.wrap (u + v) = u + v := IntWalk.i64_in _ (by omega)
              have E2 : leastI (u + v) 1000000000001 = u + v := by unfold leastI; rw [if_pos (by omega)]
              clear hs htop hd
              go_wp2
              go_region_with (go_at_call 28; refine (l1Least_any _ _ _).mono ?_; rintro e w' ⟨rfl, rfl⟩)
              all_goals
                go_wp2
                go_roundw
                case rel => exact ⟨j + 1, by omega, by omega, congrArg (Value.int .i64) (by have := HS2.out; omega), by rw [← SE.out]; exact (hblk2.int_set a (u + v)), (hbel2.setCell (Nat.le_refl _) _).drew⟩
                case measure => simp [intOf]; omega
        · have hv : aX xs r m j = vX xs r m := by
            by_cases e : j = r
            · rw [e]; exact aX_end _ _ _
            · rw [show j = m + 1 by omega]; exact aX_top (by omega)
          have HK := Lib.hid (tell_ext (n := n + 2) (fun p _ => outJ_end (xs := xs) (r := r) (m := m) (j := j) (p := p) hv))
          rw [HK.out] at hblk2
          clear hv
          by_cases hjr : r ≤ j
          · have hq : (a : Int) + (r : Int) < (s : Int) := by omega
            clear hs hin
            go_wp2
            go_roundw
            case rel => exact ⟨m + 1, by omega, by go_num, hblk2, hbel2⟩
            case measure => simp [intOf] <;> omega
          · have hq : (n : Int) + 1 < (s : Int) := by omega
            have hq2 : (s : Int) ≤ (a : Int) + (r : Int) := by omega
            clear hs hin
            go_wp2
            go_roundw
            case rel => exact ⟨m + 1, by omega, by go_num, hblk2, hbel2⟩
            case measure => simp [intOf] <;> omega
    · obtain rfl : m = n + 1 := by omega
      have HL := Lib.hid (show tell (n + 2) (outK xs r (n + 1)) = outL xs r by rw [HN.out]; exact tell_ext fun p hp => by unfold outK; rw [if_pos (by omega)])
      rw [HL.out] at hblk
      go_wp2
      go_ret
      exact ⟨_, by rw [HN.out]; rfl, Nat.le_refl _, hblk, hbel⟩

end Go.Proofs.Ytopcpejbjjjmdaa
