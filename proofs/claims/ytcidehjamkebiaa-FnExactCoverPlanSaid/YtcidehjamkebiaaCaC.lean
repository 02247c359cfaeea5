/- Contracts: carpets: the plan that covers the steps; both sides. -/
import Derived.Test.YtcidehjamkebiaaCaS
import Derived.Test.YtcidehjamkebiaaGRepC
import Derived.Test.YtcidehjamkebiaaGApp
namespace Go.Proofs.Ytcidehjamkebiaa
open Go.RowKit

attribute [-go_sem] Builtin.append_
def orL (b : Bool) (xs : List Int) : List Int := if b then xs else []
theorem orL_no (xs : List Int) : orL false xs = [] := rfl
theorem orL_yes (xs : List Int) : orL true xs = xs := rfl
theorem orL_length (b : Bool) {xs : List Int} {n : Nat} (h : xs.length ≤ n) : (orL b xs).length ≤ n := by cases b <;> simp [orL]; exact h
/-- how many steps a roll covers behind the others -/
def moreN (x m : Int) (s l : Nat) : Nat := min (x / m).toNat (s - l)
/-- the plan by the first rolls -/
def planL (xs : List Int) (m : Int) (s : Nat) : Nat → List Int
  | 0 => []
  | k + 1 => planL xs m s k ++ List.replicate (moreN (xs.getD k 0) m s (planL xs m s k).length) (k : Int)
theorem planL_length (xs : List Int) (m : Int) (s : Nat) : ∀ k, (planL xs m s k).length ≤ s
  | 0 => by simp [planL]
  | k + 1 => by
    have := planL_length xs m s k
    simp only [planL, List.length_append, List.length_replicate, moreN]
    omega
def covB (xs : List Int) (s m : Int) : Bool := rollsB xs && (stepsB s m && decide (s ≤ sumM (fun x => x / m) xs))
def covR (xs : List Int) (s m : Int) : List Int := planL xs m s.toNat xs.length
theorem covR_length {xs : List Int} {s m : Int} : (orL (covB xs s m) (covR xs s m)).length ≤ 1048576 := by
  cases h : covB xs s m
  · simp [orL]
  · simp only [covB, stepsB, Bool.and_eq_true] at h
    have := inB_le h.2.1.1
    have h2 := planL_length xs m s.toNat xs.length
    rw [orL_yes, covR]; omega
theorem covB_le {xs : List Int} {s m : Int} (h : covB xs s m = true) : rollsB xs = true ∧ (1 ≤ s ∧ s ≤ 100) ∧ (1 ≤ m ∧ m ≤ 100) ∧ s ≤ sumM (fun x => x / m) xs := by
  simp only [covB, stepsB, Bool.and_eq_true] at h
  exact ⟨h.1, inB_le h.2.1.1, inB_le h.2.1.2, of_decide_eq_true h.2.2⟩
theorem canB_is (xs : List Int) (s m : Int) : canB xs s m = (rollsB xs && stepsB s m) := rfl

set_option maxHeartbeats 1000000 in
theorem cpAll_any (A : Option Addr) (c : Nat) (xs : List Int) (s m : Int) (B : Nat) (w : World) (hr : Rd w B A c xs) (hn : xs.length ≤ 1048576) :
    Calls Try.prog 50 #[.slice A xs.length c, .int .i64 s, .int .i64 m] w fun e w' => e = .returned (.bool (covB xs s m)) ∧ w = w' := by
  cases g0 : rollsB xs
  · rw [show covB xs s m = false by simp [covB, g0]]
    have H0 := Lib.hid g0
    clear g0
    go_enter Try.func50, Try.ntmps50
    go_wp2_with fail
    refine (cpRolls_any _ _ _ _ _ hr hn).mono ?_
    rintro e w' ⟨rfl, rfl⟩
    rw [H0.out]
    go_wp2_with fail
    go_ret
    exact ⟨rfl, rfl⟩
  · cases g1 : stepsB s m
    · rw [show covB xs s m = false by simp [covB, g0, g1]]
      have H0 := Lib.hid g0
      have H1 := Lib.hid g1
      clear g0 g1
      go_enter Try.func50, Try.ntmps50
      go_wp2_with fail
      refine (cpRolls_any _ _ _ _ _ hr hn).mono ?_
      rintro e w' ⟨rfl, rfl⟩
      rw [H0.out]
      go_wp2_with fail
      refine (cpSteps_any _ _ _).mono ?_
      rintro e w' ⟨rfl, rfl⟩
      rw [H1.out]
      go_wp2_with fail
      go_ret
      exact ⟨rfl, rfl⟩
    · have hm : 1 ≤ m := by
        have := g1
        simp only [stepsB, Bool.and_eq_true] at this
        exact (inB_le this.2).1
      have HC := Lib.hid (show covB xs s m = decide (s ≤ sumM (fun x => x / m) xs) by simp [covB, g0, g1])
      have H0 := Lib.hid g0
      have H1 := Lib.hid g1
      clear g0 g1
      have HS := Lib.hid (cpSum_any A xs.length c xs m B w rfl hr H0.out hm)
      obtain ⟨q, hq⟩ : ∃ q, q = sumM (fun x => x / m) xs := ⟨_, rfl⟩
      rw [← hq] at HS HC
      clear hq
      by_cases h : s ≤ q
      · go_enter Try.func50, Try.ntmps50
        go_wp2_with fail
        refine (cpRolls_any _ _ _ _ _ hr hn).mono ?_
        rintro e w' ⟨rfl, rfl⟩
        rw [H0.out]
        go_wp2_with fail
        refine (cpSteps_any _ _ _).mono ?_
        rintro e w' ⟨rfl, rfl⟩
        rw [H1.out]
        go_wp2_with fail
        refine HS.out.mono ?_
        rintro e w' ⟨rfl, rfl⟩
        go_wp2_with fail
        go_ret
        exact ⟨ret_bool (by rw [HC.out, decide_eq_true h]), rfl⟩
      · go_enter Try.func50, Try.ntmps50
        go_wp2_with fail
        refine (cpRolls_any _ _ _ _ _ hr hn).mono ?_
        rintro e w' ⟨rfl, rfl⟩
        rw [H0.out]
        go_wp2_with fail
        refine (cpSteps_any _ _ _).mono ?_
        rintro e w' ⟨rfl, rfl⟩
        rw [H1.out]
        go_wp2_with fail
        refine HS.out.mono ?_
        rintro e w' ⟨rfl, rfl⟩
        go_wp2_with fail
        go_ret
        exact ⟨ret_bool (by rw [HC.out, decide_eq_false (by omega)]), rfl⟩

set_option maxHeartbeats 1000000 in
theorem specCoverPlan_any (A : Option Addr) (c : Nat) (xs : List Int) (s m : Int) (B : Nat) (w : World) (hr : Rd w B A c xs) (hB : B ≤ w.heap.size) (hn : xs.length ≤ 1048576) :
    Calls Try.prog 24 #[.slice A xs.length c, .int .i64 s, .int .i64 m] w (Lists w (orL (covB xs s m) (covR xs s m)) (covB xs s m)) := by
  cases g : covB xs s m
  · rw [orL_no]
    have G := Lib.hid g
    clear g
    go_enter Try.func24, Try.ntmps24
    go_wp2_with fail
    refine (cpAll_any _ _ _ _ _ _ _ hr hn).mono ?_
    rintro e w' ⟨rfl, rfl⟩
    rw [G.out]
    go_wp2_with fail
    go_ret2
    exact ⟨_, rfl, OwnI.nil _ _, Below.refl _ _⟩
  · rw [orL_yes]
    obtain ⟨hR, hs, hm, hsum⟩ := covB_le g
    have hl8 := rollsB_le hR
    have hx := Lib.hid (rollsB_at hR)
    obtain ⟨n, rfl⟩ := Int.eq_ofNat_of_zero_le (show 0 ≤ s by omega)
    have HR := Lib.hid (show covR xs (n : Int) m = planL xs m n xs.length from rfl)
    have G := Lib.hid g
    clear g hsum
    go_enter Try.func24, Try.ntmps24
    go_wp2_with fail
    refine (cpAll_any _ _ _ _ _ _ _ hr hn).mono ?_
    rintro e w' ⟨rfl, rfl⟩
    rw [G.out]
    go_wp2_with fail
    go_loopw [8, 19] (fun v i wr => ∃ k : Nat, k ≤ xs.length ∧ i = .int .i64 (k : Int) ∧ OwnI wr w.heap.size v (planL xs m n k) ∧ Below w.heap.size w wr) (fun _ i _ => xs.length - (intOf i).toNat)
    case atStart => exact ⟨0, by omega, rfl, OwnI.nil _ _, Below.refl _ _⟩
    case round =>
      obtain ⟨k, hk, rfl, hown, hbw⟩ := hrel
      by_cases hlt : k < xs.length
      · obtain ⟨b, o, rfl, hb0, hc1⟩ := (hr.below hbw hB).at_ (k := k) hlt
        have hPL := planL_length xs m n k
        have HPS := Lib.hid (show planL xs m n (k + 1) = planL xs m n k ++ List.replicate (moreN (xs.getD k 0) m n (planL xs m n k).length) (k : Int) from rfl)
        have hx1 := hx.out k hlt
        generalize xs.getD k 0 = x at *
        have ht : x.tdiv m = x / m := Int.tdiv_eq_ediv_of_nonneg (by omega)
        have hz0 : ¬ m = 0 := by omega
        have hq := div_bd hx1 hm.1
        have HM := Lib.hid (show ∀ l, moreN x m n l = min (x / m).toNat (n - l) from fun _ => rfl)
        obtain ⟨q, hqe⟩ := Int.eq_ofNat_of_zero_le hq.1
        rw [hqe] at ht hq HM
        simp only [Int.toNat_natCast] at HM
        clear hqe hx1
        obtain ⟨L, hL⟩ : ∃ L, L = planL xs m n k := ⟨_, rfl⟩
        rw [← hL] at hPL HPS hown
        clear hL
        obtain ⟨r, hr0⟩ : ∃ r, r = moreN x m n L.length := ⟨_, rfl⟩
        rw [← hr0] at HPS
        have hr1 : r ≤ q := by rw [hr0, HM.out]; omega
        have hr2 : r ≤ n - L.length := by rw [hr0, HM.out]; omega
        have hr3 : r = q ∨ r = n - L.length := by rw [hr0, HM.out]; omega
        have HR3 := Lib.hid hr3
        clear hr0 hr3 HM
        have HW := Lib.hid hbw
        have HO := Lib.hid hown
        clear hbw hown
        go_wp2_with fail
        go_loopw [8, 11] (fun v i wr => ∃ j : Nat, j ≤ r ∧ i = .int .i64 ((q : Int) - j) ∧ OwnI wr w.heap.size v (L ++ List.replicate j (k : Int)) ∧ Below w.heap.size w wr) (fun _ i _ => (intOf i).toNat)
        case atStart => exact ⟨0, by omega, by simp, by simpa using HO.out, HW.out⟩
        case round =>
          obtain ⟨j, hj, rfl, hown, hbw⟩ := hrel
          have hz : w.heap.size ≤ wr.heap.size := hbw.size
          have hlj : (L ++ List.replicate j (k : Int)).length = L.length + j := by simp
          have HSN := Lib.hid (show L ++ List.replicate (j + 1) (k : Int) = (L ++ List.replicate j (k : Int)) ++ [(k : Int)] by rw [List.replicate_succ', List.append_assoc])
          obtain ⟨y, hy⟩ : ∃ y : Int, y = (q : Int) - j := ⟨_, rfl⟩
          rw [← hy]
          obtain ⟨A2, c2, hv2, hrd2⟩ := hown.form
          rw [hlj] at hv2
          subst hv2
          by_cases h1 : j < r
          · have g1 : 0 < y := by omega
            have g2 : ((L.length + j : Nat) : Int) < (n : Int) := by omega
            have HY := Lib.hid hy
            have hle : L.length + j ≤ 1000 := by omega
            have hzl : (L ++ List.replicate j (k : Int)).length ≤ 1048576 := by rw [hlj]; omega
            have hy2 : y ≤ 2000 := by omega
            clear hy
            generalize hZ : L ++ List.replicate j (k : Int) = zs at *
            have HZ := Lib.hid hZ
            clear hZ
            obtain ⟨l2, hl2⟩ : ∃ l2, l2 = L.length + j := ⟨_, rfl⟩
            rw [← hl2] at g2 hle hlj hown ⊢
            have HL2 := Lib.hid hl2
            clear hl2 hlj
            go_wp2_with (at_builtin; refine wpList_pushI _ rfl _ _ rfl w.heap.size _ zs rfl (hown.alloc _) wr.heap.size (k : Int) rfl (by simp) hzl (by simp; omega) ?_; intro A1 c1 w3 hown1 hg1)
            go_roundw
            case rel => exact ⟨j + 1, by omega, congrArg (Value.int .i64) (by have := HY.out; omega), by rw [HSN.out]; exact hown1, (hbw.alloc hz _).trans hg1⟩
            case measure => simp [intOf]; omega
          · have he : j = r := by omega
            have HF := Lib.hid (show OwnI wr w.heap.size (.slice A2 (L.length + j) c2) (planL xs m n (k + 1)) by rw [HPS.out, ← he]; exact hown)
            rcases HR3.out with h3 | h3
            · have g1 : ¬ 0 < y := by omega
              clear hy hown
              go_wp2_with fail
              go_roundw
              case rel => exact ⟨k + 1, by omega, by go_num, HF.out, hbw⟩
              case measure => simp [intOf]; omega
            · by_cases g1 : 0 < y
              · have g2 : ¬ ((L.length + j : Nat) : Int) < (n : Int) := by omega
                clear hy hown
                obtain ⟨l2, hl2⟩ : ∃ l2, l2 = L.length + j := ⟨_, rfl⟩
                rw [← hl2] at g2 HF ⊢
                clear hl2 hlj
                go_wp2_with fail
                go_roundw
                case rel => exact ⟨k + 1, by omega, by go_num, HF.out, hbw⟩
                case measure => simp [intOf]; omega
              · clear hy hown
                go_wp2_with fail
                go_roundw
                case rel => exact ⟨k + 1, by omega, by go_num, HF.out, hbw⟩
                case measure => simp [intOf]; omega
      · obtain rfl : k = xs.length := by omega
        go_wp2_with fail
        go_ret2
        exact ⟨_, rfl, by rw [HR.out]; exact hown, hbw⟩

set_option maxHeartbeats 8000000 in
theorem implCoverPlan_any (A : Option Addr) (c : Nat) (xs : List Int) (s m : Int) (B : Nat) (w : World) (hr : Rd w B A c xs) (hB : B ≤ w.heap.size) (hn : xs.length ≤ 1048576) :
    Calls Try.prog 25 #[.slice A xs.length c, .int .i64 s, .int .i64 m] w (Lists w (orL (covB xs s m) (covR xs s m)) (covB xs s m)) := by
  cases g0 : canB xs s m
  · rw [show covB xs s m = false by rw [canB_is] at g0; simp only [covB, ← Bool.and_assoc, g0, Bool.false_and], orL_no]
    have G := Lib.hid g0
    clear g0
    go_enter Try.func25, Try.ntmps25
    go_wp2_with fail
    refine (canCover_any _ _ _ _ _ _ _ hr hn).mono ?_
    rintro e w' ⟨rfl, rfl⟩
    rw [G.out]
    go_wp2_with fail
    go_ret2
    exact ⟨_, rfl, OwnI.nil _ _, Below.refl _ _⟩
  · have hRS : rollsB xs = true ∧ stepsB s m = true := by rw [canB_is, Bool.and_eq_true] at g0; exact g0
    have hm1 : 1 ≤ m := by
      have := hRS.2
      simp only [stepsB, Bool.and_eq_true] at this
      exact (inB_le this.2).1
    have HS := Lib.hid (stepsOfRolls_any A c xs m B w hr hB hRS.1 hm1)
    have HC := Lib.hid (show covB xs s m = decide (s ≤ sumM (fun x => x / m) xs) by simp [covB, hRS.1, hRS.2])
    have G := Lib.hid g0
    clear g0 hRS
    obtain ⟨sm, hsm⟩ : ∃ q, q = sumM (fun x => x / m) xs := ⟨_, rfl⟩
    rw [← hsm] at HS HC
    have HSM := Lib.hid hsm
    clear hsm
    by_cases h : s ≤ sm
    · have g : covB xs s m = true := by rw [HC.out, decide_eq_true h]
      rw [g, orL_yes]
      obtain ⟨hR, hs, hm, hsum⟩ := covB_le g
      have hl8 := rollsB_le hR
      have hx := Lib.hid (rollsB_at hR)
      obtain ⟨n, rfl⟩ := Int.eq_ofNat_of_zero_le (show 0 ≤ s by omega)
      have HR := Lib.hid (show covR xs (n : Int) m = planL xs m n xs.length from rfl)
      clear g hsum
      have hlt0 : ¬ sm < (n : Int) := by omega
      go_enter Try.func25, Try.ntmps25
      go_wp2_with fail
      refine (canCover_any _ _ _ _ _ _ _ hr hn).mono ?_
      rintro e w' ⟨rfl, rfl⟩
      rw [G.out]
      go_wp2_with fail
      refine HS.out.mono ?_
      rintro e w1 ⟨rfl, hb1⟩
      go_wp2_with fail
      go_loopw [8, 26] (fun v i wr => ∃ k : Nat, k ≤ xs.length ∧ i = .int .i64 (k : Int) ∧ OwnI wr w.heap.size v (planL xs m n k) ∧ Below w.heap.size w wr) (fun _ i _ => xs.length - (intOf i).toNat)
      case atStart => exact ⟨0, by omega, rfl, OwnI.nil _ _, hb1⟩
      case round =>
        clear hb1
        obtain ⟨k, hk, rfl, hown, hbw⟩ := hrel
        by_cases hlt : k < xs.length
        · obtain ⟨b, o, rfl, hb0, hc1⟩ := (hr.below hbw hB).at_ (k := k) hlt
          have hPL := planL_length xs m n k
          have HPS := Lib.hid (show planL xs m n (k + 1) = planL xs m n k ++ List.replicate (moreN (xs.getD k 0) m n (planL xs m n k).length) (k : Int) from rfl)
          have hx1 := hx.out k hlt
          generalize xs.getD k 0 = x at *
          have ht : x.tdiv m = x / m := Int.tdiv_eq_ediv_of_nonneg (by omega)
          have hz0 : ¬ m = 0 := by omega
          have hq := div_bd hx1 hm.1
          have HM := Lib.hid (show ∀ l, moreN x m n l = min (x / m).toNat (n - l) from fun _ => rfl)
          obtain ⟨q, hqe⟩ := Int.eq_ofNat_of_zero_le hq.1
          rw [hqe] at ht hq HM
          simp only [Int.toNat_natCast] at HM
          clear hqe hx1
          obtain ⟨L, hL⟩ : ∃ L, L = planL xs m n k := ⟨_, rfl⟩
          rw [← hL] at hPL HPS hown
          clear hL
          obtain ⟨A2, c2, rfl, _⟩ := hown.form
          obtain ⟨r, hr0⟩ : ∃ r, r = moreN x m n L.length := ⟨_, rfl⟩
          rw [← hr0] at HPS
          have hr1 : r ≤ q := by rw [hr0, HM.out]; omega
          have hr2 : r ≤ n - L.length := by rw [hr0, HM.out]; omega
          have hr3 : r = q ∨ r = n - L.length := by rw [hr0, HM.out]; omega
          clear hr0 HM
          have hz : w.heap.size ≤ wr.heap.size := hbw.size
          have hwn : IntKind.i64.wrap ((n : Int) - (L.length : Int)) = (n : Int) - (L.length : Int) := IntWalk.i64_in _ (by omega)
          have hLl : L.length ≤ 1000 := by omega
          obtain ⟨l2, hl2⟩ : ∃ l2, l2 = L.length := ⟨_, rfl⟩
          rw [← hl2] at hPL hr2 hr3 hwn hown ⊢
          have HL2 := Lib.hid hl2
          clear hl2
          have hl3 : l2 ≤ 1000 := by omega
          have TAIL : Hid (∀ (w3 : World) (v3 : Value) (g3 : Nat) (zs : List Int), zs = List.replicate r (k : Int) → True) := Lib.hid fun _ _ _ _ _ => trivial
          clear TAIL
          have hB2 : Below w.heap.size w (wr.alloc (.cells #[.int .i64 (k : Int)] 3)) := hbw.alloc hz _
          have hrk : Rd (wr.alloc (.cells #[.int .i64 (k : Int)] 3)) (wr.heap.size + 1) (some ⟨wr.heap.size, 0, none⟩) 1 [(k : Int)] := ⟨by simp, fun j hj => ⟨wr.heap.size, 0, rfl, by omega, by
            have : j = 0 := by simp at hj; exact hj
            subst this
            exact (Blk.new' rfl).cell 0⟩⟩
          have HREP : Hid (Calls Try.prog 52 #[.slice (some ⟨wr.heap.size, 0, none⟩) 1 1, .int .i64 (r : Int)] (wr.alloc (.cells #[.int .i64 (k : Int)] 3)) fun e w' => ∃ g, e = .returned (.slice (some ⟨g, 0, none⟩) r r) ∧ (wr.alloc (.cells #[.int .i64 (k : Int)] 3)).heap.size ≤ g ∧ Blk w' g 3 (ints (List.replicate r (k : Int))) ∧ Below (wr.alloc (.cells #[.int .i64 (k : Int)] 3)).heap.size (wr.alloc (.cells #[.int .i64 (k : Int)] 3)) w') := by
            apply Lib.hid
            by_cases h0 : r = 0
            · subst h0
              exact repeat_zero _ _ _ _ _ hrk (by simp)
            · exact repeat_any _ _ r _ _ _ hrk (by simp) (by omega) (by omega)
          have HO2 := Lib.hid (hown.alloc (.cells #[.int .i64 (k : Int)] 3))
          have HB2 := Lib.hid hB2
          have hrn : ((r : Nat) : Int) ≤ 100 := by omega
          clear hB2 hrk hown hbw
          have FIN : Hid (∀ (w3 : World) (g : Nat) (v' : Value) (w4 : World), Below (wr.heap.size + 1) (wr.alloc (.cells #[.int .i64 (k : Int)] 3)) w3 → OwnI w4 w.heap.size v' (L ++ List.replicate r (k : Int)) → Below w.heap.size w3 w4 → OwnI w4 w.heap.size v' (planL xs m n (k + 1)) ∧ Below w.heap.size w w4) := Lib.hid fun w3 g v' w4 h3 h4 h5 => ⟨by rw [HPS.out]; exact h4, (HB2.out.trans (h3.mono (by omega))).trans h5⟩
          by_cases hc : ((n : Int) - l2) < (q : Int)
          · have hre : (r : Int) = (n : Int) - l2 := by omega
            rw [hre] at HREP
            have HRE := Lib.hid hre
            clear hre hr3
            go_wp2_with fail
            refine HREP.out.mono ?_
            rintro e w3 ⟨g, rfl, hg, hBk, hb3⟩
            have HO3 := HO2.out.below hb3 (Nat.le_refl _)
            have hz3 : w.heap.size ≤ w3.heap.size := by have := hb3.size; simp at this; omega
            have hr3' : Rd w3 w3.heap.size (some ⟨g, 0, none⟩) r (List.replicate r (k : Int)) := by
              have := hBk.rd (B := w3.heap.size) (c := r) hBk.lt (by simp)
              exact this
            have H3 := Lib.hid hb3
            simp only [World.size_alloc] at hb3
            have H4 := Lib.hid hb3
            clear hb3 hBk
            go_wp2_with (at_builtin; refine wpList_append_rd' _ rfl _ _ rfl w.heap.size w3.heap.size _ L (List.replicate r (k : Int)) rfl HO3 (some ⟨g, 0, none⟩) r r rfl (by simp) hr3' (by simp; omega) hz3 ?_; intro v4 w4 hown4 hb4)
            obtain ⟨F1, F2⟩ := FIN.out w3 g v4 w4 H4.out hown4 hb4
            go_roundw
            case rel => exact ⟨k + 1, by omega, by go_num, F1, F2⟩
            case measure => simp [intOf]; omega
          · obtain rfl : r = q := by omega
            clear hr3
            go_wp2_with fail
            refine HREP.out.mono ?_
            rintro e w3 ⟨g, rfl, hg, hBk, hb3⟩
            have HO3 := HO2.out.below hb3 (Nat.le_refl _)
            have hz3 : w.heap.size ≤ w3.heap.size := by have := hb3.size; simp at this; omega
            have hr3' : Rd w3 w3.heap.size (some ⟨g, 0, none⟩) r (List.replicate r (k : Int)) := by
              have := hBk.rd (B := w3.heap.size) (c := r) hBk.lt (by simp)
              exact this
            have H3 := Lib.hid hb3
            simp only [World.size_alloc] at hb3
            have H4 := Lib.hid hb3
            clear hb3 hBk
            go_wp2_with (at_builtin; refine wpList_append_rd' _ rfl _ _ rfl w.heap.size w3.heap.size _ L (List.replicate r (k : Int)) rfl HO3 (some ⟨g, 0, none⟩) r r rfl (by simp) hr3' (by simp; omega) hz3 ?_; intro v4 w4 hown4 hb4)
            obtain ⟨F1, F2⟩ := FIN.out w3 g v4 w4 H4.out hown4 hb4
            go_roundw
            case rel => exact ⟨k + 1, by omega, by go_num, F1, F2⟩
            case measure => simp [intOf]; omega
        · obtain rfl : k = xs.length := by omega
          go_wp2_with fail
          go_ret2
          exact ⟨_, rfl, by rw [HR.out]; exact hown, hbw⟩
    · have hlt0 : sm < s := by omega
      rw [show covB xs s m = false by rw [HC.out, decide_eq_false (by omega)], orL_no]
      go_enter Try.func25, Try.ntmps25
      go_wp2_with fail
      refine (canCover_any _ _ _ _ _ _ _ hr hn).mono ?_
      rintro e w' ⟨rfl, rfl⟩
      rw [G.out]
      go_wp2_with fail
      refine HS.out.mono ?_
      rintro e w1 ⟨rfl, hb1⟩
      go_wp2_with fail
      go_ret2
      exact ⟨_, rfl, OwnI.nil _ _, hb1⟩


end Go.Proofs.Ytcidehjamkebiaa
