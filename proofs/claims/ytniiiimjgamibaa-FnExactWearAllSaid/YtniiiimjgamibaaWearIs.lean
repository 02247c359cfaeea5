/- Contracts: a list is a climb over bears, on both sides. -/
import Derived.Test.YtniiiimjgamibaaWearGood
import Derived.Test.YtniiiimjgamibaaGLeast
namespace Go.Proofs.Ytniiiimjgamibaa
open Go.RowKit


/-- bears and a reach -/
def reachB (xs : List Int) (r : Int) : Bool := bearsB xs && inB r 1 20
theorem reachB_le {xs : List Int} {r : Int} (h : reachB xs r = true) : bearsB xs = true ∧ 1 ≤ xs.length ∧ xs.length ≤ 20 ∧ 1 ≤ r ∧ r ≤ 20 := by
  simp only [reachB, Bool.and_eq_true] at h
  have h1 := inB_le h.2
  have h2 := h.1
  simp only [bearsB, Bool.and_eq_true] at h2
  have h3 := inB_le h2.1
  exact ⟨h.1, by omega, by omega, by omega, by omega⟩

set_option maxHeartbeats 400000 in
theorem weReach_any (A : Option Addr) (c : Nat) (xs : List Int) (r : Int) (B : Nat) (w : World) (hr : Rd w B A c xs) (hn : xs.length ≤ 1048576) :
    Calls Try.prog 15 #[.slice A xs.length c, .int .i64 r] w fun e w' => e = .returned (.bool (reachB xs r)) ∧ w = w' := by
  cases h : bearsB xs
  · rw [show reachB xs r = false by simp [reachB, h]]
    go_enter Try.func15, Try.ntmps15
    go_wp2_with fail
    refine (weGood_any _ _ _ _ _ hr hn).mono ?_
    rintro e w' ⟨rfl, rfl⟩
    rw [h]
    clear h
    go_wp2_with fail
    go_ret
    exact ⟨rfl, rfl⟩
  · rw [show reachB xs r = inB r 1 20 by simp [reachB, h]]
    have H := Lib.hid h
    clear h
    go_enter Try.func15, Try.ntmps15
    go_wp2_with fail
    refine (weGood_any _ _ _ _ _ hr hn).mono ?_
    rintro e w' ⟨rfl, rfl⟩
    rw [H.out]
    go_wp2_with fail
    refine (l1In_any _ _ _ _).mono ?_
    rintro e w' ⟨rfl, rfl⟩
    go_wp2_with fail
    go_ret
    exact ⟨rfl, rfl⟩

set_option maxHeartbeats 400000 in
theorem canWear_any (A : Option Addr) (c : Nat) (xs : List Int) (r : Int) (B : Nat) (w : World) (hr : Rd w B A c xs) (hn : xs.length ≤ 1048576) :
    Calls Try.prog 19 #[.slice A xs.length c, .int .i64 r] w fun e w' => e = .returned (.bool (reachB xs r)) ∧ w = w' := by
  cases h : bearsB xs
  · rw [show reachB xs r = false by simp [reachB, h]]
    go_enter Try.func19, Try.ntmps19
    go_wp2_with fail
    refine (impBears_any _ _ _ _ _ hr hn).mono ?_
    rintro e w' ⟨rfl, rfl⟩
    rw [h]
    clear h
    go_wp2_with fail
    go_ret
    exact ⟨rfl, rfl⟩
  · rw [show reachB xs r = inB r 1 20 by simp [reachB, h]]
    have H := Lib.hid h
    clear h
    by_cases h1 : 1 ≤ r
    · by_cases h2 : r ≤ 20
      · rw [inB_yes h1 h2]
        go_enter Try.func19, Try.ntmps19
        go_wp2_with fail
        refine (impBears_any _ _ _ _ _ hr hn).mono ?_
        rintro e w' ⟨rfl, rfl⟩
        rw [H.out]
        go_wp2_with fail
        go_ret
        exact ⟨rfl, rfl⟩
      · rw [inB_no (by omega)]
        go_enter Try.func19, Try.ntmps19
        go_wp2_with fail
        refine (impBears_any _ _ _ _ _ hr hn).mono ?_
        rintro e w' ⟨rfl, rfl⟩
        rw [H.out]
        go_wp2_with fail
        go_ret
        exact ⟨ret_bool (decide_eq_false (by omega)), rfl⟩
    · rw [inB_no (by omega)]
      go_enter Try.func19, Try.ntmps19
      go_wp2_with fail
      refine (impBears_any _ _ _ _ _ hr hn).mono ?_
      rintro e w' ⟨rfl, rfl⟩
      rw [H.out]
      go_wp2_with fail
      go_ret
      exact ⟨rfl, rfl⟩

/-- from step 'v' on the list leads to the top -/
def wclB (xs : List Int) (r : Int) : Int → List Int → Bool
  | v, [] => decide ((xs.length : Int) + 1 - v ≤ r)
  | v, s :: t => (inB s (v + 1) (leastI (v + r) xs.length) && !decide (xs.getD (s - 1).toNat 0 = 0)) && wclB xs r s t
theorem wclB_go (xs : List Int) (r v : Int) (cs : List Int) (k : Nat) (h : k < cs.length) :
    wclB xs r v (cs.drop k) = ((inB (cs.getD k 0) (v + 1) (leastI (v + r) xs.length) && !decide (xs.getD (cs.getD k 0 - 1).toNat 0 = 0)) && wclB xs r (cs.getD k 0) (cs.drop (k + 1))) := by
  rw [drop_at cs k h]; rfl
theorem wclB_end (xs : List Int) (r v : Int) (cs : List Int) (k : Nat) (h : ¬ k < cs.length) : wclB xs r v (cs.drop k) = decide ((xs.length : Int) + 1 - v ≤ r) := by
  rw [List.drop_eq_nil_of_le (by omega)]; rfl
theorem in_least {s v r n : Int} (h : inB s (v + 1) (leastI (v + r) n) = true) : v < s ∧ s ≤ v + r ∧ s ≤ n := by
  have := inB_le h
  unfold leastI at this
  split at this <;> omega
theorem of_least {s v r n : Int} (h1 : v < s) (h2 : s ≤ v + r) (h3 : s ≤ n) : inB s (v + 1) (leastI (v + r) n) = true := by
  refine inB_yes (by omega) ?_
  unfold leastI
  split <;> omega
theorem no_least {s v r n : Int} (h : s ≤ v ∨ v + r < s ∨ n < s) : inB s (v + 1) (leastI (v + r) n) = false := by
  refine inB_no ?_
  unfold leastI
  split <;> omega

set_option maxHeartbeats 1000000 in
theorem weIs_any (A Z : Option Addr) (c d : Nat) (xs cs : List Int) (r : Int) (B : Nat) (w : World) (hr : Rd w B A c xs) (hc : Rd w B Z d cs) (hl : xs.length ≤ 20) (hn : cs.length ≤ 1048576) (hr1 : 1 ≤ r) (hr2 : r ≤ 20) :
    Calls Try.prog 17 #[.slice A xs.length c, .int .i64 r, .slice Z cs.length d] w fun e w' => e = .returned (.bool (wclB xs r 0 cs)) ∧ w = w' := by
  go_enter Try.func17, Try.ntmps17
  go_wp2_with fail
  go_loop [7, 12] (fun a i => ∃ (k : Nat) (v : Int), k ≤ cs.length ∧ 0 ≤ v ∧ v ≤ xs.length ∧ i = .int .i64 k ∧ a = .int .i64 v ∧ Hid (wclB xs r 0 cs = wclB xs r v (cs.drop k))) (fun _ i => cs.length - (intOf i).toNat)
  case atStart => exact ⟨0, 0, Nat.zero_le _, Int.le_refl _, by omega, rfl, rfl, Lib.hid rfl⟩
  case round =>
    obtain ⟨k, v, hk, hv0, hv1, rfl, rfl, H⟩ := hrel
    by_cases hlt : k < cs.length
    · obtain ⟨b, o, rfl, hb, hcell⟩ := hc.at_ hlt
      have E := Lib.hid (wclB_go xs r v cs k hlt)
      generalize cs.getD k 0 = s at *
      cases h1 : inB s (v + 1) (leastI (v + r) xs.length)
      · have R : Hid (false = wclB xs r 0 cs) := Lib.hid (by rw [H.out, E.out, h1]; rfl)
        have H1 := Lib.hid h1
        clear h1 E H
        go_wp2_with fail
        refine (l1Least_any _ _ _).mono ?_
        rintro e w' ⟨rfl, rfl⟩
        go_wp2_with fail
        refine (l1In_any _ _ _ _).mono ?_
        rintro e w' ⟨rfl, rfl⟩
        rw [H1.out]
        go_wp2_with fail
        go_ret
        exact ⟨ret_bool R.out, rfl⟩
      · obtain ⟨g1, g2, g3⟩ := in_least h1
        obtain ⟨m, rfl⟩ : ∃ m : Nat, s = (m : Int) + 1 := ⟨(s - 1).toNat, by omega⟩
        obtain ⟨b', o', rfl, hb', hcell'⟩ := hr.at_ (k := m) (by omega)
        rw [show ((m : Int) + 1 - 1).toNat = m by omega] at E
        generalize xs.getD m 0 = f at *
        by_cases hf : f = 0
        · subst hf
          have R : Hid (false = wclB xs r 0 cs) := Lib.hid (by rw [H.out, E.out, h1]; rfl)
          have H1 := Lib.hid h1
          clear h1 E H
          go_wp2_with fail
          refine (l1Least_any _ _ _).mono ?_
          rintro e w' ⟨rfl, rfl⟩
          go_wp2_with fail
          refine (l1In_any _ _ _ _).mono ?_
          rintro e w' ⟨rfl, rfl⟩
          rw [H1.out]
          go_wp2_with fail
          go_ret
          exact ⟨ret_bool R.out, rfl⟩
        · have R : Hid (wclB xs r 0 cs = wclB xs r ((m : Int) + 1) (cs.drop (k + 1))) := Lib.hid (by rw [H.out, E.out, h1]; simp [hf])
          have H1 := Lib.hid h1
          clear h1 E H
          go_wp2_with fail
          refine (l1Least_any _ _ _).mono ?_
          rintro e w' ⟨rfl, rfl⟩
          go_wp2_with fail
          refine (l1In_any _ _ _ _).mono ?_
          rintro e w' ⟨rfl, rfl⟩
          rw [H1.out]
          go_wp2_with fail
          go_round
          case rel => exact ⟨k + 1, (m : Int) + 1, by omega, by omega, g3, by go_num, rfl, R⟩
          case measure => simp [intOf]; omega
    · have R : Hid (decide ((xs.length : Int) + 1 - v ≤ r) = wclB xs r 0 cs) := Lib.hid (by rw [H.out, wclB_end _ _ _ _ _ hlt])
      clear H
      by_cases hd : (xs.length : Int) + 1 - v ≤ r
      · rw [decide_eq_true hd] at R
        go_wp2_with fail
        go_ret
        exact ⟨ret_bool R.out, rfl⟩
      · rw [decide_eq_false hd] at R
        go_wp2_with fail
        go_ret
        exact ⟨ret_bool R.out, rfl⟩

theorem topIn_any (A : Option Addr) (c n : Nat) (r v : Int) (w : World) (_hn : n ≤ 20) (hr1 : 1 ≤ r) (hr2 : r ≤ 20) (h0 : 0 ≤ v) (h1 : v ≤ 40) :
    Calls Try.prog 25 #[.slice A n c, .int .i64 r, .int .i64 v] w fun e w' => e = .returned (.bool (decide ((n : Int) + 1 - v ≤ r))) ∧ w = w' := by
  go_enter Try.func25, Try.ntmps25
  go_wp2_with fail
  go_ret
  exact ⟨ret_bool (by rw [decide_eq_decide]; omega), rfl⟩

set_option maxHeartbeats 1000000 in
theorem leadsUp_any (A Z : Option Addr) (c d : Nat) (xs cs : List Int) (r : Int) (B : Nat) (w : World) (hr : Rd w B A c xs) (hc : Rd w B Z d cs) (hl : xs.length ≤ 20) (hn : cs.length ≤ 1048576) (hr1 : 1 ≤ r) (hr2 : r ≤ 20) :
    Calls Try.prog 20 #[.slice A xs.length c, .int .i64 r, .slice Z cs.length d] w fun e w' => e = .returned (.bool (wclB xs r 0 cs)) ∧ w = w' := by
  go_enter Try.func20, Try.ntmps20
  go_wp2_with fail
  go_loop [7, 12] (fun a i => ∃ (k : Nat) (v : Int), k ≤ cs.length ∧ 0 ≤ v ∧ v ≤ xs.length ∧ i = .int .i64 k ∧ a = .int .i64 v ∧ Hid (wclB xs r 0 cs = wclB xs r v (cs.drop k))) (fun _ i => cs.length - (intOf i).toNat)
  case atStart => exact ⟨0, 0, Nat.zero_le _, Int.le_refl _, by omega, rfl, rfl, Lib.hid rfl⟩
  case round =>
    obtain ⟨k, v, hk, hv0, hv1, rfl, rfl, H⟩ := hrel
    by_cases hlt : k < cs.length
    · obtain ⟨b, o, rfl, hb, hcell⟩ := hc.at_ hlt
      have E := Lib.hid (wclB_go xs r v cs k hlt)
      generalize cs.getD k 0 = s at *
      by_cases a1 : s ≤ v
      · have R : Hid (false = wclB xs r 0 cs) := Lib.hid (by rw [H.out, E.out, no_least (.inl a1)]; rfl)
        clear E H
        go_wp2_with fail
        go_ret
        exact ⟨ret_bool R.out, rfl⟩
      by_cases a2 : xs.length < s
      · have R : Hid (false = wclB xs r 0 cs) := Lib.hid (by rw [H.out, E.out, no_least (.inr (.inr a2))]; rfl)
        clear E H
        go_wp2_with fail
        go_ret
        exact ⟨ret_bool R.out, rfl⟩
      by_cases a3 : r < s - v
      · have R : Hid (false = wclB xs r 0 cs) := Lib.hid (by rw [H.out, E.out, no_least (.inr (.inl (by omega)))]; rfl)
        clear E H
        go_wp2_with fail
        go_ret
        exact ⟨ret_bool R.out, rfl⟩
      have h1 := of_least (s := s) (v := v) (r := r) (n := xs.length) (by omega) (by omega) (by omega)
      obtain ⟨m, rfl⟩ : ∃ m : Nat, s = (m : Int) + 1 := ⟨(s - 1).toNat, by omega⟩
      obtain ⟨b', o', rfl, hb', hcell'⟩ := hr.at_ (k := m) (by omega)
      rw [show ((m : Int) + 1 - 1).toNat = m by omega] at E
      generalize xs.getD m 0 = f at *
      by_cases hf : f = 0
      · subst hf
        have R : Hid (false = wclB xs r 0 cs) := Lib.hid (by rw [H.out, E.out, h1]; rfl)
        clear h1 E H
        go_wp2_with fail
        go_ret
        exact ⟨ret_bool R.out, rfl⟩
      · have R : Hid (wclB xs r 0 cs = wclB xs r ((m : Int) + 1) (cs.drop (k + 1))) := Lib.hid (by rw [H.out, E.out, h1]; simp [hf])
        clear h1 E H
        go_wp2_with fail
        go_round
        case rel => exact ⟨k + 1, (m : Int) + 1, by omega, by omega, by omega, by go_num, rfl, R⟩
        case measure => simp [intOf]; omega
    · have R : Hid (decide ((xs.length : Int) + 1 - v ≤ r) = wclB xs r 0 cs) := Lib.hid (by rw [H.out, wclB_end _ _ _ _ _ hlt])
      clear H
      go_wp2_with fail
      refine (topIn_any _ _ _ _ _ _ hl hr1 hr2 hv0 (by omega)).mono ?_
      rintro e w' ⟨rfl, rfl⟩
      rw [R.out]
      go_wp2_with fail
      go_ret
      exact ⟨rfl, rfl⟩


end Go.Proofs.Ytniiiimjgamibaa
