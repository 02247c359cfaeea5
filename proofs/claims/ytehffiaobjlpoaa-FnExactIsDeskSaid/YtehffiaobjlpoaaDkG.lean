/- Contracts: what is a desk, on both sides. -/
import Derived.Test.YtehffiaobjlpoaaDkB
import Derived.Test.YtehffiaobjlpoaaPzK
import Derived.IntWalk
namespace Go.Proofs.Ytehffiaobjlpoaa
open Go.RowKit
set_option maxRecDepth 100000

/-- all numbers of a list are within bounds -/
def allB (lo hi : Int) : List Int → Bool
  | [] => true
  | x :: r => inB x lo hi && allB lo hi r
theorem allB_go (lo hi : Int) (xs : List Int) (k : Nat) (h : k < xs.length) : allB lo hi (xs.drop k) = (inB (xs.getD k 0) lo hi && allB lo hi (xs.drop (k + 1))) := by
  rw [drop_at xs k h]; rfl
theorem allB_end (lo hi : Int) (xs : List Int) (k : Nat) (h : ¬ k < xs.length) : allB lo hi (xs.drop k) = true := by
  rw [List.drop_eq_nil_of_le (by omega)]; rfl
theorem all_step {C L : Bool} {a : Bool} {b : Bool} (H : C = a) (E : a = (b && L)) (h : b = true) : C = L := by rw [H, E, h]; rfl
theorem all_no {C L : Bool} {a : Bool} {b : Bool} (H : C = a) (E : a = (b && L)) (h : b = false) : false = C := by rw [H, E, h]; rfl
theorem allB_at {lo hi : Int} : ∀ {xs : List Int} {k : Nat}, allB lo hi xs = true → k < xs.length → lo ≤ xs.getD k 0 ∧ xs.getD k 0 ≤ hi
  | [], k, _, hk => absurd hk (by simp)
  | x :: r, 0, h, _ => by
    simp only [allB, Bool.and_eq_true] at h
    exact inB_le h.1
  | x :: r, k + 1, h, hk => by
    simp only [allB, Bool.and_eq_true] at h
    simpa using allB_at h.2 (by simpa using hk)

set_option maxHeartbeats 400000 in
theorem l1All_any (A : Option Addr) (c : Nat) (xs : List Int) (lo hi : Int) (B : Nat) (w : World) (hr : Rd w B A c xs) (hn : xs.length ≤ 1048576) :
    Calls Try.prog 81 #[.slice A xs.length c, .int .i64 lo, .int .i64 hi] w fun e w' => e = .returned (.bool (allB lo hi xs)) ∧ w = w' := by
  go_enter Try.func81, Try.ntmps81
  go_wp2
  go_loop [11] (fun i => ∃ (k : Nat), k ≤ xs.length ∧ i = .int .i64 k ∧ Hid (allB lo hi xs = allB lo hi (xs.drop k))) (fun i => xs.length - (intOf i).toNat)
  case atStart => exact ⟨0, Nat.zero_le _, rfl, by simp [Hid]⟩
  case round =>
    obtain ⟨k, hk, rfl, H⟩ := hrel
    by_cases hlt : k < xs.length
    · obtain ⟨b, o, rfl, hb, hcell⟩ := hr.at_ hlt
      have E := Lib.hid (allB_go lo hi xs k hlt)
      generalize xs.getD k 0 = x at *
      cases h1 : inB x lo hi
      · have H1 := Lib.hid h1
        go_wp2_with (go_at_call 55; refine (l1In_any _ _ _ _).mono ?_; rintro e w' ⟨rfl, rfl⟩)
        go_ret
        exact ⟨ret_bool (all_no H.out E.out H1.out), rfl⟩
      · have H1 := Lib.hid h1
        go_wp2_with (go_at_call 55; refine (l1In_any _ _ _ _).mono ?_; rintro e w' ⟨rfl, rfl⟩)
        go_round
        case rel => exact ⟨k + 1, by omega, by go_num, all_step H.out E.out H1.out⟩
        case measure => simp [intOf]; omega
    · go_wp2
      go_ret
      exact ⟨ret_bool (by rw [H.out, allB_end _ _ _ _ hlt]), rfl⟩

set_option maxHeartbeats 400000 in
theorem allWithin_any (A : Option Addr) (c : Nat) (xs : List Int) (lo hi : Int) (B : Nat) (w : World) (hr : Rd w B A c xs) (hn : xs.length ≤ 1048576) :
    Calls Try.prog 71 #[.slice A xs.length c, .int .i64 lo, .int .i64 hi] w fun e w' => e = .returned (.bool (allB lo hi xs)) ∧ w = w' := by
  go_enter Try.func71, Try.ntmps71
  go_wp2
  go_loop [11] (fun i => ∃ (k : Nat), k ≤ xs.length ∧ i = .int .i64 k ∧ Hid (allB lo hi xs = allB lo hi (xs.drop k))) (fun i => xs.length - (intOf i).toNat)
  case atStart => exact ⟨0, Nat.zero_le _, rfl, by simp [Hid]⟩
  case round =>
    obtain ⟨k, hk, rfl, H⟩ := hrel
    by_cases hlt : k < xs.length
    · obtain ⟨b, o, rfl, hb, hcell⟩ := hr.at_ hlt
      have E := Lib.hid (allB_go lo hi xs k hlt)
      generalize xs.getD k 0 = x at *
      cases h1 : inB x lo hi
      · have H1 := Lib.hid h1
        go_wp2_with (go_at_call 59; refine (isWithin_any _ _ _ _).mono ?_; rintro e w' ⟨rfl, rfl⟩)
        go_ret
        exact ⟨ret_bool (all_no H.out E.out H1.out), rfl⟩
      · have H1 := Lib.hid h1
        go_wp2_with (go_at_call 59; refine (isWithin_any _ _ _ _).mono ?_; rintro e w' ⟨rfl, rfl⟩)
        go_round
        case rel => exact ⟨k + 1, by omega, by go_num, all_step H.out E.out H1.out⟩
        case measure => simp [intOf]; omega
    · go_wp2
      go_ret
      exact ⟨ret_bool (by rw [H.out, allB_end _ _ _ _ hlt]), rfl⟩


def movB (x y : Int) : Bool := inB x 1 500 && inB y 0 20
theorem movB_le {x y : Int} (h : movB x y = true) : 1 ≤ x ∧ x ≤ 500 ∧ 0 ≤ y ∧ y ≤ 20 := by
  simp only [movB, Bool.and_eq_true] at h
  have h1 := inB_le h.1
  have h2 := inB_le h.2
  omega

set_option maxHeartbeats 400000 in
theorem moGood_any (x y : Int) (w : World) :
    Calls Try.prog 64 #[.agg #[.int .i64 x, .int .i64 y]] w fun e w' => e = .returned (.bool (movB x y)) ∧ Below w.heap.size w w' := by
  cases h1 : inB x 1 500
  · rw [show movB x y = false by simp [movB, h1]]
    have H := Lib.hid h1
    clear h1
    go_enter Try.func64, Try.ntmps64
    go_wp2_with fail
    refine (l1In_any _ _ _ _).mono ?_
    rintro e w' ⟨rfl, rfl⟩
    rw [H.out]
    go_wp2_with fail
    go_ret
    exact ⟨rfl, below_alloc _ _⟩
  · rw [show movB x y = inB y 0 20 by simp [movB, h1]]
    have H := Lib.hid h1
    clear h1
    go_enter Try.func64, Try.ntmps64
    go_wp2_with fail
    refine (l1In_any _ _ _ _).mono ?_
    rintro e w' ⟨rfl, rfl⟩
    rw [H.out]
    go_wp2_with fail
    refine (l1In_any _ _ _ _).mono ?_
    rintro e w' ⟨rfl, rfl⟩
    go_wp2_with fail
    go_ret
    exact ⟨rfl, below_alloc _ _⟩

set_option maxHeartbeats 400000 in
theorem impMov_any (x y : Int) (w : World) :
    Calls Try.prog 42 #[.agg #[.int .i64 x, .int .i64 y]] w fun e w' => e = .returned (.bool (movB x y)) ∧ Below w.heap.size w w' := by
  cases h1 : inB x 1 500
  · rw [show movB x y = false by simp [movB, h1]]
    have H := Lib.hid h1
    clear h1
    go_enter Try.func42, Try.ntmps42
    go_wp2_with fail
    refine (isWithin_any _ _ _ _).mono ?_
    rintro e w' ⟨rfl, rfl⟩
    rw [H.out]
    go_wp2_with fail
    go_ret
    exact ⟨rfl, below_alloc _ _⟩
  · rw [show movB x y = inB y 0 20 by simp [movB, h1]]
    have H := Lib.hid h1
    clear h1
    go_enter Try.func42, Try.ntmps42
    go_wp2_with fail
    refine (isWithin_any _ _ _ _).mono ?_
    rintro e w' ⟨rfl, rfl⟩
    rw [H.out]
    go_wp2_with fail
    refine (isWithin_any _ _ _ _).mono ?_
    rintro e w' ⟨rfl, rfl⟩
    go_wp2_with fail
    go_ret
    exact ⟨rfl, below_alloc _ _⟩

def fliB (a b c : Int) : Bool := inB a 1 100 && (inB b 1 250 && inB c 1 500)
theorem fliB_le {a b c : Int} (h : fliB a b c = true) : 1 ≤ a ∧ a ≤ 100 ∧ 1 ≤ b ∧ b ≤ 250 ∧ 1 ≤ c ∧ c ≤ 500 := by
  simp only [fliB, Bool.and_eq_true] at h
  have h1 := inB_le h.1
  have h2 := inB_le h.2.1
  have h3 := inB_le h.2.2
  omega

set_option maxHeartbeats 400000 in
theorem isRisers_any (n : Int) (w : World) :
    Calls Try.prog 68 #[.int .i64 n] w fun e w' => e = .returned (.bool (inB n 1 100)) ∧ w = w' := by
  go_enter Try.func68, Try.ntmps68
  go_wp2_with fail
  refine (isWithin_any _ _ _ _).mono ?_
  rintro e w' ⟨rfl, rfl⟩
  go_wp2_with fail
  go_ret
  exact ⟨rfl, rfl⟩

set_option maxHeartbeats 400000 in
theorem isRise_any (n : Int) (w : World) :
    Calls Try.prog 69 #[.int .i64 n] w fun e w' => e = .returned (.bool (inB n 1 250)) ∧ w = w' := by
  go_enter Try.func69, Try.ntmps69
  go_wp2_with fail
  refine (isWithin_any _ _ _ _).mono ?_
  rintro e w' ⟨rfl, rfl⟩
  go_wp2_with fail
  go_ret
  exact ⟨rfl, rfl⟩

set_option maxHeartbeats 400000 in
theorem isTread_any (n : Int) (w : World) :
    Calls Try.prog 70 #[.int .i64 n] w fun e w' => e = .returned (.bool (inB n 1 500)) ∧ w = w' := by
  go_enter Try.func70, Try.ntmps70
  go_wp2_with fail
  refine (isWithin_any _ _ _ _).mono ?_
  rintro e w' ⟨rfl, rfl⟩
  go_wp2_with fail
  go_ret
  exact ⟨rfl, rfl⟩

set_option maxHeartbeats 400000 in
theorem riGood_any (a b c : Int) (w : World) :
    Calls Try.prog 65 #[.agg #[.int .i64 a, .int .i64 b, .int .i64 c]] w fun e w' => e = .returned (.bool (fliB a b c)) ∧ Below w.heap.size w w' := by
  cases g0 : inB a 1 100
  · have hV : fliB a b c = false := by simp [fliB, g0]
    rw [hV]
    clear hV
    have H0 := Lib.hid g0
    clear g0
    go_enter Try.func65, Try.ntmps65
    go_wp2_with fail
    refine (l1In_any _ _ _ _).mono ?_
    rintro e w' ⟨rfl, rfl⟩
    rw [H0.out]
    go_wp2_with fail
    go_ret
    exact ⟨rfl, (Below.refl _ _).alloc (Nat.le_refl _) _⟩
  · cases g1 : inB b 1 250
    · have hV : fliB a b c = false := by simp [fliB, g1]
      rw [hV]
      clear hV
      have H0 := Lib.hid g0
      clear g0
      have H1 := Lib.hid g1
      clear g1
      go_enter Try.func65, Try.ntmps65
      go_wp2_with fail
      refine (l1In_any _ _ _ _).mono ?_
      rintro e w' ⟨rfl, rfl⟩
      rw [H0.out]
      go_wp2_with fail
      refine (l1In_any _ _ _ _).mono ?_
      rintro e w' ⟨rfl, rfl⟩
      rw [H1.out]
      go_wp2_with fail
      go_ret
      exact ⟨rfl, (Below.refl _ _).alloc (Nat.le_refl _) _⟩
    · cases g2 : inB c 1 500
      · have hV : fliB a b c = false := by simp [fliB, g2]
        rw [hV]
        clear hV
        have H0 := Lib.hid g0
        clear g0
        have H1 := Lib.hid g1
        clear g1
        have H2 := Lib.hid g2
        clear g2
        go_enter Try.func65, Try.ntmps65
        go_wp2_with fail
        refine (l1In_any _ _ _ _).mono ?_
        rintro e w' ⟨rfl, rfl⟩
        rw [H0.out]
        go_wp2_with fail
        refine (l1In_any _ _ _ _).mono ?_
        rintro e w' ⟨rfl, rfl⟩
        rw [H1.out]
        go_wp2_with fail
        refine (l1In_any _ _ _ _).mono ?_
        rintro e w' ⟨rfl, rfl⟩
        rw [H2.out]
        go_wp2_with fail
        go_ret
        exact ⟨rfl, (Below.refl _ _).alloc (Nat.le_refl _) _⟩
      · rw [show fliB a b c = true by simp [fliB, g0, g1, g2]]
        have H0 := Lib.hid g0
        clear g0
        have H1 := Lib.hid g1
        clear g1
        have H2 := Lib.hid g2
        clear g2
        go_enter Try.func65, Try.ntmps65
        go_wp2_with fail
        refine (l1In_any _ _ _ _).mono ?_
        rintro e w' ⟨rfl, rfl⟩
        rw [H0.out]
        go_wp2_with fail
        refine (l1In_any _ _ _ _).mono ?_
        rintro e w' ⟨rfl, rfl⟩
        rw [H1.out]
        go_wp2_with fail
        refine (l1In_any _ _ _ _).mono ?_
        rintro e w' ⟨rfl, rfl⟩
        rw [H2.out]
        go_wp2_with fail
        go_ret
        exact ⟨rfl, (Below.refl _ _).alloc (Nat.le_refl _) _⟩

set_option maxHeartbeats 400000 in
theorem impFlight_any (a b c : Int) (w : World) :
    Calls Try.prog 43 #[.agg #[.int .i64 a, .int .i64 b, .int .i64 c]] w fun e w' => e = .returned (.bool (fliB a b c)) ∧ Below w.heap.size w w' := by
  cases g0 : inB a 1 100
  · have hV : fliB a b c = false := by simp [fliB, g0]
    rw [hV]
    clear hV
    have H0 := Lib.hid g0
    clear g0
    go_enter Try.func43, Try.ntmps43
    go_wp2_with fail
    refine (isRisers_any _ _).mono ?_
    rintro e w' ⟨rfl, rfl⟩
    rw [H0.out]
    go_wp2_with fail
    go_ret
    exact ⟨rfl, (Below.refl _ _).alloc (Nat.le_refl _) _⟩
  · cases g1 : inB b 1 250
    · have hV : fliB a b c = false := by simp [fliB, g1]
      rw [hV]
      clear hV
      have H0 := Lib.hid g0
      clear g0
      have H1 := Lib.hid g1
      clear g1
      go_enter Try.func43, Try.ntmps43
      go_wp2_with fail
      refine (isRisers_any _ _).mono ?_
      rintro e w' ⟨rfl, rfl⟩
      rw [H0.out]
      go_wp2_with fail
      refine (isRise_any _ _).mono ?_
      rintro e w' ⟨rfl, rfl⟩
      rw [H1.out]
      go_wp2_with fail
      go_ret
      exact ⟨rfl, (Below.refl _ _).alloc (Nat.le_refl _) _⟩
    · cases g2 : inB c 1 500
      · have hV : fliB a b c = false := by simp [fliB, g2]
        rw [hV]
        clear hV
        have H0 := Lib.hid g0
        clear g0
        have H1 := Lib.hid g1
        clear g1
        have H2 := Lib.hid g2
        clear g2
        go_enter Try.func43, Try.ntmps43
        go_wp2_with fail
        refine (isRisers_any _ _).mono ?_
        rintro e w' ⟨rfl, rfl⟩
        rw [H0.out]
        go_wp2_with fail
        refine (isRise_any _ _).mono ?_
        rintro e w' ⟨rfl, rfl⟩
        rw [H1.out]
        go_wp2_with fail
        refine (isTread_any _ _).mono ?_
        rintro e w' ⟨rfl, rfl⟩
        rw [H2.out]
        go_wp2_with fail
        go_ret
        exact ⟨rfl, (Below.refl _ _).alloc (Nat.le_refl _) _⟩
      · rw [show fliB a b c = true by simp [fliB, g0, g1, g2]]
        have H0 := Lib.hid g0
        clear g0
        have H1 := Lib.hid g1
        clear g1
        have H2 := Lib.hid g2
        clear g2
        go_enter Try.func43, Try.ntmps43
        go_wp2_with fail
        refine (isRisers_any _ _).mono ?_
        rintro e w' ⟨rfl, rfl⟩
        rw [H0.out]
        go_wp2_with fail
        refine (isRise_any _ _).mono ?_
        rintro e w' ⟨rfl, rfl⟩
        rw [H1.out]
        go_wp2_with fail
        refine (isTread_any _ _).mono ?_
        rintro e w' ⟨rfl, rfl⟩
        rw [H2.out]
        go_wp2_with fail
        go_ret
        exact ⟨rfl, (Below.refl _ _).alloc (Nat.le_refl _) _⟩

/-- these are jumps -/
def jumpsB (xs : List Int) : Bool := inB xs.length 1 30 && allB (-30) 30 xs
theorem jumpsB_no {xs : List Int} (h : inB xs.length 1 30 = false) : jumpsB xs = false := by simp [jumpsB, h]
theorem jumpsB_yes {xs : List Int} (h : inB xs.length 1 30 = true) : jumpsB xs = allB (-30) 30 xs := by simp [jumpsB, h]

set_option maxHeartbeats 400000 in
theorem baGood_any (A : Option Addr) (c : Nat) (xs : List Int) (B : Nat) (w : World) (hr : Rd w B A c xs) (hn : xs.length ≤ 1048576) :
    Calls Try.prog 66 #[.slice A xs.length c] w fun e w' => e = .returned (.bool (jumpsB xs)) ∧ w = w' := by
  cases h : inB xs.length 1 30
  · rw [jumpsB_no h]
    go_enter Try.func66, Try.ntmps66
    go_wp2_with fail
    refine (l1In_any _ _ _ _).mono ?_
    rintro e w' ⟨rfl, rfl⟩
    rw [h]
    clear h
    go_wp2_with fail
    go_ret
    exact ⟨rfl, rfl⟩
  · rw [jumpsB_yes h]
    go_enter Try.func66, Try.ntmps66
    go_wp2_with fail
    refine (l1In_any _ _ _ _).mono ?_
    rintro e w' ⟨rfl, rfl⟩
    rw [h]
    clear h
    go_wp2_with fail
    refine (l1All_any _ _ _ _ _ _ _ hr hn).mono ?_
    rintro e w' ⟨rfl, rfl⟩
    go_wp2_with fail
    go_ret
    exact ⟨rfl, rfl⟩

set_option maxHeartbeats 400000 in
theorem impJumps_any (A : Option Addr) (c : Nat) (xs : List Int) (B : Nat) (w : World) (hr : Rd w B A c xs) (hn : xs.length ≤ 1048576) :
    Calls Try.prog 44 #[.slice A xs.length c] w fun e w' => e = .returned (.bool (jumpsB xs)) ∧ w = w' := by
  cases h : inB xs.length 1 30
  · rw [jumpsB_no h]
    go_enter Try.func44, Try.ntmps44
    go_wp2_with fail
    refine (isWithin_any _ _ _ _).mono ?_
    rintro e w' ⟨rfl, rfl⟩
    rw [h]
    clear h
    go_wp2_with fail
    go_ret
    exact ⟨rfl, rfl⟩
  · rw [jumpsB_yes h]
    go_enter Try.func44, Try.ntmps44
    go_wp2_with fail
    refine (isWithin_any _ _ _ _).mono ?_
    rintro e w' ⟨rfl, rfl⟩
    rw [h]
    clear h
    go_wp2_with fail
    refine (allWithin_any _ _ _ _ _ _ _ hr hn).mono ?_
    rintro e w' ⟨rfl, rfl⟩
    go_wp2_with fail
    go_ret
    exact ⟨rfl, rfl⟩

def deskB (st : Int) (ss bs : List Int) (x y r s t : Int) (js : List Int) : Bool := goodB st ss bs && (movB x y && (fliB r s t && jumpsB js))

set_option maxHeartbeats 1000000 in
theorem coGood_any (st x y r s t : Int) (A A' A'' : Option Addr) (c c' c'' : Nat) (ss bs js : List Int) (B : Nat) (w : World) (S : St w B st A A' c c' ss bs) (R : Rd w B A'' c'' js) (hB : B ≤ w.heap.size) (hn : js.length ≤ 1048576) :
    Calls Try.prog 37 #[dkv st (.slice A ss.length c) (.slice A' bs.length c') x y r s t (.slice A'' js.length c'')] w fun e w' => e = .returned (.bool (deskB st ss bs x y r s t js)) ∧ Below w.heap.size w w' := by
  have X0 : Blk (w.alloc (.cells (dkc st (.slice A ss.length c) (.slice A' bs.length c') x y r s t (.slice A'' js.length c'')) 30)) w.heap.size 30 (dkc st (.slice A ss.length c) (.slice A' bs.length c') x y r s t (.slice A'' js.length c'')) := Blk.new _ _ _
  have b0 : Below w.heap.size w (w.alloc (.cells (dkc st (.slice A ss.length c) (.slice A' bs.length c') x y r s t (.slice A'' js.length c'')) 30)) := below_alloc _ _
  have S0 := S.below b0 hB
  have R0 := R.below b0 hB
  have z0 : B ≤ (w.alloc (.cells (dkc st (.slice A ss.length c) (.slice A' bs.length c') x y r s t (.slice A'' js.length c'')) 30)).heap.size := Nat.le_trans hB b0.size
  clear S R
  cases h0 : goodB st ss bs
  · have H0 := Lib.hid h0
    clear h0
    have EV := Lib.hid (show false = deskB st ss bs x y r s t js by simp [deskB, H0.out])
    go_enter Try.func37, Try.ntmps37
    go_wp2_with fail
    generalize (w.alloc (.cells (dkc st (.slice A ss.length c) (.slice A' bs.length c') x y r s t (.slice A'' js.length c'')) 30)) = u at *
    refine (clGood_any st A A' c c' ss bs B _ S0 z0).mono ?_
    rintro e w1 ⟨rfl, hb⟩
    rw [H0.out]
    replace X0 := X0.below hb X0.lt
    replace R0 := R0.below hb z0
    replace b0 := b0.trans (hb.mono b0.size)
    replace z0 := Nat.le_trans z0 hb.size
    clear hb
    go_wp2_with fail
    go_ret
    exact ⟨ret_bool EV.out, b0⟩
  · have H0 := Lib.hid h0
    clear h0
    cases h1 : movB x y
    · have H1 := Lib.hid h1
      clear h1
      have EV := Lib.hid (show false = deskB st ss bs x y r s t js by simp [deskB, H0.out, H1.out])
      go_enter Try.func37, Try.ntmps37
      go_wp2_with fail
      generalize (w.alloc (.cells (dkc st (.slice A ss.length c) (.slice A' bs.length c') x y r s t (.slice A'' js.length c'')) 30)) = u at *
      refine (clGood_any st A A' c c' ss bs B _ S0 z0).mono ?_
      rintro e w1 ⟨rfl, hb⟩
      rw [H0.out]
      replace X0 := X0.below hb X0.lt
      replace R0 := R0.below hb z0
      replace b0 := b0.trans (hb.mono b0.size)
      replace z0 := Nat.le_trans z0 hb.size
      clear hb
      obtain ⟨p0, p1, p2, p3, p4, p5, p6, p7, p8⟩ := X0.nine
      have lX0 := X0.lt
      go_wp2_with fail
      refine (moGood_any x y _).mono ?_
      rintro e w2 ⟨rfl, hb⟩
      rw [H1.out]
      replace X0 := X0.below hb X0.lt
      replace R0 := R0.below hb z0
      replace b0 := b0.trans (hb.mono b0.size)
      replace z0 := Nat.le_trans z0 hb.size
      clear hb
      clear p0 p1 p2 p3 p4 p5 p6 p7 p8 lX0
      go_wp2_with fail
      go_ret
      exact ⟨ret_bool EV.out, b0⟩
    · have H1 := Lib.hid h1
      clear h1
      cases h2 : fliB r s t
      · have H2 := Lib.hid h2
        clear h2
        have EV := Lib.hid (show false = deskB st ss bs x y r s t js by simp [deskB, H0.out, H1.out, H2.out])
        go_enter Try.func37, Try.ntmps37
        go_wp2_with fail
        generalize (w.alloc (.cells (dkc st (.slice A ss.length c) (.slice A' bs.length c') x y r s t (.slice A'' js.length c'')) 30)) = u at *
        refine (clGood_any st A A' c c' ss bs B _ S0 z0).mono ?_
        rintro e w1 ⟨rfl, hb⟩
        rw [H0.out]
        replace X0 := X0.below hb X0.lt
        replace R0 := R0.below hb z0
        replace b0 := b0.trans (hb.mono b0.size)
        replace z0 := Nat.le_trans z0 hb.size
        clear hb
        obtain ⟨p0, p1, p2, p3, p4, p5, p6, p7, p8⟩ := X0.nine
        have lX0 := X0.lt
        go_wp2_with fail
        refine (moGood_any x y _).mono ?_
        rintro e w2 ⟨rfl, hb⟩
        rw [H1.out]
        replace X0 := X0.below hb X0.lt
        replace R0 := R0.below hb z0
        replace b0 := b0.trans (hb.mono b0.size)
        replace z0 := Nat.le_trans z0 hb.size
        clear hb
        clear p0 p1 p2 p3 p4 p5 p6 p7 p8 lX0
        obtain ⟨p0, p1, p2, p3, p4, p5, p6, p7, p8⟩ := X0.nine
        have lX0 := X0.lt
        go_wp2_with fail
        refine (riGood_any r s t _).mono ?_
        rintro e w3 ⟨rfl, hb⟩
        rw [H2.out]
        replace X0 := X0.below hb X0.lt
        replace R0 := R0.below hb z0
        replace b0 := b0.trans (hb.mono b0.size)
        replace z0 := Nat.le_trans z0 hb.size
        clear hb
        clear p0 p1 p2 p3 p4 p5 p6 p7 p8 lX0
        go_wp2_with fail
        go_ret
        exact ⟨ret_bool EV.out, b0⟩
      · have H2 := Lib.hid h2
        clear h2
        cases h3 : jumpsB js
        · have H3 := Lib.hid h3
          clear h3
          have EV := Lib.hid (show false = deskB st ss bs x y r s t js by simp [deskB, H0.out, H1.out, H2.out, H3.out])
          go_enter Try.func37, Try.ntmps37
          go_wp2_with fail
          generalize (w.alloc (.cells (dkc st (.slice A ss.length c) (.slice A' bs.length c') x y r s t (.slice A'' js.length c'')) 30)) = u at *
          refine (clGood_any st A A' c c' ss bs B _ S0 z0).mono ?_
          rintro e w1 ⟨rfl, hb⟩
          rw [H0.out]
          replace X0 := X0.below hb X0.lt
          replace R0 := R0.below hb z0
          replace b0 := b0.trans (hb.mono b0.size)
          replace z0 := Nat.le_trans z0 hb.size
          clear hb
          obtain ⟨p0, p1, p2, p3, p4, p5, p6, p7, p8⟩ := X0.nine
          have lX0 := X0.lt
          go_wp2_with fail
          refine (moGood_any x y _).mono ?_
          rintro e w2 ⟨rfl, hb⟩
          rw [H1.out]
          replace X0 := X0.below hb X0.lt
          replace R0 := R0.below hb z0
          replace b0 := b0.trans (hb.mono b0.size)
          replace z0 := Nat.le_trans z0 hb.size
          clear hb
          clear p0 p1 p2 p3 p4 p5 p6 p7 p8 lX0
          obtain ⟨p0, p1, p2, p3, p4, p5, p6, p7, p8⟩ := X0.nine
          have lX0 := X0.lt
          go_wp2_with fail
          refine (riGood_any r s t _).mono ?_
          rintro e w3 ⟨rfl, hb⟩
          rw [H2.out]
          replace X0 := X0.below hb X0.lt
          replace R0 := R0.below hb z0
          replace b0 := b0.trans (hb.mono b0.size)
          replace z0 := Nat.le_trans z0 hb.size
          clear hb
          clear p0 p1 p2 p3 p4 p5 p6 p7 p8 lX0
          obtain ⟨p0, p1, p2, p3, p4, p5, p6, p7, p8⟩ := X0.nine
          have lX0 := X0.lt
          go_wp2_with fail
          refine (baGood_any A'' c'' js B _ R0 hn).mono ?_
          rintro e w4 ⟨rfl, rfl⟩
          rw [H3.out]
          go_wp2_with fail
          go_ret
          exact ⟨ret_bool EV.out, b0⟩
        · have H3 := Lib.hid h3
          clear h3
          have EV := Lib.hid (show true = deskB st ss bs x y r s t js by simp [deskB, H0.out, H1.out, H2.out, H3.out])
          go_enter Try.func37, Try.ntmps37
          go_wp2_with fail
          generalize (w.alloc (.cells (dkc st (.slice A ss.length c) (.slice A' bs.length c') x y r s t (.slice A'' js.length c'')) 30)) = u at *
          refine (clGood_any st A A' c c' ss bs B _ S0 z0).mono ?_
          rintro e w1 ⟨rfl, hb⟩
          rw [H0.out]
          replace X0 := X0.below hb X0.lt
          replace R0 := R0.below hb z0
          replace b0 := b0.trans (hb.mono b0.size)
          replace z0 := Nat.le_trans z0 hb.size
          clear hb
          obtain ⟨p0, p1, p2, p3, p4, p5, p6, p7, p8⟩ := X0.nine
          have lX0 := X0.lt
          go_wp2_with fail
          refine (moGood_any x y _).mono ?_
          rintro e w2 ⟨rfl, hb⟩
          rw [H1.out]
          replace X0 := X0.below hb X0.lt
          replace R0 := R0.below hb z0
          replace b0 := b0.trans (hb.mono b0.size)
          replace z0 := Nat.le_trans z0 hb.size
          clear hb
          clear p0 p1 p2 p3 p4 p5 p6 p7 p8 lX0
          obtain ⟨p0, p1, p2, p3, p4, p5, p6, p7, p8⟩ := X0.nine
          have lX0 := X0.lt
          go_wp2_with fail
          refine (riGood_any r s t _).mono ?_
          rintro e w3 ⟨rfl, hb⟩
          rw [H2.out]
          replace X0 := X0.below hb X0.lt
          replace R0 := R0.below hb z0
          replace b0 := b0.trans (hb.mono b0.size)
          replace z0 := Nat.le_trans z0 hb.size
          clear hb
          clear p0 p1 p2 p3 p4 p5 p6 p7 p8 lX0
          obtain ⟨p0, p1, p2, p3, p4, p5, p6, p7, p8⟩ := X0.nine
          have lX0 := X0.lt
          go_wp2_with fail
          refine (baGood_any A'' c'' js B _ R0 hn).mono ?_
          rintro e w4 ⟨rfl, rfl⟩
          rw [H3.out]
          go_wp2_with fail
          go_ret
          exact ⟨ret_bool EV.out, b0⟩

set_option maxHeartbeats 400000 in
theorem specIsDesk_any (st x y r s t : Int) (A A' A'' : Option Addr) (c c' c'' : Nat) (ss bs js : List Int) (B : Nat) (w : World) (S : St w B st A A' c c' ss bs) (R : Rd w B A'' c'' js) (hB : B ≤ w.heap.size) (hn : js.length ≤ 1048576) :
    Calls Try.prog 13 #[dkv st (.slice A ss.length c) (.slice A' bs.length c') x y r s t (.slice A'' js.length c'')] w fun e w' => e = .returned (.bool (deskB st ss bs x y r s t js)) ∧ Below w.heap.size w w' := by
  have b0 : Below w.heap.size w (w.alloc (.cells (dkc st (.slice A ss.length c) (.slice A' bs.length c') x y r s t (.slice A'' js.length c'')) 30)) := below_alloc _ _
  have S0 := S.below b0 hB
  have R0 := R.below b0 hB
  have z0 := Nat.le_trans hB b0.size
  clear S R
  go_enter Try.func13, Try.ntmps13
  go_wp2_with fail
  refine (coGood_any st x y r s t _ _ _ _ _ _ ss bs js B _ S0 R0 z0 hn).mono ?_
  rintro e w1 ⟨rfl, hb⟩
  go_wp2_with fail
  go_ret
  exact ⟨rfl, b0.trans (hb.mono b0.size)⟩

set_option maxHeartbeats 1000000 in
theorem implIsDesk_any (st x y r s t : Int) (A A' A'' : Option Addr) (c c' c'' : Nat) (ss bs js : List Int) (B : Nat) (w : World) (S : St w B st A A' c c' ss bs) (R : Rd w B A'' c'' js) (hB : B ≤ w.heap.size) (hn : js.length ≤ 1048576) :
    Calls Try.prog 15 #[dkv st (.slice A ss.length c) (.slice A' bs.length c') x y r s t (.slice A'' js.length c'')] w fun e w' => e = .returned (.bool (deskB st ss bs x y r s t js)) ∧ Below w.heap.size w w' := by
  have X0 : Blk (w.alloc (.cells (dkc st (.slice A ss.length c) (.slice A' bs.length c') x y r s t (.slice A'' js.length c'')) 30)) w.heap.size 30 (dkc st (.slice A ss.length c) (.slice A' bs.length c') x y r s t (.slice A'' js.length c'')) := Blk.new _ _ _
  have b0 : Below w.heap.size w (w.alloc (.cells (dkc st (.slice A ss.length c) (.slice A' bs.length c') x y r s t (.slice A'' js.length c'')) 30)) := below_alloc _ _
  have S0 := S.below b0 hB
  have R0 := R.below b0 hB
  have z0 : B ≤ (w.alloc (.cells (dkc st (.slice A ss.length c) (.slice A' bs.length c') x y r s t (.slice A'' js.length c'')) 30)).heap.size := Nat.le_trans hB b0.size
  clear S R
  cases h0 : goodB st ss bs
  · have H0 := Lib.hid h0
    clear h0
    have EV := Lib.hid (show false = deskB st ss bs x y r s t js by simp [deskB, H0.out])
    go_enter Try.func15, Try.ntmps15
    go_wp2_with fail
    generalize (w.alloc (.cells (dkc st (.slice A ss.length c) (.slice A' bs.length c') x y r s t (.slice A'' js.length c'')) 30)) = u at *
    refine (implAre_any st A A' c c' ss bs B _ S0 z0).mono ?_
    rintro e w1 ⟨rfl, hb⟩
    rw [H0.out]
    replace X0 := X0.below hb X0.lt
    replace R0 := R0.below hb z0
    replace b0 := b0.trans (hb.mono b0.size)
    replace z0 := Nat.le_trans z0 hb.size
    clear hb
    go_wp2_with fail
    go_ret
    exact ⟨ret_bool EV.out, b0⟩
  · have H0 := Lib.hid h0
    clear h0
    cases h1 : movB x y
    · have H1 := Lib.hid h1
      clear h1
      have EV := Lib.hid (show false = deskB st ss bs x y r s t js by simp [deskB, H0.out, H1.out])
      go_enter Try.func15, Try.ntmps15
      go_wp2_with fail
      generalize (w.alloc (.cells (dkc st (.slice A ss.length c) (.slice A' bs.length c') x y r s t (.slice A'' js.length c'')) 30)) = u at *
      refine (implAre_any st A A' c c' ss bs B _ S0 z0).mono ?_
      rintro e w1 ⟨rfl, hb⟩
      rw [H0.out]
      replace X0 := X0.below hb X0.lt
      replace R0 := R0.below hb z0
      replace b0 := b0.trans (hb.mono b0.size)
      replace z0 := Nat.le_trans z0 hb.size
      clear hb
      obtain ⟨p0, p1, p2, p3, p4, p5, p6, p7, p8⟩ := X0.nine
      have lX0 := X0.lt
      go_wp2_with fail
      refine (impMov_any x y _).mono ?_
      rintro e w2 ⟨rfl, hb⟩
      rw [H1.out]
      replace X0 := X0.below hb X0.lt
      replace R0 := R0.below hb z0
      replace b0 := b0.trans (hb.mono b0.size)
      replace z0 := Nat.le_trans z0 hb.size
      clear hb
      clear p0 p1 p2 p3 p4 p5 p6 p7 p8 lX0
      go_wp2_with fail
      go_ret
      exact ⟨ret_bool EV.out, b0⟩
    · have H1 := Lib.hid h1
      clear h1
      cases h2 : fliB r s t
      · have H2 := Lib.hid h2
        clear h2
        have EV := Lib.hid (show false = deskB st ss bs x y r s t js by simp [deskB, H0.out, H1.out, H2.out])
        go_enter Try.func15, Try.ntmps15
        go_wp2_with fail
        generalize (w.alloc (.cells (dkc st (.slice A ss.length c) (.slice A' bs.length c') x y r s t (.slice A'' js.length c'')) 30)) = u at *
        refine (implAre_any st A A' c c' ss bs B _ S0 z0).mono ?_
        rintro e w1 ⟨rfl, hb⟩
        rw [H0.out]
        replace X0 := X0.below hb X0.lt
        replace R0 := R0.below hb z0
        replace b0 := b0.trans (hb.mono b0.size)
        replace z0 := Nat.le_trans z0 hb.size
        clear hb
        obtain ⟨p0, p1, p2, p3, p4, p5, p6, p7, p8⟩ := X0.nine
        have lX0 := X0.lt
        go_wp2_with fail
        refine (impMov_any x y _).mono ?_
        rintro e w2 ⟨rfl, hb⟩
        rw [H1.out]
        replace X0 := X0.below hb X0.lt
        replace R0 := R0.below hb z0
        replace b0 := b0.trans (hb.mono b0.size)
        replace z0 := Nat.le_trans z0 hb.size
        clear hb
        clear p0 p1 p2 p3 p4 p5 p6 p7 p8 lX0
        obtain ⟨p0, p1, p2, p3, p4, p5, p6, p7, p8⟩ := X0.nine
        have lX0 := X0.lt
        go_wp2_with fail
        refine (impFlight_any r s t _).mono ?_
        rintro e w3 ⟨rfl, hb⟩
        rw [H2.out]
        replace X0 := X0.below hb X0.lt
        replace R0 := R0.below hb z0
        replace b0 := b0.trans (hb.mono b0.size)
        replace z0 := Nat.le_trans z0 hb.size
        clear hb
        clear p0 p1 p2 p3 p4 p5 p6 p7 p8 lX0
        go_wp2_with fail
        go_ret
        exact ⟨ret_bool EV.out, b0⟩
      · have H2 := Lib.hid h2
        clear h2
        cases h3 : jumpsB js
        · have H3 := Lib.hid h3
          clear h3
          have EV := Lib.hid (show false = deskB st ss bs x y r s t js by simp [deskB, H0.out, H1.out, H2.out, H3.out])
          go_enter Try.func15, Try.ntmps15
          go_wp2_with fail
          generalize (w.alloc (.cells (dkc st (.slice A ss.length c) (.slice A' bs.length c') x y r s t (.slice A'' js.length c'')) 30)) = u at *
          refine (implAre_any st A A' c c' ss bs B _ S0 z0).mono ?_
          rintro e w1 ⟨rfl, hb⟩
          rw [H0.out]
          replace X0 := X0.below hb X0.lt
          replace R0 := R0.below hb z0
          replace b0 := b0.trans (hb.mono b0.size)
          replace z0 := Nat.le_trans z0 hb.size
          clear hb
          obtain ⟨p0, p1, p2, p3, p4, p5, p6, p7, p8⟩ := X0.nine
          have lX0 := X0.lt
          go_wp2_with fail
          refine (impMov_any x y _).mono ?_
          rintro e w2 ⟨rfl, hb⟩
          rw [H1.out]
          replace X0 := X0.below hb X0.lt
          replace R0 := R0.below hb z0
          replace b0 := b0.trans (hb.mono b0.size)
          replace z0 := Nat.le_trans z0 hb.size
          clear hb
          clear p0 p1 p2 p3 p4 p5 p6 p7 p8 lX0
          obtain ⟨p0, p1, p2, p3, p4, p5, p6, p7, p8⟩ := X0.nine
          have lX0 := X0.lt
          go_wp2_with fail
          refine (impFlight_any r s t _).mono ?_
          rintro e w3 ⟨rfl, hb⟩
          rw [H2.out]
          replace X0 := X0.below hb X0.lt
          replace R0 := R0.below hb z0
          replace b0 := b0.trans (hb.mono b0.size)
          replace z0 := Nat.le_trans z0 hb.size
          clear hb
          clear p0 p1 p2 p3 p4 p5 p6 p7 p8 lX0
          obtain ⟨p0, p1, p2, p3, p4, p5, p6, p7, p8⟩ := X0.nine
          have lX0 := X0.lt
          go_wp2_with fail
          refine (impJumps_any A'' c'' js B _ R0 hn).mono ?_
          rintro e w4 ⟨rfl, rfl⟩
          rw [H3.out]
          go_wp2_with fail
          go_ret
          exact ⟨ret_bool EV.out, b0⟩
        · have H3 := Lib.hid h3
          clear h3
          have EV := Lib.hid (show true = deskB st ss bs x y r s t js by simp [deskB, H0.out, H1.out, H2.out, H3.out])
          go_enter Try.func15, Try.ntmps15
          go_wp2_with fail
          generalize (w.alloc (.cells (dkc st (.slice A ss.length c) (.slice A' bs.length c') x y r s t (.slice A'' js.length c'')) 30)) = u at *
          refine (implAre_any st A A' c c' ss bs B _ S0 z0).mono ?_
          rintro e w1 ⟨rfl, hb⟩
          rw [H0.out]
          replace X0 := X0.below hb X0.lt
          replace R0 := R0.below hb z0
          replace b0 := b0.trans (hb.mono b0.size)
          replace z0 := Nat.le_trans z0 hb.size
          clear hb
          obtain ⟨p0, p1, p2, p3, p4, p5, p6, p7, p8⟩ := X0.nine
          have lX0 := X0.lt
          go_wp2_with fail
          refine (impMov_any x y _).mono ?_
          rintro e w2 ⟨rfl, hb⟩
          rw [H1.out]
          replace X0 := X0.below hb X0.lt
          replace R0 := R0.below hb z0
          replace b0 := b0.trans (hb.mono b0.size)
          replace z0 := Nat.le_trans z0 hb.size
          clear hb
          clear p0 p1 p2 p3 p4 p5 p6 p7 p8 lX0
          obtain ⟨p0, p1, p2, p3, p4, p5, p6, p7, p8⟩ := X0.nine
          have lX0 := X0.lt
          go_wp2_with fail
          refine (impFlight_any r s t _).mono ?_
          rintro e w3 ⟨rfl, hb⟩
          rw [H2.out]
          replace X0 := X0.below hb X0.lt
          replace R0 := R0.below hb z0
          replace b0 := b0.trans (hb.mono b0.size)
          replace z0 := Nat.le_trans z0 hb.size
          clear hb
          clear p0 p1 p2 p3 p4 p5 p6 p7 p8 lX0
          obtain ⟨p0, p1, p2, p3, p4, p5, p6, p7, p8⟩ := X0.nine
          have lX0 := X0.lt
          go_wp2_with fail
          refine (impJumps_any A'' c'' js B _ R0 hn).mono ?_
          rintro e w4 ⟨rfl, rfl⟩
          rw [H3.out]
          go_wp2_with fail
          go_ret
          exact ⟨ret_bool EV.out, b0⟩

end Go.Proofs.Ytehffiaobjlpoaa
