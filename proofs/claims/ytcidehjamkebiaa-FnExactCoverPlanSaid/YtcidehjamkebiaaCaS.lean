/- Contracts: carpets: steps of rolls, rests, the greatest need; both sides. -/
import Derived.Test.YtcidehjamkebiaaCaB
import Derived.Laws.EntriesVeiled
import Derived.Shelf.Abstract
namespace Go.Proofs.Ytcidehjamkebiaa
open Go.RowKit

/-- the sum of what each number gives -/
def sumM (f : Int → Int) (xs : List Int) : Int := sumH (xs.map f)
theorem sumM_take (f : Int → Int) (xs : List Int) (k : Nat) (h : k < xs.length) : sumM f (xs.take (k + 1)) = sumM f (xs.take k) + f (xs.getD k 0) := by
  rw [take_snoc xs k h]; simp [sumM, sumH_snoc]
theorem sumM_bd {f : Int → Int} {m : Int} (hm : 0 ≤ m) {xs : List Int} (hx : ∀ k, k < xs.length → 0 ≤ f (xs.getD k 0) ∧ f (xs.getD k 0) ≤ m) : ∀ (k : Nat), k ≤ xs.length → 0 ≤ sumM f (xs.take k) ∧ sumM f (xs.take k) ≤ m * k
  | 0, _ => by simp [sumM, sumH]
  | k + 1, h => by
    have := sumM_bd hm hx k (by omega)
    have h2 := hx k (by omega)
    rw [sumM_take f xs k (by omega), Int.natCast_succ, Int.mul_add]
    omega
theorem div_bd {x m : Int} (hx : 1 ≤ x ∧ x ≤ 2000) (hm : 1 ≤ m) : 0 ≤ x / m ∧ x / m ≤ 2000 := by
  have q0 : 0 ≤ x / m := Int.ediv_nonneg (by omega) (by omega)
  have q1 : x / m ≤ x := Int.ediv_le_self _ (by omega)
  omega
theorem mod_bd {x m : Int} (hm : 1 ≤ m) (hm' : m ≤ 100) : 0 ≤ x % m ∧ x % m ≤ 2000 := by
  have r0 : 0 ≤ x % m := Int.emod_nonneg _ (by omega)
  have r1 : x % m < m := Int.emod_lt_of_pos _ (by omega)
  omega
theorem sumM_all (f : Int → Int) (xs : List Int) : sumM f (xs.take xs.length) = sumM f xs := by rw [List.take_length]
/-- a sum of parts and rests is the whole -/
theorem sum_parts (m : Int) : ∀ (xs : List Int), sumH xs - sumM (fun x => x / m) xs * m = sumM (fun x => x % m) xs
  | [] => by simp [sumM, sumH]
  | x :: r => by
    have h := sum_parts m r
    simp only [sumM, List.map_cons, sumH] at h ⊢
    have e := Int.emod_def x m
    have e2 : m * (x / m) = x / m * m := Int.mul_comm _ _
    rw [Int.add_mul]
    omega
def sorB (xs : List Int) (m : Int) : Bool := rollsB xs && inB m 1 100

set_option maxHeartbeats 400000 in
theorem cpSum_any (A : Option Addr) (n c : Nat) (xs : List Int) (m : Int) (B : Nat) (w : World) (hl : n = xs.length) (hr : Rd w B A c xs) (hR : rollsB xs = true) (hm : 1 ≤ m) :
    Calls Try.prog 47 #[.slice A n c, .int .i64 m] w fun e w' => e = .returned (.int .i64 (sumM (fun x => x / m) xs)) ∧ w = w' := by
  have hl8 := rollsB_le hR
  have hx := rollsB_at hR
  have HR := Lib.hid hR
  clear hR
  subst hl
  go_enter Try.func47, Try.ntmps47
  go_wp2
  go_loop [5, 10] (fun s i => ∃ (k : Nat), k ≤ xs.length ∧ i = .int .i64 k ∧ s = .int .i64 (sumM (fun x => x / m) (xs.take k))) (fun _ i => xs.length - (intOf i).toNat)
  case atStart => exact ⟨0, Nat.zero_le _, rfl, rfl⟩
  case round =>
    obtain ⟨k, hk, rfl, rfl⟩ := hrel
    have hb := sumM_bd (f := (fun x => x / m)) (m := 2000) (by omega) (fun k hk => div_bd (hx k hk) hm) k hk
    by_cases hlt : k < xs.length
    · obtain ⟨b, o, rfl, hb0, hcell⟩ := hr.at_ hlt
      have E := Lib.hid (sumM_take (fun x => x / m) xs k hlt)
      have hx1 := hx k hlt
      generalize xs.getD k 0 = x at *
      have ht : x.tdiv m = x / m := Int.tdiv_eq_ediv_of_nonneg (by omega)
      have hz : ¬ m = 0 := by omega
      have hq := div_bd hx1 hm
      generalize sumM (fun x => x / m) (xs.take k) = s at *
      go_wp2
      go_round
      case rel => exact ⟨k + 1, by omega, by go_num, by rw [E.out]⟩
      case measure => simp [intOf]; omega
    · obtain rfl : k = xs.length := by omega
      go_wp2
      go_ret
      exact ⟨rfl, rfl⟩

set_option maxHeartbeats 400000 in
theorem sumOfC_any (A : Option Addr) (n c : Nat) (xs : List Int) (B : Nat) (gf : Nat) (lb : Array Value) (f : Int → Int) (w : World) (hl : n = xs.length) (hr : Rd w B A c xs) (hn : xs.length ≤ 1000) (hx : ∀ k, k < xs.length → 0 ≤ f (xs.getD k 0) ∧ f (xs.getD k 0) ≤ 2000)
    (eg : ∀ args u, (callFunc gf args).run Try.prog u = .ok (.enter gf args) u) (hs : ∀ k, k < xs.length → Calls Try.prog gf (#[.int .i64 (xs.getD k 0)] ++ lb) w fun e w' => e = .returned (.int .i64 (f (xs.getD k 0))) ∧ w = w') :
    Calls Try.prog 62 #[.slice A n c, .func (.func gf) #[] lb] w fun e w' => e = .returned (.int .i64 (sumM f xs)) ∧ w = w' := by
  have HS := Lib.hid hs
  clear hs
  subst hl
  go_enter Try.func62, Try.ntmps62
  go_wp2
  go_loop [5, 10] (fun s i => ∃ (k : Nat), k ≤ xs.length ∧ i = .int .i64 k ∧ s = .int .i64 (sumM f (xs.take k))) (fun _ i => xs.length - (intOf i).toNat)
  case atStart => exact ⟨0, Nat.zero_le _, rfl, rfl⟩
  case round =>
    obtain ⟨k, hk, rfl, rfl⟩ := hrel
    have hb := sumM_bd (f := f) (m := 2000) (by omega) hx k hk
    by_cases hlt : k < xs.length
    · obtain ⟨b, o, rfl, hb0, hcell⟩ := hr.at_ hlt
      have E := Lib.hid (sumM_take f xs k hlt)
      have HC := Lib.hid (HS.out k hlt)
      have hx1 := hx k hlt
      generalize xs.getD k 0 = x at *
      generalize f x = y at *
      generalize sumM f (xs.take k) = s at *
      go_wp2_with fail
      refine HC.out.mono ?_
      rintro e w' ⟨rfl, rfl⟩
      go_wp2_with fail
      go_round
      case rel => exact ⟨k + 1, by omega, by go_num, by rw [E.out]⟩
      case measure => simp [intOf]; omega
    · obtain rfl : k = xs.length := by omega
      go_wp2
      go_ret
      exact ⟨rfl, rfl⟩

set_option maxHeartbeats 400000 in
theorem stepsC_any (x m : Int) (g : Nat) (w : World) (h1 : Blk w g 3 #[.int .i64 m]) (hx : 1 ≤ x) (hx' : x ≤ 2000) (hm : 1 ≤ m) :
    Calls Try.prog 63 #[.int .i64 x, .pointer (some ⟨g, 0, none⟩)] w fun e w' => e = .returned (.int .i64 (x / m)) ∧ w = w' := by
  have d1 : w.cell? ⟨g, 0, none⟩ = some (.int .i64 m) := h1.cell 0
  have ht : x.tdiv m = x / m := Int.tdiv_eq_ediv_of_nonneg (by omega)
  have hz : ¬ m = 0 := by omega
  have hq := div_bd ⟨hx, hx'⟩ hm
  go_enter Try.func63, Try.ntmps63
  go_wp2_with fail
  go_ret
  exact ⟨rfl, rfl⟩

set_option maxHeartbeats 400000 in
theorem stepsOfRolls_any (A : Option Addr) (c : Nat) (xs : List Int) (m : Int) (B : Nat) (w : World) (hr : Rd w B A c xs) (hB : B ≤ w.heap.size) (hR : rollsB xs = true) (hm : 1 ≤ m) :
    Calls Try.prog 48 #[.slice A xs.length c, .int .i64 m] w fun e w' => e = .returned (.int .i64 (sumM (fun x => x / m) xs)) ∧ Below w.heap.size w w' := by
  have hl8 := rollsB_le hR
  have hx := rollsB_at hR
  have hb0 : Below w.heap.size w (w.alloc (.cells #[.int .i64 m] 3)) := (Below.refl _ _).alloc (Nat.le_refl _) _
  have hr0 := hr.below hb0 hB
  have HR := Lib.hid hR
  clear hR
  go_enter Try.func48, Try.ntmps48
  go_wp2_with fail
  refine (sumOfC_any A xs.length c xs B 63 #[.pointer (some ⟨w.heap.size, 0, none⟩)] (fun x => x / m) _ rfl hr0 (by omega) (fun k hk => div_bd (hx k hk) hm) (enters_of Try.func63 (by kernel_rfl) rfl) ?_).mono ?_
  · intro k hk
    have hx1 := hx k hk
    exact stepsC_any _ m _ _ (Blk.new' rfl) hx1.1 hx1.2 hm
  rintro e w' ⟨rfl, rfl⟩
  go_wp2_with fail
  go_ret
  exact ⟨rfl, hb0⟩

set_option maxHeartbeats 1000000 in
theorem specStepsOfRolls_any (A : Option Addr) (c : Nat) (xs : List Int) (B : Nat) (m : Int) (w : World) (hr : Rd w B A c xs) (_hB : B ≤ w.heap.size) (hn : xs.length ≤ 1048576) :
    Calls Try.prog 20 #[.slice A xs.length c, .int .i64 m] w fun e w' => e = .returned (.tuple #[.int .i64 (orI (sorB xs m) (sumM (fun x => x / m) xs)), .bool (sorB xs m)]) ∧ Below w.heap.size w w' := by
  cases g0 : rollsB xs
  · have hV : sorB xs m = false := by simp [sorB, g0]
    simp only [hV, orI_no]
    clear hV
    have H0 := Lib.hid g0
    clear g0
    go_enter Try.func20, Try.ntmps20
    go_wp2_with fail
    refine (cpRolls_any _ _ _ _ _ hr hn).mono ?_
    rintro e w' ⟨rfl, rfl⟩
    rw [H0.out]
    go_wp2_with fail
    go_ret2
    exact ⟨rfl, Below.refl _ _⟩
  · have _h := True.intro
    cases g1 : inB m 1 100
    · have hV : sorB xs m = false := by simp [sorB, g0, g1]
      simp only [hV, orI_no]
      clear hV
      have H0 := Lib.hid g0
      clear g0
      have H1 := Lib.hid g1
      clear g1
      go_enter Try.func20, Try.ntmps20
      go_wp2_with fail
      refine (cpRolls_any _ _ _ _ _ hr hn).mono ?_
      rintro e w' ⟨rfl, rfl⟩
      rw [H0.out]
      go_wp2_with fail
      refine (cpNeed_any _ _).mono ?_
      rintro e w' ⟨rfl, rfl⟩
      rw [H1.out]
      go_wp2_with fail
      go_ret2
      exact ⟨rfl, Below.refl _ _⟩
    · have _h := True.intro
      have hm := inB_le g1
      rw [show sorB xs m = true by simp [sorB, g0, g1], orI_yes]
      have H0 := Lib.hid g0
      have H1 := Lib.hid g1
      clear g0
      clear g1
      go_enter Try.func20, Try.ntmps20
      go_wp2_with fail
      refine (cpRolls_any _ _ _ _ _ hr hn).mono ?_
      rintro e w' ⟨rfl, rfl⟩
      rw [H0.out]
      go_wp2_with fail
      refine (cpNeed_any _ _).mono ?_
      rintro e w' ⟨rfl, rfl⟩
      rw [H1.out]
      go_wp2_with fail
      refine (cpSum_any A xs.length c xs m B w rfl hr H0.out hm.1).mono ?_
      rintro e w' ⟨rfl, rfl⟩
      go_wp2_with fail
      go_ret2
      exact ⟨rfl, Below.refl _ _⟩

set_option maxHeartbeats 1000000 in
theorem specRestOfRolls_any (A : Option Addr) (c : Nat) (xs : List Int) (B : Nat) (m : Int) (w : World) (hr : Rd w B A c xs) (_hB : B ≤ w.heap.size) (hn : xs.length ≤ 1048576) :
    Calls Try.prog 22 #[.slice A xs.length c, .int .i64 m] w fun e w' => e = .returned (.tuple #[.int .i64 (orI (sorB xs m) (sumM (fun x => x % m) xs)), .bool (sorB xs m)]) ∧ Below w.heap.size w w' := by
  cases g0 : rollsB xs
  · have hV : sorB xs m = false := by simp [sorB, g0]
    simp only [hV, orI_no]
    clear hV
    have H0 := Lib.hid g0
    clear g0
    go_enter Try.func22, Try.ntmps22
    go_wp2_with fail
    refine (cpRolls_any _ _ _ _ _ hr hn).mono ?_
    rintro e w' ⟨rfl, rfl⟩
    rw [H0.out]
    go_wp2_with fail
    go_ret2
    exact ⟨rfl, Below.refl _ _⟩
  · have _h := True.intro
    cases g1 : inB m 1 100
    · have hV : sorB xs m = false := by simp [sorB, g0, g1]
      simp only [hV, orI_no]
      clear hV
      have H0 := Lib.hid g0
      clear g0
      have H1 := Lib.hid g1
      clear g1
      go_enter Try.func22, Try.ntmps22
      go_wp2_with fail
      refine (cpRolls_any _ _ _ _ _ hr hn).mono ?_
      rintro e w' ⟨rfl, rfl⟩
      rw [H0.out]
      go_wp2_with fail
      refine (cpNeed_any _ _).mono ?_
      rintro e w' ⟨rfl, rfl⟩
      rw [H1.out]
      go_wp2_with fail
      go_ret2
      exact ⟨rfl, Below.refl _ _⟩
    · have _h := True.intro
      have hm := inB_le g1
      have hl8 := rollsB_le g0
      have hx := rollsB_at g0
      rw [show sorB xs m = true by simp [sorB, g0, g1], orI_yes]
      have H0 := Lib.hid g0
      have H1 := Lib.hid g1
      clear g0
      clear g1
      go_enter Try.func22, Try.ntmps22
      go_wp2_with fail
      refine (cpRolls_any _ _ _ _ _ hr hn).mono ?_
      rintro e w' ⟨rfl, rfl⟩
      rw [H0.out]
      go_wp2_with fail
      refine (cpNeed_any _ _).mono ?_
      rintro e w' ⟨rfl, rfl⟩
      rw [H1.out]
      go_wp2_with fail
      go_loop [6, 19] (fun s i => ∃ (k : Nat), k ≤ xs.length ∧ i = .int .i64 k ∧ s = .int .i64 (sumM (fun x => x % m) (xs.take k))) (fun _ i => xs.length - (intOf i).toNat)
      case atStart => exact ⟨0, Nat.zero_le _, rfl, rfl⟩
      case round =>
        obtain ⟨k, hk, rfl, rfl⟩ := hrel
        have hb := sumM_bd (f := fun x => x % m) (m := 2000) (by omega) (fun k _ => mod_bd hm.1 hm.2) k hk
        by_cases hlt : k < xs.length
        · obtain ⟨b, o, rfl, hb0, hcell⟩ := hr.at_ hlt
          have E := Lib.hid (sumM_take (fun x => x % m) xs k hlt)
          have hx1 := hx k hlt
          generalize xs.getD k 0 = x at *
          have ht : x.tmod m = x % m := Int.tmod_eq_emod_of_nonneg (by omega)
          have hz : ¬ m = 0 := by omega
          have hq := mod_bd (x := x) hm.1 hm.2
          generalize sumM (fun x => x % m) (xs.take k) = s at *
          go_wp2
          go_round
          case rel => exact ⟨k + 1, by omega, by go_num, by rw [E.out]⟩
          case measure => simp [intOf]; omega
        · obtain rfl : k = xs.length := by omega
          go_wp2
          go_ret2
          exact ⟨rfl, Below.refl _ _⟩

set_option maxHeartbeats 1000000 in
theorem implStepsOfRolls_any (A : Option Addr) (c : Nat) (xs : List Int) (B : Nat) (m : Int) (w : World) (hr : Rd w B A c xs) (hB : B ≤ w.heap.size) (hn : xs.length ≤ 1048576) :
    Calls Try.prog 21 #[.slice A xs.length c, .int .i64 m] w fun e w' => e = .returned (.tuple #[.int .i64 (orI (sorB xs m) (sumM (fun x => x / m) xs)), .bool (sorB xs m)]) ∧ Below w.heap.size w w' := by
  cases g0 : rollsB xs
  · have hV : sorB xs m = false := by simp [sorB, g0]
    simp only [hV, orI_no]
    clear hV
    have H0 := Lib.hid g0
    clear g0
    go_enter Try.func21, Try.ntmps21
    go_wp2_with fail
    refine (impRolls_any _ _ _ _ _ hr hn).mono ?_
    rintro e w' ⟨rfl, rfl⟩
    rw [H0.out]
    go_wp2_with fail
    go_ret2
    exact ⟨rfl, Below.refl _ _⟩
  · have _h := True.intro
    cases g1 : inB m 1 100
    · have hV : sorB xs m = false := by simp [sorB, g0, g1]
      simp only [hV, orI_no]
      clear hV
      have H0 := Lib.hid g0
      clear g0
      have H1 := Lib.hid g1
      clear g1
      go_enter Try.func21, Try.ntmps21
      go_wp2_with fail
      refine (impRolls_any _ _ _ _ _ hr hn).mono ?_
      rintro e w' ⟨rfl, rfl⟩
      rw [H0.out]
      go_wp2_with fail
      refine (isNeed_any _ _).mono ?_
      rintro e w' ⟨rfl, rfl⟩
      rw [H1.out]
      go_wp2_with fail
      go_ret2
      exact ⟨rfl, Below.refl _ _⟩
    · have _h := True.intro
      have hm := inB_le g1
      rw [show sorB xs m = true by simp [sorB, g0, g1], orI_yes]
      have H0 := Lib.hid g0
      have H1 := Lib.hid g1
      clear g0
      clear g1
      go_enter Try.func21, Try.ntmps21
      go_wp2_with fail
      refine (impRolls_any _ _ _ _ _ hr hn).mono ?_
      rintro e w' ⟨rfl, rfl⟩
      rw [H0.out]
      go_wp2_with fail
      refine (isNeed_any _ _).mono ?_
      rintro e w' ⟨rfl, rfl⟩
      rw [H1.out]
      go_wp2_with fail
      refine (stepsOfRolls_any A c xs m B w hr hB H0.out hm.1).mono ?_
      rintro e w' ⟨rfl, hb⟩
      go_wp2_with fail
      go_ret2
      exact ⟨rfl, hb⟩

set_option maxHeartbeats 1000000 in
theorem implRestOfRolls_any (A : Option Addr) (c : Nat) (xs : List Int) (B : Nat) (m : Int) (w : World) (hr : Rd w B A c xs) (hB : B ≤ w.heap.size) (hn : xs.length ≤ 1048576) :
    Calls Try.prog 23 #[.slice A xs.length c, .int .i64 m] w fun e w' => e = .returned (.tuple #[.int .i64 (orI (sorB xs m) (sumM (fun x => x % m) xs)), .bool (sorB xs m)]) ∧ Below w.heap.size w w' := by
  cases g : sorB xs m
  · have G := Lib.hid g
    clear g
    rw [orI_no]
    go_enter Try.func23, Try.ntmps23
    go_wp2_with fail
    refine (implStepsOfRolls_any A c xs B m w hr hB hn).mono ?_
    rintro e w1 ⟨rfl, hb⟩
    rw [G.out, orI_no]
    go_wp2_with fail
    go_ret2
    exact ⟨rfl, hb⟩
  · have hR : rollsB xs = true ∧ inB m 1 100 = true := by simpa [sorB] using g
    have hm := inB_le hR.2
    have hx := rollsB_at hR.1
    have hl8 := rollsB_le hR.1
    have G := Lib.hid g
    clear g hR
    rw [orI_yes, ← sum_parts m xs]
    have s1 := sumM_bd (f := fun x => x / m) (m := 2000) (by omega) (fun k hk => div_bd (hx k hk) hm.1) xs.length (Nat.le_refl _)
    have s2 := sumH_bd (m := 2000) (by omega) (fun k hk => by have := hx k hk; omega) xs.length (Nat.le_refl _)
    rw [sumM_all] at s1
    rw [List.take_length] at s2
    obtain ⟨e0, e1⟩ := mul_bd (a := sumM (fun x => x / m) xs) (A := 16000) (b := m) (B := 100) (by omega) (by omega) (by omega) (by omega)
    obtain ⟨q, hq⟩ : ∃ q : Int, q = sumM (fun x => x / m) xs := ⟨_, rfl⟩
    obtain ⟨t, ht⟩ : ∃ t : Int, t = sumH xs := ⟨_, rfl⟩
    rw [← hq] at s1 e0 e1 ⊢
    rw [← ht] at s2 ⊢
    have HQ := Lib.hid hq
    have HT := Lib.hid ht
    clear hq ht
    go_enter Try.func23, Try.ntmps23
    go_wp2_with fail
    refine (implStepsOfRolls_any A c xs B m w hr hB hn).mono ?_
    rintro e w1 ⟨rfl, hb⟩
    rw [G.out, orI_yes, ← HQ.out]
    go_wp2_with fail
    refine (sum_any A _ c xs B _ rfl (hr.below hb hB) (by omega) (fun k hk => by have := hx k hk; omega)).mono ?_
    rintro e w' ⟨rfl, rfl⟩
    rw [← HT.out]
    go_wp2_with fail
    go_ret2
    exact ⟨rfl, hb⟩

/-- the greatest need, of so many at most -/
def gnF (xs : List Int) (s : Int) : Nat → Int
  | 0 => 0
  | n + 1 => if s ≤ sumM (fun x => x / ((n + 1 : Nat) : Int)) xs then ((n + 1 : Nat) : Int) else gnF xs s n
def gnV (xs : List Int) (s : Int) : Bool := rollsB xs && inB s 1 100
def gnR (xs : List Int) (s : Int) : Int := if gnV xs s then gnF xs s 100 else 0
def gnB (xs : List Int) (s : Int) : Bool := decide (1 ≤ gnR xs s)
theorem gn_no {xs : List Int} {s : Int} (h : gnV xs s = false) : gnR xs s = 0 ∧ gnB xs s = false := by
  have : gnR xs s = 0 := by simp [gnR, h]
  exact ⟨this, by simp [gnB, this]⟩
theorem gn_at {xs : List Int} {s : Int} (h : gnV xs s = true) {y : Int} (hy : y = gnF xs s 100) : gnR xs s = y ∧ gnB xs s = decide (1 ≤ y) := by
  have : gnR xs s = y := by simp [gnR, h, hy]
  exact ⟨this, by simp [gnB, this]⟩

set_option maxHeartbeats 1000000 in
theorem specGreatestNeed_any (A : Option Addr) (c : Nat) (xs : List Int) (B : Nat) (s : Int) (w : World) (hr : Rd w B A c xs) (hB : B ≤ w.heap.size) (hn : xs.length ≤ 1048576) :
    Calls Try.prog 30 #[.slice A xs.length c, .int .i64 s] w fun e w' => e = .returned (.tuple #[.int .i64 (gnR xs s), .bool (gnB xs s)]) ∧ Below w.heap.size w w' := by
  cases g0 : rollsB xs
  · have hV : gnV xs s = false := by simp [gnV, g0]
    simp only [gn_no hV]
    clear hV
    have H0 := Lib.hid g0
    clear g0
    go_enter Try.func30, Try.ntmps30
    go_wp2_with fail
    refine (cpRolls_any _ _ _ _ _ hr hn).mono ?_
    rintro e w' ⟨rfl, rfl⟩
    rw [H0.out]
    go_wp2_with fail
    go_ret2
    exact ⟨rfl, Below.refl _ _⟩
  · have _h := True.intro
    cases g1 : inB s 1 100
    · have hV : gnV xs s = false := by simp [gnV, g0, g1]
      simp only [gn_no hV]
      clear hV
      have H0 := Lib.hid g0
      clear g0
      have H1 := Lib.hid g1
      clear g1
      go_enter Try.func30, Try.ntmps30
      go_wp2_with fail
      refine (cpRolls_any _ _ _ _ _ hr hn).mono ?_
      rintro e w' ⟨rfl, rfl⟩
      rw [H0.out]
      go_wp2_with fail
      refine (l1In_any _ _ _ _).mono ?_
      rintro e w' ⟨rfl, rfl⟩
      rw [H1.out]
      go_wp2_with fail
      go_ret2
      exact ⟨rfl, Below.refl _ _⟩
    · have _h := True.intro
      have hs := inB_le g1
      have GA := Lib.hid (fun (y : Int) (hy : y = gnF xs s 100) => gn_at (xs := xs) (s := s) (by simp [gnV, g0, g1]) hy)
      have H0 := Lib.hid g0
      have H1 := Lib.hid g1
      clear g0
      clear g1
      go_enter Try.func30, Try.ntmps30
      go_wp2_with fail
      refine (cpRolls_any _ _ _ _ _ hr hn).mono ?_
      rintro e w' ⟨rfl, rfl⟩
      rw [H0.out]
      go_wp2_with fail
      refine (l1In_any _ _ _ _).mono ?_
      rintro e w' ⟨rfl, rfl⟩
      rw [H1.out]
      go_wp2_with fail
      go_loopw [6] (fun i wr => ∃ (k : Nat), k ≤ 100 ∧ i = .int .i64 k ∧ Hid (gnF xs s k = gnF xs s 100) ∧ Below w.heap.size w wr) (fun i _ => (intOf i).toNat)
      case atStart => exact ⟨100, Nat.le_refl _, rfl, Lib.hid rfl, Below.refl _ _⟩
      case round =>
        obtain ⟨k, hk, rfl, HE, hbw⟩ := hrel
        cases k with
        | zero =>
          obtain ⟨r1, r2⟩ := GA.out 0 HE.out
          have R1 := Lib.hid r1
          have R2 := Lib.hid r2
          clear r1 r2
          go_wp2_with fail
          go_ret2
          exact ⟨by rw [R1.out, R2.out]; rfl, hbw⟩
        | succ j =>
          have HF := Lib.hid (show gnF xs s (j + 1) = if s ≤ sumM (fun x => x / ((j + 1 : Nat) : Int)) xs then ((j + 1 : Nat) : Int) else gnF xs s j from rfl)
          obtain ⟨y, hy⟩ : ∃ y : Int, y = ((j + 1 : Nat) : Int) := ⟨_, rfl⟩
          rw [← hy] at HF ⊢
          have hy1 : 1 ≤ y := by omega
          have hy2 : y ≤ 100 := by omega
          have HY := Lib.hid hy
          clear hy
          obtain ⟨q, hq⟩ : ∃ q : Int, q = sumM (fun x => x / y) xs := ⟨_, rfl⟩
          have HC := Lib.hid (cpSum_any A xs.length c xs y B wr rfl (hr.below hbw hB) H0.out (by omega))
          rw [← hq] at HF HC
          have hbq : 0 ≤ q ∧ q ≤ 16000 := by
            have hl8 := rollsB_le H0.out
            have hx := rollsB_at H0.out
            have s1 := sumM_bd (f := fun x => x / y) (m := 2000) (by omega) (fun k hk => div_bd (hx k hk) hy1) xs.length (Nat.le_refl _)
            rw [sumM_all, ← hq] at s1
            omega
          clear hq
          by_cases hsq : s ≤ q
          · obtain ⟨r1, r2⟩ := GA.out y (by rw [← HE.out, HF.out, if_pos hsq])
            rw [show decide (1 ≤ y) = true from decide_eq_true hy1] at r2
            have R1 := Lib.hid r1
            have R2 := Lib.hid r2
            clear r1 r2
            go_wp2_with fail
            refine HC.out.mono ?_
            rintro e w' ⟨rfl, rfl⟩
            go_wp2_with fail
            go_ret2
            exact ⟨by rw [R1.out, R2.out]; rfl, hbw⟩
          · have HN := Lib.hid (show gnF xs s j = gnF xs s 100 by rw [← HE.out, HF.out, if_neg hsq])
            go_wp2_with fail
            refine HC.out.mono ?_
            rintro e w' ⟨rfl, rfl⟩
            go_wp2_with fail
            go_roundw
            case rel => exact ⟨j, by omega, congrArg (Value.int .i64) (by have := HY.out; omega), HN, hbw⟩
            case measure => have := HY.out; simp [intOf]; omega

set_option maxHeartbeats 1000000 in
theorem implGreatestNeed_any (A : Option Addr) (c : Nat) (xs : List Int) (B : Nat) (s : Int) (w : World) (hr : Rd w B A c xs) (hB : B ≤ w.heap.size) (hn : xs.length ≤ 1048576) :
    Calls Try.prog 31 #[.slice A xs.length c, .int .i64 s] w fun e w' => e = .returned (.tuple #[.int .i64 (gnR xs s), .bool (gnB xs s)]) ∧ Below w.heap.size w w' := by
  cases g0 : rollsB xs
  · have hV : gnV xs s = false := by simp [gnV, g0]
    simp only [gn_no hV]
    clear hV
    have H0 := Lib.hid g0
    clear g0
    go_enter Try.func31, Try.ntmps31
    go_wp2_with fail
    refine (impRolls_any _ _ _ _ _ hr hn).mono ?_
    rintro e w' ⟨rfl, rfl⟩
    rw [H0.out]
    go_wp2_with fail
    go_ret2
    exact ⟨rfl, Below.refl _ _⟩
  · have _h := True.intro
    cases g1 : inB s 1 100
    · have hV : gnV xs s = false := by simp [gnV, g0, g1]
      simp only [gn_no hV]
      clear hV
      have H0 := Lib.hid g0
      clear g0
      have H1 := Lib.hid g1
      clear g1
      go_enter Try.func31, Try.ntmps31
      go_wp2_with fail
      refine (impRolls_any _ _ _ _ _ hr hn).mono ?_
      rintro e w' ⟨rfl, rfl⟩
      rw [H0.out]
      go_wp2_with fail
      refine (isCover_any _ _).mono ?_
      rintro e w' ⟨rfl, rfl⟩
      rw [H1.out]
      go_wp2_with fail
      go_ret2
      exact ⟨rfl, Below.refl _ _⟩
    · have _h := True.intro
      have hs := inB_le g1
      have GA := Lib.hid (fun (y : Int) (hy : y = gnF xs s 100) => gn_at (xs := xs) (s := s) (by simp [gnV, g0, g1]) hy)
      have H0 := Lib.hid g0
      have H1 := Lib.hid g1
      clear g0
      clear g1
      go_enter Try.func31, Try.ntmps31
      go_wp2_with fail
      refine (impRolls_any _ _ _ _ _ hr hn).mono ?_
      rintro e w' ⟨rfl, rfl⟩
      rw [H0.out]
      go_wp2_with fail
      refine (isCover_any _ _).mono ?_
      rintro e w' ⟨rfl, rfl⟩
      rw [H1.out]
      go_wp2_with fail
      go_loopw [6] (fun i wr => ∃ (k : Nat), k ≤ 100 ∧ i = .int .i64 k ∧ Hid (gnF xs s k = gnF xs s 100) ∧ Below w.heap.size w wr) (fun i _ => (intOf i).toNat)
      case atStart => exact ⟨100, Nat.le_refl _, rfl, Lib.hid rfl, Below.refl _ _⟩
      case round =>
        obtain ⟨k, hk, rfl, HE, hbw⟩ := hrel
        cases k with
        | zero =>
          obtain ⟨r1, r2⟩ := GA.out 0 HE.out
          have R1 := Lib.hid r1
          have R2 := Lib.hid r2
          clear r1 r2
          go_wp2_with fail
          go_ret2
          exact ⟨by rw [R1.out, R2.out]; rfl, hbw⟩
        | succ j =>
          have HF := Lib.hid (show gnF xs s (j + 1) = if s ≤ sumM (fun x => x / ((j + 1 : Nat) : Int)) xs then ((j + 1 : Nat) : Int) else gnF xs s j from rfl)
          obtain ⟨y, hy⟩ : ∃ y : Int, y = ((j + 1 : Nat) : Int) := ⟨_, rfl⟩
          rw [← hy] at HF ⊢
          have hy1 : 1 ≤ y := by omega
          have hy2 : y ≤ 100 := by omega
          have HY := Lib.hid hy
          clear hy
          obtain ⟨q, hq⟩ : ∃ q : Int, q = sumM (fun x => x / y) xs := ⟨_, rfl⟩
          have HC := Lib.hid (stepsOfRolls_any A c xs y B wr (hr.below hbw hB) (Nat.le_trans hB hbw.size) H0.out (by omega))
          rw [← hq] at HF HC
          have hbq : 0 ≤ q ∧ q ≤ 16000 := by
            have hl8 := rollsB_le H0.out
            have hx := rollsB_at H0.out
            have s1 := sumM_bd (f := fun x => x / y) (m := 2000) (by omega) (fun k hk => div_bd (hx k hk) hy1) xs.length (Nat.le_refl _)
            rw [sumM_all, ← hq] at s1
            omega
          clear hq
          by_cases hsq : s ≤ q
          · obtain ⟨r1, r2⟩ := GA.out y (by rw [← HE.out, HF.out, if_pos hsq])
            rw [show decide (1 ≤ y) = true from decide_eq_true hy1] at r2
            have R1 := Lib.hid r1
            have R2 := Lib.hid r2
            clear r1 r2
            go_wp2_with fail
            refine HC.out.mono ?_
            rintro e w2 ⟨rfl, hb2⟩
            have hbw := hbw.trans (hb2.mono hbw.size)
            clear hb2
            go_wp2_with fail
            go_ret2
            exact ⟨by rw [R1.out, R2.out]; rfl, hbw⟩
          · have HN := Lib.hid (show gnF xs s j = gnF xs s 100 by rw [← HE.out, HF.out, if_neg hsq])
            go_wp2_with fail
            refine HC.out.mono ?_
            rintro e w2 ⟨rfl, hb2⟩
            have hbw := hbw.trans (hb2.mono hbw.size)
            clear hb2
            go_wp2_with fail
            go_roundw
            case rel => exact ⟨j, by omega, congrArg (Value.int .i64) (by have := HY.out; omega), HN, hbw⟩
            case measure => have := HY.out; simp [intOf]; omega


end Go.Proofs.Ytcidehjamkebiaa
