/- Contracts: balls: lists of steps that suit, where balls come from, on both sides. -/
import Derived.Test.YtmolfeckeoimbaaBaP
import Derived.Deep.RegionWith
import Derived.Laws.EntriesVeiled
import Derived.Shelf.Abstract
namespace Go.Proofs.Ytmolfeckeoimbaa
open Go.RowKit

set_option maxHeartbeats 1000000 in
theorem stepsWhere_any (A : Option Addr) (c n : Nat) (gf : Nat) (lb : Array Value) (p : Int → Bool) (w : World) (hn : n ≤ 1048576)
    (eg : ∀ args u, (callFunc gf args).run Try.prog u = .ok (.enter gf args) u)
    (hs : ∀ (k : Nat) (W : World), k < n → Below w.heap.size w W → Calls Try.prog gf (#[.int .i64 (k : Int)] ++ lb) W fun e W' => e = .returned (.bool (p k)) ∧ Below W.heap.size W W') :
    Calls Try.prog 40 #[.slice A n c, .func (.func gf) #[] lb] w fun e w' => ∃ v, e = .returned v ∧ OwnI w' w.heap.size v (selZ p n) ∧ Below w.heap.size w w' := by
  have HS := Lib.hid hs
  clear hs
  go_enter Try.func40, Try.ntmps40
  go_wp2_with fail
  go_loopw [5, 9] (fun v i wr => ∃ k : Nat, k ≤ n ∧ i = .int .i64 (k : Int) ∧ OwnI wr w.heap.size v (selZ p k) ∧ Below w.heap.size w wr) (fun _ i _ => n - (intOf i).toNat)
  case atStart => exact ⟨0, Nat.zero_le _, rfl, OwnI.nil _ _, Below.refl _ _⟩
  case round =>
    obtain ⟨k, hk, rfl, hown, hbw⟩ := hrel
    have hz : w.heap.size ≤ wr.heap.size := hbw.size
    by_cases hlt : k < n
    · have HC := Lib.hid (HS.out k wr hlt hbw)
      have hkl := selZ_length p k
      cases hp : p (k : Int)
      · have HT := Lib.hid (selZ_no hp)
        have HP := Lib.hid hp
        clear hp
        go_wp2_with fail
        refine HC.out.mono ?_
        rintro e W2 ⟨rfl, hb⟩
        rw [HP.out]
        go_wp2_with fail
        go_roundw
        case rel => exact ⟨k + 1, by omega, by go_num, by rw [HT.out]; exact hown.below hb (Nat.le_refl _), hbw.trans (hb.mono hz)⟩
        case measure => simp [intOf]; omega
      · have HT := Lib.hid (selZ_yes hp)
        have HP := Lib.hid hp
        clear hp
        go_wp2_with fail
        refine HC.out.mono ?_
        rintro e W2 ⟨rfl, hb⟩
        rw [HP.out]
        have hz2 := hb.size
        have hO2 := hown.below hb (Nat.le_refl _)
        have HB := Lib.hid (hbw.trans (hb.mono hz))
        generalize hL : selZ p k = zs at *
        have HL := Lib.hid hL
        clear hL hown hb hbw
        go_wp2_with (at_builtin; refine wpList_pushI _ rfl _ _ rfl w.heap.size _ zs rfl (hO2.alloc _) W2.heap.size (k : Int) rfl (by simp) (by omega) (by simp; omega) ?_; intro A1 c1 w3 hown1 hg1)
        go_roundw
        case rel => exact ⟨k + 1, by omega, by go_num, by rw [HT.out]; exact hown1, (HB.out.alloc (by omega) _).trans hg1⟩
        case measure => simp [intOf]; omega
    · obtain rfl : k = n := by omega
      go_wp2_with fail
      go_ret
      exact ⟨_, rfl, hown, hbw⟩

set_option maxHeartbeats 1000000 in
theorem comesC_any (A : Option Addr) (c : Nat) (xs : List Int) (s : Int) (k g1 g2 B : Nat) (w : World) (hr : Rd w B A c xs) (hJ : jumpsB xs = true) (_hk : k < xs.length) (h1 : Blk w g1 22 #[.slice A xs.length c]) (h2 : Blk w g2 3 #[.int .i64 s]) :
    Calls Try.prog 52 #[.int .i64 (k : Int), .pointer (some ⟨g1, 0, none⟩), .pointer (some ⟨g2, 0, none⟩)] w fun e w' => e = .returned (.bool (comesP xs s k)) ∧ Below w.heap.size w w' := by
  have d1 : w.cell? ⟨g1, 0, none⟩ = some (.slice A xs.length c) := h1.cell 0
  have d2 : w.cell? ⟨g2, 0, none⟩ = some (.int .i64 s) := h2.cell 0
  go_enter Try.func52, Try.ntmps52
  go_wp2_with fail
  have hr' : Rd w.drew B A c xs := hr.keep (fun _ _ _ => rfl)
  go_region_with (go_at_call 37; refine (nextPlace_any _ _ _ _ B _ hr' hJ).mono ?_; rintro e w' ⟨rfl, rfl⟩)
  all_goals
    go_wp2_with fail
    go_ret
    exact ⟨rfl, (Below.refl _ _).drew⟩

set_option maxHeartbeats 1000000 in
theorem comingTo_any (A : Option Addr) (c : Nat) (xs : List Int) (s : Int) (B : Nat) (w : World) (hr : Rd w B A c xs) (hB : B ≤ w.heap.size) (hJ : jumpsB xs = true) :
    Calls Try.prog 39 #[.slice A xs.length c, .int .i64 s] w fun e w' => ∃ v, e = .returned v ∧ OwnI w' w.heap.size v (selZ (comesP xs s) xs.length) ∧ Below w.heap.size w w' := by
  have hl := jumpsB_le hJ
  have H := Lib.hid hJ
  clear hJ
  go_enter Try.func39, Try.ntmps39
  go_wp2_with fail
  refine (stepsWhere_any A c xs.length 52 #[.pointer (some ⟨w.heap.size, 0, none⟩), .pointer (some ⟨w.heap.size + 1, 0, none⟩)] (comesP xs s) _ (by omega) (enters_of Try.func52 (by kernel_rfl) rfl) ?_).mono ?_
  · intro k W hk hbW
    simp only [World.size_alloc] at hbW
    have hb0 : Below w.heap.size w W := (((Below.refl _ _).alloc (Nat.le_refl _) _).alloc (by simp; try omega) _).trans (hbW.mono (by omega))
    exact comesC_any A c xs s k _ _ B W (hr.below hb0 hB) H.out hk (((Blk.new' rfl).alloc _).below hbW (by omega)) ((Blk.new' (by simp)).below hbW (by omega))
  rintro e w9 ⟨v9, rfl, hO, hb⟩
  simp only [World.size_alloc] at hO hb
  go_wp2_with fail
  go_ret
  exact ⟨_, rfl, hO.mono (by omega), (((Below.refl _ _).alloc (Nat.le_refl _) _).alloc (by simp; try omega) _).trans (hb.mono (by omega))⟩

set_option maxHeartbeats 1000000 in
theorem implComingTo_any (A : Option Addr) (c : Nat) (xs : List Int) (s : Int) (B : Nat) (w : World) (hr : Rd w B A c xs) (hB : B ≤ w.heap.size) (hn : xs.length ≤ 1048576) :
    Calls Try.prog 18 #[.slice A xs.length c, .int .i64 s] w (Lists w (selR (ballB xs s) (comesP xs s) xs.length) (ballB xs s)) := by
  cases h : ballB xs s
  · rw [selR_no]
    have H := Lib.hid h
    clear h
    go_enter Try.func18, Try.ntmps18
    go_wp2_with fail
    refine (hasBall_any _ _ _ _ _ _ hr hn).mono ?_
    rintro e w' ⟨rfl, rfl⟩
    rw [H.out]
    go_wp2_with fail
    go_ret2
    exact ⟨_, rfl, OwnI.nil _ _, Below.refl _ _⟩
  · rw [selR_yes]
    have hJ := Lib.hid (ballB_le h).1
    have H := Lib.hid h
    clear h
    go_enter Try.func18, Try.ntmps18
    go_wp2_with fail
    refine (hasBall_any _ _ _ _ _ _ hr hn).mono ?_
    rintro e w' ⟨rfl, rfl⟩
    rw [H.out]
    go_wp2_with fail
    refine (comingTo_any _ _ _ _ _ _ hr hB hJ.out).mono ?_
    rintro e w9 ⟨v9, rfl, hO, hb⟩
    go_wp2_with fail
    go_ret2
    exact ⟨_, rfl, hO, hb⟩

set_option maxHeartbeats 1000000 in
theorem baComing_any (A : Option Addr) (c : Nat) (xs : List Int) (s : Int) (B : Nat) (w : World) (hr : Rd w B A c xs) (hB : B ≤ w.heap.size) (hJ : jumpsB xs = true) :
    Calls Try.prog 38 #[.slice A xs.length c, .int .i64 s] w fun e w' => ∃ v, e = .returned v ∧ OwnI w' w.heap.size v (selZ (comesP xs s) xs.length) ∧ Below w.heap.size w w' := by
  have hl := jumpsB_le hJ
  have H := Lib.hid hJ
  clear hJ
  go_enter Try.func38, Try.ntmps38
  go_wp2_with fail
  go_loopw [5, 9] (fun v i wr => ∃ k : Nat, k ≤ xs.length ∧ i = .int .i64 (k : Int) ∧ OwnI wr w.heap.size v (selZ (comesP xs s) k) ∧ Below w.heap.size w wr) (fun _ i _ => xs.length - (intOf i).toNat)
  case atStart => exact ⟨0, Nat.zero_le _, rfl, OwnI.nil _ _, Below.refl _ _⟩
  case round =>
    obtain ⟨k, hk, rfl, hown, hbw⟩ := hrel
    have hz : w.heap.size ≤ wr.heap.size := hbw.size
    by_cases hlt : k < xs.length
    · have HC := Lib.hid (baNext_any A c xs (k : Int) B wr (hr.below hbw hB) H.out)
      have hkl := selZ_length (comesP xs s) k
      by_cases hp : nextI xs (k : Int) = s
      · have HT := Lib.hid (selZ_yes (p := comesP xs s) (k := k) (by simp [comesP, hp]))
        have HB := Lib.hid hbw
        generalize hL : selZ (comesP xs s) k = zs at *
        have HL := Lib.hid hL
        have HP := Lib.hid hp
        clear hL hbw hp
        go_wp2_with fail
        refine HC.out.mono ?_
        rintro e w' ⟨rfl, rfl⟩
        rw [HP.out]
        go_wp2_with (at_builtin; refine wpList_pushI _ rfl _ _ rfl w.heap.size _ zs rfl (hown.alloc _) wr.heap.size (k : Int) rfl (by simp) (by omega) (by simp; omega) ?_; intro A1 c1 w3 hown1 hg1)
        go_roundw
        case rel => exact ⟨k + 1, by omega, by go_num, by rw [HT.out]; exact hown1, (HB.out.alloc (by omega) _).trans hg1⟩
        case measure => simp [intOf]; omega
      · have HT := Lib.hid (selZ_no (p := comesP xs s) (k := k) (by simp [comesP, hp]))
        generalize nextI xs (k : Int) = y at *
        go_wp2_with fail
        refine HC.out.mono ?_
        rintro e w' ⟨rfl, rfl⟩
        go_wp2_with fail
        go_roundw
        case rel => exact ⟨k + 1, by omega, by go_num, by rw [HT.out]; exact hown, hbw⟩
        case measure => simp [intOf]; omega
    · obtain rfl : k = xs.length := by omega
      go_wp2_with fail
      go_ret
      exact ⟨_, rfl, hown, hbw⟩

set_option maxHeartbeats 1000000 in
theorem specComingTo_any (A : Option Addr) (c : Nat) (xs : List Int) (s : Int) (B : Nat) (w : World) (hr : Rd w B A c xs) (hB : B ≤ w.heap.size) (hn : xs.length ≤ 1048576) :
    Calls Try.prog 17 #[.slice A xs.length c, .int .i64 s] w (Lists w (selR (ballB xs s) (comesP xs s) xs.length) (ballB xs s)) := by
  cases h : ballB xs s
  · rw [selR_no]
    have H := Lib.hid h
    clear h
    go_enter Try.func17, Try.ntmps17
    go_wp2_with fail
    refine (baStep_any _ _ _ _ _ _ hr hn).mono ?_
    rintro e w' ⟨rfl, rfl⟩
    rw [H.out]
    go_wp2_with fail
    go_ret2
    exact ⟨_, rfl, OwnI.nil _ _, Below.refl _ _⟩
  · rw [selR_yes]
    have hJ := Lib.hid (ballB_le h).1
    have H := Lib.hid h
    clear h
    go_enter Try.func17, Try.ntmps17
    go_wp2_with fail
    refine (baStep_any _ _ _ _ _ _ hr hn).mono ?_
    rintro e w' ⟨rfl, rfl⟩
    rw [H.out]
    go_wp2_with fail
    refine (baComing_any _ _ _ _ _ _ hr hB hJ.out).mono ?_
    rintro e w9 ⟨v9, rfl, hO, hb⟩
    go_wp2_with fail
    go_ret2
    exact ⟨_, rfl, hO, hb⟩

set_option maxHeartbeats 1000000 in
theorem specNoneComes_any (A : Option Addr) (c : Nat) (xs : List Int) (B : Nat) (w : World) (hr : Rd w B A c xs) (hB : B ≤ w.heap.size) (hn : xs.length ≤ 1048576) :
    Calls Try.prog 21 #[.slice A xs.length c] w (Lists w (selR (jumpsB xs) (noneP xs) xs.length) (jumpsB xs)) := by
  cases h : jumpsB xs
  · rw [selR_no]
    have H := Lib.hid h
    clear h
    go_enter Try.func21, Try.ntmps21
    go_wp2_with fail
    refine (baGood_any _ _ _ _ _ hr hn).mono ?_
    rintro e w' ⟨rfl, rfl⟩
    rw [H.out]
    go_wp2_with fail
    go_ret2
    exact ⟨_, rfl, OwnI.nil _ _, Below.refl _ _⟩
  · rw [selR_yes]
    have hl := jumpsB_le h
    have H := Lib.hid h
    clear h
    go_enter Try.func21, Try.ntmps21
    go_wp2_with fail
    refine (baGood_any _ _ _ _ _ hr hn).mono ?_
    rintro e w' ⟨rfl, rfl⟩
    rw [H.out]
    go_wp2_with fail
    go_loopw [4, 11] (fun v i wr => ∃ k : Nat, k ≤ xs.length ∧ i = .int .i64 (k : Int) ∧ OwnI wr w.heap.size v (selZ (noneP xs) k) ∧ Below w.heap.size w wr) (fun _ i _ => xs.length - (intOf i).toNat)
    case atStart => exact ⟨0, Nat.zero_le _, rfl, OwnI.nil _ _, Below.refl _ _⟩
    case round =>
      obtain ⟨k, hk, rfl, hown, hbw⟩ := hrel
      have hz : w.heap.size ≤ wr.heap.size := hbw.size
      by_cases hlt : k < xs.length
      · have HC := Lib.hid (baComing_any A c xs (k : Int) B wr (hr.below hbw hB) (Nat.le_trans hB hz) H.out)
        have hkl := selZ_length (noneP xs) k
        have hcl := selZ_length (comesP xs (k : Int)) xs.length
        by_cases hp : (selZ (comesP xs (k : Int)) xs.length).length = 0
        · have HT := Lib.hid (selZ_yes (p := noneP xs) (k := k) (by simp [noneP, hp]))
          have HP := Lib.hid hp
          generalize hL : selZ (noneP xs) k = zs at *
          have HL := Lib.hid hL
          clear hL hp
          go_wp2_with fail
          refine HC.out.mono ?_
          rintro e w2 ⟨v2, rfl, hO, hb⟩
          have hz2 := hb.size
          have hO2 := hown.below hb (Nat.le_refl _)
          have HB := Lib.hid (hbw.trans (hb.mono hz))
          obtain ⟨A2, c2, rfl, _⟩ := hO.form
          rw [HP.out]
          clear hO hb hbw hown
          go_wp2_with (at_builtin; refine wpList_pushI _ rfl _ _ rfl w.heap.size _ zs rfl (hO2.alloc _) w2.heap.size (k : Int) rfl (by simp) (by omega) (by simp; omega) ?_; intro A1 c1 w3 hown1 hg1)
          go_roundw
          case rel => exact ⟨k + 1, by omega, by go_num, by rw [HT.out]; exact hown1, (HB.out.alloc (by omega) _).trans hg1⟩
          case measure => simp [intOf]; omega
        · have HT := Lib.hid (selZ_no (p := noneP xs) (k := k) (by simp [noneP, hp]))
          go_wp2_with fail
          refine HC.out.mono ?_
          rintro e w2 ⟨v2, rfl, hO, hb⟩
          obtain ⟨A2, c2, rfl, _⟩ := hO.form
          have hO2 := hown.below hb (Nat.le_refl _)
          have HB := Lib.hid (hbw.trans (hb.mono hz))
          generalize (selZ (comesP xs (k : Int)) xs.length).length = m at *
          have hm : ¬ (m : Int) = 0 := by omega
          clear hO hb hbw hown
          go_wp2_with fail
          go_roundw
          case rel => exact ⟨k + 1, by omega, by go_num, by rw [HT.out]; exact hO2, HB.out⟩
          case measure => simp [intOf]; omega
      · obtain rfl : k = xs.length := by omega
        go_wp2_with fail
        go_ret2
        exact ⟨_, rfl, hown, hbw⟩

set_option maxHeartbeats 1000000 in
theorem noneC_any (A : Option Addr) (c : Nat) (xs : List Int) (k g1 B : Nat) (w : World) (hr : Rd w B A c xs) (hB : B ≤ w.heap.size) (hJ : jumpsB xs = true) (h1 : Blk w g1 22 #[.slice A xs.length c]) :
    Calls Try.prog 41 #[.int .i64 (k : Int), .pointer (some ⟨g1, 0, none⟩)] w fun e w' => e = .returned (.bool (noneP xs k)) ∧ Below w.heap.size w w' := by
  have d1 : w.cell? ⟨g1, 0, none⟩ = some (.slice A xs.length c) := h1.cell 0
  have hl := jumpsB_le hJ
  have hcl := selZ_length (comesP xs (k : Int)) xs.length
  have HR : Hid (noneP xs k = decide ((selZ (comesP xs k) xs.length).length = 0)) := Lib.hid rfl
  go_enter Try.func41, Try.ntmps41
  go_wp2_with fail
  refine (comingTo_any _ _ _ _ _ _ hr hB hJ).mono ?_
  rintro e w2 ⟨v2, rfl, hO, hb⟩
  obtain ⟨A2, c2, rfl, _⟩ := hO.form
  generalize (selZ (comesP xs (k : Int)) xs.length).length = m at *
  by_cases hm : m = 0
  · subst hm
    go_wp2_with fail
    go_ret
    exact ⟨ret_bool (by rw [HR.out]; rfl), hb⟩
  · have hm2 : ¬ (m : Int) = 0 := by omega
    go_wp2_with fail
    go_ret
    exact ⟨ret_bool (by rw [HR.out]; simp [hm]), hb⟩

set_option maxHeartbeats 1000000 in
theorem implNoneComes_any (A : Option Addr) (c : Nat) (xs : List Int) (B : Nat) (w : World) (hr : Rd w B A c xs) (hB : B ≤ w.heap.size) (hn : xs.length ≤ 1048576) :
    Calls Try.prog 22 #[.slice A xs.length c] w (Lists w (selR (jumpsB xs) (noneP xs) xs.length) (jumpsB xs)) := by
  have hb0 : Below w.heap.size w (w.alloc (.cells #[.slice A xs.length c] 22)) := (Below.refl _ _).alloc (Nat.le_refl _) _
  have hr0 := hr.below hb0 hB
  cases h : jumpsB xs
  · rw [selR_no]
    have H := Lib.hid h
    clear h
    go_enter Try.func22, Try.ntmps22
    go_wp2_with fail
    refine (impJumps_any _ _ _ _ _ hr0 hn).mono ?_
    rintro e w' ⟨rfl, rfl⟩
    rw [H.out]
    go_wp2_with fail
    go_ret2
    exact ⟨_, rfl, OwnI.nil _ _, hb0⟩
  · rw [selR_yes]
    have H := Lib.hid h
    clear h
    go_enter Try.func22, Try.ntmps22
    go_wp2_with fail
    refine (impJumps_any _ _ _ _ _ hr0 hn).mono ?_
    rintro e w' ⟨rfl, rfl⟩
    rw [H.out]
    go_wp2_with fail
    refine (stepsWhere_any A c xs.length 41 #[.pointer (some ⟨w.heap.size, 0, none⟩)] (noneP xs) _ hn (enters_of Try.func41 (by kernel_rfl) rfl) ?_).mono ?_
    · intro k W hk hbW
      simp only [World.size_alloc] at hbW
      exact noneC_any A c xs k _ B W (hr.below (hb0.trans (hbW.mono (by omega))) hB) (by have := hbW.size; simp at this; omega) H.out ((Blk.new' rfl).below hbW (by omega))
    rintro e w9 ⟨v9, rfl, hO, hb⟩
    simp only [World.size_alloc] at hO hb
    go_wp2_with fail
    go_ret2
    exact ⟨_, rfl, hO.mono (by omega), hb0.trans (hb.mono (by omega))⟩

end Go.Proofs.Ytmolfeckeoimbaa
