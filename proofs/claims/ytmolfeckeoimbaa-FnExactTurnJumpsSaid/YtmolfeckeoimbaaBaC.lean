/- Contracts: balls: a changed jump, jumps told from below (the model), on both sides. -/
import Derived.Test.YtmolfeckeoimbaaBaB
import Derived.Test.YtmolfeckeoimbaaGOwn
namespace Go.Proofs.Ytmolfeckeoimbaa
open Go.RowKit

def chgB (xs : List Int) (s j : Int) : Bool := ballB xs s && inB j (-30) 30
def chgR (xs : List Int) (s j : Int) : List Int := if chgB xs s j then xs.set s.toNat j else []
theorem chgR_length (xs : List Int) (s j : Int) (h : xs.length ≤ 1048576) : (chgR xs s j).length ≤ 1048576 := by
  unfold chgR; split <;> simp; exact h
theorem chg_no {xs : List Int} {s j : Int} (h : chgB xs s j = false) : chgR xs s j = [] := by simp [chgR, h]

theorem isJump_any (j : Int) (w : World) :
    Calls Try.prog 48 #[.int .i64 j] w fun e w' => e = .returned (.bool (inB j (-30) 30)) ∧ w = w' := by
  go_enter Try.func48, Try.ntmps48
  go_wp2_with fail
  refine (isWithin_any _ _ _ _).mono ?_
  rintro e w' ⟨rfl, rfl⟩
  go_wp2_with fail
  go_ret
  exact ⟨rfl, rfl⟩

set_option maxHeartbeats 1000000 in
theorem specChange_any (A : Option Addr) (c : Nat) (xs : List Int) (s j : Int) (B : Nat) (w : World) (hr : Rd w B A c xs) (hB : B ≤ w.heap.size) (hn : xs.length ≤ 1048576) :
    Calls Try.prog 27 #[.slice A xs.length c, .int .i64 s, .int .i64 j] w (Lists w (chgR xs s j) (chgB xs s j)) := by
  cases h : ballB xs s
  · rw [chg_no (by simp [chgB, h]), show chgB xs s j = false by simp [chgB, h]]
    have H := Lib.hid h
    clear h
    go_enter Try.func27, Try.ntmps27
    go_wp2_with fail
    refine (baStep_any _ _ _ _ _ _ hr hn).mono ?_
    rintro e w' ⟨rfl, rfl⟩
    rw [H.out]
    go_wp2_with fail
    go_ret2
    exact ⟨_, rfl, OwnI.nil _ _, Below.refl _ _⟩
  · cases h1 : inB j (-30) 30
    · rw [chg_no (by simp [chgB, h1]), show chgB xs s j = false by simp [chgB, h1]]
      have H := Lib.hid h
      have H1 := Lib.hid h1
      clear h h1
      go_enter Try.func27, Try.ntmps27
      go_wp2_with fail
      refine (baStep_any _ _ _ _ _ _ hr hn).mono ?_
      rintro e w' ⟨rfl, rfl⟩
      rw [H.out]
      go_wp2_with fail
      refine (l1In_any _ _ _ _).mono ?_
      rintro e w' ⟨rfl, rfl⟩
      rw [H1.out]
      go_wp2_with fail
      go_ret2
      exact ⟨_, rfl, OwnI.nil _ _, Below.refl _ _⟩
    · obtain ⟨hJ, hs0, hs1⟩ := ballB_le h
      obtain ⟨k, rfl⟩ := Int.eq_ofNat_of_zero_le hs0
      have hk : k < xs.length := by omega
      rw [show chgR xs (k : Int) j = xs.set k j by simp [chgR, chgB, h, h1], show chgB xs (k : Int) j = true by simp [chgB, h, h1]]
      have H := Lib.hid h
      have H1 := Lib.hid h1
      clear h h1 hJ
      go_enter Try.func27, Try.ntmps27
      go_wp2_with fail
      refine (baStep_any _ _ _ _ _ _ hr hn).mono ?_
      rintro e w' ⟨rfl, rfl⟩
      rw [H.out]
      go_wp2_with fail
      refine (l1In_any _ _ _ _).mono ?_
      rintro e w' ⟨rfl, rfl⟩
      rw [H1.out]
      go_wp2_with fail
      refine (l1Own_any _ _ _ _ _ hr hB hn).mono ?_
      rintro e w1 ⟨v1, rfl, hown, hb⟩
      obtain ⟨g, c1, rfl, hg1, hg2⟩ := hown.block (by omega)
      have k1 := hown.cell rfl hk
      have f1 := hown.frozen rfl k
      have O1 := Lib.hid (hown.set rfl k j)
      clear hown
      go_wp2_with fail
      go_ret2
      exact ⟨_, rfl, O1.out.1, hb.setCell (p := ⟨g, k, none⟩) hg1 _⟩

set_option maxHeartbeats 1000000 in
theorem implChange_any (A : Option Addr) (c : Nat) (xs : List Int) (s j : Int) (B : Nat) (w : World) (hr : Rd w B A c xs) (_hB : B ≤ w.heap.size) (hn : xs.length ≤ 1048576) :
    Calls Try.prog 28 #[.slice A xs.length c, .int .i64 s, .int .i64 j] w (Lists w (chgR xs s j) (chgB xs s j)) := by
  cases h : ballB xs s
  · rw [chg_no (by simp [chgB, h]), show chgB xs s j = false by simp [chgB, h]]
    have H := Lib.hid h
    clear h
    go_enter Try.func28, Try.ntmps28
    go_wp2_with fail
    refine (hasBall_any _ _ _ _ _ _ hr hn).mono ?_
    rintro e w' ⟨rfl, rfl⟩
    rw [H.out]
    go_wp2_with fail
    go_ret2
    exact ⟨_, rfl, OwnI.nil _ _, Below.refl _ _⟩
  · cases h1 : inB j (-30) 30
    · rw [chg_no (by simp [chgB, h1]), show chgB xs s j = false by simp [chgB, h1]]
      have H := Lib.hid h
      have H1 := Lib.hid h1
      clear h h1
      go_enter Try.func28, Try.ntmps28
      go_wp2_with fail
      refine (hasBall_any _ _ _ _ _ _ hr hn).mono ?_
      rintro e w' ⟨rfl, rfl⟩
      rw [H.out]
      go_wp2_with fail
      refine (isJump_any _ _).mono ?_
      rintro e w' ⟨rfl, rfl⟩
      rw [H1.out]
      go_wp2_with fail
      go_ret2
      exact ⟨_, rfl, OwnI.nil _ _, Below.refl _ _⟩
    · obtain ⟨hJ, hs0, hs1⟩ := ballB_le h
      obtain ⟨k, rfl⟩ := Int.eq_ofNat_of_zero_le hs0
      have hk : k < xs.length := by omega
      rw [show chgR xs (k : Int) j = xs.set k j by simp [chgR, chgB, h, h1], show chgB xs (k : Int) j = true by simp [chgB, h, h1]]
      have H := Lib.hid h
      have H1 := Lib.hid h1
      clear h h1 hJ
      go_enter Try.func28, Try.ntmps28
      go_wp2_with fail
      refine (hasBall_any _ _ _ _ _ _ hr hn).mono ?_
      rintro e w' ⟨rfl, rfl⟩
      rw [H.out]
      go_wp2_with fail
      refine (isJump_any _ _).mono ?_
      rintro e w' ⟨rfl, rfl⟩
      rw [H1.out]
      obtain ⟨m, hm⟩ : ∃ m, m = xs.length := ⟨_, rfl⟩
      have HM := Lib.hid hm
      rw [← hm] at hk hs1 hn ⊢
      clear hm
      go_wp2_with (at_builtin; refine wpList_append_rd' _ rfl _ _ rfl w.heap.size B _ [] xs rfl (OwnI.nil _ _) A m c rfl HM.out hr (by rw [← HM.out]; simp; omega) (Nat.le_refl _) ?_; intro v1 w1 hown1 hb1; rw [List.nil_append] at hown1; obtain ⟨g, c1, hvv, hg1, hg2⟩ := hown1.block (by rw [← HM.out]; omega); subst hvv; rw [← HM.out] at hown1; rw [← HM.out]; have k1 := hown1.cell HM.out (j := k) (by rw [← HM.out]; exact hk); have f1 := hown1.frozen HM.out k; have O1 := Lib.hid (hown1.set HM.out k j); clear hown1)
      go_ret2
      exact ⟨_, rfl, O1.out.1, hb1.setCell (p := ⟨g, k, none⟩) hg1 _⟩

/-- jumps of the stair that is told from below -/
def turnL (xs : List Int) : List Int := xs.reverse.map fun x => -x
def turnR (xs : List Int) : List Int := if jumpsB xs then turnL xs else []
theorem turnL_length (xs : List Int) : (turnL xs).length = xs.length := by simp [turnL]
theorem turnR_length (xs : List Int) (h : xs.length ≤ 1048576) : (turnR xs).length ≤ 1048576 := by
  unfold turnR; split
  · rw [turnL_length]; exact h
  · simp
theorem take_turn (xs : List Int) (k : Nat) (h : k < xs.length) : (turnL xs).take (k + 1) = (turnL xs).take k ++ [-(xs.getD (xs.length - 1 - k) 0)] := by
  unfold turnL
  rw [List.take_succ_eq_append_getElem (by simpa using h)]
  simp [List.getD_eq_getElem?_getD, show xs.length - 1 - k < xs.length by omega]

set_option maxHeartbeats 1000000 in
theorem specTurn_any (A : Option Addr) (c : Nat) (xs : List Int) (B : Nat) (w : World) (hr : Rd w B A c xs) (hB : B ≤ w.heap.size) (hn : xs.length ≤ 1048576) :
    Calls Try.prog 29 #[.slice A xs.length c] w (Lists w (turnR xs) (jumpsB xs)) := by
  cases h : jumpsB xs
  · rw [show turnR xs = [] by simp [turnR, h]]
    go_enter Try.func29, Try.ntmps29
    go_wp2_with fail
    refine (baGood_any _ _ _ _ _ hr hn).mono ?_
    rintro e w' ⟨rfl, rfl⟩
    rw [h]
    clear h
    go_wp2_with fail
    go_ret2
    exact ⟨_, rfl, OwnI.nil _ _, Below.refl _ _⟩
  · have R := Lib.hid (show turnR xs = turnL xs by simp [turnR, h])
    have hJ := Lib.hid (jumpsB_at h)
    have hl := jumpsB_le h
    have hw : IntKind.i64.wrap ((xs.length : Int) - 1) = (xs.length : Int) - 1 := IntWalk.i64_in _ (by omega)
    have H := Lib.hid h
    clear h
    go_enter Try.func29, Try.ntmps29
    go_wp2_with fail
    refine (baGood_any _ _ _ _ _ hr hn).mono ?_
    rintro e w' ⟨rfl, rfl⟩
    rw [H.out]
    go_wp2_with fail
    go_loopw [4, 5] (fun v i wr => ∃ (k : Nat), k ≤ xs.length ∧ i = .int .i64 ((xs.length : Int) - 1 - k) ∧ OwnI wr w.heap.size v ((turnL xs).take k) ∧ Below w.heap.size w wr) (fun _ i _ => (intOf i + 1).toNat)
    case atStart => exact ⟨0, Nat.zero_le _, by go_num, OwnI.nil _ _, Below.refl _ _⟩
    case round =>
      obtain ⟨k, hk, rfl, hown, hbw⟩ := hrel
      by_cases hlt : k < xs.length
      · obtain ⟨b, o, rfl, hb, hcell⟩ := (hr.below hbw hB).at_ (k := xs.length - 1 - k) (by omega)
        have TS := take_turn xs k hlt
        have hat := hJ.out (xs.length - 1 - k) (by omega)
        obtain ⟨m, hm⟩ : ∃ m, m = xs.length - 1 - k := ⟨_, rfl⟩
        have hme : (xs.length : Int) - 1 - k = m := by omega
        rw [hme]
        rw [← hm] at hcell TS hat
        have hlen : ((turnL xs).take k).length ≤ 1048576 := by simp [turnL_length]; omega
        generalize xs.getD m 0 = x at *
        have hwx : IntKind.i64.wrap (-x) = -x := IntWalk.i64_in _ (by omega)
        generalize hL : (turnL xs).take k = zs at *
        have HB := Lib.hid hbw
        have hz : w.heap.size ≤ wr.heap.size := hbw.size
        have hm2 : m < xs.length := by omega
        have HE := Lib.hid hme
        have HT := Lib.hid TS
        clear hL hm hme TS hbw
        go_wp2_with (at_builtin; refine wpList_pushI _ rfl _ _ rfl w.heap.size _ zs rfl (hown.alloc _) wr.heap.size (-x) rfl (by simp) hlen (by simp; omega) ?_; intro A1 c1 w2 hown1 hg1)
        go_roundw
        case rel => exact ⟨k + 1, by omega, congrArg (Value.int .i64) (by have := HE.out; omega), by rw [HT.out]; exact hown1, (HB.out.alloc hz _).trans hg1⟩
        case measure => simp [intOf]; try omega
      · obtain rfl : k = xs.length := by omega
        have HT := Lib.hid (show (turnL xs).take xs.length = turnL xs from List.take_of_length_le (by rw [turnL_length]; omega))
        go_wp2_with fail
        go_ret2
        exact ⟨_, rfl, by rw [R.out, ← HT.out]; exact hown, hbw⟩

end Go.Proofs.Ytmolfeckeoimbaa
