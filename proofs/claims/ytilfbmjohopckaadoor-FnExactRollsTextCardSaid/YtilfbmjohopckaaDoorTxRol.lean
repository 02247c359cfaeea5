/- Contracts: the text of rolls, on both sides. -/
import Derived.Test.YtilfbmjohopckaaDoorTxList
import Derived.Test.YtilfbmjohopckaaDoorCaB
namespace Go.Proofs.YtilfbmjohopckaaDoor
open Go.RowKit
set_option maxRecDepth 100000

set_option maxHeartbeats 1000000 in
theorem cpText_any (A : Option Addr) (n c : Nat) (xs : List Int) (B : Nat) (w : World) (hl : n = xs.length) (hr : Rd w B A c xs) (hB : B ≤ w.heap.size) (hn : xs.length ≤ 1000) (hx : ∀ k, k < xs.length → 0 ≤ xs.getD k 0 ∧ xs.getD k 0 ≤ 1000000000) :
    Calls Tryd.prog 14 #[.slice A n c] w fun e w' => e = .returned (.string (lsS 43 xs xs.length)) ∧ Below w.heap.size w w' := by
  subst hl
  have HX := Lib.hid hx
  have HR := Lib.hid hr
  have HSZ := Lib.hid (fun k hk => lsS_size 43 (xs := xs) (fun k hk => (hx k hk).2) k hk)
  clear hx hr
  go_enter Tryd.func14, Tryd.ntmps14
  go_wp2_with fail
  go_loopw [3, 8] (fun s i wr => ∃ k : Nat, k ≤ xs.length ∧ i = .int .i64 k ∧ s = .string (lsS 43 xs k) ∧ Below w.heap.size w wr) (fun _ i _ => xs.length - (intOf i).toNat)
  case atStart => exact ⟨0, Nat.zero_le _, rfl, rfl, Below.refl _ _⟩
  case round =>
    obtain ⟨k, hk, rfl, rfl, hbw⟩ := hrel
    have hz : w.heap.size ≤ wr.heap.size := hbw.size
    by_cases hlt : k < xs.length
    · obtain ⟨b, o, rfl, hb0, hcell⟩ := (HR.out.below hbw hB).at_ hlt
      have hx1 := HX.out k hlt
      have HN := Lib.hid (fun w => l1Num_any 1000000001 (xs.getD k 0) w hx1.1 (by omega) hx1.2)
      have z1 := numS_size hx1.2
      have z2 := HSZ.out k hk
      by_cases k0 : k = 0
      · subst k0
        rw [Nat.add_zero] at hcell
        have HT := Lib.hid (lsS_one 43 xs)
        have HE := Lib.hid (show ∀ t : ByteArray, (⟨#[]⟩ : ByteArray) ++ t = t from fun t => by apply ByteArray.ext; simp)
        have z3 : (⟨#[]⟩ : ByteArray).size = 0 := rfl
        rw [show lsS 43 xs 0 = ⟨#[]⟩ from rfl] at *
        generalize numS (xs.getD 0 0) = t at *
        generalize xs.getD 0 0 = x at *
        have A0 := fun u => run_string_add_sum (P := Tryd.prog) u (⟨#[]⟩ : ByteArray) t (by omega)
        go_wp2_with fail
        refine (HN.out _).mono ?_
        rintro e w1 ⟨rfl, hb1⟩
        go_wp2_with fail
        go_roundw
        case rel => exact ⟨1, by omega, by go_num, by rw [HT.out, HE.out], hbw.trans (hb1.mono hz)⟩
        case measure => simp [intOf]; omega
      · have HT := Lib.hid (lsS_more 43 xs k0)
        have k1 : (0 : Int) < (k : Int) := by omega
        generalize numS (xs.getD k 0) = t at *
        generalize xs.getD k 0 = x at *
        generalize lsS 43 xs k = s at *
        have A0 := fun u => run_string_add_sum (P := Tryd.prog) u s (⟨#[43]⟩ : ByteArray) (by simp only [one_size]; omega)
        have A1 := fun u => run_string_add_sum (P := Tryd.prog) u (s ++ ⟨#[43]⟩) t (by simp only [ByteArray.size_append, one_size]; omega)
        go_wp2_with fail
        refine (HN.out _).mono ?_
        rintro e w1 ⟨rfl, hb1⟩
        go_wp2_with fail
        go_roundw
        case rel => exact ⟨k + 1, by omega, by go_num, by rw [HT.out], hbw.trans (hb1.mono hz)⟩
        case measure => simp [intOf]; omega
    · obtain rfl : k = xs.length := by omega
      go_wp2
      go_ret
      exact ⟨rfl, hbw⟩

theorem rolls_at {xs : List Int} (h : rollsB xs = true) : (1 ≤ xs.length ∧ xs.length ≤ 8) ∧ ∀ k, k < xs.length → 0 ≤ xs.getD k 0 ∧ xs.getD k 0 ≤ 1000000000 :=
  ⟨rollsB_le h, fun k hk => by have := rollsB_at h k hk; omega⟩
def roS (xs : List Int) : ByteArray := lsS 43 xs xs.length
set_option maxHeartbeats 400000 in
theorem specRollsText_any (A : Option Addr) (c : Nat) (xs : List Int) (B : Nat) (w : World) (hr : Rd w B A c xs) (hB : B ≤ w.heap.size) (hn : xs.length ≤ 1048576) :
    Calls Tryd.prog 5 #[.slice A xs.length c] w fun e w' => e = .returned (.tuple #[.string (orS (rollsB xs) (roS xs)), .bool (rollsB xs)]) ∧ Below w.heap.size w w' := by
  cases g0 : rollsB xs
  · rw [orS_no]
    have H := Lib.hid g0
    clear g0
    go_enter Tryd.func5, Tryd.ntmps5
    go_wp2_with fail
    refine (cpRolls_any _ _ _ _ _ hr hn).mono ?_
    rintro e w' ⟨rfl, rfl⟩
    rw [H.out]
    go_wp2_with fail
    go_ret2
    exact ⟨rfl, Below.refl _ _⟩
  · rw [orS_yes]
    obtain ⟨hl, hx⟩ := rolls_at g0
    have H := Lib.hid g0
    have HX := Lib.hid hx
    clear g0 hx
    go_enter Tryd.func5, Tryd.ntmps5
    go_wp2_with fail
    refine (cpRolls_any _ _ _ _ _ hr hn).mono ?_
    rintro e w' ⟨rfl, rfl⟩
    rw [H.out]
    go_wp2_with fail
    refine (cpText_any _ _ _ xs _ _ rfl hr hB (by omega) HX.out).mono ?_
    rintro e w1 ⟨rfl, hb⟩
    go_wp2_with fail
    go_ret2
    exact ⟨rfl, hb⟩
set_option maxHeartbeats 400000 in
theorem implRollsText_any (A : Option Addr) (c : Nat) (xs : List Int) (B : Nat) (w : World) (hr : Rd w B A c xs) (hB : B ≤ w.heap.size) (hn : xs.length ≤ 1048576) (ht : TabI w) :
    Calls Tryd.prog 7 #[.slice A xs.length c] w fun e w' => e = .returned (.tuple #[.string (orS (rollsB xs) (roS xs)), .bool (rollsB xs)]) ∧ Below w.heap.size w w' := by
  cases g0 : rollsB xs
  · rw [orS_no]
    have H := Lib.hid g0
    clear g0
    go_enter Tryd.func7, Tryd.ntmps7
    go_wp2_with fail
    refine (impRolls_any _ _ _ _ _ hr hn).mono ?_
    rintro e w' ⟨rfl, rfl⟩
    rw [H.out]
    go_wp2_with fail
    go_ret2
    exact ⟨rfl, Below.refl _ _⟩
  · rw [orS_yes]
    obtain ⟨hl, hx⟩ := rolls_at g0
    have H := Lib.hid g0
    have HX := Lib.hid hx
    clear g0 hx
    go_enter Tryd.func7, Tryd.ntmps7
    go_wp2_with fail
    refine (impRolls_any _ _ _ _ _ hr hn).mono ?_
    rintro e w' ⟨rfl, rfl⟩
    rw [H.out]
    go_wp2_with fail
    refine (numbersText_any _ _ _ xs 43 _ _ rfl hr hB (by omega) HX.out ht).mono ?_
    rintro e w1 ⟨rfl, hb⟩
    go_wp2_with fail
    go_ret2
    exact ⟨rfl, hb⟩

end Go.Proofs.YtilfbmjohopckaaDoor
