/- Contracts: bears told from above, on both sides. -/
import Derived.Test.YtdkmpclghfkfbaaWearGood
import Derived.Test.YtdkmpclghfkfbaaGRev
import Derived.Test.YtdkmpclghfkfbaaGApp
namespace Go.Proofs.Ytdkmpclghfkfbaa
open Go.RowKit

def turnR (xs : List Int) : List Int := if bearsB xs then xs.reverse else []
theorem turnR_length (xs : List Int) (h : xs.length ≤ 1048576) : (turnR xs).length ≤ 1048576 := by
  unfold turnR; split <;> simp; exact h
theorem take_rev (xs : List Int) (k : Nat) (h : k < xs.length) : xs.reverse.take (k + 1) = xs.reverse.take k ++ [xs.getD (xs.length - 1 - k) 0] := by
  rw [List.take_succ_eq_append_getElem (by simpa using h)]
  simp [List.getD_eq_getElem?_getD, show xs.length - 1 - k < xs.length by omega]

set_option maxHeartbeats 1000000 in
theorem specTurn_any (A : Option Addr) (c : Nat) (xs : List Int) (B : Nat) (w : World) (hr : Rd w B A c xs) (hB : B ≤ w.heap.size) (hn : xs.length ≤ 1048576) :
    Calls Try.prog 19 #[.slice A xs.length c] w (Lists w (turnR xs) (bearsB xs)) := by
  cases h : bearsB xs
  · rw [show turnR xs = [] by simp [turnR, h]]
    go_enter Try.func19, Try.ntmps19
    go_wp2_with fail
    refine (weGood_any _ _ _ _ _ hr hn).mono ?_
    rintro e w' ⟨rfl, rfl⟩
    rw [h]
    clear h
    go_wp2_with fail
    go_ret2
    exact ⟨_, rfl, OwnI.nil _ _, Below.refl _ _⟩
  · have R := Lib.hid (show turnR xs = xs.reverse by simp [turnR, h])
    have H := Lib.hid h
    clear h
    go_enter Try.func19, Try.ntmps19
    go_wp2_with fail
    refine (weGood_any _ _ _ _ _ hr hn).mono ?_
    rintro e w' ⟨rfl, rfl⟩
    rw [H.out]
    go_wp2_with fail
    go_loopw [4, 5] (fun v i wr => ∃ (k : Nat), k ≤ xs.length ∧ i = .int .i64 ((xs.length : Int) - 1 - k) ∧ OwnI wr w.heap.size v (xs.reverse.take k) ∧ Below w.heap.size w wr) (fun _ i _ => (intOf i + 1).toNat)
    case atStart => exact ⟨0, Nat.zero_le _, by go_num, OwnI.nil _ _, Below.refl _ _⟩
    case round =>
      obtain ⟨k, hk, rfl, hown, hbw⟩ := hrel
      by_cases hlt : k < xs.length
      · obtain ⟨b, o, rfl, hb, hcell⟩ := (hr.below hbw hB).at_ (k := xs.length - 1 - k) (by omega)
        have TS := take_rev xs k hlt
        obtain ⟨m, hm⟩ : ∃ m, m = xs.length - 1 - k := ⟨_, rfl⟩
        have hme : (xs.length : Int) - 1 - k = m := by omega
        rw [hme]
        rw [← hm] at hcell TS
        have hlen : (xs.reverse.take k).length ≤ 1048576 := by simp; omega
        generalize xs.getD m 0 = x at *
        generalize hL : xs.reverse.take k = zs at *
        have HB := Lib.hid hbw
        have hz : w.heap.size ≤ wr.heap.size := hbw.size
        have hm2 : m < xs.length := by omega
        have HE := Lib.hid hme
        have HT := Lib.hid TS
        clear hL hm hme TS hbw
        go_wp2_with (at_builtin; refine wpList_pushI _ rfl _ _ rfl w.heap.size _ zs rfl (hown.alloc _) wr.heap.size x rfl (by simp) hlen (by simp; omega) ?_; intro A1 c1 w2 hown1 hg1)
        go_roundw
        case rel => exact ⟨k + 1, by omega, congrArg (Value.int .i64) (by have := HE.out; omega), by rw [HT.out]; exact hown1, (HB.out.alloc hz _).trans hg1⟩
        case measure => simp [intOf]; try omega
      · obtain rfl : k = xs.length := by omega
        have HT := Lib.hid (show xs.reverse.take xs.length = xs.reverse from List.take_of_length_le (by simp))
        go_wp2_with fail
        go_ret2
        exact ⟨_, rfl, by rw [R.out, ← HT.out]; exact hown, hbw⟩

set_option maxHeartbeats 1000000 in
theorem impTurn_any (A : Option Addr) (c : Nat) (xs : List Int) (B : Nat) (w : World) (hr : Rd w B A c xs) (hn : xs.length ≤ 1048576) :
    Calls Try.prog 20 #[.slice A xs.length c] w (Lists w (turnR xs) (bearsB xs)) := by
  cases h : bearsB xs
  · rw [show turnR xs = [] by simp [turnR, h]]
    go_enter Try.func20, Try.ntmps20
    go_wp2_with fail
    refine (impBears_any _ _ _ _ _ hr hn).mono ?_
    rintro e w' ⟨rfl, rfl⟩
    rw [h]
    clear h
    go_wp2_with fail
    go_ret2
    exact ⟨_, rfl, OwnI.nil _ _, Below.refl _ _⟩
  · have R := Lib.hid (show turnR xs = xs.reverse by simp [turnR, h])
    have H := Lib.hid h
    clear h
    go_enter Try.func20, Try.ntmps20
    go_wp2_with fail
    refine (impBears_any _ _ _ _ _ hr hn).mono ?_
    rintro e w' ⟨rfl, rfl⟩
    rw [H.out]
    go_wp2_with (at_builtin; refine wpList_append_rd' _ rfl _ _ rfl w.heap.size B _ [] xs rfl (OwnI.nil _ _) A xs.length c rfl rfl hr (by simp; omega) (Nat.le_refl _) ?_; intro v1 w1 hown1 hb1; rw [List.nil_append] at hown1; obtain ⟨A1, c1, hvv, _⟩ := hown1.form; subst hvv)
    refine (reverse_any A1 c1 xs _ _ hown1 hn).mono ?_
    rintro e w2 ⟨rfl, hown2, hg2⟩
    go_wp2_with fail
    go_ret2
    have hl := hown1.lt
    exact ⟨_, rfl, by rw [R.out]; exact hown2, hb1.trans ((Below.refl _ _).grown hg2 hb1.size (fun k hk => (hl k hk).1))⟩

end Go.Proofs.Ytdkmpclghfkfbaa
