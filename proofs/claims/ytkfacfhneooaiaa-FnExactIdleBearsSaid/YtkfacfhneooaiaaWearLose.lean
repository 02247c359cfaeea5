/- Contracts: what is left where a step bears none, idle steps and the worst step to lose, on both sides. -/
import Derived.Test.YtkfacfhneooaiaaWearReach
import Derived.Test.YtkfacfhneooaiaaGOwn
namespace Go.Proofs.Ytkfacfhneooaiaa
open Go.RowKit

theorem bears_set {xs : List Int} (h : bearsB xs = true) (k : Nat) : bearsB (xs.set k 0) = true := by
  simp only [bearsB, Bool.and_eq_true] at h ⊢
  refine ⟨by rw [List.length_set]; exact h.1, ?_⟩
  have : ∀ {ys : List Int} (k : Nat), allB 0 100 ys = true → allB 0 100 (ys.set k 0) = true := by
    intro ys
    induction ys with
    | nil => intro k h; exact h
    | cons y r ih =>
      intro k h
      simp only [allB, Bool.and_eq_true] at h
      cases k with
      | zero => simp only [List.set_cons_zero, allB, Bool.and_eq_true]; exact ⟨by simp [inB], h.2⟩
      | succ k => simp only [List.set_cons_succ, allB, Bool.and_eq_true]; exact ⟨h.1, ih k h.2⟩
  exact this k h.2
/-- the most climbs where the step at place k bears none -/
def lostX (xs : List Int) (r k : Nat) : Int := mostX (xs.set k 0) r
def lostL (xs : List Int) (r : Nat) : List Int := tell xs.length (lostX xs r)
theorem lostL_length (xs : List Int) (r : Nat) : (lostL xs r).length = xs.length := by unfold lostL; rw [tell_length]

set_option maxHeartbeats 400000 in
theorem weLose_any (A : Option Addr) (c : Nat) (xs : List Int) (k : Nat) (B : Nat) (w : World) (hr : Rd w B A c xs) (hB : B ≤ w.heap.size) (hn : xs.length ≤ 1048576) (hk : k < xs.length) :
    Calls Try.prog 56 #[.slice A xs.length c, .int .i64 ((k : Int) + 1)] w fun e w' => ∃ A' c', e = .returned (.slice A' xs.length c') ∧ Rd w' w'.heap.size A' c' (xs.set k 0) ∧ Below w.heap.size w w' := by
  go_enter Try.func56, Try.ntmps56
  go_wp2_with fail
  refine (l1Own_any _ _ _ _ _ hr hB hn).mono ?_
  rintro e w1 ⟨v, rfl, hown, hb⟩
  obtain ⟨g, c', rfl, hg1, hg2⟩ := hown.block (by omega)
  have k1 := hown.cell rfl hk
  have f1 := hown.frozen rfl k
  obtain ⟨o1, g1⟩ := hown.set rfl k 0
  have HO := Lib.hid o1
  have HB := Lib.hid ((hb.setCell (p := ⟨g, k, none⟩) hg1) (.int .i64 0))
  clear o1 g1 hown hb
  go_wp2_with fail
  go_ret
  refine ⟨_, _, rfl, ?_, HB.out⟩
  exact HO.out.rd

set_option maxHeartbeats 2000000 in
theorem mostWithout_any (A : Option Addr) (c : Nat) (xs : List Int) (r : Nat) (B : Nat) (w : World) (hr : Rd w B A c xs) (hB : B ≤ w.heap.size) (hl : xs.length ≤ 20) (hr1 : 1 ≤ r) (hr2 : r ≤ xs.length) (hbe : bearsB xs = true) :
    Calls Try.prog 57 #[.slice A xs.length c, .int .i64 (r : Int)] w (ListP w (lostL xs r)) := by
  have HBe := Lib.hid hbe
  obtain ⟨m, hm⟩ : ∃ m, m = xs.length := ⟨_, rfl⟩
  have hmk := make_run m (by omega)
  have HM := Lib.hid hm
  have HZ := Lib.hid (zeros_tell m)
  rw [← hm] at hl hr2
  rw [← hm]
  clear hbe hm
  go_enter Try.func57, Try.ntmps57
  go_wp2_with fail
  go_loopw [13] (fun i wr => ∃ k : Nat, k ≤ m ∧ i = .int .i64 k ∧ Blk wr w.heap.size 3 (ints (tell m (fun j => if j < k then lostX xs r j else 0))) ∧ Below w.heap.size w wr) (fun i _ => m - (intOf i).toNat)
  case atStart => exact ⟨0, by omega, rfl, by rw [show (fun j : Nat => if j < 0 then lostX xs r j else 0) = fun _ => 0 from funext fun j => if_neg (by omega), ← HZ.out]; exact Blk.new _ _ _, below_alloc _ _⟩
  case round =>
    obtain ⟨k, hk, rfl, hblk, hbw⟩ := hrel
    have hz : w.heap.size ≤ wr.heap.size := hbw.size
    by_cases hlt : k < m
    · have HR := Lib.hid (hr.below hbw hB)
      have SE : Hid ((tell m (fun j => if j < k then lostX xs r j else 0)).set k (lostX xs r k) = tell m (fun j => if j < k + 1 then lostX xs r j else 0)) := Lib.hid (tell_set hlt (by rw [if_pos (by omega)]) (fun j _ hj => by by_cases h : j < k <;> simp [h, show j < k + 1 ↔ j < k by omega]))
      have HE := Lib.hid (ends_of (s := r) (bears_set HBe.out k) hr1 (by rw [List.length_set, ← HM.out]; omega) (by rw [List.length_set, ← HM.out]; omega))
      have HMo := Lib.hid (mostR_yes HE.out)
      have HLe := Lib.hid (show (xs.set k 0).length = xs.length by simp)
      have HLx := Lib.hid (show lostX xs r k = mostX (xs.set k 0) r from rfl)
      have hwz := hblk.lt
      go_wp2_with (at_builtin; refine wpList_append_rd' _ rfl _ _ rfl wr.heap.size B _ [] xs rfl (OwnI.nil _ _) A m c rfl HM.out HR.out (by simp; rw [← HM.out]; omega) (Nat.le_refl _) ?_; intro v1 w1 hown1 hb1; rw [List.nil_append] at hown1; obtain ⟨g, c1, hvv, hg1, hg2⟩ := hown1.block (by rw [← HM.out]; omega); subst hvv; rw [← HM.out] at hown1; rw [← HM.out]; have k1 := hown1.cell HM.out (j := k) (by rw [← HM.out]; exact hlt); have f1 := hown1.frozen HM.out k; have O1 := Lib.hid (hown1.set HM.out k 0))
      have HC := impMost_any (some ⟨g, 0, none⟩) c1 (xs.set k 0) (r : Int) _ (w1.setCell ⟨g, k, none⟩ (.int .i64 0)) O1.out.1.rd (Nat.le_refl _) (by rw [HLe.out, ← HM.out]; omega)
      rw [HLe.out, ← HM.out, HMo.out, HE.out, ← HLx.out] at HC
      refine HC.mono ?_
      rintro e w3 ⟨rfl, hb3⟩
      have hz1 : wr.heap.size ≤ w1.heap.size := hb1.size
      have hb3' : Below w1.heap.size (w1.setCell ⟨g, k, none⟩ (.int .i64 0)) w3 := hb3.mono (by simp)
      have hblk3 := ((hblk.below hb1 hwz).far (p := ⟨g, k, none⟩) (show w.heap.size ≠ g by omega) (.int .i64 0)).below hb3' (by omega)
      have k2 := hblk3.int_at (k := k) (by rw [tell_length]; exact hlt)
      rw [tell_getD _ _ _ hlt, if_neg (by omega)] at k2
      have f2 := hblk3.frozen k
      have HB2 := Lib.hid (((hbw.trans (hb1.mono hz)).setCell (p := ⟨g, k, none⟩) (show w.heap.size ≤ g by omega) (.int .i64 0)).trans (hb3'.mono (by omega)))
      clear HC hb3 hb3' k1 f1 hown1 hblk hbw hb1
      generalize lostX xs r k = v at *
      go_wp2_with fail
      go_roundw
      case rel => exact ⟨k + 1, by omega, by go_num, by rw [← SE.out]; exact hblk3.int_set k v, HB2.out.setCell (Nat.le_refl _) _⟩
      case measure => simp [intOf]; omega
    · obtain rfl : k = m := by omega
      have HL := Lib.hid (show tell k (fun j => if j < k then lostX xs r j else 0) = lostL xs r by unfold lostL; rw [← HM.out]; exact tell_ext fun j hj => by rw [if_pos hj])
      have hlen : (lostL xs r).length = k := by rw [lostL_length, ← HM.out]
      rw [HL.out] at hblk
      have ho2 := hblk.own (by rw [hlen]; omega)
      rw [hlen] at ho2
      clear hlen
      go_wp2_with fail
      go_ret
      exact ⟨_, rfl, ho2, hbw⟩

end Go.Proofs.Ytkfacfhneooaiaa
