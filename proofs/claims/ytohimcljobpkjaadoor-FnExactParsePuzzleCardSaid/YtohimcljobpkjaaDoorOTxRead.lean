/- Contracts: the model's reading of a number. -/
import Derived.Test.YtohimcljobpkjaaDoorOTxSplit
namespace Go.Proofs.YtohimcljobpkjaaDoor
open Go.RowKit
set_option maxRecDepth 100000

/-- a byte of a text as a number -/
def btS (s : ByteArray) (k : Nat) : Nat := (s.data.getD k 0).toNat
theorem btS_lt (s : ByteArray) (k : Nat) : btS s k < 256 := UInt8.toNat_lt _
theorem btS_at {s : ByteArray} {k : Nat} (h : k < s.size) : (s[k]'h).toNat = btS s k := by
  have : s.data.getD k 0 = s[k]'h := by simp [ByteArray.getElem_eq_getElem_data, Array.getD, h]
  unfold btS; rw [this]
/-- what the first k bytes tell -/
def rdN (s : ByteArray) : Nat → Int
  | 0 => 0
  | k + 1 => 10 * rdN s k + ((btS s k : Int) - 48)
def dgB (s : ByteArray) : Nat → Bool
  | 0 => true
  | k + 1 => dgB s k && (decide (48 ≤ btS s k) && decide (btS s k ≤ 57))
theorem dgB_mono {s : ByteArray} {k : Nat} (h : dgB s k = false) : ∀ n, k ≤ n → dgB s n = false
  | 0, hn => by obtain rfl : k = 0 := by omega
                exact h
  | n + 1, hn => by
    by_cases e : k = n + 1
    · subst e; exact h
    · simp [dgB, dgB_mono h n (by omega)]
theorem rdN_in {s : ByteArray} : ∀ k, dgB s k = true → 0 ≤ rdN s k ∧ rdN s k < 10 ^ k
  | 0, _ => by simp [rdN]
  | k + 1, h => by
    simp only [dgB, Bool.and_eq_true, decide_eq_true_eq] at h
    have := rdN_in k h.1
    unfold rdN
    rw [Int.pow_succ]
    omega
def rdB (s : ByteArray) : Bool := inB (s.size : Int) 1 6 && (!(decide (btS s 0 = 48) && decide (1 < s.size)) && dgB s s.size)
/-- what the model reads -/
def rdI (s : ByteArray) : Int := if rdB s then rdN s s.size else -1
theorem rdI_no {s : ByteArray} (h : rdB s = false) : rdI s = -1 := by unfold rdI; rw [h]; rfl

set_option maxHeartbeats 1000000 in
theorem l1Read_any (s : ByteArray) (w : World) (hn : s.size ≤ 1048576) :
    Calls Tryd.prog 37 #[.string s] w fun e w' => e = .returned (.int .i64 (rdI s)) ∧ w = w' := by
  cases g0 : inB (s.size : Int) 1 6
  · rw [rdI_no (by simp [rdB, g0])]
    have H := Lib.hid g0
    clear g0
    go_enter Tryd.func37, Tryd.ntmps37
    go_wp2_with fail
    refine (l1In_any _ _ _ _).mono ?_
    rintro e w' ⟨rfl, rfl⟩
    rw [H.out]
    go_wp2_with fail
    go_ret
    exact ⟨rfl, rfl⟩
  · have b0 := inB_le g0
    have H := Lib.hid g0
    have h0 : 0 < s.size := by omega
    have e0 := btS_at h0
    have l0 := btS_lt s 0
    by_cases gz : btS s 0 = 48 ∧ 1 < s.size
    · rw [rdI_no (by simp [rdB, gz])]
      have z1 : (s[0]'h0).toNat = 48 := by rw [e0]; exact gz.1
      have z2 : (1 : Int) < (s.size : Int) := by omega
      clear g0
      go_enter Tryd.func37, Tryd.ntmps37
      go_wp2_with fail
      refine (l1In_any _ _ _ _).mono ?_
      rintro e w' ⟨rfl, rfl⟩
      rw [H.out]
      go_wp2_with fail
      go_ret
      exact ⟨rfl, rfl⟩
    · have hB : rdB s = dgB s s.size := by
        have : (decide (btS s 0 = 48) && decide (1 < s.size)) = false := by
          simp only [Bool.and_eq_false_iff, decide_eq_false_iff_not]
          by_cases a : btS s 0 = 48
          · exact .inr (fun b => gz ⟨a, b⟩)
          · exact .inl a
        simp [rdB, g0, this]
      have HB := Lib.hid hB
      have gz2 : ¬ (s[0]'h0).toNat = 48 ∨ ¬ 1 < s.size := by rw [e0]; omega
      clear g0 hB
      go_enter Tryd.func37, Tryd.ntmps37
      go_wp2_with fail
      refine (l1In_any _ _ _ _).mono ?_
      rintro e w' ⟨rfl, rfl⟩
      rw [H.out]
      go_wp2_with fail
      all_goals
        go_loopw [3, 4] (fun n i wr => ∃ k : Nat, k ≤ s.size ∧ i = .int .i64 k ∧ n = .int .i64 (rdN s k) ∧ dgB s k = true ∧ wr = w) (fun _ i _ => s.size - (intOf i).toNat)
        case atStart => exact ⟨0, Nat.zero_le _, rfl, rfl, rfl, rfl⟩
        case round =>
          obtain ⟨k, hk, rfl, rfl, hd, rfl⟩ := hrel
          by_cases hlt : k < s.size
          · have ek := btS_at hlt
            have lk := btS_lt s k
            have i0 : (0 : Int) ≤ (k : Int) := by omega
            have i1 : (k : Int) < (s.size : Int) := by omega
            obtain ⟨r0, r1⟩ := rdN_in k hd
            have hp : (10 : Int) ^ k ≤ 100000 := by
              have : k = 0 ∨ k = 1 ∨ k = 2 ∨ k = 3 ∨ k = 4 ∨ k = 5 := by omega
              rcases this with rfl | rfl | rfl | rfl | rfl | rfl <;> decide
            by_cases d1 : 48 ≤ btS s k
            · by_cases d2 : btS s k ≤ 57
              · have HD := Lib.hid (show dgB s (k + 1) = true by simp [dgB, hd, d1, d2])
                have HT := Lib.hid (show rdN s (k + 1) = 10 * rdN s k + ((btS s k : Int) - 48) from rfl)
                have u1 : IntKind.u8.wrap ((btS s k : Int) - 48) = (btS s k : Int) - 48 := by unfold IntKind.wrap; simp [IntKind.bits, IntKind.signed]; omega
                have D1 : ¬ btS s k < 48 := by omega
                have D2 : ¬ 57 < btS s k := by omega
                have D3 : ¬ (btS s k : Int) < 48 := by omega
                have D4 : ¬ (57 : Int) < (btS s k : Int) := by omega
                generalize rdN s k = n at *
                generalize btS s k = x at *
                go_wp2_with fail
                go_roundw
                case rel => exact ⟨k + 1, by omega, by go_num, by rw [HT.out], HD.out, trivial⟩
                case measure => simp [intOf]; omega
              · have HI := Lib.hid (rdI_no (s := s) (by rw [HB.out]; exact dgB_mono (k := k + 1) (by simp [dgB, d2]) _ (by omega)))
                have D1 : ¬ btS s k < 48 := by omega
                have D2 : 57 < btS s k := by omega
                have D3 : ¬ (btS s k : Int) < 48 := by omega
                have D4 : (57 : Int) < (btS s k : Int) := by omega
                generalize btS s k = x at *
                go_wp2_with fail
                go_ret
                exact ⟨by rw [HI.out]; rfl, rfl⟩
            · have HI := Lib.hid (rdI_no (s := s) (by rw [HB.out]; exact dgB_mono (k := k + 1) (by simp [dgB, d1]) _ (by omega)))
              have D1 : btS s k < 48 := by omega
              have D3 : (btS s k : Int) < 48 := by omega
              generalize btS s k = x at *
              go_wp2_with fail
              go_ret
              exact ⟨by rw [HI.out]; rfl, rfl⟩
          · obtain rfl : k = s.size := by omega
            have HI := Lib.hid (show rdI s = rdN s s.size by unfold rdI; rw [HB.out, hd]; rfl)
            go_wp2_with fail
            go_ret
            exact ⟨by rw [HI.out]; rfl, rfl⟩

end Go.Proofs.YtohimcljobpkjaaDoor
