/- Contracts: strings.Cut at a separator of one byte. -/
import Derived.Test.YtenhlppijpmdgaaDoorTxSpl
import Derived.Test.YtenhlppijpmdgaaDoorTxAtN
namespace Go.Proofs.YtenhlppijpmdgaaDoor
open Go.RowKit Go.Shelf
set_option maxRecDepth 100000

def cutK (s : ByteArray) (b : UInt8) : Int := Lib.indexByte s.data.toList b
def cutA (s : ByteArray) (b : UInt8) : ByteArray := if cutK s b < 0 then s else s.extract 0 (cutK s b).toNat
def cutZ (s : ByteArray) (b : UInt8) : ByteArray := if cutK s b < 0 then ⟨#[]⟩ else s.extract ((cutK s b).toNat + 1) s.size
def cutB (s : ByteArray) (b : UInt8) : Bool := decide (0 ≤ cutK s b)
theorem cutA_size (s : ByteArray) (b : UInt8) : (cutA s b).size ≤ s.size := by unfold cutA; split <;> simp <;> omega
theorem cutZ_size (s : ByteArray) (b : UInt8) : (cutZ s b).size ≤ s.size := by
  unfold cutZ
  split
  · exact Nat.zero_le _
  · simp
/-- a text with the byte in it is parted at the first one -/
theorem cut_is {s x r : ByteArray} {b : UInt8} (h : s.data.toList = x.data.toList ++ b :: r.data.toList) (hx : b ∉ x.data.toList) : cutA s b = x ∧ cutZ s b = r := by
  rcases Int.lt_or_le (cutK s b) 0 with hneg | hpos
  · have e : Lib.indexByte s.data.toList b = -1 := by have := Lib.indexByte_ge s.data.toList b; unfold cutK at hneg; omega
    exact absurd (byte_none e) (by rw [h]; simp)
  · obtain ⟨k, hk⟩ : ∃ k : Nat, cutK s b = (k : Int) := ⟨(cutK s b).toNat, by omega⟩
    obtain ⟨c1, c2, c3⟩ := byte_cut (show Lib.indexByte s.data.toList b = (k : Int) from hk)
    rw [h] at c1
    obtain ⟨e1, e2⟩ := cut_uniq hx (by rw [← h]; exact c2) c1
    refine ⟨?_, ?_⟩
    · unfold cutA
      rw [if_neg (by omega), hk, Int.toNat_natCast]
      exact bytes_inj (by rw [pre_toL, h]; exact e1.symm)
    · unfold cutZ
      rw [if_neg (by omega), hk, Int.toNat_natCast]
      exact bytes_inj (by rw [suf_toL, h]; exact e2.symm)
/-- without the byte it is whole -/
theorem cut_no {s : ByteArray} {b : UInt8} (h : b ∉ s.data.toList) : cutA s b = s ∧ cutZ s b = ⟨#[]⟩ := by
  have e : cutK s b < 0 := by
    rcases Int.lt_or_le (cutK s b) 0 with hneg | hpos
    · exact hneg
    · obtain ⟨k, hk⟩ : ∃ k : Nat, cutK s b = (k : Int) := ⟨(cutK s b).toNat, by omega⟩
      obtain ⟨c1, _, _⟩ := byte_cut (show Lib.indexByte s.data.toList b = (k : Int) from hk)
      exact absurd (by rw [c1]; simp) h
  exact ⟨by unfold cutA; rw [if_pos e], by unfold cutZ; rw [if_pos e]⟩

set_option maxHeartbeats 1000000 in
theorem cutIn_any (s : ByteArray) (b : UInt8) (w : World) (hs : s.size ≤ 1048576) :
    Calls Tryd.prog 47 #[.string s, .string ⟨#[b]⟩] w fun e w' => e = .returned (.tuple #[.string (cutA s b), .string (cutZ s b), .bool (cutB s b)]) ∧ Below w.heap.size w w' := by
  rcases Int.lt_or_le (cutK s b) 0 with hneg | hpos
  · have e1 : cutA s b = s := by unfold cutA; rw [if_pos hneg]
    have e2 : cutZ s b = ⟨#[]⟩ := by unfold cutZ; rw [if_pos hneg]
    have e3 : cutB s b = false := decide_eq_false (by omega)
    have IX := Lib.hid (show ∀ u, Calls Tryd.prog 54 #[.string s, .string ⟨#[b]⟩] u fun e w' => e = .returned (.int .i64 (cutK s b)) ∧ w' = u from Tryd.stringslite_Index_one s b)
    rw [e1, e2, e3]
    clear e1 e2 e3
    generalize cutK s b = k at *
    have hk : ¬ (0 : Int) ≤ k := by omega
    go_enter Tryd.func47, Tryd.ntmps47
    go_wp2_with fail
    refine (IX.out _).mono ?_
    rintro e w' ⟨rfl, rfl⟩
    go_wp2_with fail
    refine bodyPost_ret (v := .tuple #[.string s, .string ⟨#[]⟩, .bool false]) ?hr rfl ⟨rfl, Below.refl _ _⟩
    (case hr => simp [results, Tryd.f47, go_sem])
  · obtain ⟨k, hk⟩ : ∃ k : Nat, cutK s b = (k : Int) := ⟨(cutK s b).toNat, by omega⟩
    have hkc : k < s.size := by have := (byte_cut (show Lib.indexByte s.data.toList b = (k : Int) from hk)).2.2; simpa using this
    have e1 : cutA s b = s.extract 0 k := by unfold cutA; rw [if_neg (by omega), hk, Int.toNat_natCast]
    have e2 : cutZ s b = s.extract (k + 1) s.size := by unfold cutZ; rw [if_neg (by omega), hk, Int.toNat_natCast]
    have e3 : cutB s b = true := decide_eq_true hpos
    have IX := Lib.hid (show ∀ u, Calls Tryd.prog 54 #[.string s, .string ⟨#[b]⟩] u fun e w' => e = .returned (.int .i64 (k : Int)) ∧ w' = u from fun u => hk ▸ Tryd.stringslite_Index_one s b u)
    rw [e1, e2, e3]
    clear e1 e2 e3 hk hpos
    have k0 : (0 : Int) ≤ (k : Int) := by omega
    have k1 : (k : Int) ≤ (s.size : Int) := by omega
    have k2 : (k : Int) + 1 ≤ (s.size : Int) := by omega
    go_enter Tryd.func47, Tryd.ntmps47
    go_wp2_with fail
    refine (IX.out _).mono ?_
    rintro e w' ⟨rfl, rfl⟩
    go_wp2_with fail
    go_region
    all_goals go_wp2_with fail
    all_goals refine bodyPost_ret (v := .tuple #[.string (s.extract 0 k), .string (s.extract (k + 1) s.size), .bool true]) ?hr rfl ⟨rfl, (Below.refl _ _).drew⟩
    all_goals simp [results, Tryd.f47, go_sem]
theorem cut_any (s : ByteArray) (b : UInt8) (w : World) (hs : s.size ≤ 1048576) :
    Calls Tryd.prog 27 #[.string s, .string ⟨#[b]⟩] w fun e w' => e = .returned (.tuple #[.string (cutA s b), .string (cutZ s b), .bool (cutB s b)]) ∧ Below w.heap.size w w' := by
  have C := Lib.hid (fun u => cutIn_any s b u hs)
  go_enter Tryd.func27, Tryd.ntmps27
  go_wp2_with fail
  refine (C.out _).mono ?_
  rintro e w' ⟨rfl, hb⟩
  go_wp2_with fail
  refine bodyPost_ret (v := .tuple #[.string (cutA s b), .string (cutZ s b), .bool (cutB s b)]) ?hr rfl ⟨rfl, hb⟩
  (case hr => simp [results, Tryd.f27, go_sem])

end Go.Proofs.YtenhlppijpmdgaaDoor
