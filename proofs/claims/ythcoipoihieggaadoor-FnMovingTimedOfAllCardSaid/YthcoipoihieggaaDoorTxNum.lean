/- Contracts: numerals, the model's. -/
import Derived.Test.YthcoipoihieggaaDoorGSpec
import Derived.Test.YthcoipoihieggaaDoorWK
import Derived.Lib.ItoaNum
import Derived.Lib.AppendIntMem
import Derived.Test.YthcoipoihieggaaDoorShelf
import Derived.Laws.IdiomStrings
import Derived.Deep.RegionHeld3
namespace Go.Proofs.YthcoipoihieggaaDoor
open Go.RowKit
set_option maxRecDepth 100000

/-- the numeral of a number that is not negative -/
def numS (n : Int) : ByteArray := ⟨(Lib.decDigits n.toNat).toArray⟩
theorem numS_one {n : Int} (h0 : 0 ≤ n) (h : n < 10) : numS n = ⟨#[UInt8.ofNat (48 + n.toNat)]⟩ := by
  unfold numS; rw [Lib.decDigits_one (by omega)]
theorem numS_more {n : Int} (h : ¬ n < 10) : numS n = numS (n / 10) ++ ⟨#[UInt8.ofNat (48 + (n % 10).toNat)]⟩ := by
  unfold numS
  rw [Lib.decDigits, dif_neg (by omega), show (n / 10).toNat = n.toNat / 10 by omega, show (n % 10).toNat = n.toNat % 10 by omega]
  apply ByteArray.ext
  simp
theorem dec_len : ∀ (k n : Nat), n < 10 ^ (k + 1) → (Lib.decDigits n).length ≤ k + 1
  | 0, n, h => by rw [Lib.decDigits_one (by omega)]; simp
  | k + 1, n, h => by
    by_cases g : n < 10
    · rw [Lib.decDigits_one g]; simp
    · rw [Lib.decDigits, dif_neg g]
      have := dec_len k (n / 10) (by rw [Nat.pow_succ] at h; omega)
      simp; omega
theorem numS_size {n : Int} (h : n ≤ 1000000000) : (numS n).size ≤ 10 := by
  have := dec_len 9 n.toNat (by omega)
  simpa [numS, ByteArray.size] using this
theorem conv_one (d : Int) (h0 : 0 ≤ d) (h1 : d < 10) (u : World) (g : Nat) (h : u.cell? ⟨g, 0, none⟩ = some (.int .u8 (48 + d))) :
    (convert 72 9 (.slice (some ⟨g, 0, none⟩) 1 1)).run Tryd.prog u = .ok (.string ⟨#[UInt8.ofNat (48 + d.toNat)]⟩) u := by
  have := run_convert_bytes_back (P := Tryd.prog) u 72 9 5 ⟨g, 0, none⟩ 1 [UInt8.ofNat (48 + d.toNat)] Tryd.underlying72 Tryd.underlying5 Tryd.underlying9 (fun j hj => by
    obtain rfl : j = 0 := by simp at hj; omega
    show u.cell? ⟨g, 0 + 0, none⟩ = _
    rw [Nat.zero_add, h]
    have : (UInt8.ofNat (48 + d.toNat)).toNat = 48 + d.toNat := by simp; omega
    simp only [List.getElem_cons_zero, this]; congr 2; omega)
  exact this

theorem cell_one {w w1 : World} {v : Value} {t : TypeId} (hb : Below (w.alloc (.cells #[v] t)).drew.heap.size (w.alloc (.cells #[v] t)).drew w1) : w1.cell? ⟨w.heap.size, 0, none⟩ = some v :=
  (hb.cell (p := ⟨w.heap.size, 0, none⟩) (by simp)).trans ((Blk.new w t #[v]).cell 0)
theorem cell_one' {w w1 : World} {v : Value} {t : TypeId} (hb : Below (w.drew.alloc (.cells #[v] t)).heap.size (w.drew.alloc (.cells #[v] t)) w1) : w1.cell? ⟨w.heap.size, 0, none⟩ = some v :=
  (hb.cell (p := ⟨w.heap.size, 0, none⟩) (by simp)).trans ((Blk.new w.drew t #[v]).cell 0)

set_option maxHeartbeats 1000000 in
theorem l1Num_any : ∀ (k : Nat) (n : Int) (w : World), 0 ≤ n → n < k → n ≤ 1000000000 →
    Calls Tryd.prog 55 #[.int .i64 n] w fun e w' => e = .returned (.string (numS n)) ∧ Below w.heap.size w w'
  | 0, n, w, h0, h1, _ => absurd h0 (by omega)
  | k + 1, n, w, h0, h1, h2 => by
    by_cases hs : n < 10
    · rw [numS_one h0 hs]
      have E3 : IntKind.i64.wrap (48 + n) = 48 + n := IntWalk.i64_in _ (by omega)
      have E4 : IntKind.u8.wrap (48 + n) = 48 + n := by unfold IntKind.wrap; simp [IntKind.bits, IntKind.signed]; omega
      have HC := conv_one n h0 hs
      generalize UInt8.ofNat (48 + n.toNat) = c at *
      go_enter Tryd.func55, Tryd.ntmps55
      go_wp2
      go_ret
      exact ⟨rfl, below_alloc _ _⟩
    · rw [numS_more hs]
      have ih := fun w => l1Num_any k (n / 10) w (by omega) (by omega) (by omega)
      have IH := Lib.hid ih
      clear ih
      have ht : n.tdiv 10 = n / 10 := Int.tdiv_eq_ediv_of_nonneg h0
      have hm : n.tmod 10 = n % 10 := Int.tmod_eq_emod_of_nonneg h0
      have m0 : 0 ≤ n % 10 := Int.emod_nonneg _ (by omega)
      have m1 : n % 10 < 10 := Int.emod_lt_of_pos _ (by omega)
      have q0 : 0 ≤ n / 10 := Int.ediv_nonneg h0 (by omega)
      have q1 : n / 10 ≤ n := Int.ediv_le_self _ h0
      have E1 : IntKind.i64.wrap (n / 10) = n / 10 := IntWalk.i64_in _ (by omega)
      have E2 : IntKind.i64.wrap (n % 10) = n % 10 := IntWalk.i64_in _ (by omega)
      have E3 : IntKind.i64.wrap (48 + n % 10) = 48 + n % 10 := IntWalk.i64_in _ (by omega)
      have E4 : IntKind.u8.wrap (48 + n % 10) = 48 + n % 10 := by unfold IntKind.wrap; simp [IntKind.bits, IntKind.signed]; omega
      have HC := conv_one (n % 10) m0 m1
      generalize UInt8.ofNat (48 + (n % 10).toNat) = c at *
      generalize n % 10 = d at *
      generalize n / 10 = q at *
      have HZ := numS_size (n := q) (by omega)
      have HZ2 : (numS q).size + 1 ≤ 9223372036854775807 := by omega
      generalize numS q = s at *
      go_enter Tryd.func55, Tryd.ntmps55
      go_wp2_with fail
      go_region_with (refine (IH.out _).mono ?_; rintro e w1 ⟨rfl, hb⟩; first | (have hc := cell_one hb) | (have hc := cell_one' hb) | skip)
      all_goals go_wp2_with fail
      all_goals go_ret
      all_goals refine ⟨rfl, ?_⟩
      all_goals first
        | exact ((Below.refl w.heap.size w).alloc (Nat.le_refl _) _).drew.trans (hb.mono (by simp))
        | (have hbs := hb.size; exact ((Below.refl w.heap.size w).drew.trans hb).alloc (by simpa using hbs) _)

/-- the table that the library's Itoa reads lies as the text lays it -/
def TabI (w : World) : Prop := Lib.TabIs Tryd.prog w "internal/strconv.uint64pow10" .u64 Lib.pow10Tab
theorem TabI.below {w w' : World} (h : TabI w) (hb : Below w.heap.size w w') : TabI w' := Lib.tabBelow_of_tabIs h w' hb
theorem itoa_any (n : Int) (w : World) (h0 : 0 ≤ n) (h1 : n ≤ 1000000000) (ht : TabI w) :
    Calls Tryd.prog 44 #[.int .i64 n] w fun e w' => e = .returned (.string (numS n)) ∧ Below w.heap.size w w' :=
  (Tryd.strconv_Itoa n (by omega) (by omega) w ht).mono fun e w' ⟨he, k, os, hw⟩ => by
    subst hw
    refine ⟨?_, Lib.below_grow _ w (Nat.le_refl _) k os⟩
    rw [he]
    unfold numS
    obtain ⟨m, rfl⟩ : ∃ m : Nat, n = m := ⟨n.toNat, by omega⟩
    rw [Lib.itoa_nonneg, Int.toNat_natCast]
theorem one_size (b : UInt8) : (⟨#[b]⟩ : ByteArray).size = 1 := rfl
def orS (b : Bool) (s : ByteArray) : ByteArray := if b then s else ⟨#[]⟩
theorem orS_no (s : ByteArray) : orS false s = ⟨#[]⟩ := rfl
theorem orS_yes (s : ByteArray) : orS true s = s := rfl

end Go.Proofs.YthcoipoihieggaaDoor
