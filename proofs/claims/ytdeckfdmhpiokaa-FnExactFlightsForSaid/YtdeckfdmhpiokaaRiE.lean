/- Contracts: rows of a hundred rises, on the program's side. -/
import Derived.Test.YtdeckfdmhpiokaaRiH
import Derived.Test.YtdeckfdmhpiokaaGMake
import Derived.Test.YtdeckfdmhpiokaaGSum
import Derived.BigQuiet
import Derived.ChangeKeysEq
import Derived.Deep.RegionHeld3
import Derived.Deep.QuietTactic
import Derived.Laws.Rows
import Derived.Laws.Tables
import Derived.Laws.CopyOwn
namespace Go.Proofs.Ytdeckfdmhpiokaa
open Go.RowKit
set_option maxRecDepth 100000

/-- a row of a hundred numbers, of which the first k are told and the others 0 -/
def rowT (f : Nat → Int) (k : Nat) : List Int := tell 100 (fun j => if j < k then f j else 0)
theorem rowT_length (f : Nat → Int) (k : Nat) : (rowT f k).length = 100 := tell_length _ _
theorem rowT_zero (f : Nat → Int) : List.replicate 100 0 = rowT f 0 := tell_zero (fun k _ => by simp)
theorem rowT_set (f : Nat → Int) (k : Nat) (hk : k < 100) : (rowT f k).set k (f k) = rowT f (k + 1) :=
  tell_set hk (by simp) (fun j hj hne => by
    by_cases h : j < k
    · rw [if_pos h, if_pos (by omega)]
    · rw [if_neg h, if_neg (by omega)])
theorem row_info : (Try.prog.info? 54).map (·.size) = some 100 := by kernel_rfl
def zrow : List Int := List.replicate 100 0
theorem zrow_eq (f : Nat → Int) : zrow = rowT f 0 := rowT_zero f
theorem zrow_length : zrow.length = 100 := rfl
theorem row_new (w : World) : Sem.run Try.prog (zeroValue 54) w = .ok (.agg (ints zrow)) w := by kernel_rfl
theorem rowHid {xs : List Int} (h : xs.length = 100) : Hid ((Try.prog.info? 54).map (·.size) = some (ints xs).size) := Lib.hid (by rw [row_info, ints_size, h])

set_option maxHeartbeats 1000000 in
theorem alike_any (v : Int) (r : Nat) (w : World) (hr : r ≤ 100) :
    Calls Try.prog 57 #[.int .i64 v, .int .i64 (r : Int)] w fun e w' => e = .returned (.agg (ints (rowT (fun _ => v) r))) ∧ Below w.heap.size w w' := by
  go_enter Try.func57, Try.ntmps57
  go_wp2_with (rw [row_new])
  go_loopw [8] (fun i wr => ∃ k : Nat, i = .int .i64 k ∧ k ≤ r ∧ Blk wr (w.heap.size + 1) 54 (ints (rowT (fun _ => v) k)) ∧ Blk wr w.heap.size 54 (ints zrow) ∧ Below w.heap.size w wr) (fun i _ => r - (intOf i).toNat)
  case atStart => exact ⟨0, rfl, Nat.zero_le _, by rw [← zrow_eq]; exact Blk.new' (by simp), (Blk.new _ _ _).alloc _, ((Below.refl _ _).alloc (Nat.le_refl _) _).alloc (by simp) _⟩
  case round =>
    obtain ⟨k, rfl, hk, B1, B0, hb⟩ := hrel
    by_cases g : k < r
    · have c := B1.int_at (k := k) (by rw [rowT_length]; omega)
      have fz := B1.frozen k
      go_wp2
      go_roundw
      case rel => exact ⟨k + 1, by go_num, g, by rw [← rowT_set _ k (by omega)]; exact B1.int_set k v, B0.far (by simp) _, hb.setCell (by simp) _⟩
      case measure => simp [intOf]; omega
    · obtain rfl : k = r := by omega
      have Z1 := rowHid (rowT_length (fun _ => v) k)
      have ZS := Lib.hid (show (ints zrow).size = (ints (rowT (fun _ => v) k)).size by rw [ints_size, ints_size, zrow_length, rowT_length])
      have HPO := Lib.hid (show (ints (rowT (fun _ => v) k)).all (·.oneCell') = true by simp [ints, Value.oneCell'])
      generalize hrw : ints (rowT (fun _ => v) k) = rw1 at *
      have HRW := Lib.hid hrw
      clear hrw
      go_wp2_with (first
        | (refine wpList_load_row rfl 54 (.tmp 5) rfl (w.heap.size + 1) rfl 54 rw1 (0, 0) _ B1 Try.underlying54 rfl Z1.out ?_)
        | (refine wpList_store_row rfl 54 (.tmp 4) (.tmp 15) rfl w.heap.size rw1 rfl rfl 54 _ B0 Z1.out ZS.out HPO.out ?_))
      refine bodyPost_ret (v := .agg rw1) (results_cell_row rfl _ _ w.heap.size 54 rw1 (0, 0) _ rfl ?_ Try.underlying54 rfl Z1.out) rfl ⟨by rw [HRW.out], ?_⟩
      · exact setRow_heap _ _ _ _ _ _ B0
      · exact below_setRow hb (Nat.le_refl _) _

/-- how high the first k of r even rises are together -/
def evC (h r : Int) (k : Nat) : Int := h * k / r
def evF (h r : Int) (k : Nat) : Int := evC h r (k + 1) - evC h r k
theorem evC_bd {h r : Int} (hh : 1 ≤ h ∧ h ≤ 6000) (hr : 1 ≤ r) {k : Nat} (hk : k ≤ 100) : 0 ≤ evC h r k ∧ evC h r k ≤ 600000 ∧ 0 ≤ h * k ∧ h * k ≤ 600000 := by
  obtain ⟨f0, f1⟩ := mul_bd (a := h) (A := 6000) (b := (k : Int)) (B := 100) (by omega) (by omega) (by omega) (by omega)
  refine ⟨Int.ediv_nonneg f0 (by omega), ?_, f0, by omega⟩
  have := Int.ediv_le_self r f0
  unfold evC
  omega
theorem evF_bd {h r : Int} (hh : 1 ≤ h ∧ h ≤ 6000) (hr : 1 ≤ r) {k : Nat} (hk : k < 100) : 0 ≤ evF h r k ∧ evF h r k ≤ 600000 := by
  have a := evC_bd hh hr (k := k) (by omega)
  have b := evC_bd hh hr (k := k + 1) (by omega)
  have : evC h r k ≤ evC h r (k + 1) := Int.ediv_le_ediv (by omega) (Int.mul_le_mul_of_nonneg_left (by omega) (by omega))
  unfold evF
  omega
theorem evC_zero (h r : Int) : evC h r 0 = 0 := by simp [evC]
theorem rowT_getD (f : Nat → Int) {k j : Nat} (hj : j < k) (hk : k ≤ 100) : (rowT f k).getD j 0 = f j := by
  unfold rowT
  rw [tell_getD _ _ _ (by omega), if_pos hj]
theorem rowT_take (f : Nat → Int) {k : Nat} (hk : k ≤ 100) : (rowT f k).take k = tell k f := list_ext_getD' (by simp [rowT_length, tell_length]; omega) fun j hj => by
  have hj2 : j < k := by simp [rowT_length] at hj; omega
  rw [tell_getD _ _ _ hj2, ← rowT_getD f hj2 hk]
  simp [List.getD_eq_getElem?_getD, hj2]
theorem tell_sum (h r : Int) : ∀ k, sumH (tell k (evF h r)) = evC h r k
  | 0 => by simp [tell, sumH, evC_zero]
  | k + 1 => by
    have e : tell (k + 1) (evF h r) = tell k (evF h r) ++ [evF h r k] := by simp [tell, List.range_succ]
    rw [e, sumH_snoc, tell_sum h r k]
    unfold evF
    omega
theorem Blk.rd_tell {w : World} {g : Nat} {t : TypeId} {f : Nat → Int} {k : Nat} (h : Blk w g t (ints (rowT f k))) (hk : k ≤ 100) {B : Nat} (hB : g < B) : Rd w B (some ⟨g, 0, none⟩) k (tell k f) :=
  ⟨by rw [tell_length]; exact Nat.le_refl _, fun j hj => ⟨g, 0, rfl, hB, by
    rw [tell_length] at hj
    rw [Nat.zero_add, h.int_at (by rw [rowT_length]; omega), rowT_getD f hj hk, tell_getD _ _ _ hj]⟩⟩

set_option maxHeartbeats 1000000 in
theorem nextRise_any (A : Option Addr) (h r : Int) (k : Nat) (p q : Nat) (B : Nat) (w : World) (hh : 1 ≤ h ∧ h ≤ 6000) (hr : 1 ≤ r ∧ r ≤ 100) (hk : k < 100)
    (hl : Rd w B A k (tell k (evF h r))) (c0 : w.cell? ⟨p, 0, none⟩ = some (.int .i64 h)) (c1 : w.cell? ⟨q, 0, none⟩ = some (.int .i64 r)) :
    Calls Try.prog 60 #[.slice A k k, .pointer (some ⟨p, 0, none⟩), .pointer (some ⟨q, 0, none⟩)] w fun e w' => e = .returned (.int .i64 (evF h r k)) ∧ Below w.heap.size w w' := by
  have HS := Lib.hid (tell_sum h r k)
  have a := evC_bd hh hr.1 (k := k) (by omega)
  have b := evC_bd hh hr.1 (k := k + 1) (by omega)
  have HX := Lib.hid (show ∀ j, j < (tell k (evF h r)).length → 0 ≤ (tell k (evF h r)).getD j 0 ∧ (tell k (evF h r)).getD j 0 ≤ 1000000 from fun j hj => by
    rw [tell_length] at hj
    rw [tell_getD _ _ _ hj]
    have := evF_bd hh hr.1 (k := j) (by omega)
    omega)
  have HN := Lib.hid (show (tell k (evF h r)).length ≤ 1000 by rw [tell_length]; omega)
  have HK := Lib.hid (show k = (tell k (evF h r)).length from (tell_length _ _).symm)
  have HR := Lib.hid hl
  have E1 := Lib.hid (show evF h r k = evC h r (k + 1) - evC h r k from rfl)
  have t1 : (h * ((k : Int) + 1)).tdiv r = evC h r (k + 1) := by rw [Int.tdiv_eq_ediv_of_nonneg (by have := b.2.2.1; push_cast at this; exact this)]; unfold evC; push_cast; rfl
  rw [show ((k + 1 : Nat) : Int) = (k : Int) + 1 by push_cast; rfl] at b
  have w1 : IntKind.i64.wrap ((k : Int) + 1) = (k : Int) + 1 := IntWalk.i64_in _ (by omega)
  have w2 : IntKind.i64.wrap (h * ((k : Int) + 1)) = h * ((k : Int) + 1) := IntWalk.i64_in _ (by omega)
  have w3 : IntKind.i64.wrap (evC h r (k + 1)) = evC h r (k + 1) := IntWalk.i64_in _ (by omega)
  have w4 : IntKind.i64.wrap (evC h r (k + 1) - sumH (tell k (evF h r))) = evF h r k := by rw [HS.out, E1.out]; exact IntWalk.i64_in _ (by omega)
  have w5 : ¬ r = 0 := by omega
  clear hl E1
  generalize tell k (evF h r) = xs at *
  generalize evF h r k = y at *
  generalize evC h r (k + 1) = z at *
  go_enter Try.func60, Try.ntmps60
  go_wp2_with fail
  go_quiet (first | (go_at_call 61; refine Calls.quiet_of_same ((sum_any _ _ _ xs B _ HK.out (HR.out.keep (fun _ _ _ => by simp)) HN.out HX.out).mono fun _ _ h => ⟨h.1, h.2.symm⟩)))
  go_wp2
  go_ret
  exact ⟨rfl, Below.drewN' (Below.refl _ _) _⟩

set_option maxHeartbeats 1000000 in
theorem even_any (h : Int) (r : Nat) (w : World) (hh : 1 ≤ h ∧ h ≤ 6000) (hr : 1 ≤ r ∧ r ≤ 100) :
    Calls Try.prog 50 #[.int .i64 h, .int .i64 (r : Int)] w fun e w' => e = .returned (.agg (ints (rowT (evF h r) r))) ∧ Below w.heap.size w w' := by
  go_enter Try.func50, Try.ntmps50
  go_wp2_with (rw [row_new])
  go_loopw [10] (fun i wr => ∃ k : Nat, i = .int .i64 k ∧ k ≤ r ∧ Blk wr (w.heap.size + 1 + 1 + 1) 54 (ints (rowT (evF h r) k)) ∧ Blk wr (w.heap.size + 1 + 1) 54 (ints zrow) ∧ Blk wr w.heap.size 3 #[.int .i64 h] ∧ Blk wr (w.heap.size + 1) 3 #[.int .i64 (r : Int)] ∧ Below w.heap.size w wr) (fun i _ => r - (intOf i).toNat)
  case atStart => exact ⟨0, rfl, Nat.zero_le _, by rw [← zrow_eq]; exact Blk.new' (by simp), (Blk.new' (by simp)).alloc _, (((Blk.new _ _ _).alloc _).alloc _).alloc _, ((Blk.new' (by simp)).alloc _).alloc _, ((((Below.refl _ _).alloc (Nat.le_refl _) _).alloc (by simp) _).alloc (by simp; omega) _).alloc (by simp; omega) _⟩
  case round =>
    obtain ⟨k, rfl, hk, B1, B0, BH, BR, hb⟩ := hrel
    have c0 := BH.cell 0
    have c1 := BR.cell 0
    have hsz : w.heap.size + 4 ≤ wr.heap.size := B1.lt
    by_cases g : k < r
    · have c := B1.int_at (k := k) (by rw [rowT_length]; omega)
      have fz := B1.frozen k
      have q1 : (k : Int) ≤ 100 := by omega
      go_wp2_with fail
      refine (nextRise_any _ h (r : Int) k _ _ wr.heap.size _ hh (by omega) (by omega) (B1.rd_tell (by omega) (by omega)) c0 c1).mono ?_
      rintro e w1 ⟨rfl, hb1⟩
      replace B1 := B1.below hb1 (by omega)
      replace B0 := B0.below hb1 (by omega)
      replace BH := BH.below hb1 (by omega)
      replace BR := BR.below hb1 (by omega)
      replace hb := hb.trans (hb1.mono (by omega))
      replace hsz : w.heap.size + 4 ≤ w1.heap.size := B1.lt
      clear hb1 c fz c0 c1
      have c := B1.int_at (k := k) (by rw [rowT_length]; omega)
      have fz := B1.frozen k
      go_wp2_with fail
      go_roundw
      case rel => exact ⟨k + 1, by go_num, g, by rw [← rowT_set _ k (by omega)]; exact B1.int_set k _, B0.far (by simp) _, BH.far (by simp; omega) _, BR.far (by simp) _, hb.setCell (by simp; omega) _⟩
      case measure => simp [intOf]; omega
    · obtain rfl : k = r := by omega
      have Z1 := rowHid (rowT_length (evF h k) k)
      have ZS := Lib.hid (show (ints zrow).size = (ints (rowT (evF h k) k)).size by rw [ints_size, ints_size, zrow_length, rowT_length])
      have HPO := Lib.hid (show (ints (rowT (evF h k) k)).all (·.oneCell') = true by simp [ints, Value.oneCell'])
      generalize hrw : ints (rowT (evF h k) k) = rw1 at *
      have HRW := Lib.hid hrw
      clear hrw
      go_wp2_with (first
        | (refine wpList_load_row rfl 54 (.tmp 5) rfl (w.heap.size + 1 + 1 + 1) rfl 54 rw1 (0, 0) _ B1 Try.underlying54 rfl Z1.out ?_)
        | (refine wpList_store_row rfl 54 (.tmp 4) (.tmp 21) rfl (w.heap.size + 1 + 1) rw1 rfl rfl 54 _ B0 Z1.out ZS.out HPO.out ?_))
      refine bodyPost_ret (v := .agg rw1) (results_cell_row rfl _ _ (w.heap.size + 1 + 1) 54 rw1 (0, 0) _ rfl ?_ Try.underlying54 rfl Z1.out) rfl ⟨by rw [HRW.out], ?_⟩
      · exact setRow_heap _ _ _ _ _ _ B0
      · exact below_setRow hb (by omega) _

theorem run_part_ints (xs : List Int) (i : Nat) (hi : i < xs.length) (w : World) : (part 3 (ints xs) i).run Try.prog w = .ok (.int .i64 (xs.getD i 0)) w := by
  have h := ints_get xs i hi
  simp [part, go_sem, h]
theorem run_items (xs ys : List Int) (w : World) (hx : xs.length = 100) (hy : ys.length = 100) : ∀ is : List Nat, (∀ i ∈ is, i < 100) → (Op.eqItems 9999 3 1 (ints xs) (ints ys) is).run Try.prog w = .ok (is.all fun i => xs.getD i 0 == ys.getD i 0) w
  | [], _ => by simp [Op.eqItems]
  | i :: is, h => by
    have ih := run_items xs ys w hx hy is (fun j hj => h j (by simp [hj]))
    have hi := h i (by simp)
    simp only [Op.eqItems, Sem.run_bind, Nat.mul_one, run_part_ints xs i (by omega), run_part_ints ys i (by omega), Result.andThen_ok, run_equalIn_int _ 9998 3 .i64 .i64 _ _ Try.underlying3, List.all_cons]
    cases xs.getD i 0 == ys.getD i 0 <;> simp [ih]
theorem run_row_eq (xs ys : List Int) (hx : xs.length = 100) (hy : ys.length = 100) (w : World) : (Op.equalIn 10000 54 (.agg (ints xs)) (.agg (ints ys))).run Try.prog w = .ok (decide (xs = ys)) w := by
  obtain ⟨i0, hi, _⟩ := info_parts int_info
  rw [run_equalIn_array w 9999 (ints xs) (ints ys) Try.underlying54 hi, show Try.prog.cellsOf 3 = 1 by kernel_rfl, run_items xs ys w hx hy _ (fun i h => List.mem_range.1 h)]
  congr 1
  by_cases e : xs = ys
  · subst e; simp
  · rw [decide_eq_false e]
    cases h : (List.range 100).all fun i => xs.getD i 0 == ys.getD i 0
    · rfl
    · exact absurd (list_ext_getD' (by omega) fun j hj => by
        have := List.all_eq_true.1 h j (List.mem_range.2 (by omega))
        simpa using this) e
theorem tell_const (v : Int) : ∀ k, sumH (tell k (fun _ => v)) = v * k
  | 0 => by simp [tell, sumH]
  | k + 1 => by
    have e : tell (k + 1) (fun _ => v) = tell k (fun _ => v) ++ [v] := by simp [tell, List.range_succ]
    rw [e, sumH_snoc, tell_const v k]
    push_cast
    rw [Int.mul_add]; omega
theorem even_iff (h : Int) (r : Nat) (hr : 1 ≤ r ∧ r ≤ 100) : decide (rowT (evF h r) r = rowT (fun _ => h / r) r) = decide (h % r = 0) := by
  apply decide_eq_decide.2
  constructor
  · intro e
    have e2 := congrArg (fun L => sumH (L.take r)) e
    simp only [rowT_take _ hr.2, tell_sum, tell_const] at e2
    have e3 : evC h r r = h := Int.mul_ediv_cancel h (by omega)
    have := Int.mul_ediv_add_emod h r
    rw [Int.mul_comm] at this
    omega
  · intro e
    have hq : h = h / r * r := by have := Int.mul_ediv_add_emod h r; rw [e, Int.mul_comm] at this; omega
    have ec : ∀ k, evC h r k = h / r * k := by
      intro k
      unfold evC
      conv => lhs; rw [hq]
      rw [show h / r * (r : Int) * (k : Int) = h / r * k * r by rw [Int.mul_assoc, Int.mul_comm (r : Int), ← Int.mul_assoc], Int.mul_ediv_cancel _ (by omega)]
    have ef : evF h r = fun _ => h / (r : Int) := by
      funext k
      unfold evF
      rw [ec, ec]
      push_cast
      rw [Int.mul_add]; omega
    rw [ef]

set_option maxHeartbeats 1000000 in
theorem parts_any (h : Int) (r : Nat) (w : World) (hh : 1 ≤ h ∧ h ≤ 6000) (hr : 1 ≤ r ∧ r ≤ 100) :
    Calls Try.prog 39 #[.int .i64 h, .int .i64 (r : Int)] w fun e w' => e = .returned (.bool (decide (h % r = 0))) ∧ Below w.heap.size w w' := by
  have H1 := Lib.hid (fun w => even_any h r w hh hr)
  have H2 := Lib.hid (fun w => alike_any (h / r) r w hr.2)
  have H3 := run_row_eq (rowT (evF h r) r) (rowT (fun _ => h / r) r) (rowT_length _ _) (rowT_length _ _)
  rw [even_iff h r hr] at H3
  have t1 : h.tdiv r = h / r := Int.tdiv_eq_ediv_of_nonneg (by omega)
  have b1 : 0 ≤ h / r ∧ h / r ≤ 6000 := ⟨Int.ediv_nonneg (by omega) (by omega), by have := Int.ediv_le_self r (show 0 ≤ h by omega); omega⟩
  have w1 : IntKind.i64.wrap (h / r) = h / r := IntWalk.i64_in _ (by omega)
  have w5 : ¬ (r : Int) = 0 := by omega
  generalize h / (r : Int) = q at *
  generalize ints (rowT (evF h r) r) = A at *
  generalize ints (rowT (fun _ => q) r) = C at *
  generalize decide (h % (r : Int) = 0) = d at *
  go_enter Try.func39, Try.ntmps39
  go_wp2_with fail
  go_region_with (first
    | (go_at_call 50; refine (H1.out _).mono ?_; rintro e v1 ⟨rfl, hb1⟩)
    | (go_at_call 57; refine (H2.out _).mono ?_; rintro e v2 ⟨rfl, hb2⟩))
  all_goals go_wp2_with fail
  all_goals go_ret
  all_goals exact ⟨rfl, ((Below.refl w.heap.size w).drew.trans hb1).trans (hb2.mono (by have := hb1.size; simpa using this))⟩

end Go.Proofs.Ytdeckfdmhpiokaa
