/- Contract: all hidden stairs in order, none sharing memory (the program). -/
import Derived.Test.YteljaafehnhmcaaPzX
namespace Go.Proofs.Yteljaafehnhmcaa
open Go.RowKit
set_option maxRecDepth 100000

theorem preL_len : ∀ n : Nat, n < 8 → ∀ j : Nat, j < 8 → ∀ b : Nat, b < 9 → (preL n j b).length ≤ 1048575 := by decide +kernel
theorem str_len : ∀ j : Nat, j < 7 → 1 ≤ (strL.getD j []).length ∧ (strL.getD j []).length ≤ 3 := by decide +kernel
theorem len_of_rec {L : Lr} {rs : List Rc} (h : recL L = rs) (h2 : rs.length ≤ 1048575) : (elsL L).length ≤ 1048576 := by
  have := recL_len L
  rw [h] at this
  rw [elsL_len]
  omega
theorem rec_snoc {L : Lr} {rs rs' : List Rc} {e : El} {r : Rc} (h : recL L = rs) (h2 : rs' = rs ++ [r]) : recL (L ++ [(e, r)]) = rs' := by
  rw [h2, ← h]; simp [recL]

theorem Strd.grown {w w' : World} {N : Nat} {T : TypeId} {o : Option Nat} (h : Strd w N T) (hg : w.grownBy w' o) (hv : ∀ j', j' < 8 → o ≠ some (N + j')) : Strd w' N T :=
  ⟨(hg.block _ h.row.lt (fun e => hv 7 (by omega) e.symm)).trans h.row, fun j hj => (hg.block _ (h.each j hj).lt (fun e => hv j (by omega) e.symm)).trans (h.each j hj)⟩
theorem own_new {o o' : Option Nat} {N z : Nat} (hv : ∀ j', j' < 8 → o ≠ some (N + j')) (h : o' = o ∨ o' = some z) (hz : N + 8 ≤ z) : ∀ j', j' < 8 → o' ≠ some (N + j') := by
  intro j' hj e
  rcases h with h | h
  · exact hv j' hj (h ▸ e)
  · rw [h] at e; injection e with e; omega

set_option maxHeartbeats 8000000 in
theorem hidden_any (w : World) :
    Calls Try.prog 26 #[] w fun e w' => ∃ v L, e = .returned v ∧ recL L = hidL ∧ Stock w' w.heap.size v L ∧ Below w.heap.size w w' := by
  go_enter Try.func26, Try.ntmps26
  go_wp2_with fail
  go_loopw [1, 2] (fun all st wr => ∃ (n : Nat) (v : Value) (L : Lr), n ≤ 7 ∧ st = .int .i64 ((n : Int) + 1) ∧ all = v ∧ Hid (recL L = preL n 0 0) ∧ Stock wr w.heap.size v L ∧ Below w.heap.size w wr) (fun _ st _ => (8 - intOf st).toNat)
  case atStart => exact ⟨0, _, [], by omega, rfl, rfl, rfl, Stock.nil _ _, Below.refl _ _⟩
  case round =>
    obtain ⟨n, v, L, hn, rfl, rfl, HL, hst, hbw⟩ := hrel
    obtain ⟨w1, rfl⟩ : ∃ w1, w1 = wr := ⟨_, rfl⟩
    have hz1 : w.heap.size ≤ w1.heap.size := hbw.size
    by_cases hlt : n < 7
    · have hi1 : (n : Int) + 1 ≤ 7 := by omega
      go_wp2_with fail
      go_loopw [1, 19] (fun all i wr => ∃ (j : Nat) (v : Value) (L : Lr), j ≤ 7 ∧ i = .int .i64 j ∧ all = v ∧ Hid (recL L = preL n j 0) ∧ Stock wr w.heap.size v L ∧ Hid (∀ j', j ≤ j' → j' < 7 → NotIn v L (w1.heap.size + j')) ∧ Hid (∀ j', j' < 8 → v.ownBlock ≠ some (w1.heap.size + j')) ∧ Strd wr w1.heap.size 37 ∧ Below w.heap.size w wr) (fun _ i _ => (7 - intOf i).toNat)
      case atStart =>
        exact ⟨0, _, L, by omega, rfl, rfl, HL, hst.below (strW_below w1 37) (Nat.le_refl _), fun j' _ _ => hst.notIn (by omega), fun j' _ => (hst.notIn (k := w1.heap.size + j') (by omega)).1, strW_strd w1 37, hbw.trans ((strW_below w1 37).mono hz1)⟩
      case round =>
        clear hst HL hbw
        obtain ⟨j, v, L, hj, rfl, rfl, HL, hst, HNI, HV, hS, hbw⟩ := hrel
        have hz2 : w1.heap.size + 8 ≤ wr.heap.size := hS.size
        by_cases hjt : j < 7
        · obtain ⟨w2, rfl⟩ : ∃ w2, w2 = wr := ⟨_, rfl⟩
          have hsl := str_len j hjt
          have hrow : w2.cell? ⟨w1.heap.size + 1 + 1 + 1 + 1 + 1 + 1 + 1, j, none⟩ = some (.slice (some ⟨w1.heap.size + j, 0, none⟩) (strL.getD j []).length (strL.getD j []).length) := (hS.row.cell j).trans (stRow_at hjt)
          have hblk := hS.each j hjt
          have hP := Lib.hid (fun b (hb : b < n + 1) => preL_step (n := n) (j := j) hb)
          have hP2 := Lib.hid (preL_strides (n := n) (j := j) hjt)
          have hlen := Lib.hid (fun b (hb : b < 9) => preL_len n (by omega) j (by omega) b hb)
          generalize hX : strL.getD j [] = xs at *
          have HX := Lib.hid hX
          clear hX
          have hO := (hblk.own (by omega : xs.length ≤ 1048576)).mono (show w.heap.size ≤ w1.heap.size + j by omega)
          have hnb := HNI.out j (Nat.le_refl _) hjt
          have hb1 : Below w2.heap.size w2 (w2.alloc (.cells #[.int .i64 ((n : Int) + 1), .slice (some ⟨w1.heap.size + j, 0, none⟩) xs.length xs.length, .slice none 0 0] 42)) := below_alloc _ _
          have hst1 := hst.below hb1 (Nat.le_refl _)
          have hO1 := hO.below hb1 (Nat.le_refl _)
          have hS1 := hS.below hb1 (by omega)
          have hL0 := len_of_rec HL.out (hlen.out 0 (by omega))
          have hbw1 := hbw.trans (hb1.mono hbw.size)
          go_wp2_with (at_builtin; refine wpList_pushE _ rfl _ _ rfl w.heap.size _ (elsL L) rfl hst1.row w2.heap.size ((n : Int) + 1, .slice (some ⟨w1.heap.size + j, 0, none⟩) xs.length xs.length, .slice none 0 0) rfl (by simp) (by simp) (by simp) rfl rfl hL0 (by simp; omega) ?_; intro v4 w4 hO4 hg4 hv4)
          have hst4 := Stock.push (r := ((n : Int) + 1, xs, [])) hst1 rfl hO1 (OwnI.nil _ _) (fun k e1 e2 => by cases e2) (fun k e1 => by injection e1 with e1; exact e1 ▸ hnb) (fun k e1 => by cases e1) hO4 hg4 hv4
          have HNI4 : Hid (∀ j', j + 1 ≤ j' → j' < 7 → NotIn v4 (L ++ [(((n : Int) + 1, .slice (some ⟨w1.heap.size + j, 0, none⟩) xs.length xs.length, .slice none 0 0), ((n : Int) + 1, xs, []))]) (w1.heap.size + j')) := fun j' h1 h2 =>
            NotIn.push (HNI.out j' (by omega) h2) (w := w2.alloc (.cells #[.int .i64 ((n : Int) + 1), .slice (some ⟨w1.heap.size + j, 0, none⟩) xs.length xs.length, .slice none 0 0] 42)) (by simp; omega) hv4 (by simp [Value.ownBlock]; omega) (by simp [Value.ownBlock])
          have hL4 : Hid (recL (L ++ [(((n : Int) + 1, .slice (some ⟨w1.heap.size + j, 0, none⟩) xs.length xs.length, .slice none 0 0), ((n : Int) + 1, xs, []))]) = preL n j (0 + 1)) := rec_snoc HL.out (by rw [hP.out 0 (by omega)]; rfl)
          have hS4 := hS1.grown hg4 HV.out
          have HV4 := Lib.hid (own_new HV.out hv4 (by simp; omega))
          have hbw4 : Below w.heap.size w w4 := hbw1.grown hg4 (by simp; omega) (fun k hk => (hst1.row.lt k hk).1)
          generalize L ++ [(((n : Int) + 1, .slice (some ⟨w1.heap.size + j, 0, none⟩) xs.length xs.length, .slice none 0 0), ((n : Int) + 1, xs, []))] = L4 at *
          clear hst HL HNI HV hS hbw hrow hblk hO hnb hb1 hst1 hO1 hS1 hL0 hbw1 hO4 hg4 hv4
          go_loopw [1, 5] (fun all bk wr => ∃ (b : Nat) (v : Value) (L : Lr), 1 ≤ b ∧ b ≤ n + 1 ∧ bk = .int .i64 b ∧ all = v ∧ Hid (recL L = preL n j b) ∧ Stock wr w.heap.size v L ∧ Hid (∀ j', j + 1 ≤ j' → j' < 7 → NotIn v L (w1.heap.size + j')) ∧ Hid (∀ j', j' < 8 → v.ownBlock ≠ some (w1.heap.size + j')) ∧ Strd wr w1.heap.size 37 ∧ Below w.heap.size w wr) (fun _ bk _ => (n + 1) - (intOf bk).toNat)
          case atStart => exact ⟨1, _, L4, by omega, by omega, rfl, rfl, hL4, hst4, HNI4, HV4, hS4, hbw4⟩
          case round =>
            clear hst4 hL4 HNI4 HV4 hS4 hbw4
            obtain ⟨b, v, L, hb0, hb1, rfl, rfl, HL, hst, HNI, HV, hS, hbw⟩ := hrel
            have hz3 : w1.heap.size + 8 ≤ wr.heap.size := hS.size
            by_cases hbt : b < n + 1
            · have hbi : (b : Int) < (n : Int) + 1 := by omega
              have hblk := hS.each j hjt
              rw [HX.out] at hblk
              go_wp2_with fail
              refine (clone9_any ⟨w1.heap.size + j, 0, none⟩ xs.length xs wr.heap.size wr (hblk.rd hblk.lt (Nat.le_refl _)) (Nat.le_refl _) (by omega)).mono ?_
              rintro e w5 ⟨v1, he, hO5, hb5⟩
              obtain ⟨A1, c1, hv1, _⟩ := hO5.form
              subst hv1
              subst he
              have hz5 : wr.heap.size ≤ w5.heap.size := hb5.size
              have hb6 : Below wr.heap.size wr ((w5.alloc (.cells #[.int .i64 (b : Int)] 3)).alloc (.cells #[.int .i64 ((n : Int) + 1), .slice A1 xs.length c1, .slice (some ⟨w5.heap.size, 0, none⟩) 1 1] 42)) := (hb5.alloc hz5 _).alloc (by simp; omega) _
              have hst6 := hst.below hb6 (Nat.le_refl _)
              have hO6 := ((hO5.alloc (.cells #[.int .i64 (b : Int)] 3)).alloc (.cells #[.int .i64 ((n : Int) + 1), .slice A1 xs.length c1, .slice (some ⟨w5.heap.size, 0, none⟩) 1 1] 42)).mono (show w.heap.size ≤ wr.heap.size by omega)
              have hN6 : Blk ((w5.alloc (.cells #[.int .i64 (b : Int)] 3)).alloc (.cells #[.int .i64 ((n : Int) + 1), .slice A1 xs.length c1, .slice (some ⟨w5.heap.size, 0, none⟩) 1 1] 42)) w5.heap.size 3 (ints [(b : Int)]) := (Blk.new _ _ _).alloc _
              have hO7 := (hN6.own (by simp)).mono (show w.heap.size ≤ w5.heap.size by omega)
              have hS6 := hS.below hb6 (by omega)
              have hL0 := len_of_rec HL.out (hlen.out b (by omega))
              have hbw6 := hbw.trans (hb6.mono hbw.size)
              have hl5 := fun k hk => hO5.lt k hk
              go_wp2_with (at_builtin; refine wpList_pushE _ rfl _ _ rfl w.heap.size _ (elsL L) rfl hst6.row (w5.heap.size + 1) ((n : Int) + 1, .slice A1 xs.length c1, .slice (some ⟨w5.heap.size, 0, none⟩) 1 1) rfl (by simp) (by simp) (by simp) rfl rfl hL0 (by simp; omega) ?_; intro v8 w8 hO8 hg8 hv8)
              have hst8 := Stock.push (r := ((n : Int) + 1, xs, [(b : Int)])) hst6 rfl hO6 hO7 (fun k e1 e2 => by have := (hl5 k e1).2; simp [Value.ownBlock] at e2; omega) (fun k e1 => hst.notIn (hl5 k e1).1) (fun k e1 => by injection e1 with e1; exact e1 ▸ hst.notIn hz5) hO8 hg8 hv8
              have HNI8 : Hid (∀ j', j + 1 ≤ j' → j' < 7 → NotIn v8 (L ++ [(((n : Int) + 1, .slice A1 xs.length c1, .slice (some ⟨w5.heap.size, 0, none⟩) 1 1), ((n : Int) + 1, xs, [(b : Int)]))]) (w1.heap.size + j')) := fun j' h1 h2 =>
                NotIn.push (HNI.out j' h1 h2) (w := (w5.alloc (.cells #[.int .i64 (b : Int)] 3)).alloc (.cells #[.int .i64 ((n : Int) + 1), .slice A1 xs.length c1, .slice (some ⟨w5.heap.size, 0, none⟩) 1 1] 42)) (by simp; omega) hv8 (fun e => by have := (hl5 _ e).1; omega) (by simp [Value.ownBlock]; omega)
              have hL8 : Hid (recL (L ++ [(((n : Int) + 1, .slice A1 xs.length c1, .slice (some ⟨w5.heap.size, 0, none⟩) 1 1), ((n : Int) + 1, xs, [(b : Int)]))]) = preL n j (b + 1)) := rec_snoc HL.out (by rw [hP.out b hbt, if_neg (by omega)])
              have hS8 := hS6.grown hg8 HV.out
              have HV8 := Lib.hid (own_new HV.out hv8 (by simp; omega))
              have hbw8 : Below w.heap.size w w8 := hbw6.grown hg8 (by simp; omega) (fun k hk => (hst6.row.lt k hk).1)
              go_roundw
              case rel => exact ⟨b + 1, _, _, by omega, by omega, by go_num, rfl, hL8, hst8, HNI8, HV8, hS8, hbw8⟩
              case measure => simp [intOf]; omega
            · obtain rfl : b = n + 1 := by omega
              go_wp2_with fail
              go_roundw
              case rel => exact ⟨j + 1, _, L, by omega, by go_num, rfl, HL.out.trans hP2.out, hst, HNI, HV, hS, hbw⟩
              case measure => simp [intOf]; omega
        · obtain rfl : j = 7 := by omega
          go_wp2_with fail
          go_roundw
          case rel => exact ⟨n + 1, _, L, by omega, by go_num, rfl, HL.out.trans preL_steps, hst, hbw⟩
          case measure => simp [intOf]; omega
    · obtain rfl : n = 7 := by omega
      go_wp2_with fail
      go_ret
      exact ⟨_, L, rfl, HL.out.trans preL_end, hst, hbw⟩

end Go.Proofs.Yteljaafehnhmcaa
