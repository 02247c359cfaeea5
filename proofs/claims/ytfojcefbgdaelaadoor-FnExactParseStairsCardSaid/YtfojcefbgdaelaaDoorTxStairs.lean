/- Contracts: the text of stairs, on both sides (chapter 1's old base). -/
import Derived.Test.YtfojcefbgdaelaaDoorOTxList
import Derived.Test.YtfojcefbgdaelaaDoorKit
import Derived.Deep.RegionHeld3
namespace Go.Proofs.YtfojcefbgdaelaaDoor
open Go.RowKit
set_option maxRecDepth 100000

theorem inc_at {most : Int} : ∀ {xs : List Int} {l : Int}, incB most l xs = true → (∀ k, k < xs.length → l < xs.getD k 0 ∧ xs.getD k 0 ≤ most) ∧ ((xs.length : Int) ≤ most - l ∨ xs.length = 0)
  | [], l, _ => ⟨fun k hk => absurd hk (by simp), .inr rfl⟩
  | x :: r, l, h => by
    simp only [incB, Bool.and_eq_true, decide_eq_true_eq] at h
    have ih := inc_at (xs := r) (l := x) h.2.2
    refine ⟨fun k hk => ?_, .inl ?_⟩
    · cases k with
      | zero => simp; omega
      | succ k => have := ih.1 k (by simpa using hk); simp; simp at this; omega
    · have := ih.2; simp; omega
def GoodS (st : Int) (ss bs : List Int) : Prop := (1 ≤ st ∧ st ≤ 60) ∧ (ss.length ≤ 5 ∧ bs.length ≤ 60) ∧ (∀ k, k < ss.length → 0 ≤ ss.getD k 0 ∧ ss.getD k 0 ≤ 1000000000) ∧ (∀ k, k < bs.length → 0 ≤ bs.getD k 0 ∧ bs.getD k 0 ≤ 1000000000)
theorem goodS_of {st : Int} {ss bs : List Int} (h : goodB st ss bs = true) : GoodS st ss bs := by
  simp only [goodB, Bool.and_eq_true] at h
  obtain ⟨h1, h2, h3, h4⟩ := h
  have a1 := inB_le h1
  have a2 := inB_le h2
  obtain ⟨b1, b2⟩ := inc_at h3
  obtain ⟨c1, c2⟩ := inc_at h4
  exact ⟨by omega, by omega, fun k hk => by have := b1 k hk; omega, fun k hk => by have := c1 k hk; omega⟩
def stS (st : Int) (ss bs : List Int) : ByteArray := if bs.length = 0 then numS st ++ ⟨#[115]⟩ ++ lsS 44 ss ss.length else numS st ++ ⟨#[115]⟩ ++ lsS 44 ss ss.length ++ (⟨#[120]⟩ ++ lsS 44 bs bs.length)

set_option maxHeartbeats 2000000 in
theorem clText_any (st : Int) (A A' : Option Addr) (c c' : Nat) (ss bs : List Int) (B : Nat) (w : World) (h : St w B st A A' c c' ss bs) (hB : B ≤ w.heap.size) (G : GoodS st ss bs) :
    Calls Tryd.prog 64 #[stv st A A' c c' ss bs] w fun e w' => e = .returned (.string (stS st ss bs)) ∧ Below w.heap.size w w' := by
  have hst := G.1
  have hln := G.2.1
  have N0 := Lib.hid (fun u => l1Num_any 1001 st u (by omega) (by omega) (by omega))
  have N1 := Lib.hid (fun u (hu : Below w.heap.size w u) => clList_any A _ c ss B u rfl (h.rs.below hu hB) (Nat.le_trans hB hu.size) (by omega) G.2.2.1)
  have N2 := Lib.hid (fun u (hu : Below w.heap.size w u) => clList_any A' _ c' bs B u rfl (h.rb.below hu hB) (Nat.le_trans hB hu.size) (by omega) G.2.2.2)
  have ES := Lib.hid (show stS st ss bs = if bs.length = 0 then numS st ++ ⟨#[115]⟩ ++ lsS 44 ss ss.length else numS st ++ ⟨#[115]⟩ ++ lsS 44 ss ss.length ++ (⟨#[120]⟩ ++ lsS 44 bs bs.length) from rfl)
  have z0 := numS_size (n := st) (by omega)
  have z1 := lsS_size 44 (fun k hk => (G.2.2.1 k hk).2) ss.length (Nat.le_refl _)
  have z2 := lsS_size 44 (fun k hk => (G.2.2.2 k hk).2) bs.length (Nat.le_refl _)
  generalize numS st = s0 at *
  generalize lsS 44 ss ss.length = s1 at *
  generalize lsS 44 bs bs.length = s2 at *
  clear G
  generalize hw1 : w.alloc (.cells #[.int .i64 st, .slice A ss.length c, .slice A' bs.length c'] 47) = w1
  have XB : Blk w1 w.heap.size 47 #[.int .i64 st, .slice A ss.length c, .slice A' bs.length c'] := hw1 ▸ Blk.new _ _ _
  have Bt : Below w.heap.size w w1 := hw1 ▸ below_alloc _ _
  go_enter Tryd.func64, Tryd.ntmps64
  go_wp2_with fail
  clear hw1
  have A0 := fun u => run_string_add_sum (P := Tryd.prog) u s0 (⟨#[115]⟩ : ByteArray) (by simp only [one_size]; omega)
  have A1 := fun u => run_string_add_sum (P := Tryd.prog) u (s0 ++ ⟨#[115]⟩) s1 (by simp only [ByteArray.size_append, one_size]; omega)
  obtain ⟨x0, x1, x2⟩ := XB.three
  have hz := XB.lt
  go_wp2_with fail
  go_region_held3 (fun u => u.cell? ⟨w.heap.size, 0, none⟩ = some (.int .i64 st) ∧ u.cell? ⟨w.heap.size, 1, none⟩ = some (.slice A ss.length c) ∧ Blk u w.heap.size 47 #[.int .i64 st, .slice A ss.length c, .slice A' bs.length c'] ∧ Below w.heap.size w u) (first | exact ⟨x0, x1, XB, Bt.drew⟩ | exact ⟨T0, T1, TX, TB⟩ | exact ⟨U0, U1, UX, UB⟩)
    (first
      | (go_at_call 80; refine (N0.out _).mono ?_; rintro e v1 ⟨rfl, hv1⟩; have TX := XB.below (below_undrew hv1) hz; have T0 := TX.three.1; have T1 := TX.three.2.1; have TB := Bt.drew.trans (hv1.mono (by show w.heap.size ≤ w1.heap.size; omega)); have TZ : w1.heap.size ≤ v1.heap.size := hv1.size)
      | (go_at_call 88; refine (N1.out _ (TB)).mono ?_; rintro e v2 ⟨rfl, hv2⟩; have UX := TX.below hv2 (by omega); have U0 := UX.three.1; have U1 := UX.three.2.1; have UB := TB.trans (hv2.mono (by omega)))
    )
  obtain ⟨y0, y1, y2⟩ := UX.three
  by_cases hb : bs.length = 0
  · have HE := Lib.hid (show stS st ss bs = s0 ++ ⟨#[115]⟩ ++ s1 by rw [ES.out, if_pos hb])
    have hb1 : ¬ (0 : Int) < (bs.length : Int) := by omega
    have HB0 := Lib.hid hb
    clear hb
    go_wp2_with fail
    go_ret
    exact ⟨by rw [HE.out]; rfl, UB⟩
  · have HE := Lib.hid (show stS st ss bs = s0 ++ ⟨#[115]⟩ ++ s1 ++ (⟨#[120]⟩ ++ s2) by rw [ES.out, if_neg hb])
    have hb1 : (0 : Int) < (bs.length : Int) := by omega
    have A2 := fun u => run_string_add_sum (P := Tryd.prog) u (⟨#[120]⟩ : ByteArray) s2 (by simp only [one_size]; omega)
    have A3 := fun u => run_string_add_sum (P := Tryd.prog) u (s0 ++ ⟨#[115]⟩ ++ s1) (⟨#[120]⟩ ++ s2) (by simp only [ByteArray.size_append, one_size]; omega)
    go_wp2_with fail
    refine (N2.out _ UB).mono ?_
    rintro e v3 ⟨rfl, hv3⟩
    go_wp2_with fail
    go_ret
    exact ⟨by rw [HE.out]; rfl, UB.trans (hv3.mono (by have := hv2.size; have := UX.lt; omega))⟩
set_option maxHeartbeats 1000000 in
theorem specStairsText_any (st : Int) (A A' : Option Addr) (c c' : Nat) (ss bs : List Int) (B : Nat) (w : World) (h : St w B st A A' c c' ss bs) (hB : B ≤ w.heap.size) :
    Calls Tryd.prog 26 #[stv st A A' c c' ss bs] w fun e w' => e = .returned (.tuple #[.string (orS (goodB st ss bs) (stS st ss bs)), .bool (goodB st ss bs)]) ∧ Below w.heap.size w w' := by
  cases g0 : goodB st ss bs
  · rw [orS_no]
    have H := Lib.hid g0
    clear g0
    go_enter Tryd.func26, Tryd.ntmps26
    go_wp2_with fail
    refine (clGood_any st A A' c c' ss bs B _ (h.alloc hB _) (by simp; omega)).mono ?_
    rintro e w1 ⟨rfl, hb⟩
    rw [H.out]
    have XB : Blk w1 w.heap.size 47 #[.int .i64 st, .slice A ss.length c, .slice A' bs.length c'] := (Blk.new _ _ _).below hb (by simp)
    have Bt : Below w.heap.size w w1 := (below_alloc _ _).trans (hb.mono (by simp))
    have hz0 := XB.lt
    obtain ⟨q0, q1, q2⟩ := XB.three
    clear hb
    go_wp2_with fail
    go_ret2
    exact ⟨rfl, Bt⟩
  · rw [orS_yes]
    have G := Lib.hid (goodS_of g0)
    have H := Lib.hid g0
    clear g0
    go_enter Tryd.func26, Tryd.ntmps26
    go_wp2_with fail
    refine (clGood_any st A A' c c' ss bs B _ (h.alloc hB _) (by simp; omega)).mono ?_
    rintro e w1 ⟨rfl, hb⟩
    rw [H.out]
    have XB : Blk w1 w.heap.size 47 #[.int .i64 st, .slice A ss.length c, .slice A' bs.length c'] := (Blk.new _ _ _).below hb (by simp)
    have Bt : Below w.heap.size w w1 := (below_alloc _ _).trans (hb.mono (by simp))
    have hz0 := XB.lt
    obtain ⟨q0, q1, q2⟩ := XB.three
    clear hb
    go_wp2_with fail
    refine (clText_any st A A' c c' ss bs B _ (h.below Bt hB) (by omega) G.out).mono ?_
    rintro e w2 ⟨rfl, hb⟩
    go_wp2_with fail
    go_ret2
    exact ⟨rfl, Bt.trans (hb.mono (by omega))⟩
set_option maxHeartbeats 2000000 in
theorem implStairsText_any (st : Int) (A A' : Option Addr) (c c' : Nat) (ss bs : List Int) (B : Nat) (w : World) (h : St w B st A A' c c' ss bs) (hB : B ≤ w.heap.size) (ht : TabI w) :
    Calls Tryd.prog 28 #[stv st A A' c c' ss bs] w fun e w' => e = .returned (.tuple #[.string (orS (goodB st ss bs) (stS st ss bs)), .bool (goodB st ss bs)]) ∧ Below w.heap.size w w' := by
  cases g0 : goodB st ss bs
  · rw [orS_no]
    have H := Lib.hid g0
    clear g0
    go_enter Tryd.func28, Tryd.ntmps28
    go_wp2_with fail
    refine (implAre_any st A A' c c' ss bs B _ (h.alloc hB _) (by simp; omega)).mono ?_
    rintro e w1 ⟨rfl, hb⟩
    rw [H.out]
    have XB : Blk w1 w.heap.size 47 #[.int .i64 st, .slice A ss.length c, .slice A' bs.length c'] := (Blk.new _ _ _).below hb (by simp)
    have Bt : Below w.heap.size w w1 := (below_alloc _ _).trans (hb.mono (by simp))
    have hz0 := XB.lt
    obtain ⟨q0, q1, q2⟩ := XB.three
    clear hb
    go_wp2_with fail
    go_ret2
    exact ⟨rfl, Bt⟩
  · rw [orS_yes]
    have G := goodS_of g0
    have H := Lib.hid g0
    clear g0
    have hst := G.1
    have hln := G.2.1
    have N0 := Lib.hid (fun u hu => itoa_any st u (by omega) (by omega) (ht.below hu))
    have N1 := Lib.hid (fun u (hu : Below w.heap.size w u) => numbersText_any A _ c ss 44 B u rfl (h.rs.below hu hB) (Nat.le_trans hB hu.size) (by omega) G.2.2.1 (ht.below hu))
    have N2 := Lib.hid (fun u (hu : Below w.heap.size w u) => numbersText_any A' _ c' bs 44 B u rfl (h.rb.below hu hB) (Nat.le_trans hB hu.size) (by omega) G.2.2.2 (ht.below hu))
    have ES := Lib.hid (show stS st ss bs = if bs.length = 0 then numS st ++ ⟨#[115]⟩ ++ lsS 44 ss ss.length else numS st ++ ⟨#[115]⟩ ++ lsS 44 ss ss.length ++ (⟨#[120]⟩ ++ lsS 44 bs bs.length) from rfl)
    have z0 := numS_size (n := st) (by omega)
    have z1 := lsS_size 44 (fun k hk => (G.2.2.1 k hk).2) ss.length (Nat.le_refl _)
    have z2 := lsS_size 44 (fun k hk => (G.2.2.2 k hk).2) bs.length (Nat.le_refl _)
    generalize numS st = s0 at *
    generalize lsS 44 ss ss.length = s1 at *
    generalize lsS 44 bs bs.length = s2 at *
    clear G
    go_enter Tryd.func28, Tryd.ntmps28
    go_wp2_with fail
    refine (implAre_any st A A' c c' ss bs B _ (h.alloc hB _) (by simp; omega)).mono ?_
    rintro e w1 ⟨rfl, hb⟩
    rw [H.out]
    have XB : Blk w1 w.heap.size 47 #[.int .i64 st, .slice A ss.length c, .slice A' bs.length c'] := (Blk.new _ _ _).below hb (by simp)
    have Bt : Below w.heap.size w w1 := (below_alloc _ _).trans (hb.mono (by simp))
    have hz0 := XB.lt
    obtain ⟨q0, q1, q2⟩ := XB.three
    clear hb
    clear q0 q1 q2
    have A0 := fun u => run_string_add_sum (P := Tryd.prog) u s0 (⟨#[115]⟩ : ByteArray) (by simp only [one_size]; omega)
    have A1 := fun u => run_string_add_sum (P := Tryd.prog) u (s0 ++ ⟨#[115]⟩) s1 (by simp only [ByteArray.size_append, one_size]; omega)
    obtain ⟨x0, x1, x2⟩ := XB.three
    have hz := XB.lt
    go_wp2_with fail
    go_region_held3 (fun u => u.cell? ⟨w.heap.size, 0, none⟩ = some (.int .i64 st) ∧ u.cell? ⟨w.heap.size, 1, none⟩ = some (.slice A ss.length c) ∧ Blk u w.heap.size 47 #[.int .i64 st, .slice A ss.length c, .slice A' bs.length c'] ∧ Below w.heap.size w u) (first | exact ⟨x0, x1, XB, Bt.drew⟩ | exact ⟨T0, T1, TX, TB⟩ | exact ⟨U0, U1, UX, UB⟩)
      (first
        | (go_at_call 54; refine (N0.out _ Bt.drew).mono ?_; rintro e v1 ⟨rfl, hv1⟩; have TX := XB.below (below_undrew hv1) hz; have T0 := TX.three.1; have T1 := TX.three.2.1; have TB := Bt.drew.trans (hv1.mono (by show w.heap.size ≤ w1.heap.size; omega)); have TZ : w1.heap.size ≤ v1.heap.size := hv1.size)
        | (go_at_call 66; refine (N1.out _ (TB)).mono ?_; rintro e v2 ⟨rfl, hv2⟩; have UX := TX.below hv2 (by omega); have U0 := UX.three.1; have U1 := UX.three.2.1; have UB := TB.trans (hv2.mono (by omega)))
      )
    obtain ⟨y0, y1, y2⟩ := UX.three
    by_cases hb : bs.length = 0
    · have HE := Lib.hid (show stS st ss bs = s0 ++ ⟨#[115]⟩ ++ s1 by rw [ES.out, if_pos hb])
      have hb1 : ¬ (0 : Int) < (bs.length : Int) := by omega
      have HB0 := Lib.hid hb
      clear hb
      go_wp2_with fail
      go_ret2
      exact ⟨by rw [HE.out]; rfl, UB⟩
    · have HE := Lib.hid (show stS st ss bs = s0 ++ ⟨#[115]⟩ ++ s1 ++ (⟨#[120]⟩ ++ s2) by rw [ES.out, if_neg hb])
      have hb1 : (0 : Int) < (bs.length : Int) := by omega
      have A2 := fun u => run_string_add_sum (P := Tryd.prog) u (⟨#[120]⟩ : ByteArray) s2 (by simp only [one_size]; omega)
      have A3 := fun u => run_string_add_sum (P := Tryd.prog) u (s0 ++ ⟨#[115]⟩ ++ s1) (⟨#[120]⟩ ++ s2) (by simp only [ByteArray.size_append, one_size]; omega)
      go_wp2_with fail
      refine (N2.out _ UB).mono ?_
      rintro e v3 ⟨rfl, hv3⟩
      go_wp2_with fail
      go_ret2
      exact ⟨by rw [HE.out]; rfl, UB.trans (hv3.mono (by have := hv2.size; have := UX.lt; omega))⟩

end Go.Proofs.YtfojcefbgdaelaaDoor
