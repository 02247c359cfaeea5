/- Contracts: MostStrides, the program: a range over slices.Backward. -/
import Derived.RangeFuncNested
import Derived.RangeFuncBound
import Derived.RangeFuncCalls
import Derived.RangeFuncLeaves
import Derived.RangeFuncBox
import Derived.Shelf.Abstract
import Derived.Shelf.RegionOpen
import Derived.WalkKit
import Derived.OwnWalkIn
import Derived.TacticsInMore
import Derived.LoopNIn
import Derived.LoopIn
import Derived.Test.YtohimcljobpkjaaDoorStFewI
namespace Go.Proofs.YtohimcljobpkjaaDoor
set_option maxRecDepth 100000
open Go.RowKit Go.Shelf

attribute [local go_sem] Oper.semAt_some

theorem _root_.Go.Boxed.below {w w' : World} {B n : Nat} {t : TypeId} {v : Value} (h : Boxed w B t v) (hb : Below n w w') (hB : B < n) : Boxed w' B t v := (hb.block B hB).trans h

theorem most_of {n k : Nat} {ss bs : List Int} (g : goodB n ss bs = true) (h : 0 < bS n ss bs k n) (hb : ∀ i, k < i → i ≤ n → bS n ss bs i n ≤ 0) : strV true n ss bs = k ∧ strB true n ss bs = true := by
  have G := good_of g
  have e : lv true n ss bs n = k := (lv_most (fun s hs => (G.hs s hs).1) n).uniq (.inr ⟨k, rfl, h, fun i hi hp => by
    have hp2 : 0 < bS n ss bs i n := hp
    rcases Nat.lt_or_ge n i with h1 | h1
    · rw [bS_far (fun s hs => (G.hs s hs).1) i n h1] at hp2; omega
    · have := hb i hi h1; omega⟩)
  have hB : strB true n ss bs = true := by simp only [strB, g, Int.toNat_natCast, e, Bool.true_and, Bool.not_eq_true', decide_eq_false_iff_not]; omega
  exact ⟨by rw [strV, if_pos hB, Int.toNat_natCast, e], hB⟩
theorem most_none {n : Nat} {ss bs : List Int} (g : goodB n ss bs = true) (hb : ∀ i, i < n + 1 → bS n ss bs i n ≤ 0) : strV true n ss bs = 0 ∧ strB true n ss bs = false := by
  have G := good_of g
  have e : lv true n ss bs n = -1 := (lv_most (fun s hs => (G.hs s hs).1) n).uniq (.inl ⟨rfl, fun m hm => by
    have h1 : 0 < bS n ss bs m n := hm
    rcases Nat.lt_or_ge m (n + 1) with h | h
    · have := hb m h
      omega
    · rw [bS_far (fun s hs => (G.hs s hs).1) m n (by omega)] at h1; omega⟩)
  have hB : strB true n ss bs = false := by simp [strB, g, e]
  exact ⟨by rw [strV, hB]; rfl, hB⟩

set_option maxRecDepth 100000 in
set_option maxHeartbeats 2000000 in
/-- slices.Backward's closure, for every loop body that keeps what lay below n₀ -/
theorem backward1_in (n l Bs n₀ b len : Nat) (vs : Nat → Value) (hn : 1 ≤ n) (hlen : len ≤ 1000) (hb : b < n₀) (hBn : Bs < n₀) (J Jx : List (Fin len) → World → Prop)
    (hY : ∀ pre x W, J pre W → pre.length < len → YieldAt Fence.wide (n - 1) Tryd.prog l #[.int .i64 ((x : Fin len).1 : Int), vs x.1] W fun e W' =>
      (e = .returned (.bool true) ∧ J (pre ++ [x]) W' ∧ Below n₀ W W') ∨ (e = .returned (.bool false) ∧ Jx (pre ++ [x]) W'))
    (W : World) (hBs : W.cell? ⟨Bs, 0, none⟩ = some (.slice (some ⟨b, 0, none⟩) len len)) (hc : ∀ j, j < len → W.cell? ⟨b, j, none⟩ = some (vs j)) (h0 : J [] W) :
    CallsIn Fence.wide n Tryd.prog 97 #[.func (.yield l) #[] #[], .pointer (some ⟨Bs, 0, none⟩)] W fun e W' => (∃ v, e = .returned v) ∧
      ((∃ ys, (∀ i : Fin len, i ∈ ys) ∧ J ys W') ∨ (∃ pre, (∀ ini last, pre = ini ++ [last] → ∀ i : Fin len, last < i → i ∈ ini) ∧ Jx pre W')) := by
  refine callsIn_of_wp Tryd.func97 rfl trivial ?_ rfl
  simp only [Tryd.ntmps97, List.size_toArray, List.length_cons, List.length_nil, Nat.reduceAdd, Nat.reduceSub, Array.replicate_succ, Array.replicate_zero, List.push_toArray, List.append_toArray, List.nil_append, List.cons_append]
  gi_wp2
  gi_loopw [3] (fun i wr => ∃ (k : Nat) (pre : List (Fin len)), k ≤ len ∧ pre.length + k = len ∧ i = .int .i64 ((k : Int) - 1) ∧ (∀ j : Fin len, k ≤ j.1 → j ∈ pre) ∧ J pre wr ∧ Below n₀ W wr)
    (fun i _ => (intOf i + 1).toNat)
  case atStart => exact ⟨len, [], Nat.le_refl _, by simp, by first | rfl | go_num, fun j hj => by omega, h0, Below.refl _ _⟩
  case round =>
    obtain ⟨k, pre, hk, hl, rfl, hall, hJs, hnx⟩ := hrel
    have hs0 := (hnx.cell (p := ⟨Bs, 0, none⟩) hBn).trans hBs
    by_cases hk0 : k = 0
    · subst hk0
      gi_wp2
      go_end0
      exact ⟨⟨_, rfl⟩, .inl ⟨pre, fun i => hall i (Nat.zero_le _), hJs⟩⟩
    · obtain ⟨k, rfl⟩ : ∃ k', k = k' + 1 := ⟨k - 1, by omega⟩
      have hcx := (hnx.cell (p := ⟨b, k, none⟩) hb).trans (hc k (by omega))
      obtain ⟨fn, tmps, assign, body, hy, hR⟩ := hY _ ⟨k, by omega⟩ wr hJs (by omega)
      dsimp only at hy
      rw [show ((k + 1 : Nat) : Int) - 1 = (k : Int) by omega]
      have hkl : (k : Int) < (len : Int) := by omega
      gi_wp2
      refine hR.mono ?_
      rintro e W3 (⟨rfl, hJ3, hk3⟩ | ⟨rfl, hJx3⟩)
      · gi_wp2
        go_roundw
        case rel =>
          refine ⟨k, pre ++ [⟨k, by omega⟩], by omega, by simp; omega, by first | rfl | go_num, fun j hj => ?_, hJ3, hnx.trans hk3⟩
          by_cases e : j.1 = k
          · simp [show j = ⟨k, by omega⟩ from Fin.ext e]
          · exact List.mem_append_left _ (hall j (by omega))
        case measure => simp [intOf] <;> omega
      · gi_wp2
        refine bodyPost_ret (results_none rfl _ _ _) rfl ?_
        refine ⟨⟨_, rfl⟩, .inr ⟨_, fun ini last e i hi => ?_, hJx3⟩⟩
        obtain ⟨rfl, e2⟩ := List.append_inj' e rfl
        have e3 : (⟨k, by omega⟩ : Fin len) = last := by simpa using e2
        rw [← e3] at hi
        exact hall i (by have : k < i.1 := hi; omega)

theorem backward_in (n : Nat) (a : Option Addr) (len cap : Nat) (w : World) :
    CallsIn Fence.wide n Tryd.prog 83 #[.slice a len cap] w fun e w' => e = .returned (.func (.func 97) #[] #[.pointer (some ⟨w.heap.size, 0, none⟩)]) ∧ w' = w.alloc (.cells #[.slice a len cap] 122) := by
  refine callsIn_of_wp Tryd.func83 rfl trivial ?_ rfl
  simp only [Tryd.ntmps83, List.size_toArray, List.length_cons, List.length_nil, Nat.reduceAdd, Nat.reduceSub, Array.replicate_succ, Array.replicate_zero, List.push_toArray, List.append_toArray, List.nil_append, List.cons_append]
  gi_wp2
  go_ret
  exact ⟨rfl, rfl⟩

theorem backward_stops (n Bs n₀ b len : Nat) (vs : Nat → Value) (hn : 1 ≤ n) (hlen : len ≤ 1000) (w : World) (hb : b < n₀) (hBn : Bs < n₀) (hn₀ : n₀ ≤ w.heap.size)
    (hBs : w.cell? ⟨Bs, 0, none⟩ = some (.slice (some ⟨b, 0, none⟩) len len)) (hc : ∀ j, j < len → w.cell? ⟨b, j, none⟩ = some (vs j)) :
    SeqStopsK Fence.wide n Tryd.prog 97 #[.pointer (some ⟨Bs, 0, none⟩)] (fun x : Fin len => #[Value.int .i64 (x.1 : Int), vs x.1]) (Below n₀) (fun ys => ∀ i : Fin len, i ∈ ys)
      (fun pre => ∀ ini last, pre = ini ++ [last] → ∀ i : Fin len, last < i → i ∈ ini) len w := fun l J Jx W hW _ _ hY h0 =>
  backward1_in n l Bs n₀ b len vs hn hlen hb hBn J Jx hY W ((hW.cell (p := ⟨Bs, 0, none⟩) (by show Bs < _; omega)).trans hBs) (fun j hj => (hW.cell (p := ⟨b, j, none⟩) (by show b < _; omega)).trans (hc j hj)) h0

set_option maxRecDepth 100000 in
set_option maxHeartbeats 4000000 in
theorem implMost_any (st : Int) (A A' : Option Addr) (c c' : Nat) (ss bs : List Int) (B : Nat) (w : World) (h : St w B st A A' c c' ss bs) (hB : B ≤ w.heap.size) :
    Calls Tryd.prog 66 #[stv st A A' c c' ss bs] w (Plain (.tuple #[.int .i64 (strV true st ss bs), .bool (strB true st ss bs)]) w) := by
  have bS := Boxed.new w 84 (stv st A A' c c' ss bs)
  have h1 := ((h.alloc hB (.cells #[.int .i64 st, .slice A ss.length c, .slice A' bs.length c'] 84)).alloc (by simp; omega) (.cells #[.int .i64 0] 3)).alloc (by simp; omega) (.cells #[.bool false] 4)
  have X0 : Blk (w.alloc (.cells #[.int .i64 st, .slice A ss.length c, .slice A' bs.length c'] 84)) w.heap.size 84 #[.int .i64 st, .slice A ss.length c, .slice A' bs.length c'] := Blk.new _ _ _
  have b2 := Boxed.new (w.alloc (.cells #[.int .i64 st, .slice A ss.length c, .slice A' bs.length c'] 84)) 3 (.int .i64 0)
  have b3 := Boxed.new ((w.alloc (.cells #[.int .i64 st, .slice A ss.length c, .slice A' bs.length c'] 84)).alloc (.cells #[.int .i64 0] 3)) 4 (.bool false)
  cases g : goodB st ss bs
  · rw [show strV true st ss bs = 0 by simp [strV, strB, g], show strB true st ss bs = false by simp [strB, g]]
    have H := Lib.hid g
    clear g
    refine (callsIn_wide (n := 3)).1 ?_
    refine callsIn_of_wp_marks Tryd.func66 rfl trivial ?_ rfl
    simp only [Tryd.ntmps66, List.size_toArray, List.length_cons, List.length_nil, Nat.reduceAdd, Nat.reduceSub, Array.replicate_succ, Array.replicate_zero, List.push_toArray, List.append_toArray, List.nil_append, List.cons_append]
    gi_wp2_with fail
    refine ⟨trivial, (callsIn_wide.2 (implAre_any _ _ _ _ _ _ _ B _ h1 (by simp; omega))).mono ?_⟩
    rintro e w1 ⟨rfl, hb⟩
    have Bt : Below w.heap.size w w1 := (((below_alloc _ _).alloc (by simp) _).alloc (by simp; omega) _).trans (hb.mono (by simp; omega))
    have c2 := (b2.alloc (.cells #[.bool false] 4)).below hb (by simp)
    have c3 := b3.below hb (by simp)
    simp only [World.size_alloc] at c2 c3
    have d2 := c2.cell
    have d3 := c3.cell
    have f2 := c2.frozen
    have f3 := c3.frozen
    rw [H.out]
    gi_wp2_with fail
    have e2 := ((c2.set (.int .i64 0)).other (B' := w.heap.size + 1 + 1) (by omega) (.bool false)).cell
    have e3 := ((c3.other (B' := w.heap.size + 1) (by omega) (.int .i64 0)).set (.bool false)).cell
    refine ⟨.tuple #[.int .i64 0, .bool false], ?_, rfl, (Bt.setCell (by show _ ≤ w.heap.size + 1; omega) _).setCell (by show _ ≤ w.heap.size + 1 + 1; omega) _⟩
    simp [results, Tryd.f66, go_sem, e2, e3]
  · have G := good_of g
    obtain ⟨n, rfl⟩ : ∃ n : Nat, st = (n : Int) := ⟨st.toNat, by have := G.st1; omega⟩
    have g1 : 1 ≤ n := by have := G.st1; omega
    have g2 : n ≤ 60 := by have := G.st2; omega
    have HF := Lib.hid (fun k => most_of (k := k) g)
    have H0 := Lib.hid (most_none g)
    have H := Lib.hid g
    have GH := Lib.hid G
    clear g G
    refine (callsIn_wide (n := 3)).1 ?_
    refine callsIn_of_wp_marks Tryd.func66 rfl trivial ?_ rfl
    simp only [Tryd.ntmps66, List.size_toArray, List.length_cons, List.length_nil, Nat.reduceAdd, Nat.reduceSub, Array.replicate_succ, Array.replicate_zero, List.push_toArray, List.append_toArray, List.nil_append, List.cons_append]
    gi_wp2_with fail
    refine ⟨trivial, (callsIn_wide.2 (implAre_any _ _ _ _ _ _ _ B _ h1 (by simp; omega))).mono ?_⟩
    rintro e w1 ⟨rfl, hb⟩
    have Bt : Below w.heap.size w w1 := (((below_alloc _ _).alloc (by simp) _).alloc (by simp; omega) _).trans (hb.mono (by simp; omega))
    have c1 := ((X0.alloc (.cells #[.int .i64 0] 3)).alloc (.cells #[.bool false] 4)).below hb (by simp; omega)
    have c2 := (b2.alloc (.cells #[.bool false] 4)).below hb (by simp)
    have c3 := b3.below hb (by simp)
    have hw1 := h1.below hb (by simp; omega)
    have hs : w.heap.size + 3 ≤ w1.heap.size := by have := hb.size; simp at this; omega
    simp only [World.size_alloc] at c2 c3
    clear hb h1 b2 b3 X0 bS
    obtain ⟨p0, p1, p2⟩ := c1.three
    rw [H.out]
    gi_wp2_with fail
    refine ⟨trivial, (callsIn_wide.2 (byStrides_any n _ _ _ _ _ _ B _ hw1 (by omega) GH.out)).mono ?_⟩
    rintro e w2 ⟨g, gs, f, rfl, hgg, RW, hf, hb⟩
    have HF2 := Lib.hid (fun j (hj : j ≤ n) => (hf j 0 hj).trans (bY_in n ss bs j (Nat.zero_le _)))
    clear hf p0 p1 p2
    replace Bt := Bt.trans (hb.mono (by omega))
    replace c2 := c2.below hb (by omega)
    replace c3 := c3.below hb (by omega)
    replace hs : w.heap.size + 3 ≤ w2.heap.size := by have := hb.size; omega
    clear hb c1 hw1
    have hgl := RW.o.lt
    gi_wp2_with fail
    refine ⟨trivial, (backward_in _ _ _ _ _).mono ?_⟩
    rintro e w3 ⟨rfl, rfl⟩
    have bN := Boxed.new w2 122 (.slice (some ⟨g, 0, none⟩) (n + 1) (n + 1))
    replace Bt := Bt.alloc (by omega) (.cells #[.slice (some ⟨g, 0, none⟩) (n + 1) (n + 1)] 122)
    replace c2 := c2.alloc (.cells #[.slice (some ⟨g, 0, none⟩) (n + 1) (n + 1)] 122)
    replace c3 := c3.alloc (.cells #[.slice (some ⟨g, 0, none⟩) (n + 1) (n + 1)] 122)
    have hz3 : (w2.alloc (.cells #[.slice (some ⟨g, 0, none⟩) (n + 1) (n + 1)] 122)).heap.size = w2.heap.size + 1 := by simp
    have hcl : ∀ j, j < n + 1 → (w2.alloc (.cells #[.slice (some ⟨g, 0, none⟩) (n + 1) (n + 1)] 122)).cell? ⟨g, j, none⟩ = some (.slice (some ⟨gs j, 0, none⟩) (n + 10) (n + 10)) := fun j hj => ((below_alloc w2 _).cell (p := ⟨g, j, none⟩) hgl).trans (RW.out (by omega))
    have RW3 := RW.below (below_alloc w2 (.cells #[.slice (some ⟨g, 0, none⟩) (n + 1) (n + 1)] 122)) (Nat.le_refl _)
    clear RW
    generalize hW3 : w2.alloc (.cells #[.slice (some ⟨g, 0, none⟩) (n + 1) (n + 1)] 122) = w3 at *
    clear hW3
    gi_wp2_with fail
    refine wpIn_rangeFunc_ownG (F := Fence.wide) (n := 3) rfl (by omega) (gf := 97) (lb := #[.pointer (some ⟨w2.heap.size, 0, none⟩)]) rfl trivial (enters_of Tryd.func97 (by kernel_rfl) rfl)
      (backward_stops (3 - 1) w2.heap.size (w2.heap.size + 1) g (n + 1) (fun j => .slice (some ⟨gs j, 0, none⟩) (n + 10) (n + 10)) (by omega) (by omega) w3 (by omega) (by omega) (by omega) bN.cell hcl) belowK_t (belowK_b (by omega)) (Below.refl _ _) (fun _ => rfl)
      (fun pre W => ((∀ p ∈ pre, bS n ss bs p.1 n ≤ 0) ∧ Boxed W (w.heap.size + 1) 3 (.int .i64 0) ∧ Boxed W (w.heap.size + 1 + 1) 4 (.bool false)) ∧ Below w3.heap.size w3 W)
      (fun c pre W => (c = .ret ∧ ∃ (ini : List (Fin (n + 1))) (last : Fin (n + 1)), pre = ini ++ [last] ∧ (∀ p ∈ ini, bS n ss bs p.1 n ≤ 0) ∧ 0 < bS n ss bs last.1 n ∧ Boxed W (w.heap.size + 1) 3 (.int .i64 (last.1 : Int)) ∧ Boxed W (w.heap.size + 1 + 1) 4 (.bool true)) ∧ Below w.heap.size w W)
      (OwnFrom.and (Own.from (fun s A B row hs hg hr => ⟨hs.1, boxed_own _ _ (fun _ : Unit => _) () A B row hs.2.1 hg hr, boxed_own _ _ (fun _ : Unit => _) () A B row hs.2.2 hg hr⟩) _) (ownFrom_below (Nat.le_refl _) (Nat.le_refl _)))
      (fun c => OwnFrom.and (Own.from (fun s A B row hs hg hr => by obtain ⟨hc, ini, last, e1, e2, e3, e4, e5⟩ := hs; exact ⟨hc, ini, last, e1, e2, e3, boxed_own _ _ (fun _ : Unit => _) () A B row e4 hg hr, boxed_own _ _ (fun _ : Unit => _) () A B row e5 hg hr⟩) _) (ownFrom_below (Nat.le_refl _) (by omega)))
      ⟨⟨by simp, c2, c3⟩, Below.refl _ _⟩
      (fun x => { tmps := #[stv n A A' c c' ss bs, .pointer (some ⟨w.heap.size, 0, none⟩), .pointer (some ⟨w.heap.size + 1, 0, none⟩), .pointer (some ⟨w.heap.size + 1 + 1, 0, none⟩), .int .i64 (x.1 : Int), .slice (some ⟨gs x.1, 0, none⟩) (n + 10) (n + 10), stv n A A' c c' ss bs, .bool true, .bool false, stv n A A' c c' ss bs, .slice (some ⟨g, 0, none⟩) (n + 1) (n + 1), .func (.func 97) #[] #[.pointer (some ⟨w2.heap.size, 0, none⟩)], .int .i64 (x.1 : Int), .slice (some ⟨gs x.1, 0, none⟩) (n + 10) (n + 10), undef, undef, undef, undef, undef], defers := [] }) ?assign ?body ?done ?stop
    case assign =>
      intro l x W K hK
      gi_wp2
      exact hK
    case body =>
      rintro l pre x W ⟨⟨hp, hc2, hc3⟩, hbw⟩ _
      have RW2 := RW3.below hbw (Nat.le_refl _)
      have hx := x.2
      have k2 := RW2.at_ (j := x.1) (q := 0) (by omega) (by omega)
      rw [HF2.out x.1 (by omega), Nat.sub_zero] at k2
      have m2 := hc2.cell
      have m3 := hc3.cell
      have n2 := hc2.frozen
      have n3 := hc3.frozen
      clear RW2
      by_cases hv : 0 < bS n ss bs x.1 n
      · have HV := Lib.hid hv
        generalize bS n ss bs x.1 n = v at k2 hv
        gi_wp2
        exact ⟨((KeepsOthers.setCell _ _ _).trans (KeepsOthers.setCell _ _ _)).from _, ⟨rfl, pre, x, rfl, hp, HV.out, (hc2.set _).other (by omega) _, (hc3.other (by omega) _).set _⟩, ((Bt.trans (hbw.mono (by omega))).setCell (by show _ ≤ w.heap.size + 1; omega) _).setCell (by show _ ≤ w.heap.size + 1 + 1; omega) _⟩
      · have HV := Lib.hid hv
        generalize bS n ss bs x.1 n = v at k2 hv
        gi_wp2
        exact ⟨KeepsFrom.refl _ _, Below.refl _ _, ⟨fun p hp' => (List.mem_append.1 hp').elim (hp p) (fun e => by simp at e; subst e; have := HV.out; omega), hc2, hc3⟩, by first | exact hbw | (rw [← hz3]; exact hbw)⟩
    case done =>
      rintro D ys W hD hall ⟨⟨hne, hc2, hc3⟩, hbw⟩ hK
      have m2 := hc2.cell
      have m3 := hc3.cell
      have n2 := hc2.frozen
      have n3 := hc3.frozen
      have HV := H0.out (fun i hi => hne ⟨i, hi⟩ (hall _))
      gi_wp2
      have hK' := ((KeepsOthers.setCell W ⟨w.heap.size + 1, 0, none⟩ (.int .i64 0)).trans (KeepsOthers.setCell _ ⟨w.heap.size + 1 + 1, 0, none⟩ (.bool false))).same D _ hK rfl
      refine ⟨by simp, .inl ⟨_, _, rfl, run_takeDeferred hK', ?_⟩⟩
      have e2 := cell_kept ((hc2.set (.int .i64 0)).other (B' := w.heap.size + 1 + 1) (by omega) (.bool false)).cell (grownBy_putObj' _ D (.deferred none)) (fun r e => by cases e; exact ⟨_, hK', rfl⟩)
      have e3 := cell_kept ((hc3.other (B' := w.heap.size + 1) (by omega) (.int .i64 0)).set (.bool false)).cell (grownBy_putObj' _ D (.deferred none)) (fun r e => by cases e; exact ⟨_, hK', rfl⟩)
      rw [HV.1, HV.2]
      refine ⟨.tuple #[.int .i64 0, .bool false], ?_, rfl, (((Bt.trans (hbw.mono (by omega))).setCell (by show _ ≤ w.heap.size + 1; omega) _).setCell (by show _ ≤ w.heap.size + 1 + 1; omega) _).trans (belowK_b (w := w) (Nat.le_refl _) _ D _ _ (by omega) hK' rfl rfl)⟩
      simp [results, Tryd.f66, go_sem, e2, e3]
    case stop =>
      rintro D c pre W hD hsp ⟨⟨rfl, ini, last, e1, e2, e3, hc2, hc3⟩, hbw⟩ hK
      have HV := HF.out last.1 e3 (fun i hi hi2 => e2 ⟨i, by omega⟩ (hsp ini last e1 ⟨i, by omega⟩ hi))
      gi_wp2
      refine ⟨by simp, .inl ⟨_, _, rfl, run_takeDeferred hK, ?_⟩⟩
      have e4 := cell_kept hc2.cell (grownBy_putObj' _ D (.deferred none)) (fun r e => by cases e; exact ⟨_, hK, rfl⟩)
      have e5 := cell_kept hc3.cell (grownBy_putObj' _ D (.deferred none)) (fun r e => by cases e; exact ⟨_, hK, rfl⟩)
      rw [HV.1, HV.2]
      refine ⟨.tuple #[.int .i64 (last.1 : Int), .bool true], ?_, rfl, hbw.trans (belowK_b (w := w) (Nat.le_refl _) _ D _ _ (by omega) hK rfl rfl)⟩
      simp [results, Tryd.f66, go_sem, e4, e5]

end Go.Proofs.YtohimcljobpkjaaDoor
