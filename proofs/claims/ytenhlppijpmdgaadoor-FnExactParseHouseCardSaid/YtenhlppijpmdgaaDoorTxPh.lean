/- Contracts: reading houses, the model. -/
import Derived.Test.YtenhlppijpmdgaaDoorTxPhP
import Derived.Test.YtenhlppijpmdgaaDoorGApp
import Derived.Test.YtenhlppijpmdgaaDoorHoGood
import Derived.Deep.RegionHeld3
import Derived.RegionTactic
import Derived.BigRegion
import Derived.ChangeAlike
namespace Go.Proofs.YtenhlppijpmdgaaDoor
open Go.RowKit
set_option maxRecDepth 100000

def paL (ps : List ByteArray) (j : Nat) : List Int := (ps.take j).tail.map phU
def pdL (ps : List ByteArray) (j : Nat) : List Int := if j = 0 then [] else rdI (ps.getD 0 ⟨#[]⟩) :: (ps.take j).tail.map phV
theorem take_one {ps : List ByteArray} (h : 0 < ps.length) : ps.take (0 + 1) = [ps.getD 0 ⟨#[]⟩] := by
  cases ps with
  | nil => exact absurd h (by simp)
  | cons p r => rfl
theorem paL_one {ps : List ByteArray} (h : 0 < ps.length) : paL ps (0 + 1) = [] := by unfold paL; rw [take_one h]; rfl
theorem pdL_one {ps : List ByteArray} (h : 0 < ps.length) : pdL ps (0 + 1) = [rdI (ps.getD 0 ⟨#[]⟩)] := by unfold pdL; rw [take_one h, if_neg (by omega)]; rfl
theorem tail_snoc {ps : List ByteArray} {j : Nat} (h1 : 1 ≤ j) (h : j < ps.length) : (ps.take (j + 1)).tail = (ps.take j).tail ++ [ps.getD j ⟨#[]⟩] := by
  rw [List.take_succ_eq_append_getElem h, List.tail_append_of_ne_nil (by intro e; have h9 := congrArg List.length e; rw [List.length_take, List.length_nil] at h9; omega)]
  congr 2
  rw [List.getD_eq_getElem?_getD, List.getElem?_eq_getElem h]; rfl
theorem paL_succ {ps : List ByteArray} {j : Nat} (h1 : 1 ≤ j) (h : j < ps.length) : paL ps (j + 1) = paL ps j ++ [phU (ps.getD j ⟨#[]⟩)] := by
  unfold paL; rw [tail_snoc h1 h]; simp
theorem pdL_succ {ps : List ByteArray} {j : Nat} (h1 : 1 ≤ j) (h : j < ps.length) : pdL ps (j + 1) = pdL ps j ++ [phV (ps.getD j ⟨#[]⟩)] := by
  unfold pdL; rw [tail_snoc h1 h, if_neg (by omega), if_neg (by omega)]; simp
theorem paL_len (ps : List ByteArray) (j : Nat) : (paL ps j).length ≤ j := by unfold paL; simp; omega
theorem pdL_len (ps : List ByteArray) (j : Nat) : (pdL ps j).length ≤ j := by
  unfold pdL
  split
  · simp
  · simp; omega
theorem rd_oneH {w : World} {o : Nat} {x : Int} (h : o = w.heap.size) : Rd (w.alloc (.cells #[.int .i64 x] 3)) (o + 1) (some ⟨o, 0, none⟩) 1 [x] :=
  ⟨Nat.le_refl _, fun k hk => by
    obtain rfl : k = 0 := by simpa using hk
    exact ⟨o, 0, rfl, by omega, by rw [(Blk.new' h).cell]; rfl⟩⟩
theorem two_wordsH {s : ByteArray} {b : UInt8} (h : (splitS s b).length = 2) : ∃ x y, splitS s b = [x, y] ∧ s.data.toList = x.data.toList ++ b :: y.data.toList := by
  obtain ⟨ws, l, e1, e2⟩ := split_cat s b
  rw [e1] at h
  have h4 : ws.length = 1 := by simpa using h
  match ws, h4 with
  | [a], _ => exact ⟨a, l, e1, by rw [← e2]; rfl⟩
/-- the floors that have come are of two words -/
def alT (ps : List ByteArray) (j : Nat) : Prop := ∀ x ∈ (ps.take j).tail, phT x = true
theorem alT_zero (ps : List ByteArray) : alT ps 0 := by intro x hx; simp at hx
theorem alT_one {ps : List ByteArray} (h : 0 < ps.length) : alT ps (0 + 1) := by intro x hx; rw [take_one h] at hx; simp at hx
theorem alT_succ {ps : List ByteArray} {j : Nat} (h1 : 1 ≤ j) (h : j < ps.length) (ha : alT ps j) (hx : phT (ps.getD j ⟨#[]⟩) = true) : alT ps (j + 1) := by
  intro x hm
  rw [tail_snoc h1 h] at hm
  rcases List.mem_append.1 hm with hm | hm
  · exact ha x hm
  · rw [List.mem_singleton.1 hm]; exact hx
theorem ph_parts {s : ByteArray} {n : Nat} (hn : (splitS s 94).length = n) : phA s = paL (splitS s 94) n ∧ (0 < n → phD s = pdL (splitS s 94) n) := by
  subst hn
  refine ⟨?_, fun h => ?_⟩
  · unfold phA paL; rw [List.take_length]
  · unfold phD pdL; rw [List.take_length, if_neg (by omega)]
theorem ph_not {s : ByteArray} {j : Nat} (h1 : 1 ≤ j) (h : j < (splitS s 94).length) (hx : phT ((splitS s 94).getD j ⟨#[]⟩) = false) : phB s = false := by
  cases hb : phB s
  · rfl
  · simp only [phB, Bool.and_eq_true, List.all_eq_true] at hb
    have := hb.2.1 ((splitS s 94).getD j ⟨#[]⟩) (by
      rw [List.getD_eq_getElem?_getD, List.getElem?_eq_getElem h]
      show (splitS s 94)[j] ∈ (splitS s 94).tail
      rw [← List.drop_one, List.mem_iff_getElem]
      refine ⟨j - 1, by simp; omega, ?_⟩
      rw [List.getElem_drop]
      congr 1; omega)
    rw [hx] at this; cases this
/-- what the model's reading leaves: some house, and what it is where there is one -/
def LdPost (s : ByteArray) (w : World) (e : Ending) (w' : World) : Prop :=
  ∃ A A' n n' c c', e = .returned (.tuple #[.agg #[.slice A n c, .slice A' n' c'], .bool (phB s)]) ∧ Below w.heap.size w w' ∧
    (phB s = true → n = (phA s).length ∧ n' = (phD s).length ∧ OwnI w' w.heap.size (.slice A n c) (phA s) ∧ OwnI w' w.heap.size (.slice A' n' c') (phD s))
theorem step_belowH {a b c : World} {L : List Nat} (h : Turned a b L) {B : Nat} (hb : Below B b c) (hB : a.heap.size ≤ B) : Turned a c L :=
  ⟨hb.os.trans h.os, hb.tape.trans h.tape, hb.output.trans h.output, Nat.le_trans h.size hb.size, fun k hk hn => (hb.block k (by omega)).trans (h.block k hk hn)⟩
theorem turned_setH (w : World) (g i : Nat) (u : Value) : Turned w (w.setCell ⟨g, i, none⟩ u) [g] :=
  ⟨rfl, rfl, rfl, by simp [World.setCell], fun k _ hk => Below.heap_setCell _ _ _ _ (fun e => hk (by simp [e]))⟩
theorem cell_heap {w w' : World} {k j : Nat} (h : w'.heap[k]? = w.heap[k]?) : w'.cell? ⟨k, j, none⟩ = w.cell? ⟨k, j, none⟩ := by
  unfold World.cell?
  rw [h]
theorem turned_undrewH {a b : World} {L : List Nat} (h : Turned a.drew b L) : Turned a b L := ⟨h.os, h.tape, h.output, h.size, h.block⟩
theorem form1 {w : World} {B : Nat} {v : Value} {xs : List Int} {a : Int} (h : OwnI w B v (xs ++ [a])) : ∃ A c, v = .slice A (xs.length + 1) c := by
  obtain ⟨A, c, e, _⟩ := h.form
  exact ⟨A, c, by rw [e]; simp⟩
/-- the house under way -/
structure Hs (w w1 wr : World) (xs ys : List Int) (v1 v2 : Value) : Prop where
  m : Blk wr (w.heap.size + 1) 38 #[v1, v2]
  r : Blk wr w.heap.size 38 #[.slice none 0 0, .slice none 0 0]
  o1 : OwnI wr w1.heap.size v1 xs
  o2 : OwnI wr w1.heap.size v2 ys
  ap : Apart v1 v2
  tu : Turned w1 wr [w.heap.size + 1]
theorem Hs.below {w w1 wr w' : World} {xs ys : List Int} {v1 v2 : Value} (H : Hs w w1 wr xs ys v1 v2) (hb : Below wr.heap.size wr w') : Hs w w1 w' xs ys v1 v2 :=
  ⟨H.m.below hb H.m.lt, H.r.below hb H.r.lt, H.o1.below hb (Nat.le_refl _), H.o2.below hb (Nat.le_refl _), H.ap, step_belowH H.tu hb H.tu.size⟩
theorem Hs.push1 {w w1 wr w9 : World} {xs ys : List Int} {v1 v2 v9 : Value} {z : Int} (H : Hs w w1 wr xs ys v1 v2) (hz : w.heap.size + 2 ≤ w1.heap.size) (ho : OwnI w9 w1.heap.size v9 (xs ++ [z])) (hb : Below w1.heap.size (wr.alloc (.cells #[.int .i64 z] 3)) w9)
    (T : Turned (wr.alloc (.cells #[.int .i64 z] 3)) w9 (rowL v1)) (hob : v9.ownBlock = v1.ownBlock ∨ v9.ownBlock = some (wr.heap.size + 1)) : Hs w w1 (w9.setCell ⟨w.heap.size + 1, 0, none⟩ v9) (xs ++ [z]) ys v9 v2 := by
  have n1 : w.heap.size + 1 ∉ rowL v1 := fun hm => by have := (H.o1.lt _ (mem_rowL.1 hm)).1; omega
  have n0 : w.heap.size ∉ rowL v1 := fun hm => by have := (H.o1.lt _ (mem_rowL.1 hm)).1; omega
  refine ⟨((H.m.alloc _).turned T n1).set_ 0 v9, ((H.r.alloc _).turned T n0).far (by simp) _, ho.turned (turned_setH _ _ _ _) (fun k hk hm => by have := (ho.lt k hk).1; have := List.mem_singleton.1 hm; omega), ((H.o2.alloc _).turned T (fun k h2 hm => H.ap k (mem_rowL.1 hm) h2)).turned (turned_setH _ _ _ _) (fun k hk hm => by have := (H.o2.lt k hk).1; have := List.mem_singleton.1 hm; omega), ?_, (step_belowH H.tu (((below_alloc wr _).mono H.tu.size).trans hb) (Nat.le_refl _)).trans (turned_setH _ _ _ _)⟩
  intro k h1 h2
  rcases hob with e | e
  · rw [e] at h1; exact H.ap k h1 h2
  · rw [e] at h1; injection h1 with h1; have := (H.o2.lt k h2).2; omega
theorem Hs.push2 {w w1 wr w9 : World} {xs ys : List Int} {v1 v2 v9 : Value} {z : Int} (H : Hs w w1 wr xs ys v1 v2) (hz : w.heap.size + 2 ≤ w1.heap.size) (ho : OwnI w9 w1.heap.size v9 (ys ++ [z])) (hb : Below w1.heap.size (wr.alloc (.cells #[.int .i64 z] 3)) w9)
    (T : Turned (wr.alloc (.cells #[.int .i64 z] 3)) w9 (rowL v2)) (hob : v9.ownBlock = v2.ownBlock ∨ v9.ownBlock = some (wr.heap.size + 1)) : Hs w w1 (w9.setCell ⟨w.heap.size + 1, 1, none⟩ v9) xs (ys ++ [z]) v1 v9 := by
  have n1 : w.heap.size + 1 ∉ rowL v2 := fun hm => by have := (H.o2.lt _ (mem_rowL.1 hm)).1; omega
  have n0 : w.heap.size ∉ rowL v2 := fun hm => by have := (H.o2.lt _ (mem_rowL.1 hm)).1; omega
  refine ⟨((H.m.alloc _).turned T n1).set_ 1 v9, ((H.r.alloc _).turned T n0).far (by simp) _, ((H.o1.alloc _).turned T (fun k h2 hm => H.ap k h2 (mem_rowL.1 hm))).turned (turned_setH _ _ _ _) (fun k hk hm => by have := (H.o1.lt k hk).1; have := List.mem_singleton.1 hm; omega), ho.turned (turned_setH _ _ _ _) (fun k hk hm => by have := (ho.lt k hk).1; have := List.mem_singleton.1 hm; omega), ?_, (step_belowH H.tu (((below_alloc wr _).mono H.tu.size).trans hb) (Nat.le_refl _)).trans (turned_setH _ _ _ _)⟩
  intro k h1 h2
  rcases hob with e | e
  · rw [e] at h2; exact H.ap k h1 h2
  · rw [e] at h2; injection h2 with h2; have := (H.o1.lt k h1).2; omega
theorem Hs.first {w w1 wr : World} {xs ys : List Int} {v1 v2 : Value} (H : Hs w w1 wr xs ys v1 v2) (hz : w.heap.size + 2 ≤ w1.heap.size) (z : Int) :
    Hs w w1 ((wr.alloc (.cells #[.int .i64 z] 3)).setCell ⟨w.heap.size + 1, 1, none⟩ (.slice (some ⟨wr.heap.size, 0, none⟩) 1 1)) xs [z] v1 (.slice (some ⟨wr.heap.size, 0, none⟩) 1 1) := by
  have hr := H.tu.size
  have N : Blk (wr.alloc (.cells #[.int .i64 z] 3)) wr.heap.size 3 (ints [z]) := Blk.new _ _ _
  have o := (N.own (by simp)).mono (B' := w1.heap.size) hr
  refine ⟨(H.m.alloc _).set_ 1 _, (H.r.alloc _).far (by simp) _, (H.o1.alloc _).turned (turned_setH _ _ _ _) (fun k hk hm => by have := (H.o1.lt k hk).1; have := List.mem_singleton.1 hm; omega), o.turned (turned_setH _ _ _ _) (fun k hk hm => by have h9 := List.mem_singleton.1 hm; have h8 : wr.heap.size = k := (by simpa [Value.ownBlock] using hk); omega), ?_, (step_belowH H.tu ((below_alloc wr _).mono H.tu.size) (Nat.le_refl _)).trans (turned_setH _ _ _ _)⟩
  intro k h1 h2
  have h8 : wr.heap.size = k := by simpa [Value.ownBlock] using h2
  have := (H.o1.lt k h1).2
  omega
/-- a word's cell behind an append and a store -/
theorem word_kept {wr w9 : World} {z : Int} {v1 u : Value} {M f k j : Nat} (T : Turned (wr.alloc (.cells #[.int .i64 z] 3)) w9 (rowL v1)) (hk : k < wr.heap.size) (h1 : ∀ b, v1.ownBlock = some b → b < k) (hM : M < k) :
    (w9.setCell ⟨M, f, none⟩ u).cell? ⟨k, j, none⟩ = wr.cell? ⟨k, j, none⟩ :=
  cell_heap ((Below.heap_setCell _ _ _ _ (by show k ≠ M; omega)).trans ((T.block k (by simp; omega) (fun hm => by have := h1 k (mem_rowL.1 hm); omega)).trans (Below.heap_alloc wr _ k hk)))

set_option maxHeartbeats 8000000 in
theorem ldParse_any (s : ByteArray) (w : World) (hn : s.size ≤ 1048576) :
    Calls Tryd.prog 35 #[.string s] w (LdPost s w) := by
  by_cases h8 : s.size ≤ 84
  · have h8' : ¬ (84 : Int) < (s.size : Int) := by omega
    have HSZ := Lib.hid (fun x hx => word_le s 94 x hx)
    have SP := Lib.hid (fun u => l1Split_any s 94 u hn)
    have HNT := Lib.hid (fun j h1 h hx => ph_not (s := s) (j := j) h1 h hx)
    have HPA := Lib.hid (fun n hn => ph_parts (s := s) (n := n) hn)
    have hpl : 0 < (splitS s 94).length := by unfold splitS; simp
    have hpm : (splitS s 94).length ≤ 85 := by have := (spW_le s 94 s.size).2; unfold splitS; simp; omega
    generalize hZ : splitS s 94 = ps at *
    have EPS := Lib.hid hZ
    clear hZ
    go_enter Tryd.func35, Tryd.ntmps35
    go_wp2_with fail
    refine (SP.out _).mono ?_
    rintro e w1 ⟨v, rfl, ho, hb⟩
    obtain ⟨A, c, rfl, hc⟩ := ho.form
    have HC := Lib.hid hc
    have zb := hb.size
    simp only [World.size_alloc] at zb
    have hgl : ∀ k, Value.ownBlock (.slice A ps.length c) = some k → w.heap.size + 2 ≤ k := fun k h => by have h9 := (ho.lt k h).1; simp at h9; omega
    have W0 : Hs w w1 w1 (paL ps 0) (pdL ps 0) (.slice none 0 0) (.slice none 0 0) := ⟨(Blk.new' (by simp)).below hb (by simp), ((Blk.new w 38 #[.slice none 0 0, .slice none 0 0]).alloc _).below hb (by simp; omega), OwnI.nil _ _, OwnI.nil _ _, fun k h _ => by simp [Value.ownBlock] at h, Turned.refl _ _⟩
    have B1 : Below w.heap.size w w1 := ((below_alloc _ _).alloc (by simp) _).trans (hb.mono (by simp; omega))
    clear hc ho hb
    go_wp2_with fail
    go_loopw [16] (fun i wr => ∃ (j : Nat) (v1 v2 : Value), j ≤ ps.length ∧ i = .int .i64 j ∧ Hs w w1 wr (paL ps j) (pdL ps j) v1 v2 ∧ Hid (alT ps j)) (fun i _ => ps.length - (intOf i).toNat)
    case atStart => exact ⟨0, _, _, Nat.zero_le _, rfl, W0, Lib.hid (alT_zero _)⟩
    case round =>
      clear W0
      obtain ⟨j, v1, v2, hj, rfl, HW, HAT⟩ := hrel
      have hzr : w1.heap.size ≤ wr.heap.size := HW.tu.size
      by_cases hlt : j < ps.length
      · obtain ⟨g, rfl, hg, hcell⟩ := HC.out j hlt
        have hcell2 : wr.cell? ⟨g, j, none⟩ = some (.string (ps.getD j ⟨#[]⟩)) := by
          have h9 := hgl g rfl
          exact (cell_heap (HW.tu.block g hg (fun hm => by have := List.mem_singleton.1 hm; omega))).trans hcell
        have hxs : (ps.getD j ⟨#[]⟩).size ≤ 84 := by
          rw [List.getD_eq_getElem?_getD, List.getElem?_eq_getElem hlt, Option.getD_some]
          exact Nat.le_trans (HSZ.out _ (List.getElem_mem hlt)) h8
        by_cases hj0 : j = 0
        · subst hj0
          have L0 := Lib.hid (fun u => l1Read_any (ps.getD 0 ⟨#[]⟩) u (by omega))
          have HA := Lib.hid (paL_one (ps := ps) hpl)
          have HD := Lib.hid (pdL_one (ps := ps) hpl)
          have HT := Lib.hid (alT_one (ps := ps) hpl)
          have H1 := HW.first zb (rdI (ps.getD 0 ⟨#[]⟩))
          have e0 : paL ps 0 = paL ps (0 + 1) := by rw [HA.out]; rfl
          rw [e0, ← HD.out] at H1
          obtain ⟨m0, m1⟩ := HW.m.two
          have MB := HW.m.alloc (.cells #[.int .i64 (rdI (ps.getD 0 ⟨#[]⟩))] 3)
          have f1 := MB.frozen 1
          have q1 := MB.two.2
          clear e0 hcell HAT MB
          generalize ps.getD 0 ⟨#[]⟩ = x at *
          generalize rdI x = a at *
          have HX := Lib.hid (show Hs w w1 _ (paL ps (0 + 1)) (pdL ps (0 + 1)) _ _ from H1)
          go_wp2_with fail
          refine (L0.out _).mono ?_
          rintro e w' ⟨rfl, rfl⟩
          go_wp2_with fail
          go_roundw
          case rel => exact ⟨0 + 1, _, _, by omega, by go_num, HX.out, HT⟩
          case measure => simp [intOf]; omega
        · have hj1 : ¬ (j : Int) = 0 := by omega
          have hjb : ((j : Int) == 0) = false := by simpa using hj1
          have SX := Lib.hid (fun u => l1Split_any (ps.getD j ⟨#[]⟩) 58 u (by omega))
          have HA := Lib.hid (paL_succ (ps := ps) (j := j) (by omega) hlt)
          have HD := Lib.hid (pdL_succ (ps := ps) (j := j) (by omega) hlt)
          have HT1 := Lib.hid (fun hx => alT_succ (ps := ps) (j := j) (by omega) hlt HAT.out hx)
          have HT2 := Lib.hid (fun hx => HNT.out j (by omega) hlt hx)
          have lA := paL_len ps j
          have lD := pdL_len ps j
          obtain ⟨A1, c1, rfl, _⟩ := HW.o1.form
          obtain ⟨A2, c2, rfl, _⟩ := HW.o2.form
          clear hcell HAT
          by_cases hx2 : (splitS (ps.getD j ⟨#[]⟩) 58).length = 2
          · obtain ⟨p, q, hpq, _⟩ := two_wordsH hx2
            have sp := word_le _ 58 p (by rw [hpq]; simp)
            have sq := word_le _ 58 q (by rw [hpq]; simp)
            have L1 := Lib.hid (fun u => l1Read_any p u (by omega))
            have L2 := Lib.hid (fun u => l1Read_any q u (by omega))
            have eU : phU (ps.getD j ⟨#[]⟩) = rdI p := by unfold phU; rw [hpq]; rfl
            have eV : phV (ps.getD j ⟨#[]⟩) = rdI q := by unfold phV; rw [hpq]; rfl
            have eT : phT (ps.getD j ⟨#[]⟩) = true := by unfold phT; rw [hx2]; rfl
            rw [eU] at HA
            rw [eV] at HD
            have HT3 := Lib.hid (HT1.out eT)
            have HPQ := Lib.hid hpq
            clear eU eV eT hpq hx2
            generalize ps.getD j ⟨#[]⟩ = x at *
            generalize rdI p = a at *
            generalize rdI q = b at *
            generalize paL ps j = xs at *
            generalize pdL ps j = ys at *
            go_wp2_with fail
            refine (SX.out _).mono ?_
            rintro e w2 ⟨v3, rfl, ho, hb⟩
            rw [HPQ.out] at ho
            obtain ⟨A3, c3, rfl, hc⟩ := ho.form
            obtain ⟨k, hA, hk, d0⟩ := hc 0 (by simp)
            obtain ⟨k', hA', _, d1⟩ := hc 1 (by simp)
            obtain rfl : k = k' := by rw [hA] at hA'; injection hA' with e; injection e
            subst hA
            simp only [List.getD_cons_zero, List.getD_cons_succ] at d0 d1
            have hz2 := hb.size
            have kl : wr.heap.size ≤ k := (ho.lt k rfl).1
            have k1 : ∀ b, Value.ownBlock (.slice A1 xs.length c1) = some b → b < k := fun b h => Nat.lt_of_lt_of_le (HW.o1.lt b h).2 kl
            have k2 : ∀ b, Value.ownBlock (.slice A2 ys.length c2) = some b → b < k := fun b h => Nat.lt_of_lt_of_le (HW.o2.lt b h).2 kl
            have H2 := HW.below hb
            have o1 := H2.o1
            have hs2 := H2.tu.size
            clear hb ho hc hA'
            obtain ⟨m0, m1⟩ := H2.m.two
            have f0 := H2.m.frozen 0
            have f1 := H2.m.frozen 1
            have MA := H2.m.alloc (.cells #[.int .i64 a] 3)
            obtain ⟨ma0, ma1⟩ := MA.two
            have fa0 := MA.frozen 0
            go_wp2_with fail
            go_region_law (first
              | (go_simp; go_at_call_of 46 (Value.string p); refine (L1.out _).mono ?_; rintro e w' ⟨rfl, rfl⟩)
              | (refine step_append_rd _ (by rfl) _ _ (by rfl) w1.heap.size (w2.heap.size + 1) _ xs [a] (by rfl) ((o1.alloc (.cells #[.int .i64 a] 3)).below (Below.refl _ _).drew (Nat.le_refl _)) (some ⟨w2.heap.size, 0, none⟩) 1 (by rfl) (rd_oneH (by simp)) (by simp; omega) (by show w1.heap.size ≤ (w2.alloc _).heap.size; simp; omega) ?_; intro v9 w9 hown9 hb9 hgr9 hob9; obtain ⟨A9, e9, rfl⟩ := form1 hown9; have T9 := turned_undrewH (Turned.of_grown hgr9 (fun k hk => mem_rowL.2 hk)); have z9 : w2.heap.size + 1 ≤ w9.heap.size := (by have := T9.size; simp at this; omega); have f9 := (H2.push1 zb hown9 (below_undrew hb9) T9 (by simpa using hob9)).m.frozen 0; have M9 : Blk w9 (w.heap.size + 1) 38 #[.slice A1 xs.length c1, .slice A2 ys.length c2] := (H2.m.alloc (.cells #[.int .i64 a] 3)).turned T9 (fun hm => by have := (H2.o1.lt _ (mem_rowL.1 hm)).1; omega); have f8 := M9.frozen 0; have c9 := M9.two.1; have H9 := H2.push1 zb hown9 (below_undrew hb9) T9 (by simpa using hob9); have D9 := (word_kept (f := 0) (j := 1) (u := .slice A9 (xs.length + 1) e9) T9 hk k1 (show w.heap.size + 1 < k by omega)).trans d1))
            all_goals
              clear f0 f1 m0 m1 o1 ma0 ma1 fa0 MA c9 f9 f8 M9 hown9 hb9 hgr9 hob9 T9 d0 d1
              have z10 : w2.heap.size + 1 ≤ (w9.setCell ⟨w.heap.size + 1, 0, none⟩ (.slice A9 (xs.length + 1) e9)).heap.size := by simp; omega
              clear z9
              generalize w9.setCell ⟨w.heap.size + 1, 0, none⟩ (.slice A9 (xs.length + 1) e9) = w10 at *
              have o2 := H9.o2
              have hs10 := H9.tu.size
              obtain ⟨m0, m1⟩ := H9.m.two
              have f0 := H9.m.frozen 0
              have f1 := H9.m.frozen 1
              have MA := H9.m.alloc (.cells #[.int .i64 b] 3)
              obtain ⟨ma0, ma1⟩ := MA.two
              have fa1 := MA.frozen 1
              go_wp2_with fail
              go_region_law (first
                | (go_simp; go_at_call_of 46 (Value.string q); refine (L2.out _).mono ?_; rintro e w' ⟨rfl, rfl⟩)
                | (refine step_append_rd _ (by rfl) _ _ (by rfl) w1.heap.size (w10.heap.size + 1) _ ys [b] (by rfl) ((o2.alloc (.cells #[.int .i64 b] 3)).below (Below.refl _ _).drew (Nat.le_refl _)) (some ⟨w10.heap.size, 0, none⟩) 1 (by rfl) (rd_oneH (by simp)) (by simp; omega) (by show w1.heap.size ≤ (w10.alloc _).heap.size; simp; omega) ?_; intro v12 w12 hown12 hb12 hgr12 hob12; obtain ⟨A12, e12, rfl⟩ := form1 hown12; have T12 := turned_undrewH (Turned.of_grown hgr12 (fun k hk => mem_rowL.2 hk)); have M12 : Blk w12 (w.heap.size + 1) 38 #[.slice A9 (xs.length + 1) e9, .slice A2 ys.length c2] := (H9.m.alloc (.cells #[.int .i64 b] 3)).turned T12 (fun hm => by have := (H9.o2.lt _ (mem_rowL.1 hm)).1; omega); have f12 := M12.frozen 1; have c12 := M12.two.2; have H12 := H9.push2 zb hown12 (below_undrew hb12) T12 (by simpa using hob12)))
              all_goals
                have HX := Lib.hid H12
                clear f0 f1 m0 m1 o2 ma0 ma1 fa1 MA c12 f12 M12 hown12 hb12 hgr12 hob12 T12 H12
                go_wp2_with fail
                go_roundw
                case rel => exact ⟨j + 1, _, _, by omega, by go_num, by rw [HA.out, HD.out]; exact HX.out, HT3⟩
                case measure => simp [intOf]; omega
          · have eT : phT (ps.getD j ⟨#[]⟩) = false := by unfold phT; exact decide_eq_false hx2
            have B0 := Lib.hid (HT2.out eT)
            have h2' : ¬ ((splitS (ps.getD j ⟨#[]⟩) 58).length : Int) = 2 := by omega
            have h2b : (((splitS (ps.getD j ⟨#[]⟩) 58).length : Int) == 2) = false := by simpa using h2'
            clear eT hx2
            generalize ps.getD j ⟨#[]⟩ = x at *
            generalize paL ps j = xs at *
            generalize pdL ps j = ys at *
            go_wp2_with fail
            refine (SX.out _).mono ?_
            rintro e w2 ⟨v3, rfl, ho, hb⟩
            obtain ⟨A3, c3, rfl, _⟩ := ho.form
            have H2 := HW.below hb
            obtain ⟨m0, m1⟩ := H2.m.two
            have r0 := H2.r.frozen 0
            have r1 := H2.r.frozen 1
            obtain ⟨p0, p1⟩ := H2.r.two
            have B2 : Below w.heap.size w w2 := B1.trans (H2.tu.below (by omega) (fun k hk => by have := List.mem_singleton.1 hk; omega))
            generalize (splitS x 58).length = m at *
            go_wp2_with fail
            have X2 : Blk ((w2.setCell ⟨w.heap.size, 0, none⟩ (.slice A1 xs.length c1)).setCell ⟨w.heap.size, 1, none⟩ (.slice A2 ys.length c2)) w.heap.size 38 #[.slice A1 xs.length c1, .slice A2 ys.length c2] := (H2.r.set_ 0 _).set_ 1 _
            obtain ⟨y0, y1⟩ := X2.two
            refine bodyPost_ret (v := .tuple #[.agg #[.slice A1 xs.length c1, .slice A2 ys.length c2], .bool false]) ?hr rfl ⟨A1, A2, _, _, c1, c2, by rw [B0.out], ?_, fun h => by rw [B0.out] at h; cases h⟩
            (case hr => simp [results, Tryd.results35, go_sem, y0, y1])
            exact (B2.setCell (Nat.le_refl _) _).setCell (Nat.le_refl _) _
      · obtain rfl : j = ps.length := by omega
        have eA := (HPA.out _ rfl).1
        have eD := (HPA.out _ rfl).2 hpl
        have hall : ps.tail.all phT = true := List.all_eq_true.2 (fun x hx => HAT.out x (by rw [List.take_length]; exact hx))
        have HB := Lib.hid (show phB s = (goodH (paL ps ps.length) (pdL ps ps.length) && decide (hoS (paL ps ps.length) (pdL ps ps.length) = s)) by
          unfold phB
          rw [EPS.out, decide_eq_true h8, hall, eA, eD, Bool.true_and, Bool.true_and])
        have EA := Lib.hid eA
        have ED := Lib.hid eD
        have lA := paL_len ps ps.length
        have lD := pdL_len ps ps.length
        have B2 : Below w.heap.size w wr := B1.trans (HW.tu.below (by omega) (fun k hk => by have := List.mem_singleton.1 hk; omega))
        clear eA eD hall HAT
        generalize paL ps ps.length = xs at *
        generalize pdL ps ps.length = ys at *
        obtain ⟨A1, c1, rfl, r1⟩ := HW.o1.form
        obtain ⟨A2, c2, rfl, r2⟩ := HW.o2.form
        have HO : Ho wr wr.heap.size A1 A2 c1 c2 xs ys := ⟨r1, r2, by omega, by omega⟩
        have GD := Lib.hid (fun u (hu : Below wr.heap.size wr u) => ldGood_any A1 A2 c1 c2 xs ys wr.heap.size u (HO.below hu (Nat.le_refl _)) hu.size)
        obtain ⟨m0, m1⟩ := HW.m.two
        cases g : goodH xs ys
        · have B0 := Lib.hid (show phB s = false by rw [HB.out, g]; rfl)
          have G0 := Lib.hid g
          clear g r1 r2
          go_wp2_with fail
          first | (go_region_law (first | (go_simp; go_at_call 30; (refine (GD.out wr.drew (Below.refl _ _).drew).mono ?_); rintro e w5 ⟨rfl, hb5'⟩; rw [G0.out]; have hb5 : Below wr.heap.size wr w5 := below_undrew hb5'; have H5 := HW.below hb5; obtain ⟨n0, n1⟩ := H5.m.two; have B5 := B2.trans (hb5.mono (by have := HW.tu.size; omega)); have s0 := H5.r.frozen 0; have s1 := H5.r.frozen 1; obtain ⟨p0, p1⟩ := H5.r.two) | fail)) | fail
          all_goals
            go_wp2_with fail
            have X2 : Blk ((w5.setCell ⟨w.heap.size, 0, none⟩ (.slice A1 xs.length c1)).setCell ⟨w.heap.size, 1, none⟩ (.slice A2 ys.length c2)) w.heap.size 38 #[.slice A1 xs.length c1, .slice A2 ys.length c2] := (H5.r.set_ 0 _).set_ 1 _
            obtain ⟨y0, y1⟩ := X2.two
            refine bodyPost_ret (v := .tuple #[.agg #[.slice A1 xs.length c1, .slice A2 ys.length c2], .bool false]) ?hr rfl ⟨A1, A2, _, _, c1, c2, by rw [B0.out], ?_, fun h => by rw [B0.out] at h; cases h⟩
            (case hr => simp [results, Tryd.results35, go_sem, y0, y1])
            exact (B5.setCell (Nat.le_refl _) _).setCell (Nat.le_refl _) _
        · have HG := good_at g
          have TX := Lib.hid (fun u (hu : Below wr.heap.size wr u) => ldText_any A1 A2 c1 c2 xs ys wr.heap.size u (HO.below hu (Nat.le_refl _)) hu.size HG)
          have G0 := Lib.hid g
          by_cases hT : hoS xs ys = s
          · have B0 := Lib.hid (show phB s = true by rw [HB.out, G0.out, hT]; simp)
            rw [hT] at TX
            clear g r1 r2 hT HG
            go_wp2_with fail
            first | (go_region_law (first | (go_simp; go_at_call 30; (refine (GD.out wr.drew (Below.refl _ _).drew).mono ?_); rintro e w5 ⟨rfl, hb5'⟩; rw [G0.out]; have hb5 : Below wr.heap.size wr w5 := below_undrew hb5'; have H5 := HW.below hb5; obtain ⟨n0, n1⟩ := H5.m.two; have B5 := B2.trans (hb5.mono (by have := HW.tu.size; omega)); have s0 := H5.r.frozen 0; have s1 := H5.r.frozen 1; obtain ⟨p0, p1⟩ := H5.r.two) | (go_simp; go_at_call 31; (refine (TX.out w5 hb5).mono ?_); rintro e w6 ⟨rfl, hb6⟩; have H6 := H5.below hb6; obtain ⟨k0, k1⟩ := H6.m.two; have B6 := B5.trans (hb6.mono (by have := H5.tu.size; omega)); have t0 := H6.r.frozen 0; have t1 := H6.r.frozen 1; obtain ⟨z0, z1⟩ := H6.r.two) | fail)) | fail
            all_goals
              go_wp2_with fail
              have X2 : Blk ((w6.setCell ⟨w.heap.size, 0, none⟩ (.slice A1 xs.length c1)).setCell ⟨w.heap.size, 1, none⟩ (.slice A2 ys.length c2)) w.heap.size 38 #[.slice A1 xs.length c1, .slice A2 ys.length c2] := (H6.r.set_ 0 _).set_ 1 _
              obtain ⟨y0, y1⟩ := X2.two
              have q1 := ((H6.o1.turned (turned_setH w6 w.heap.size 0 (.slice A1 xs.length c1)) (fun k hk hm => by have := (H6.o1.lt k hk).1; have := List.mem_singleton.1 hm; omega)).turned (turned_setH _ w.heap.size 1 (.slice A2 ys.length c2)) (fun k hk hm => by have := (H6.o1.lt k hk).1; have := List.mem_singleton.1 hm; omega)).mono (B' := w.heap.size) (by omega)
              have q2 := ((H6.o2.turned (turned_setH w6 w.heap.size 0 (.slice A1 xs.length c1)) (fun k hk hm => by have := (H6.o2.lt k hk).1; have := List.mem_singleton.1 hm; omega)).turned (turned_setH _ w.heap.size 1 (.slice A2 ys.length c2)) (fun k hk hm => by have := (H6.o2.lt k hk).1; have := List.mem_singleton.1 hm; omega)).mono (B' := w.heap.size) (by omega)
              refine bodyPost_ret (v := .tuple #[.agg #[.slice A1 xs.length c1, .slice A2 ys.length c2], .bool true]) ?hr rfl ⟨A1, A2, _, _, c1, c2, by rw [B0.out], ?_, fun _ => ⟨by rw [EA.out], by rw [ED.out], by rw [EA.out]; exact q1, by rw [ED.out]; exact q2⟩⟩
              (case hr => simp [results, Tryd.results35, go_sem, y0, y1])
              exact (B6.setCell (Nat.le_refl _) _).setCell (Nat.le_refl _) _
          · have B0 := Lib.hid (show phB s = false by rw [HB.out, G0.out]; simp [hT])
            have e1 := text_ne hT
            clear g r1 r2 hT HG
            generalize hoS xs ys = tx at *
            go_wp2_with fail
            first | (go_region_law (first | (go_simp; go_at_call 30; (refine (GD.out wr.drew (Below.refl _ _).drew).mono ?_); rintro e w5 ⟨rfl, hb5'⟩; rw [G0.out]; have hb5 : Below wr.heap.size wr w5 := below_undrew hb5'; have H5 := HW.below hb5; obtain ⟨n0, n1⟩ := H5.m.two; have B5 := B2.trans (hb5.mono (by have := HW.tu.size; omega)); have s0 := H5.r.frozen 0; have s1 := H5.r.frozen 1; obtain ⟨p0, p1⟩ := H5.r.two) | (go_simp; go_at_call 31; (refine (TX.out w5 hb5).mono ?_); rintro e w6 ⟨rfl, hb6⟩; have H6 := H5.below hb6; obtain ⟨k0, k1⟩ := H6.m.two; have B6 := B5.trans (hb6.mono (by have := H5.tu.size; omega)); have t0 := H6.r.frozen 0; have t1 := H6.r.frozen 1; obtain ⟨z0, z1⟩ := H6.r.two) | fail)) | fail
            all_goals
              go_wp2_with fail
              have X2 : Blk ((w6.setCell ⟨w.heap.size, 0, none⟩ (.slice A1 xs.length c1)).setCell ⟨w.heap.size, 1, none⟩ (.slice A2 ys.length c2)) w.heap.size 38 #[.slice A1 xs.length c1, .slice A2 ys.length c2] := (H6.r.set_ 0 _).set_ 1 _
              obtain ⟨y0, y1⟩ := X2.two
              refine bodyPost_ret (v := .tuple #[.agg #[.slice A1 xs.length c1, .slice A2 ys.length c2], .bool false]) ?hr rfl ⟨A1, A2, _, _, c1, c2, by rw [B0.out], ?_, fun h => by rw [B0.out] at h; cases h⟩
              (case hr => simp [results, Tryd.results35, go_sem, y0, y1])
              exact (B6.setCell (Nat.le_refl _) _).setCell (Nat.le_refl _) _
  · have h8' : (84 : Int) < (s.size : Int) := by omega
    have B0 := Lib.hid (show phB s = false by simp [phB, h8])
    have B1 : Below w.heap.size w ((w.alloc (.cells #[.slice none 0 0, .slice none 0 0] 38)).alloc (.cells #[.slice none 0 0, .slice none 0 0] 38)) := (below_alloc _ _).alloc (by simp) _
    go_enter Tryd.func35, Tryd.ntmps35
    go_wp2_with fail
    refine bodyPost_ret (v := .tuple #[.agg #[.slice none 0 0, .slice none 0 0], .bool false]) ?hr rfl ⟨none, none, 0, 0, 0, 0, by rw [B0.out], ?_, fun h => by rw [B0.out] at h; cases h⟩
    (case hr => simp [results, Tryd.results35, go_sem])
    first | exact B1 | exact (B1.setCell (p := ⟨w.heap.size, 0, none⟩) (Nat.le_refl _) _).setCell (p := ⟨w.heap.size, 1, none⟩) (Nat.le_refl _) _

end Go.Proofs.YtenhlppijpmdgaaDoor
