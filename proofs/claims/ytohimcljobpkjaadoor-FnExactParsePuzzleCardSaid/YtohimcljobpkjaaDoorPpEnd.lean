/- FnExactParsePuzzle returns true for every input and leaves its arguments as they were. No conditions. -/
import Derived.Test.YtohimcljobpkjaaDoorPpM
import Derived.Test.YtohimcljobpkjaaDoorPpA
import Derived.Test.YtohimcljobpkjaaDoorOTxNin
import Derived.Test.YtohimcljobpkjaaDoorPzM
import Derived.Test.YtohimcljobpkjaaDoorMarkS
import Derived.Deep.RegionHeld3
import Derived.Test.YtohimcljobpkjaaDoorRow
import Derived.Test.YtohimcljobpkjaaDoorPzC
import Derived.DataReads
import Derived.Test.YtohimcljobpkjaaDoorRows
import Derived.ProofKit
import Derived.LaidMore
import Derived.OpenShut
import Derived.Stop.Joined
import Derived.Stop.LaidErr
import Derived.MakeChecks
import Derived.Lay
import Derived.Test.YtohimcljobpkjaaDoorCards
import Derived.Test.YtohimcljobpkjaaDoorTie
import Derived.SevenTiedAt
namespace Go.Proofs.YtohimcljobpkjaaDoor
set_option maxRecDepth 100000
open Go.RowKit

theorem mR_eq {s : ByteArray} (h : ppB s = true) : mR s = ppL s := by
  have hm := mB_of h
  unfold ppL mR
  rw [if_pos h]
  split
  · rename_i h0
    exact (ppC_empty h0).symm
  · rename_i h0
    exact (mB_yes hm).2 h0

set_option maxHeartbeats 2000000 in
theorem specParPuz_any (s : ByteArray) (w : World) (hn : s.size ≤ 1048576) :
    Calls Tryd.prog 10 #[.string s] w (NewP w (ppL s) (ppB s)) := by
  have R0 : Blk (w.alloc (.cells #[.slice none 0 0] 30)) w.heap.size 30 #[.slice none 0 0] := Blk.new _ _ _
  have b0 : Below w.heap.size w (w.alloc (.cells #[.slice none 0 0] 30)) := below_alloc _ _
  have z0 : w.heap.size + 1 ≤ (w.alloc (.cells #[.slice none 0 0] 30)).heap.size := by simp
  have PP := Lib.hid (fun u => pzParse_any s u hn)
  have HE := mB_eq s
  go_enter Tryd.func10, Tryd.ntmps10
  go_wp2_with fail
  generalize (w.alloc (.cells #[.slice none 0 0] 30)) = u at *
  refine (PP.out u).mono ?_
  rintro e w1 ⟨A, n, c, rfl, ho, hb⟩
  rw [HE] at ho ⊢
  have R1 := R0.below hb R0.lt
  have q0 := R1.cell 0
  have f0 := R1.frozen 0
  have lR := R1.lt
  have b1 := b0.trans (hb.mono b0.size)
  have z1 := Nat.le_trans z0 hb.size
  cases hB : ppB s
  · have HB := Lib.hid hB
    have HL := Lib.hid (show ppL s = [] by unfold ppL; rw [hB]; rfl)
    clear ho HE hB
    go_wp2_with fail
    have r9 := ((R1.set_ 0 (.slice none 0 0)).alloc (.cells #[.slice A n c] 30)).cell 0
    refine bodyPost_ret (v := .tuple #[.agg #[.slice none 0 0], .bool false]) (by simp [results, Tryd.results10, go_sem, r9]) rfl ?_
    exact ⟨_, by first | rfl | rw [HB.out], by rw [HL.out]; exact OwnF.nil _ _, (b1.setCell (p := ⟨w.heap.size, 0, none⟩) (Nat.le_refl _) (.slice none 0 0)).alloc (b1.setCell (p := ⟨w.heap.size, 0, none⟩) (Nat.le_refl _) (.slice none 0 0)).size _⟩
  · obtain ⟨hn', hq⟩ := ho hB
    rw [mR_eq hB] at hn' hq
    subst hn'
    clear ho
    have HB := Lib.hid hB
    clear HE hB
    generalize ppL s = qs at *
    have lt1 := fun i h => (OwnF.lt hq i h).1
    have r9 := ((R1.set_ 0 (.slice A qs.length c)).alloc (.cells #[.slice A qs.length c] 30)).cell 0
    have b2 := b1.setCell (p := ⟨w.heap.size, 0, none⟩) (Nat.le_refl _) (.slice A qs.length c)
    have o1 : OwnF (w1.setCell ⟨w.heap.size, 0, none⟩ (.slice A qs.length c)) u.heap.size (.slice A qs.length c) qs := OwnF.turned hq (L := [w.heap.size]) ⟨(below_setF w1 (v := (.slice A qs.length c))).os, (below_setF w1 (v := (.slice A qs.length c))).tape, (below_setF w1 (v := (.slice A qs.length c))).output, (below_setF w1 (v := (.slice A qs.length c))).size, fun i _ hi => Below.heap_setCell w1 ⟨w.heap.size, 0, none⟩ (.slice A qs.length c) i (by simpa using hi)⟩ (fun i hi h2 => by have := lt1 i hi; simp at h2; omega)
    go_wp2_with fail
    refine bodyPost_ret (v := .tuple #[.agg #[.slice A qs.length c], .bool true]) (by simp [results, Tryd.results10, go_sem, r9]) rfl ?_
    exact ⟨_, by first | rfl | rw [HB.out], (OwnF.mono o1 (by omega)).alloc _, b2.alloc b2.size _⟩

end Go.Proofs.YtohimcljobpkjaaDoor

namespace Go.Proofs.YtohimcljobpkjaaDoor
set_option maxRecDepth 100000
open Go.RowKit Go.Shelf

/-- append of clues, and where the row lies then -/
theorem run_append_rdO (w : World) (ty : TypeId) (B0 : Nat) (v : Value) (xs : List Tri) (x : Tri) (hown : OwnF w B0 v xs) (ad : Addr) (c B : Nat) (hr : RdF w B (some ad) c [x]) (hn : xs.length + 1 ≤ 4194304) (hB : B0 ≤ w.heap.size) :
    ∃ v' w', (Builtin.append_ #[28, 28] ty #[v, .slice (some ad) 1 c]).run Tryd.prog w = .ok v' w' ∧ OwnF w' B0 v' (xs ++ [x]) ∧ w.grownBy w' v.ownBlock ∧ (v'.ownBlock = v.ownBlock ∨ v'.ownBlock = some w.heap.size) := by
  obtain ⟨i0, hi, hz, hsz, hby⟩ := info_parts fl_info
  have hnews : ∀ j u, (cellsF [x])[j]? = some u → w.cell? (ad.add j) = some u := by
    intro j u hu
    have hj : j < [x].length * 3 := by
      have := (List.getElem?_eq_some_iff.1 hu).1
      rwa [cellsF_len] at this
    simp only [List.length_cons, List.length_nil, Nat.zero_add, Nat.one_mul] at hj
    obtain ⟨b, o, e, _, h0, h1, h2⟩ := hr.2 0 (by simp)
    obtain ⟨c0, c1, c2⟩ := cellsF_at [x] 0 (by simp)
    injection e with e
    subst e
    rw [Addr.add_lit]
    have hm : j = 0 ∨ j = 1 ∨ j = 2 := by omega
    rcases hm with rfl | rfl | rfl
    · rw [show (0 : Nat) = 0 * 3 by omega] at hu ⊢
      rw [c0] at hu
      rw [h0]; exact hu
    · rw [show (1 : Nat) = 0 * 3 + 1 by omega] at hu ⊢
      rw [c1] at hu
      rw [← Nat.add_assoc, h1]; exact hu
    · rw [show (2 : Nat) = 0 * 3 + 2 by omega] at hu ⊢
      rw [c2] at hu
      rw [← Nat.add_assoc, h2]; exact hu
  have hone : ∀ u ∈ cellsF [x], u.oneCell' = true := by
    intro u hu
    simp only [cellsF, List.mem_cons, List.not_mem_nil, or_false] at hu
    rcases hu with rfl | rfl | rfl
    · rfl
    · rfl
    · rfl
  obtain ⟨v', w', hrun, h1, h2, _, h4⟩ := run_append_own_at (P := Tryd.prog) w B0 28 ty 44 i0 (.agg #[.int .i64 0, .int .i64 0, .int .i64 0]) 3 24 Tryd.underlying28 hi hz hsz hby rfl (by decide) v xs.length _ hown ad 1 c (cellsF [x]) (cellsF_len [x]) hnews hone (by simp only [maxLen]; omega) (by omega) hB
  refine ⟨v', w', hrun, ?_, h2, h4⟩
  unfold OwnF
  rw [cellsF_app, List.length_append]
  exact h1

/-- the puzzle under way: its box b, behind it the iterator's three, its row elsewhere -/
structure Pq (b : Nat) (W : World) (qs : List Tri) (v : Value) : Prop where
  m : Blk W b 30 #[v]
  o : OwnF W b v qs
  f : ∀ k, v.ownBlock = some k → b + 4 ≤ k
  hz : b + 4 ≤ W.heap.size
theorem Pq.below {b : Nat} {W W' : World} {qs : List Tri} {v : Value} (H : Pq b W qs v) (hb : Below W.heap.size W W') : Pq b W' qs v :=
  ⟨H.m.below hb H.m.lt, H.o.below hb (Nat.le_refl _), H.f, by have := H.hz; have := hb.size; omega⟩
theorem Pq.n {b : Nat} {W : World} {qs : List Tri} {v : Value} (H : Pq b W qs v) : ∀ j, j < b + 4 → j ∉ rowL v := fun j hj hm => by have := H.f _ (mem_rowL.1 hm); omega
theorem turned_setP (w : World) (g i : Nat) (u : Value) : Turned w (w.setCell ⟨g, i, none⟩ u) [g] :=
  ⟨((Below.refl g w).setCell (p := ⟨g, i, none⟩) (Nat.le_refl g) u).os, ((Below.refl g w).setCell (p := ⟨g, i, none⟩) (Nat.le_refl g) u).tape, ((Below.refl g w).setCell (p := ⟨g, i, none⟩) (Nat.le_refl g) u).output, ((Below.refl g w).setCell (p := ⟨g, i, none⟩) (Nat.le_refl g) u).size, fun k _ hk => Below.heap_setCell w ⟨g, i, none⟩ u k (by simpa using hk)⟩
theorem Pq.push {b : Nat} {W w9 : World} {qs : List Tri} {v v9 : Value} {x : Tri} {C : Obj} (H : Pq b W qs v) (ho : OwnF w9 b v9 (qs ++ [x]))
    (T : Turned (W.alloc C) w9 (rowL v)) (hob : v9.ownBlock = v.ownBlock ∨ v9.ownBlock = some (W.heap.size + 1)) : Pq b (w9.setCell ⟨b, 0, none⟩ v9) (qs ++ [x]) v9 := by
  have hz := H.hz
  have hf : ∀ k, v9.ownBlock = some k → b + 4 ≤ k := fun k h1 => by
    rcases hob with e | e
    · rw [e] at h1; exact H.f k h1
    · rw [e] at h1; injection h1 with h1; omega
  exact ⟨((H.m.alloc _).turned T (H.n b (by omega))).set_ 0 v9, ho.turned (turned_setP _ _ _ _) (fun k hk hm => by have := hf k hk; have := List.mem_singleton.1 hm; omega), hf, by have := T.size; simp at this ⊢; omega⟩
theorem mindsB_blkP {β : Type} {B c : Nat} (b : Nat) (t : TypeId) (f : β → Array Value) (hbc : b ≠ c) : MindsB B c (fun s W => Blk W b t (f s)) := fun s X Y row hs hg hrow => by
  have hs' : X.heap[b]? = some (.cells (f s) t (0, 0)) := hs
  refine (hg.block b (Array.getElem?_eq_some_iff.1 hs').1 ?_).trans hs'
  intro e
  rcases hrow b e.symm with h | ⟨_, o, ho, hc⟩
  · exact hbc h
  · rw [hs'] at ho; cases ho; cases hc
theorem keptF {W W' : World} {B : Nat} {v : Value} {xs : List Tri} {row : Option Nat} (h : OwnF W B v xs) (hg : W.grownBy W' row) (hr : ∀ r, row = some r → v.ownBlock ≠ some r ∨ ∃ o : Obj, W.heap[r]? = some o ∧ o.isCells = false) : OwnF W' B v xs := by
  refine World.ownsRow.kept h hg ?_
  rcases h.2 with ⟨rfl, _⟩ | ⟨g, cap, cur, rfl, hB, hgb, _⟩
  · exact .inl rfl
  · refine .inr fun e' => ?_
    rcases hr g (by simpa [Value.ownBlock] using e'.symm) with h | ⟨o, ho, hc⟩
    · exact h rfl
    · rw [hgb] at ho; cases ho; cases hc
/-- the puzzle so far, for an invariant -/
def HoldsP (b : Nat) (qs : List Tri) (W : World) : Prop := ∃ v, Pq b W qs v
theorem holdsP_minds {β : Type} {B b : Nat} (f : β → List Tri) : MindsB B (b + 1) (fun s W => HoldsP b (f s) W) := by
  rintro s X Y row ⟨v, H⟩ hg hrow
  refine ⟨v, mindsB_blkP b _ (fun _ : Unit => #[v]) (by omega) () X Y row H.m hg hrow, keptF H.o hg (fun r e => ?_), H.f, Nat.le_trans H.hz hg.size⟩
  rcases hrow r e with h | ⟨_, h⟩
  · left; intro e2; have := H.f r e2; omega
  · exact .inr h
theorem keepsO_turnedF {W W' : World} {B : Nat} {v : Value} {xs : List Tri} (T : Turned W W' (rowL v)) (ho : OwnF W B v xs) : KeepsOthers W W' :=
  ⟨T.size, fun k o hk hc => by
    refine (T.block k (Array.getElem?_eq_some_iff.1 hk).1 ?_).trans hk
    intro hm
    rcases ho.2 with ⟨rfl, _⟩ | ⟨g, cap, cur, rfl, _, hg, _⟩
    · simp [rowL, Value.ownBlock] at hm
    · have e : g = k := by simpa [Value.ownBlock] using mem_rowL.1 hm
      subst e
      rw [hg] at hk; cases hk; cases hc⟩
/-- the round's store: what lies as it lay -/
structure Rq (b : Nat) (W W' : World) : Prop where
  ko : KeepsOthers W W'
  ly : Lay [b + 1 + 1, b + 1, b + 1 + 1 + 1] W W'
  be : ∀ B, B ≤ b → Below B W W'
theorem rq_push {b : Nat} {W w9 : World} {qs : List Tri} {v v9 : Value} {C : Obj} (H : Pq b W qs v) (T : Turned (W.alloc C) w9 (rowL v)) : Rq b W (w9.setCell ⟨b, 0, none⟩ v9) := by
  have hz := H.hz
  have hp : ∀ k, k < b + 4 → k ≠ b → (w9.setCell ⟨b, 0, none⟩ v9).heap[k]? = W.heap[k]? := fun k h1 h2 =>
    (Below.heap_setCell _ _ _ k h2).trans ((T.block k (by simp; omega) (H.n k h1)).trans (Below.heap_alloc W _ k (by omega)))
  refine ⟨((KeepsOthers.alloc W _).trans (keepsO_turnedF T (H.o.alloc _))).trans (KeepsOthers.setCell _ _ _), fun k hk => ?_, fun B hB => ?_⟩
  · simp only [List.mem_cons, List.not_mem_nil, or_false] at hk
    rcases hk with rfl | rfl | rfl
    · exact hp _ (by omega) (by omega)
    · exact hp _ (by omega) (by omega)
    · exact hp _ (by omega) (by omega)
  · exact (((below_alloc W _).mono (by omega)).trans (T.below (by simp; omega) (fun k hk => by have := (H.o.lt k (mem_rowL.1 hk)).1; omega))).setCell hB _

/-- the clues of the words that have come -/
def gW (ws : List Wd) : List Tri := gL (ws.map Subtype.val)
theorem gW_yes (ws : List Wd) {x : Wd} (h : gT x.1 = true) : gW (ws ++ [x]) = gW ws ++ [gC x.1] := by
  unfold gW
  rw [List.map_append, List.map_singleton, gL_snoc_yes _ h]
theorem gW_no (ws : List Wd) {x : Wd} (h : gT x.1 = false) : gW (ws ++ [x]) = gW ws := by
  unfold gW
  rw [List.map_append, List.map_singleton, gL_snoc_no _ h]
theorem gW_length (ws : List Wd) : (gW ws).length ≤ ws.length := by
  have := gL_length (ws.map Subtype.val)
  rw [List.length_map] at this
  exact this
theorem gT_size {x : ByteArray} (h : gT x = true) : 1 ≤ x.size := by
  have h1 := of_decide_eq_true h
  have h2 := ninR_length x 46
  omega
theorem gL_cat : ∀ (ws : List ByteArray) (l : ByteArray), (gL (ws ++ [l])).length ≤ (catL 44 (ws.map (·.data.toList)) l.data.toList).length
  | [], l => by
    have : l.data.toList.length = l.size := by simp
    by_cases h : gT l = true
    · have := gT_size h
      simp [gL, h, catL]; omega
    · simp [gL, h]
  | w :: r, l => by
    have ih := gL_cat r l
    have e : gL (w :: r ++ [l]) = (if gT w = true then [gC w] else []) ++ gL (r ++ [l]) := by
      unfold gL
      rw [List.cons_append, List.filter_cons]
      split <;> simp
    rw [e, List.length_append, List.map_cons]
    simp only [catL, List.length_append, List.length_cons]
    have : (if gT w = true then [gC w] else []).length ≤ 1 := by split <;> simp
    omega
theorem ppC_len (s : ByteArray) : (ppC s).length ≤ s.size := by
  obtain ⟨ws, l, e, h⟩ := split_cat s 44
  have := gL_cat ws l
  rw [h] at this
  unfold ppC
  rw [e]
  simpa using this
theorem pp_no {s : ByteArray} (h : puzB (ppC s) = false) : ppB s = false ∧ ppL s = [] := by
  have : ppB s = false := by simp [ppB, h]
  exact ⟨this, by simp [ppL, this]⟩
theorem pp_other {s : ByteArray} (h : ¬ pzS (ppC s) (ppC s).length = s) : ppB s = false ∧ ppL s = [] := by
  have : ppB s = false := by simp [ppB, h]
  exact ⟨this, by simp [ppL, this]⟩
theorem pp_yes {s : ByteArray} (h : puzB (ppC s) = true) (h2 : pzS (ppC s) (ppC s).length = s) : ppB s = true ∧ ppL s = ppC s := by
  have : ppB s = true := by simp [ppB, h, h2]
  exact ⟨this, by simp [ppL, this]⟩

end Go.Proofs.YtohimcljobpkjaaDoor

namespace Go.Proofs.YtohimcljobpkjaaDoor
set_option maxRecDepth 100000
open Go.RowKit Go.Shelf

attribute [local go_sem] Oper.semAt_some
attribute [-go_sem] Builtin.append_

set_option maxHeartbeats 4000000 in
theorem implParPuz_any (s : ByteArray) (w : World) (hn : s.size ≤ 1048576) (ht : TabI w) (hE : ErrI w) :
    Calls Tryd.prog 11 #[.string s] w (NewP w (ppL s) (ppB s)) := by
  have PN := Lib.hid (fun h => pp_no (s := s) h)
  have PO := Lib.hid (fun h => pp_other (s := s) h)
  have PY := Lib.hid (fun h h2 => pp_yes (s := s) h h2)
  have hpl := ppC_len s
  refine (callsIn_wide (n := 3)).1 ?_
  refine callsIn_of_wp_marks Tryd.func11 rfl trivial ?_ rfl
  simp only [Tryd.ntmps11, List.size_toArray, List.length_cons, List.length_nil, Nat.reduceAdd, Nat.reduceSub, Array.replicate_succ, Array.replicate_zero, List.push_toArray, List.append_toArray, List.nil_append, List.cons_append]
  gi_wp2_with fail
  refine ⟨trivial, (SplitSeq_in _ (by omega) s 44 _).mono ?_⟩
  rintro e w3 ⟨rfl, rfl⟩
  gi_wp2_with fail
  have xs := ((Boxed.new ((w.alloc (.cells #[.slice none 0 0] 30)).alloc (.cells #[.slice none 0 0] 30)) 9 (.string s)).alloc (.cells #[.string ⟨#[44]⟩] 9)).alloc (.cells #[.int .i64 0] 3)
  have xp := (Boxed.new (((w.alloc (.cells #[.slice none 0 0] 30)).alloc (.cells #[.slice none 0 0] 30)).alloc (.cells #[.string s] 9)) 9 (.string ⟨#[44]⟩)).alloc (.cells #[.int .i64 0] 3)
  have xv := Boxed.new ((((w.alloc (.cells #[.slice none 0 0] 30)).alloc (.cells #[.slice none 0 0] 30)).alloc (.cells #[.string s] 9)).alloc (.cells #[.string ⟨#[44]⟩] 9)) 3 (.int .i64 0)
  have X0 : Blk (((((w.alloc (.cells #[.slice none 0 0] 30)).alloc (.cells #[.slice none 0 0] 30)).alloc (.cells #[.string s] 9)).alloc (.cells #[.string ⟨#[44]⟩] 9)).alloc (.cells #[.int .i64 0] 3)) w.heap.size 30 #[.slice none 0 0] := ((((Blk.new w 30 #[.slice none 0 0]).alloc _).alloc _).alloc _).alloc _
  have HP : Pq (w.heap.size + 1) (((((w.alloc (.cells #[.slice none 0 0] 30)).alloc (.cells #[.slice none 0 0] 30)).alloc (.cells #[.string s] 9)).alloc (.cells #[.string ⟨#[44]⟩] 9)).alloc (.cells #[.int .i64 0] 3)) [] (.slice none 0 0) := ⟨(((Blk.new' (by simp)).alloc _).alloc _).alloc _, OwnF.nil _ _, fun k h => by simp [Value.ownBlock] at h, by simp⟩
  have B3 : Below w.heap.size w (((((w.alloc (.cells #[.slice none 0 0] 30)).alloc (.cells #[.slice none 0 0] 30)).alloc (.cells #[.string s] 9)).alloc (.cells #[.string ⟨#[44]⟩] 9)).alloc (.cells #[.int .i64 0] 3)) := ((((below_alloc _ _).alloc (by simp) _).alloc (by simp; omega) _).alloc (by simp; omega) _).alloc (by simp; omega) _
  have hz : (((((w.alloc (.cells #[.slice none 0 0] 30)).alloc (.cells #[.slice none 0 0] 30)).alloc (.cells #[.string s] 9)).alloc (.cells #[.string ⟨#[44]⟩] 9)).alloc (.cells #[.int .i64 0] 3)).heap.size = w.heap.size + 5 := by simp
  simp only [World.size_alloc] at xs xp xv ⊢
  generalize hW0 : ((((w.alloc (.cells #[.slice none 0 0] 30)).alloc (.cells #[.slice none 0 0] 30)).alloc (.cells #[.string s] 9)).alloc (.cells #[.string ⟨#[44]⟩] 9)).alloc (.cells #[.int .i64 0] 3) = w0 at *
  clear hW0
  refine wpIn_rangeC (n := 3) (gf := 46) (lb := #[.pointer (some ⟨w.heap.size + 1 + 1 + 1, 0, none⟩), .pointer (some ⟨w.heap.size + 1 + 1, 0, none⟩), .pointer (some ⟨w.heap.size + 1 + 1 + 1 + 1, 0, none⟩)]) rfl (enters_of Tryd.func46 (by kernel_rfl) rfl)
    (splitSeq_seq (3 - 1) s 44 w0 (w.heap.size + 1 + 1 + 1) (w.heap.size + 1 + 1) (w.heap.size + 1 + 1 + 1 + 1) (by omega) (by omega) (by omega) (by omega) xp xs xv) (by simp [hz]) (by omega) (fun _ => rfl)
    (fun pre W => Blk W w.heap.size 30 #[.slice none 0 0] ∧ HoldsP (w.heap.size + 1) (gW pre) W ∧ Below w.heap.size w W)
    (fun j pre W => False)
    (MindsB.and (mindsB_blkP _ _ (fun _ => _) (by omega)) (MindsB.and (holdsP_minds _) (mindsB_below (by omega) (by omega) (by omega))))
    (fun j _ _ _ _ h _ _ => h)
    ⟨X0, ⟨_, HP⟩, B3⟩
    (fun x => { tmps := #[.string s, undef, .pointer (some ⟨w.heap.size, 0, none⟩), .bool false, .pointer (some ⟨w.heap.size + 1, 0, none⟩), .string x.1, undef, undef, undef, .string s, .func (.func 46) #[] #[.pointer (some ⟨w.heap.size + 1 + 1 + 1, 0, none⟩), .pointer (some ⟨w.heap.size + 1 + 1, 0, none⟩), .pointer (some ⟨w.heap.size + 1 + 1 + 1 + 1, 0, none⟩)], .string x.1, undef, undef, undef, undef, undef, undef, undef, undef, undef, undef, undef, undef, undef, undef, undef, undef, undef, undef, undef, undef, undef, undef, undef, undef, undef, undef, undef, undef, undef, undef, undef, undef, undef, undef], defers := [] }) ?assign ?body ?done ?stop
  case assign =>
    intro l x W K hK
    gi_wp2
    exact hK
  case body =>
    rintro l pre x W ⟨hr, ⟨v, H⟩, hB⟩ hlen
    have hx := x.2
    have N2 := Lib.hid (numbersIn_any x.1 46 W (by omega) (hE.below hB (Nat.le_refl _)))
    have y2 := ninR_length x.1 46
    have hzW : w.heap.size ≤ W.heap.size := hB.size
    obtain ⟨A1, c1, rfl⟩ := H.o.form
    have hl := gW_length pre
    have HY := Lib.hid (fun (h : (ninR x.1 46).length = 3) => gW_yes pre (x := x) (decide_eq_true h))
    have HN := Lib.hid (fun (h : ¬ (ninR x.1 46).length = 3) => gW_no pre (x := x) (decide_eq_false h))
    have HC := Lib.hid (show gC x.1 = ((ninR x.1 46).getD 0 0, (ninR x.1 46).getD 1 0, (ninR x.1 46).getD 2 0) from rfl)
    have hq6 : (gW pre).length ≤ 1048578 := by omega
    generalize gW pre = qs at *
    generalize gC x.1 = cx at *
    generalize ninR x.1 46 = L at *
    clear hl hlen
    by_cases h3 : L.length = 3
    · obtain ⟨p, q, r, rfl⟩ : ∃ p q r, L = [p, q, r] := by
        match L, h3 with
        | [p, q, r], _ => exact ⟨p, q, r, rfl⟩
      have EQ := Lib.hid (HY.out h3)
      clear HY HN h3 y2
      gi_wp2_with fail
      refine ⟨trivial, (CallsIn.inRound l (callsIn_wide.2 N2.out)).mono ?_⟩
      rintro e W2 ⟨v9, rfl, o9, hb9⟩
      obtain ⟨A9, c9, hv9, hc9⟩ := o9.form
      simp only [List.length_cons, List.length_nil, Nat.zero_add, Nat.reduceAdd] at hv9
      subst hv9
      obtain ⟨g, o, rfl, hg, d0⟩ := hc9.at_ (k := 0) (by simp)
      obtain ⟨g', o', he, _, d1⟩ := hc9.at_ (k := 1) (by simp)
      obtain ⟨rfl, rfl⟩ : g = g' ∧ o = o' := by injection he with e; injection e with e1 e2; exact ⟨e1, e2⟩
      obtain ⟨g', o', he, _, d2⟩ := hc9.at_ (k := 2) (by simp)
      obtain ⟨rfl, rfl⟩ : g = g' ∧ o = o' := by injection he with e; injection e with e1 e2; exact ⟨e1, e2⟩
      have gl : W.heap.size ≤ g := (o9.lt g rfl).1
      have hgv : g ∉ rowL (.slice A1 qs.length c1) := fun hm => by have := (H.o.lt _ (mem_rowL.1 hm)).2; omega
      have H2 := H.below hb9
      have hz4 := H.hz
      have hs2 := hb9.size
      have m0 := H2.m.cell 0
      have f0 := H2.m.frozen 0
      have lM := H2.m.lt
      simp only [List.getD_cons_zero, List.getD_cons_succ, Nat.add_zero] at d0 d1 d2
      clear hc9
      gi_wp2_with fail
      refine wpIn_region_z (fun u => u.cell? ⟨w.heap.size + 1, 0, none⟩ = some (.slice A1 qs.length c1) ∧ u.cell? ⟨g, o, none⟩ = some (.int .i64 p) ∧ u.cell? ⟨g, o + 1, none⟩ = some (.int .i64 q) ∧ u.cell? ⟨g, o + 2, none⟩ = some (.int .i64 r)) 15 (by kernel_rfl) ⟨m0, d0, d1, d2⟩ (fun hHeld => ?_)
      refine wpAnyZIn_take (i := 0) (v := ?_) rfl (by kernel_rfl) (by kernel_rfl) (by kernel_rfl) (by kernel_rfl) (by kernel_rfl) (fun _ _ _ h => h) ⟨Or.inl ⟨by rfl, ?hy⟩, fun _ => rfl⟩ hHeld ?_
      case hy => ((intro u hSu); (try dsimp only at hSu); go_simp; (try with_reducible rfl))
      try simp only [Act.put]
      refine wpAnyZIn_take (i := 1) (v := ?_) rfl (by kernel_rfl) (by kernel_rfl) (by kernel_rfl) (by kernel_rfl) (by kernel_rfl) (fun _ _ _ h => h) ⟨Or.inl ⟨by rfl, ?hy⟩, fun _ => rfl⟩ hHeld ?_
      case hy => ((intro u hSu); (try dsimp only at hSu); go_simp; (try with_reducible rfl))
      try simp only [Act.put]
      refine wpAnyZIn_take (i := 2) (v := ?_) rfl (by kernel_rfl) (by kernel_rfl) (by kernel_rfl) (by kernel_rfl) (by kernel_rfl) (fun _ _ _ h => h) ⟨Or.inl ⟨by rfl, ?hy⟩, fun _ => rfl⟩ hHeld ?_
      case hy => ((intro u hSu); (try dsimp only at hSu); go_simp; (try with_reducible rfl))
      try simp only [Act.put]
      refine wpAnyZIn_take (i := 3) (v := ?_) rfl (by kernel_rfl) (by kernel_rfl) (by kernel_rfl) (by kernel_rfl) (by kernel_rfl) (fun _ _ _ h => h) ⟨Or.inl ⟨by rfl, ?hy⟩, fun _ => rfl⟩ hHeld ?_
      case hy => ((intro u hSu); (try dsimp only at hSu); go_simp; (try with_reducible rfl))
      try simp only [Act.put]
      refine wpAnyZIn_take (i := 4) (v := ?_) rfl (by kernel_rfl) (by kernel_rfl) (by kernel_rfl) (by kernel_rfl) (by kernel_rfl) (fun _ _ _ h => h) ⟨Or.inl ⟨by rfl, ?hy⟩, fun _ => rfl⟩ hHeld ?_
      case hy => ((intro u hSu); (try dsimp only at hSu); go_simp; (try with_reducible rfl))
      try simp only [Act.put]
      refine wpAnyZIn_take (i := 5) (v := ?_) rfl (by kernel_rfl) (by kernel_rfl) (by kernel_rfl) (by kernel_rfl) (by kernel_rfl) (fun _ _ _ h => h) ⟨Or.inl ⟨by rfl, ?hy⟩, fun _ => rfl⟩ hHeld ?_
      case hy => ((intro u hSu); (try dsimp only at hSu); go_simp; (try with_reducible rfl))
      try simp only [Act.put]
      refine wpAnyZIn_take (i := 6) (v := ?_) rfl (by kernel_rfl) (by kernel_rfl) (by kernel_rfl) (by kernel_rfl) (by kernel_rfl) (fun _ _ _ h => h) ⟨Or.inl ⟨by rfl, ?hy⟩, fun _ => rfl⟩ hHeld ?_
      case hy => ((intro u hSu); (try dsimp only at hSu); go_simp; (try with_reducible rfl))
      try simp only [Act.put]
      refine wpAnyZIn_take (i := 7) (v := ?_) rfl (by kernel_rfl) (by kernel_rfl) (by kernel_rfl) (by kernel_rfl) (by kernel_rfl) (fun _ _ _ h => h) ⟨Or.inl ⟨by rfl, ?hy⟩, fun _ => rfl⟩ hHeld ?_
      case hy => ((intro u hSu); (try dsimp only at hSu); go_simp; (try with_reducible rfl))
      try simp only [Act.put]
      refine wpAnyZIn_take (i := 8) (v := ?_) rfl (by kernel_rfl) (by kernel_rfl) (by kernel_rfl) (by kernel_rfl) (by kernel_rfl) (fun _ _ _ h => h) ⟨Or.inl ⟨by rfl, ?hy⟩, fun _ => rfl⟩ hHeld ?_
      case hy => ((intro u hSu); (try dsimp only at hSu); go_simp; (try with_reducible rfl))
      try simp only [Act.put]
      refine wpAnyZIn_take (i := 9) (v := ?_) rfl (by kernel_rfl) (by kernel_rfl) (by kernel_rfl) (by kernel_rfl) (by kernel_rfl) (fun _ _ _ h => h) ⟨Or.inl ⟨by rfl, ?hy⟩, fun _ => rfl⟩ hHeld ?_
      case hy => ((intro u hSu); (try dsimp only at hSu); go_simp; (try with_reducible rfl))
      try simp only [Act.put]
      refine wpAnyZIn_take (i := 10) (v := ?_) rfl (by kernel_rfl) (by kernel_rfl) (by kernel_rfl) (by kernel_rfl) (by kernel_rfl) (fun _ _ _ h => h) ⟨Or.inl ⟨by rfl, ?hy⟩, fun _ => rfl⟩ hHeld ?_
      case hy => ((intro u hSu); (try dsimp only at hSu); go_simp; (try with_reducible rfl))
      try simp only [Act.put]
      refine wpAnyZIn_take (i := 11) (v := ?_) rfl (by kernel_rfl) (by kernel_rfl) (by kernel_rfl) (by kernel_rfl) (by kernel_rfl) (fun _ _ _ h => h) ⟨Or.inl ⟨by rfl, ?hy⟩, fun _ => rfl⟩ hHeld ?_
      case hy => ((intro u hSu); (try dsimp only at hSu); go_simp; (try with_reducible rfl))
      try simp only [Act.put]
      refine wpAnyZIn_one (i := 12) (by kernel_rfl) rfl (fun K hK => ?_)
      go_simp
      refine hK.out _ _ (fun _ => ⟨al_cell _ lM m0, al_cell _ hg d0, al_cell _ hg d1, al_cell _ hg d2⟩) ?_
      clear hK K
      try simp only [Act.put]
      refine wpAnyZIn_one (i := 13) (by kernel_rfl) rfl (fun K hK => ?_)
      go_simp
      obtain ⟨v5, w5, hrun, hown5, hgr5, hob5⟩ := run_append_rdO ((W2.alloc (.cells #[.int .i64 p, .int .i64 q, .int .i64 r] 44)).drew) 28 (w.heap.size + 1) (.slice A1 qs.length c1) qs (p, q, r) ((H2.o.alloc (.cells #[.int .i64 p, .int .i64 q, .int .i64 r] 44)).below (Below.refl _ _).drew (Nat.le_refl _)) ⟨W2.heap.size, 0, none⟩ 1 _ (blk_rd1c (w := (W2.alloc (.cells #[.int .i64 p, .int .i64 q, .int .i64 r] 44)).drew) (Blk.new' (w := W2) rfl)) (by omega) (by show w.heap.size + 1 ≤ (W2.alloc _).heap.size; simp; omega)
      have T5 : Turned (W2.alloc (.cells #[.int .i64 p, .int .i64 q, .int .i64 r] 44)) w5 (rowL (.slice A1 qs.length c1)) := turned_undrewF (Turned.of_grown hgr5 (fun k hk => mem_rowL.2 hk))
      have M5 : Blk w5 (w.heap.size + 1) 30 #[.slice A1 qs.length c1] := (H2.m.alloc (.cells #[.int .i64 p, .int .i64 q, .int .i64 r] 44)).turned T5 (H2.n _ (by omega))
      have c5 := M5.cell 0
      have f5 := M5.frozen 0
      have l5 := M5.lt
      have H5 := H2.push hown5 T5 (by simpa using hob5)
      have R5 := rq_push (v9 := v5) H2 T5
      have D0 := (Turned.cellAt T5 (i := o) (by simp; omega) hgv).trans (al_cell (.cells #[.int .i64 p, .int .i64 q, .int .i64 r] 44) hg d0)
      have D1 := (Turned.cellAt T5 (i := o + 1) (by simp; omega) hgv).trans (al_cell (.cells #[.int .i64 p, .int .i64 q, .int .i64 r] 44) hg d1)
      have D2 := (Turned.cellAt T5 (i := o + 2) (by simp; omega) hgv).trans (al_cell (.cells #[.int .i64 p, .int .i64 q, .int .i64 r] 44) hg d2)
      obtain ⟨A5, e5, hv5⟩ := hown5.form
      subst hv5
      simp only [List.length_append, List.length_cons, List.length_nil, Nat.zero_add] at R5 H5
      simp only [hrun, Result.andThen_ok, Oper.uponIn_value]
      refine hK.out _ _ (fun _ => ⟨c5, D0, D1, D2⟩) ?_
      clear hK K
      try simp only [Act.put]
      refine wpAnyZIn_take (i := 14) (v := ?_) rfl (by kernel_rfl) (by kernel_rfl) (by kernel_rfl) (by kernel_rfl) (by kernel_rfl) (fun _ _ _ h => h) ⟨Or.inl ⟨by rfl, ?hy⟩, fun _ => rfl⟩ ⟨c5, D0, D1, D2⟩ ?_
      case hy => ((intro u hSu); (try dsimp only at hSu); go_simp; (try with_reducible rfl))
      try simp only [Act.put]
      refine wpAnyZIn_one (i := 15) (by kernel_rfl) rfl (fun K hK => ?_)
      go_simp
      refine hK.out _ _ (fun h => absurd rfl h) ?_
      clear hK K
      try simp only [Act.put]
      refine wpAnyZIn_done (by kernel_rfl) ?_ _
      have hcx : cx = (p, q, r) := HC.out
      have hqq : gW (pre ++ [x]) = qs ++ [(p, q, r)] := by rw [EQ.out, hcx]
      exact ⟨(keepsFrom_below hb9).trans (R5.ko.from _), (Lay.below hb9 (by simp; omega)).trans R5.ly, (hr.below hb9 hr.lt).below (R5.be (w.heap.size + 1) (Nat.le_refl _)) (by omega), ⟨_, by rw [hqq]; exact H5⟩, (hB.trans (hb9.mono hzW)).trans (R5.be w.heap.size (by omega))⟩
    · have hl2b : ((L.length : Int) == 3) = false := by simpa using (by omega : ¬ (L.length : Int) = 3)
      have hl2 : ¬ (L.length : Int) = 3 := by omega
      have EQ := Lib.hid (HN.out h3)
      have hz4 := H.hz
      clear HY HN
      gi_wp2_with fail
      refine ⟨trivial, (CallsIn.inRound l (callsIn_wide.2 N2.out)).mono ?_⟩
      rintro e W2 ⟨v9, rfl, o9, hb9⟩
      obtain ⟨A9, c9, rfl, _⟩ := o9.form
      gi_wp2_with fail
      exact ⟨keepsFrom_below hb9, Lay.below hb9 (by simp; omega), hr.below hb9 hr.lt, ⟨_, by rw [EQ.out]; exact H.below hb9⟩, hB.trans (hb9.mono hzW)⟩
  case done =>
    rintro D ys W hD hS ⟨hr, ⟨v, H⟩, hB⟩ hK
    have eW : gW ys = ppC s := by unfold gW ppC; rw [hS]
    rw [eW] at H
    obtain ⟨A1, c1, rfl⟩ := H.o.form
    have HT := Lib.hid (implPuzText_any A1 c1 (ppC s) W.heap.size W (OwnF.rd H.o) (Nat.le_refl _) (by omega) (ht.below hB))
    have n0 := H.m.cell 0
    clear eW hS
    cases hG : puzB (ppC s)
    · have FF := Lib.hid (PN.out hG).1
      have LL := Lib.hid (PN.out hG).2
      rw [hG, orS_no] at HT
      clear hG PN PO PY
      generalize ppC s = qs at *
      gi_wp2_with fail
      refine ⟨trivial, (callsIn_wide.2 HT.out).mono ?_⟩
      rintro e w5 ⟨rfl, hb5⟩
      have hK5 : w5.heap[D]? = some (.deferred (some [])) := (hb5.block D (Array.getElem?_eq_some_iff.1 hK).1).trans hK
      have M5 := H.m.below hb5 H.m.lt
      have R5 := hr.below hb5 hr.lt
      have m0 := M5.cell 0
      have r0 := R5.cell 0
      have s0 := R5.frozen 0
      have lM5 := M5.lt
      have lR5 := R5.lt
      have B5 := hB.trans (hb5.mono hB.size)
      gi_wp2_with fail
      have hK6 := (KeepsOthers.setCell w5 ⟨w.heap.size, 0, none⟩ (.slice none 0 0)).same D _ hK5 rfl
      refine ⟨by simp, .inl ⟨_, _, rfl, run_takeDeferred hK6, ?_⟩⟩
      have R60 := (R5.set_ 0 (.slice none 0 0)).cell 0
      have B6 := B5.setCell (p := ⟨w.heap.size, 0, none⟩) (Nat.le_refl _) (.slice none 0 0)
      have e0 := cell_kept R60 (grownBy_putObj' _ D (.deferred none)) (fun r e => by cases e; exact ⟨_, hK6, rfl⟩)
      refine ⟨.tuple #[.agg #[.slice none 0 0], .bool false], ?_, _, by rw [FF.out], by rw [LL.out]; exact OwnF.nil _ _, B6.trans (belowK_b (w := w) (Nat.le_refl _) _ D _ _ (by omega) hK6 rfl rfl)⟩
      simp [results, Tryd.f11, go_sem, e0]
    · rw [hG, orS_yes] at HT
      by_cases hT : pzS (ppC s) (ppC s).length = s
      · have FF := Lib.hid (PY.out hG hT).1
        have LL := Lib.hid (PY.out hG hT).2
        rw [hT] at HT
        clear hG hT PN PO PY
        generalize ppC s = qs at *
        gi_wp2_with fail
        refine ⟨trivial, (callsIn_wide.2 HT.out).mono ?_⟩
        rintro e w5 ⟨rfl, hb5⟩
        have hK5 : w5.heap[D]? = some (.deferred (some [])) := (hb5.block D (Array.getElem?_eq_some_iff.1 hK).1).trans hK
        have M5 := H.m.below hb5 H.m.lt
        have R5 := hr.below hb5 hr.lt
        have m0 := M5.cell 0
        have r0 := R5.cell 0
        have s0 := R5.frozen 0
        have lM5 := M5.lt
        have lR5 := R5.lt
        have B5 := hB.trans (hb5.mono hB.size)
        gi_wp2_with fail
        have hK6 := (KeepsOthers.setCell w5 ⟨w.heap.size, 0, none⟩ (.slice A1 qs.length c1)).same D _ hK5 rfl
        refine ⟨by simp, .inl ⟨_, _, rfl, run_takeDeferred hK6, ?_⟩⟩
        have R60 := (R5.set_ 0 (.slice A1 qs.length c1)).cell 0
        have B6 := B5.setCell (p := ⟨w.heap.size, 0, none⟩) (Nat.le_refl _) (.slice A1 qs.length c1)
        have e0 := cell_kept R60 (grownBy_putObj' _ D (.deferred none)) (fun r e => by cases e; exact ⟨_, hK6, rfl⟩)
        refine ⟨.tuple #[.agg #[.slice A1 qs.length c1], .bool true], ?_, _, by rw [FF.out], by rw [LL.out]; exact (keptF ((H.o.below hb5 (Nat.le_refl _)).turned (turned_setP _ w.heap.size 0 _) (fun k hk hm => by have := (H.o.lt k hk).1; have := List.mem_singleton.1 hm; omega)) (grownBy_putObj' _ D (.deferred none)) (fun r er => by cases er; exact .inr ⟨_, hK6, rfl⟩)).mono (by omega), B6.trans (belowK_b (w := w) (Nat.le_refl _) _ D _ _ (by omega) hK6 rfl rfl)⟩
        simp [results, Tryd.f11, go_sem, e0]
      · have FF := Lib.hid (PO.out hT).1
        have LL := Lib.hid (PO.out hT).2
        clear hG PN PO PY
        generalize ppC s = qs at *
        generalize pzS qs qs.length = t at *
        have tb := text_ne hT
        have tb2 : (!(t.toList == s.toList)) = true := by rw [tb]; rfl
        gi_wp2_with fail
        refine ⟨trivial, (callsIn_wide.2 HT.out).mono ?_⟩
        rintro e w5 ⟨rfl, hb5⟩
        have hK5 : w5.heap[D]? = some (.deferred (some [])) := (hb5.block D (Array.getElem?_eq_some_iff.1 hK).1).trans hK
        have M5 := H.m.below hb5 H.m.lt
        have R5 := hr.below hb5 hr.lt
        have m0 := M5.cell 0
        have r0 := R5.cell 0
        have s0 := R5.frozen 0
        have lM5 := M5.lt
        have lR5 := R5.lt
        have B5 := hB.trans (hb5.mono hB.size)
        gi_wp2_with fail
        have hK6 := (KeepsOthers.setCell w5 ⟨w.heap.size, 0, none⟩ (.slice none 0 0)).same D _ hK5 rfl
        refine ⟨by simp, .inl ⟨_, _, rfl, run_takeDeferred hK6, ?_⟩⟩
        have R60 := (R5.set_ 0 (.slice none 0 0)).cell 0
        have B6 := B5.setCell (p := ⟨w.heap.size, 0, none⟩) (Nat.le_refl _) (.slice none 0 0)
        have e0 := cell_kept R60 (grownBy_putObj' _ D (.deferred none)) (fun r e => by cases e; exact ⟨_, hK6, rfl⟩)
        refine ⟨.tuple #[.agg #[.slice none 0 0], .bool false], ?_, _, by rw [FF.out], by rw [LL.out]; exact OwnF.nil _ _, B6.trans (belowK_b (w := w) (Nat.le_refl _) _ D _ _ (by omega) hK6 rfl rfl)⟩
        simp [results, Tryd.f11, go_sem, e0]
  case stop =>
    rintro D j pre W hD hS h hK
    exact h.elim

end Go.Proofs.YtohimcljobpkjaaDoor

namespace Go.Proofs.YtohimcljobpkjaaDoor
set_option maxRecDepth 100000
open Go.RowKit

set_option maxHeartbeats 4000000 in
theorem parsePuzzle_walk (s0 : ByteArray) (qs : List Tri) (ok : Bool) (hz0 : qs.length ≤ 1048576) (w0 : World) (hn0 : s0.size ≤ 1048576)
    (hf : ∀ (w : World), Calls Tryd.prog 10 #[.string s0] w (NewP w qs ok))
    (hT : TabI w0) (hE : ErrI w0) (hg : ∀ (w : World), TabI w → ErrI w → Calls Tryd.prog 11 #[.string s0] w (NewP w qs ok)) :
    Calls Tryd.prog 4 #[.string s0] w0 fun e w' => e = .returned (.bool true) ∧ Below w0.heap.size w0 w' := by
  have Bt : Below w0.heap.size w0 w0 := Below.refl _ _
  go_enter Tryd.func4, Tryd.ntmps4
  go_wp2_with fail
  refine (hf w0).mono ?_
  rintro e w1 ⟨v0, he, O0, hb0⟩
  obtain ⟨A0, c0, hv⟩ := O0.form
  subst hv
  subst he
  have og0 := fun k h => (O0.lt k h).1
  have ol0 := fun k h => (O0.lt k h).2
  have hb : Below w0.heap.size w0 w1 := hb0
  have z1 : w0.heap.size ≤ w1.heap.size := hb.size
  replace Bt := Bt.trans (hb.mono (by omega))
  clear hb hb0
  have XW : Blk (w1.alloc (.cells #[.slice A0 qs.length c0] 30)) w1.heap.size 30 #[.slice A0 qs.length c0] := Blk.new _ _ _
  have hb : Below w1.heap.size w1 (w1.alloc (.cells #[.slice A0 qs.length c0] 30)) := below_alloc _ _
  replace O0 := O0.below hb (Nat.le_refl _)
  replace Bt := Bt.trans (hb.mono (by omega))
  go_wp2_with fail
  generalize hWe : (w1.alloc (.cells #[.slice A0 qs.length c0] 30)) = w2 at *
  replace hWe := trivial
  clear hWe
  have z2 : w1.heap.size + 1 ≤ w2.heap.size := by have := XW.lt; omega
  clear hb
  have pXW := XW.cell 0
  have lXW := XW.lt
  refine (hg w2 (hT.below Bt) (hE.below Bt (Nat.le_refl _))).mono ?_
  rintro e w3 ⟨v1, he, O1, hb0⟩
  obtain ⟨A1, c1, hv⟩ := O1.form
  subst hv
  subst he
  have og1 := fun k h => (O1.lt k h).1
  have ol1 := fun k h => (O1.lt k h).2
  have hb : Below w2.heap.size w2 w3 := hb0
  have z3 : w2.heap.size ≤ w3.heap.size := hb.size
  replace O0 := O0.below hb (Nat.le_refl _)
  replace XW := XW.below hb (by omega)
  replace Bt := Bt.trans (hb.mono (by omega))
  clear hb hb0
  clear pXW lXW
  have pXW := XW.cell 0
  have lXW := XW.lt
  have XG : Blk (w3.alloc (.cells #[.slice A1 qs.length c1] 30)) w3.heap.size 30 #[.slice A1 qs.length c1] := Blk.new _ _ _
  have hb : Below w3.heap.size w3 (w3.alloc (.cells #[.slice A1 qs.length c1] 30)) := below_alloc _ _
  replace O0 := O0.below hb (Nat.le_refl _)
  replace XW := XW.below hb (by omega)
  replace O1 := O1.below hb (Nat.le_refl _)
  replace Bt := Bt.trans (hb.mono (by omega))
  clear pXW lXW
  have pXW := XW.cell 0
  have lXW := XW.lt
  go_wp2_with fail
  generalize hWe : (w3.alloc (.cells #[.slice A1 qs.length c1] 30)) = w4 at *
  replace hWe := trivial
  clear hWe
  have z4 : w3.heap.size + 1 ≤ w4.heap.size := by have := XG.lt; omega
  clear hb
  clear pXW lXW
  have pXW := XW.cell 0
  have lXW := XW.lt
  have pXG := XG.cell 0
  have lXG := XG.lt
  refine (eqPuzzle_rd _ _ _ _ qs _ _ w4 O1.rd O0.rd (Nat.le_refl _) (Nat.le_refl _) hz0).mono ?_
  rintro e w5 ⟨rfl, hb0⟩
  have hb : Below w4.heap.size w4 w5 := hb0
  have z5 : w4.heap.size ≤ w5.heap.size := hb.size
  replace O0 := O0.below hb (Nat.le_refl _)
  replace XW := XW.below hb (by omega)
  replace O1 := O1.below hb (Nat.le_refl _)
  replace XG := XG.below hb (by omega)
  replace Bt := Bt.trans (hb.mono (by omega))
  clear hb hb0
  clear pXW lXW
  have pXW := XW.cell 0
  have lXW := XW.lt
  clear pXG lXG
  have pXG := XG.cell 0
  have lXG := XG.lt
  go_wp2_with fail
  refine (markPz_new _ qs 1 _ w5 O1 hz0 (by omega) (by omega)).mono ?_
  rintro e w6 ⟨rfl, M1, ht⟩
  have hge := fun k hk => og1 k (mem_rowL.1 hk)
  have hlt := fun k hk => ol1 k (mem_rowL.1 hk)
  clear O1
  have z6 : w5.heap.size ≤ w6.heap.size := ht.size
  replace O0 := O0.turned ht (fun k hv hk => by have := hge k hk; have := ol0 k hv; omega)
  replace XW := XW.turned ht (fun hk => by have := hge _ hk; have := hlt _ hk; omega)
  replace XG := XG.turned ht (fun hk => by have := hge _ hk; have := hlt _ hk; omega)
  replace Bt := Bt.trans (ht.below (by omega) (fun k hk => by have := hge k hk; omega))
  clear ht hge
  clear pXW lXW
  have pXW := XW.cell 0
  have lXW := XW.lt
  clear pXG lXG
  have pXG := XG.cell 0
  have lXG := XG.lt
  clear hlt
  go_wp2_with fail
  refine (heldPz_any _ _ 1 _ w6 M1 hz0 (by omega) (by omega)).mono ?_
  rintro e w7 ⟨rfl, hb0⟩
  have hb : Below w6.heap.size w6 w7 := hb0
  have z7 : w6.heap.size ≤ w7.heap.size := hb.size
  replace O0 := O0.below hb (Nat.le_refl _)
  replace XW := XW.below hb (by omega)
  replace XG := XG.below hb (by omega)
  replace M1 := M1.below hb (Nat.le_refl _)
  replace Bt := Bt.trans (hb.mono (by omega))
  clear hb hb0
  clear pXW lXW
  have pXW := XW.cell 0
  have lXW := XW.lt
  clear pXG lXG
  have pXG := XG.cell 0
  have lXG := XG.lt
  go_wp2_with fail
  refine (hg w7 (hT.below Bt) (hE.below Bt (Nat.le_refl _))).mono ?_
  rintro e w8 ⟨v2, he, O2, hb0⟩
  obtain ⟨A2, c2, hv⟩ := O2.form
  subst hv
  subst he
  have og2 := fun k h => (O2.lt k h).1
  have ol2 := fun k h => (O2.lt k h).2
  have hb : Below w7.heap.size w7 w8 := hb0
  have z8 : w7.heap.size ≤ w8.heap.size := hb.size
  replace O0 := O0.below hb (Nat.le_refl _)
  replace XW := XW.below hb (by omega)
  replace XG := XG.below hb (by omega)
  replace M1 := M1.below hb (Nat.le_refl _)
  replace Bt := Bt.trans (hb.mono (by omega))
  clear hb hb0
  clear pXW lXW
  have pXW := XW.cell 0
  have lXW := XW.lt
  clear pXG lXG
  have pXG := XG.cell 0
  have lXG := XG.lt
  have XH : Blk (w8.alloc (.cells #[.slice A2 qs.length c2] 30)) w8.heap.size 30 #[.slice A2 qs.length c2] := Blk.new _ _ _
  have hb : Below w8.heap.size w8 (w8.alloc (.cells #[.slice A2 qs.length c2] 30)) := below_alloc _ _
  replace O0 := O0.below hb (Nat.le_refl _)
  replace XW := XW.below hb (by omega)
  replace XG := XG.below hb (by omega)
  replace M1 := M1.below hb (Nat.le_refl _)
  replace O2 := O2.below hb (Nat.le_refl _)
  replace Bt := Bt.trans (hb.mono (by omega))
  clear pXW lXW
  have pXW := XW.cell 0
  have lXW := XW.lt
  clear pXG lXG
  have pXG := XG.cell 0
  have lXG := XG.lt
  go_wp2_with fail
  generalize hWe : (w8.alloc (.cells #[.slice A2 qs.length c2] 30)) = w9 at *
  replace hWe := trivial
  clear hWe
  have z9 : w8.heap.size + 1 ≤ w9.heap.size := by have := XH.lt; omega
  clear hb
  clear pXW lXW
  have pXW := XW.cell 0
  have lXW := XW.lt
  clear pXG lXG
  have pXG := XG.cell 0
  have lXG := XG.lt
  have pXH := XH.cell 0
  have lXH := XH.lt
  refine (eqPuzzle_rd _ _ _ _ qs _ _ w9 O2.rd O0.rd (Nat.le_refl _) (Nat.le_refl _) hz0).mono ?_
  rintro e w10 ⟨rfl, hb0⟩
  have hb : Below w9.heap.size w9 w10 := hb0
  have z10 : w9.heap.size ≤ w10.heap.size := hb.size
  replace O0 := O0.below hb (Nat.le_refl _)
  replace XW := XW.below hb (by omega)
  replace XG := XG.below hb (by omega)
  replace M1 := M1.below hb (Nat.le_refl _)
  replace O2 := O2.below hb (Nat.le_refl _)
  replace XH := XH.below hb (by omega)
  replace Bt := Bt.trans (hb.mono (by omega))
  clear hb hb0
  clear pXW lXW
  have pXW := XW.cell 0
  have lXW := XW.lt
  clear pXG lXG
  have pXG := XG.cell 0
  have lXG := XG.lt
  clear pXH lXH
  have pXH := XH.cell 0
  have lXH := XH.lt
  go_wp2_with fail
  refine (heldPz_any _ _ 1 _ w10 M1 hz0 (by omega) (by omega)).mono ?_
  rintro e w11 ⟨rfl, hb0⟩
  have hb : Below w10.heap.size w10 w11 := hb0
  have z11 : w10.heap.size ≤ w11.heap.size := hb.size
  replace O0 := O0.below hb (Nat.le_refl _)
  replace XW := XW.below hb (by omega)
  replace XG := XG.below hb (by omega)
  replace M1 := M1.below hb (Nat.le_refl _)
  replace O2 := O2.below hb (Nat.le_refl _)
  replace XH := XH.below hb (by omega)
  replace Bt := Bt.trans (hb.mono (by omega))
  clear hb hb0
  clear pXW lXW
  have pXW := XW.cell 0
  have lXW := XW.lt
  clear pXG lXG
  have pXG := XG.cell 0
  have lXG := XG.lt
  clear pXH lXH
  have pXH := XH.cell 0
  have lXH := XH.lt
  go_wp2_with fail
  go_ret
  exact ⟨rfl, Bt⟩

end Go.Proofs.YtohimcljobpkjaaDoor

namespace Go.Proofs.YtohimcljobpkjaaDoor
set_option maxRecDepth 100000
open Go.ChangeShapes Go.WideShapes Go.ChangeAt Go.RowKit Go.Joins

/-- A number, as it came in. -/
theorem inI_of {H : Type} {enc : TypeId × Value → H} {w : World} {r : Reach} {b0 : Nat} {v : Value} {d : DataW H} {p : List MemPlace}
    (hv : Value.okWide Tryd.prog w r b0 3 v) (h : DataW.Trod enc Tryd.prog w 0 (fun _ => true) true 3 v d p) : ∃ n : Int, v = .int .i64 n ∧ (-9223372036854775808 ≤ n ∧ n ≤ 9223372036854775807) := by
  obtain ⟨nx, rfl, _, _, wx⟩ := open_int Tryd.underlying3 hv h
  exact ⟨nx, rfl, bounds_i64 wx⟩

theorem inClue_of {H : Type} {enc : TypeId × Value → H} {w : World} {r : Reach} {b0 : Nat} {v : Value} {d : DataW H} {p : List MemPlace}
    (hv : Value.okWide Tryd.prog w r b0 57 v) (h : DataW.Trod enc Tryd.prog w 0 (fun _ => true) true 57 v d p) :
    ∃ x y z : Int, v = .agg #[.int .i64 x, .int .i64 y, .int .i64 z] ∧ (-9223372036854775808 ≤ x ∧ x ≤ 9223372036854775807) ∧ (-9223372036854775808 ≤ y ∧ y ≤ 9223372036854775807) ∧ (-9223372036854775808 ≤ z ∧ z ≤ 9223372036854775807) := by
  obtain ⟨c0, c1, c2, y0, y1, y2, m, rfl, _, _, h0, h1, h2⟩ := open_agg3 Tryd.underlying57 (by kernel_rfl) (by kernel_rfl) hv h
  obtain ⟨a, e0, _, wa⟩ := DataW.trod_int Tryd.underlying3 h0
  obtain ⟨b, e1, _, wb⟩ := DataW.trod_int Tryd.underlying3 h1
  obtain ⟨c, e2, _, wc⟩ := DataW.trod_int Tryd.underlying3 h2
  simp at e0 e1 e2
  subst e0 e1 e2
  exact ⟨a, b, c, rfl, bounds_i64 wa, bounds_i64 wb, bounds_i64 wc⟩

theorem cellsC : Tryd.prog.cellsOf 57 = 3 := by kernel_rfl
theorem plain_addr {w : World} {a : Addr} {v : Value} (h : w.cell? (a.add 0) = some v) : ∃ b o, a = ⟨b, o, none⟩ := by
  obtain ⟨b, off, spot⟩ := a
  have hspot : spot = none := by simpa [Addr.add] using World.cell?_spot h
  subst hspot
  exact ⟨b, off, rfl⟩
/-- A puzzle, as it came in. -/
def InP (w : World) (v : Value) : Prop := ∃ (Z : Option Addr) (dz : Nat) (ps : List Tri), v = .agg #[.slice Z ps.length dz] ∧ RdF w w.heap.size Z dz ps ∧ ps.length ≤ 9223372036854775807
theorem inPuzzle_of {H : Type} {enc : TypeId × Value → H} {w : World} {r : Reach} {b0 : Nat} {v : Value} {d : DataW H} {p : List MemPlace}
    (hv : Value.okWide Tryd.prog w r b0 24 v) (h : DataW.Trod enc Tryd.prog w 0 (fun _ => true) true 24 v d p) : InP w v := by
  obtain ⟨cs, rfl, hsz⟩ := okWide_struct Tryd.underlying24 hv
  have hC : Tryd.prog.cellsOf 24 = 1 := by kernel_rfl
  obtain ⟨c0, rfl⟩ : ∃ c0, cs = #[c0] := by
    have h1 : cs.size = 1 := hsz.trans hC
    exact ⟨cs[0], by apply Array.ext; (· simp [h1]); (· intro i h1 h2; simp at h2; subst h2; rfl)⟩
  obtain ⟨fuel, hf⟩ := h
  obtain ⟨y0, n, hx, _, h0⟩ := trod_struct1 Tryd.underlying24 hf
  have hc1 : Tryd.prog.cellsOf 22 = 1 := by kernel_rfl
  have h1 : DataW.trod enc Tryd.prog w 0 (fun _ => true) true n 22 [c0] = some y0 := by simpa [Value.cells, hc1] using h0
  rcases Go.Deep.open_slice Tryd.underlying22 h1 with ⟨hcs, _⟩ | ⟨a, len, cap, m, n', D, Pl, hcs, _, hl, hm, hmm, _, hx1⟩
  · simp at hcs
    subst hcs
    exact ⟨none, 0, [], rfl, RdF.nil, by simp⟩
  · simp at hcs
    subst hcs
    have each : ∀ i, ∃ q : Tri, i < len → w.cell? (a.add (i * 3)) = some (.int .i64 q.1) ∧ w.cell? (a.add (i * 3 + 1)) = some (.int .i64 q.2.1) ∧ w.cell? (a.add (i * 3 + 2)) = some (.int .i64 q.2.2) := by
      intro i
      by_cases hi : i < len
      · obtain ⟨cs', k1, k2⟩ := hx1 i (by rw [hmm]; simp; omega)
        rw [cellsC] at k1
        obtain ⟨_, hlen, hcell⟩ := World.cells?_some k1
        obtain ⟨v0, v1, v2, rfl⟩ : ∃ v0 v1 v2, cs' = [v0, v1, v2] := by
          match cs', hlen with
          | [v0, v1, v2], _ => exact ⟨v0, v1, v2, rfl⟩
        obtain ⟨z0, z1, z2, m', _, _, g0, g1, g2⟩ := Go.Deep.trod_struct3 Tryd.underlying57 k2
        have ci : Tryd.prog.cellsOf 3 = 1 := by kernel_rfl
        simp [ci] at g0 g1 g2
        obtain ⟨x0, f0, _, _⟩ := DataW.trod_int Tryd.underlying3 g0
        obtain ⟨x1, f1, _, _⟩ := DataW.trod_int Tryd.underlying3 g1
        obtain ⟨x2, f2, _, _⟩ := DataW.trod_int Tryd.underlying3 g2
        simp at f0 f1 f2
        subst f0 f1 f2
        have u0 := hcell 0 (by omega)
        have u1 := hcell 1 (by omega)
        have u2 := hcell 2 (by omega)
        rw [Go.Deep.add_add] at u0 u1 u2
        exact ⟨(x0, x1, x2), fun _ => ⟨by simpa using u0, by simpa using u1, by simpa using u2⟩⟩
      · exact ⟨z3, fun h => absurd h hi⟩
    obtain ⟨q, hq⟩ : ∃ q : Nat → Tri, ∀ i, i < len → w.cell? (a.add (i * 3)) = some (.int .i64 (q i).1) ∧ w.cell? (a.add (i * 3 + 1)) = some (.int .i64 (q i).2.1) ∧ w.cell? (a.add (i * 3 + 2)) = some (.int .i64 (q i).2.2) :=
      ⟨fun i => (each i).choose, fun i hi => (each i).choose_spec hi⟩
    have hlen : ((List.range len).map q).length = len := by simp
    have hm' : len ≤ 9223372036854775807 := by unfold maxLen at hm; omega
    refine ⟨some a, cap, (List.range len).map q, by rw [hlen], ⟨by rw [hlen]; exact hl, fun k hk => ?_⟩, by rw [hlen]; exact hm'⟩
    rw [hlen] at hk
    have hg : ((List.range len).map q).getD k (0, 0, 0) = q k := by simp [List.getD_eq_getElem?_getD, hk]
    rw [hg]
    obtain ⟨b, o, he⟩ := plain_addr (hq 0 (by omega)).1
    obtain ⟨q0, q1, q2⟩ := hq k hk
    rw [he, Go.WideShapes.add_plain] at q0 q1 q2
    exact ⟨b, o, by rw [he], World.block_lt_of_cell? w _ q0, q0, by rw [Nat.add_assoc]; exact q1, by rw [Nat.add_assoc]; exact q2⟩

end Go.Proofs.YtohimcljobpkjaaDoor

namespace Go.Proofs.YtohimcljobpkjaaDoor
set_option maxRecDepth 100000
open Go.ChangeShapes Go.WideShapes Go.ChangeAt Go.RowKit

/-- A text, as it came in. -/
theorem inS_of {H : Type} {enc : TypeId × Value → H} {w : World} {r : Reach} {b0 : Nat} {v : Value} {d : DataW H} {p : List MemPlace}
    (hv : Value.okWide Tryd.prog w r b0 9 v) (h : DataW.Trod enc Tryd.prog w 0 (fun _ => true) true 9 v d p) : ∃ s : ByteArray, v = .string s ∧ s.size ≤ 9223372036854775807 := by
  obtain ⟨s, rfl⟩ := okWide_string Tryd.underlying9 hv
  obtain ⟨fuel, hf⟩ := h
  obtain ⟨s', hc, _, hs⟩ := DataW.trod_string Tryd.underlying9 hf
  have e : s = s' := by simpa [Value.cells] using hc
  subst e
  exact ⟨s, rfl, by unfold maxLen at hs; omega⟩

/-- what the rows of reading list -/
def laid7 : List (String × DataW Unit) := [("math/bits.deBruijn32tab", Rows.laid_math_bits_deBruijn32tab), ("math/bits.deBruijn64tab", Rows.laid_math_bits_deBruijn64tab), ("internal/strconv.uint64pow10", Rows.laid_internal_strconv_uint64pow10), ("unicode/utf8.acceptRanges", Rows.laid_unicode_utf8_acceptRanges), ("strconv.ErrRange", Rows.laid_strconv_ErrRange), ("strconv.ErrSyntax", Rows.laid_strconv_ErrSyntax), ("unicode/utf8.first", Rows.laid_unicode_utf8_first)]
theorem err_star : "*" ++ "errors.errorString" = "*errors.errorString" := by decide
theorem err_row (u : TypeId) (h : Tryd.prog.typeName? 3 u = some "*errors.errorString") : u = 136 :=
  typeName_ptr_named (nm := "errors.errorString") (by rw [err_star]; kernel_rfl) (by kernel_rfl) (by decide) u (by rw [err_star]; exact h)
theorem tabI_of_laid7 {W : World} (h : laidMetH Tryd.prog laid7 W) : TabI W := by
  rw [MakeChecks.laidMetH_plain _ _ _ (by kernel_rfl)] at h
  obtain ⟨ps, ⟨g2, t2, cs2, f2, p2, q2, hg2, ht2, hv2, hd2, _, _⟩, _⟩ := h.tail.tail
  obtain rfl := Option.some.inj ((show Tryd.prog.globalNamed "internal/strconv.uint64pow10" = some 5 by kernel_rfl).symm.trans hg2)
  obtain rfl := Option.some.inj ((show (Tryd.prog.globals[5]?).map (·.type) = some 128 by kernel_rfl).symm.trans ht2)
  unfold TabI Lib.TabIs
  rw [hv2, ← Lib.cells_of_tab (k := .u64) (zs := Lib.pow10Tab) Tryd.underlying128 Tryd.underlying101 (by kernel_rfl) (by kernel_rfl) hd2]
theorem errI_of_laid7 {W : World} (h : laidMetH Tryd.prog laid7 W) : ErrI W := by
  rw [MakeChecks.laidMetH_plain _ _ _ (by kernel_rfl)] at h
  have hR := h.tail.tail.tail.tail
  obtain ⟨a, sa, hva, _, _, _⟩ := laid_sentinel (g := 4) hR (by kernel_rfl) (by kernel_rfl) Tryd.underlying67 err_row Tryd.underlying136 Tryd.underlying138 rfl rfl Tryd.underlying9 (by kernel_rfl) (by kernel_rfl)
  obtain ⟨b, sb, hvb, _, _, _⟩ := laid_sentinel (g := 3) hR.tail (by kernel_rfl) (by kernel_rfl) Tryd.underlying67 err_row Tryd.underlying136 Tryd.underlying138 rfl rfl Tryd.underlying9 (by kernel_rfl) (by kernel_rfl)
  exact ⟨⟨_, _, by simpa using World.var?_cell (by kernel_rfl) hvb 0⟩, ⟨_, _, by simpa using World.var?_cell (by kernel_rfl) hva 0⟩⟩
theorem door_met7 (os : Os) (args : Array Value) : laidMetH Tryd.prog laid7 ((World.laidAll Tryd.prog os laid7).forCall (fun _ _ => 0) ⟨#[], args, []⟩).memory := by
  rw [MakeChecks.laidMetH_plain _ _ _ (by kernel_rfl)]
  exact laidMet_laidAll _ (by kernel_rfl) (by kernel_rfl)

end Go.Proofs.YtohimcljobpkjaaDoor

namespace Go.Proofs.YtohimcljobpkjaaDoor
set_option maxRecDepth 100000
open Go.ChangeShapes Go.WideShapes Go.ChangeAt Go.RowKit

theorem parsePuzzle_slong0 (s0 : ByteArray) (w : World) (hn0 : 1048576 < s0.size) (hs0 : s0.size ≤ 9223372036854775807) :
    Calls Tryd.prog 4 #[.string s0] w fun e w' => e = .returned (.bool true) ∧ Below w.heap.size w w' := by
  go_enter Tryd.func4, Tryd.ntmps4
  go_wp2_with fail
  go_ret
  exact ⟨rfl, Below.refl _ _⟩

theorem parsePuzzle_all (s0 : ByteArray) (w : World) (hT : TabI w) (hE : ErrI w) (hs0 : s0.size ≤ 9223372036854775807) :
    Calls Tryd.prog 4 #[.string s0] w fun e w' => e = .returned (.bool true) ∧ Below w.heap.size w w' := by
  by_cases hn0 : 1048576 < s0.size
  · exact parsePuzzle_slong0 s0 w hn0 hs0
  replace hn0 : s0.size ≤ 1048576 := by omega
  exact parsePuzzle_walk s0 (ppL s0) (ppB s0) (ppL_len s0) w hn0 (fun w => specParPuz_any s0 w hn0) hT hE (fun w ht hE => implParPuz_any s0 w hn0 ht hE)

set_option maxRecDepth 100000 in
theorem parsePuzzle_lifted (os : Os) (started : os.Started) (H : Type) (enc : TypeId × Value → H) :
    ReturnsInHanded {} Tryd.checked os 4 .any (fun w args => (Rows.fnExactParsePuzzleSpec.pre enc Tryd.prog Tryd.f4 [] false w args ∧ laidMetH Tryd.prog laid7 w) ∧ sizedMet enc Tryd.prog Tryd.f4 (OpenSpec.ofChange Rows.fnExactParsePuzzleSpec) false w args)
      (Rows.fnExactParsePuzzleSpec.post enc Tryd.prog Tryd.f4 false true false false) := by
  refine returnsInHanded_of_change_and (C := Tryd.checked) (X := fun w _ => laidMetH Tryd.prog laid7 w) (fun _ _ _ hh h => h.of_heap hh) own started (by kernel_rfl) Tryd.func4
    (ChangeSpec.witness_shaped (enc := enc) (C := Tryd.checked) (os := os) (X := fun w _ => laidMetH Tryd.prog laid7 w) false (World.laidAll Tryd.prog os laid7) #[.string ⟨#[]⟩] 8 (World.laidAll_os _ _ _) (World.shaped_of_ZipB (by kernel_rfl) (by kernel_rfl)) (by kernel_rfl) (by kernel_rfl) (by kernel_rfl) (door_met7 os _)) ?_
  intro W base args ds gs before hval0 hW _ _ hL _
  have hval : ∀ (j : Nat) t v, Tryd.f4.params[j]? = some t → args[j]? = some v → Value.okWide Tryd.prog W .any base t v := hval0
  have hW' := hW
  obtain ⟨p, q, hA0, hV, rfl, _, _⟩ := hW
  have hA : DataW.TrodAll enc Tryd.prog W 0 (fun _ => true) true Tryd.f4.params.toList args.toList ds p := hA0
  rw [Tryd.params4] at hA hval
  obtain ⟨v0, vs0, d0, ds0, p0, q0, hargs, rfl, rfl, h0, r0⟩ := trodAll_cons hA
  obtain ⟨rfl, rfl, rfl⟩ := trodAll_nil r0
  obtain rfl : args = #[v0] := by cases args; simp_all
  obtain ⟨rfl, rfl⟩ := trodVars_none hV
  have k0 := h0
  have lt0 : ∀ x ∈ p0, x.block < W.heap.size := by obtain ⟨m, hm⟩ := k0; exact DataW.trod_lt m _ _ _ hm
  obtain ⟨s0, e0, ns0⟩ := inS_of (hval 0 9 v0 rfl rfl) h0
  subst e0
  clear hA0 hval0
  refine (parsePuzzle_all s0 W (tabI_of_laid7 hL) (errI_of_laid7 hL) ns0).mono fun e W' ⟨he, bel⟩ => ?_
  subst he
  exact ⟨_, rfl, _, _, _, [], _, [], hW', trodAll_mk1 (shut_bool Tryd.underlying4 _), (trodAll_cons_mk (Below.trod laidOut (by kernel_rfl) (of_decide_eq_true (by kernel_rfl)) k0 bel lt0) trodAll_mk0), rfl, bel.frame _, fun h => by cases h⟩

theorem parsePuzzle_row : Rows.FnExactParsePuzzleSaid :=
  OpenClaim.holds_of_wide 4 Tryd.f4 rfl rfl rfl rfl rfl rfl rfl ⟨rfl, rfl, rfl, rfl, rfl⟩ rfl rfl rfl rfl rfl (by kernel_rfl) Tryd.func4 (by kernel_rfl)
    (of_decide_eq_true (by kernel_rfl)) (by unfold Func.isWrapper; first | (rw [if_pos (by decide +kernel)]; kernel_rfl) | (rw [if_neg (by decide +kernel)]; exact ⟨rfl, rfl⟩))
    (fun os started H enc _ => parsePuzzle_lifted os started H enc)
theorem parsePuzzle_holds : Rows.FnExactParsePuzzleCardSaid :=
  Claim7.holds_tied_plain_at .later [] [.data, .data, .data, .data, .sentinel, .sentinel, .pinned] true Rows.fnExactParsePuzzleCard.stood.harness true
    parsePuzzle_row (fun _ h => by cases h) (by kernel_rfl) (fun _ h => by cases h) fnExactParsePuzzle_row_tie rfl ⟨rfl, rfl⟩ (by kernel_rfl) rfl
    (fun f fn hf hfn => by
      obtain rfl : f = 4 := Option.some.inj ((show Tryd.prog.funcNamed "loop.example/g01374/laws.FnExactParsePuzzle" = some 4 by kernel_rfl).symm.trans hf) |>.symm
      obtain rfl : fn = Tryd.f4 := (Option.some.inj (Tryd.func4.symm.trans hfn)).symm
      exact ⟨by kernel_rfl, fun j t ht => by
        have hm : t ∈ Tryd.f4.params.toList := by simpa using Array.mem_of_getElem? ht
        have hall : (Tryd.f4.params.toList.all fun u => !Tryd.prog.wantsStandIn u) = true := by kernel_rfl
        exact (show Tryd.prog.wantsStandIn t = false by simpa using List.all_eq_true.1 hall t hm)⟩)
    (by kernel_rfl)
#print axioms parsePuzzle_holds

end Go.Proofs.YtohimcljobpkjaaDoor
