/- Contracts: the iterator of strings.SplitSeq at a separator of one byte. -/
import Derived.Test.YthcoipoihieggaaDoorTxSeq
import Derived.Test.YthcoipoihieggaaDoorTxWords
import Derived.Test.YthcoipoihieggaaDoorShelfP
import Derived.Lib.IndexLaws
namespace Go.Proofs.YthcoipoihieggaaDoor
open Go.RowKit Go.Shelf
set_option maxRecDepth 100000

attribute [local go_sem] Oper.semAt_some

/-- a word of a text within the reach -/
abbrev Wd := { x : ByteArray // x.size ≤ 1048576 }
def wdT (ws : List Wd) : List (List UInt8) := ws.map fun x => x.1.data.toList
theorem wdT_snoc (ws : List Wd) (x : Wd) : wdT (ws ++ [x]) = wdT ws ++ [x.1.data.toList] := by simp [wdT]
/-- the text that a box holds, by its size -/
def szC (W : World) (b : Nat) : Nat := match W.cell? ⟨b, 0, none⟩ with
  | some (.string c) => c.size
  | _ => 0
theorem szC_boxed {W : World} {b : Nat} {t : TypeId} {c : ByteArray} (h : Boxed W b t (.string c)) : szC W b = c.size := by simp [szC, h.cell]
theorem pre_toL (s : ByteArray) (k : Nat) : (s.extract 0 k).data.toList = s.data.toList.take k := by
  rw [ByteArray.data_extract]; simp
theorem suf_toL (s : ByteArray) (k : Nat) : (s.extract k s.size).data.toList = s.data.toList.drop k := by
  rw [pieL_ext s k s.size (Nat.le_refl _)]
  unfold pieL
  rw [List.take_of_length_le (by simp)]
theorem byte_cut {l : List UInt8} {b : UInt8} {k : Nat} (h : Lib.indexByte l b = k) : l = l.take k ++ b :: l.drop (k + 1) ∧ b ∉ l.take k ∧ k < l.length := by
  obtain ⟨h1, h2⟩ := Lib.indexByte_some h
  obtain ⟨hk, e⟩ := List.getElem?_eq_some_iff.1 h1
  refine ⟨?_, ?_, hk⟩
  · conv => lhs; rw [← List.take_append_drop k l, List.drop_eq_getElem_cons hk, e]
  · intro hm
    obtain ⟨i, hi, e2⟩ := List.mem_iff_getElem.1 hm
    rw [List.length_take] at hi
    have hi2 : i < k := by omega
    refine h2 i hi2 ?_
    rw [List.getElem_take] at e2
    rw [List.getElem?_eq_getElem (by omega), e2]
theorem byte_none {l : List UInt8} {b : UInt8} (h : Lib.indexByte l b = -1) : b ∉ l := by
  intro hm
  obtain ⟨i, hi, e⟩ := List.mem_iff_getElem.1 hm
  exact Lib.indexByte_none h i (by rw [List.getElem?_eq_getElem hi, e])

/-- the words have come, the rest is at hand -/
def CutAt (s : ByteArray) (b : UInt8) (ws : List Wd) (cur : ByteArray) : Prop :=
  catL b (wdT ws) cur.data.toList = s.data.toList ∧ (∀ w ∈ wdT ws, b ∉ w) ∧ ws.length + cur.size ≤ s.size
theorem CutAt.start (s : ByteArray) (b : UInt8) : CutAt s b [] s := ⟨rfl, by simp [wdT], by simp⟩
theorem CutAt.step {s cur : ByteArray} {b : UInt8} {ws : List Wd} {k : Nat} (h : CutAt s b ws cur) (e : Lib.indexByte cur.data.toList b = k) (x : Wd) (hx : x.1 = cur.extract 0 k) : CutAt s b (ws ++ [x]) (cur.extract (k + 1) cur.size) := by
  obtain ⟨c1, c2, c3⟩ := byte_cut e
  obtain ⟨h1, h2, h3⟩ := h
  have hk : k < cur.size := by simpa using c3
  refine ⟨?_, ?_, ?_⟩
  · rw [wdT_snoc, cat_snoc, hx, pre_toL, suf_toL, ← c1, h1]
  · rw [wdT_snoc]
    intro w hw
    rcases List.mem_append.1 hw with hw | hw
    · exact h2 w hw
    · obtain rfl := List.mem_singleton.1 hw
      rw [hx, pre_toL]; exact c2
  · simp; omega
theorem bytes_inj {a c : ByteArray} (h : a.data.toList = c.data.toList) : a = c := by
  cases a; cases c; congr 1; exact Array.toList_inj.1 h
theorem cat_two (b : UInt8) (c : List (List UInt8)) (l : List UInt8) : ∀ a, catL b (a ++ c) l = catL b a (catL b c l)
  | [] => rfl
  | x :: a => by simp [catL, cat_two b c l a]
/-- what has come is among the words -/
theorem CutAt.mem {s cur : ByteArray} {b : UInt8} {ws : List Wd} (h : CutAt s b ws cur) : ∀ x ∈ ws, x.1 ∈ splitS s b := by
  obtain ⟨h1, h2, h3⟩ := h
  obtain ⟨c1, c2, c3⟩ := spW_cat cur b cur.size (Nat.le_refl _)
  have e : cur.data.toList.take cur.size = cur.data.toList := List.take_of_length_le (by simp)
  rw [e] at c1
  have := split_is (s := s) (b := b) (ws := wdT ws ++ (spW cur b cur.size).1.map (·.data.toList)) (l := pieL cur (spW cur b cur.size).2 cur.size) (fun w hw => (List.mem_append.1 hw).elim (h2 w) (c2 w)) c3 (by rw [cat_two, c1, h1])
  intro x hx
  have m : x.1.data.toList ∈ (splitS s b).map (·.data.toList) := by
    rw [this]
    refine List.mem_append_left _ (List.mem_append_left _ ?_)
    exact List.mem_map.2 ⟨x, hx, rfl⟩
  obtain ⟨y, hy, ey⟩ := List.mem_map.1 m
  rw [← bytes_inj ey]; exact hy
theorem CutAt.all {s cur : ByteArray} {b : UInt8} {ws : List Wd} (h : CutAt s b ws cur) (e : Lib.indexByte cur.data.toList b = -1) (x : Wd) (hx : x.1 = cur) : (ws ++ [x]).map Subtype.val = splitS s b := by
  obtain ⟨h1, h2, h3⟩ := h
  have := split_is h2 (byte_none e) h1
  have inj := fun a c => bytes_inj (a := a) (c := c)
  refine List.ext_getElem (by have := congrArg List.length this; simp [wdT] at this ⊢; omega) (fun i i1 i2 => inj _ _ ?_)
  have e1 : ((splitS s b).map (·.data.toList))[i]? = (wdT ws ++ [cur.data.toList])[i]? := by rw [this]
  rw [← hx, ← wdT_snoc] at e1
  have i3 : i < (wdT (ws ++ [x])).length := by simp [wdT] at i1 ⊢; omega
  rw [List.getElem?_eq_getElem (by simpa using i2), List.getElem?_eq_getElem i3] at e1
  simp only [Option.some.injEq, List.getElem_map, wdT] at e1 ⊢
  exact e1.symm

set_option maxHeartbeats 4000000 in
theorem splitSeq1_in (n l Bp Bs Bv : Nat) (s : ByteArray) (b : UInt8) (hn : 1 ≤ n) (hs : s.size ≤ 1048576) (hps : Bp ≠ Bs) (hvs : Bv ≠ Bs) (J Jx : List Wd → World → Prop) (hJ : MindsC Bs J)
    (hY : ∀ pre x W, J pre W → pre.length < s.size + 1 → YieldAt Fence.wide (n - 1) Tryd.prog l #[.string (x : Wd).1] W fun e W' =>
      (e = .returned (.bool true) ∧ J (pre ++ [x]) W' ∧ Lay [Bp, Bs, Bv] W W') ∨ (e = .returned (.bool false) ∧ Jx (pre ++ [x]) W'))
    (W : World) (xp : Boxed W Bp 9 (.string ⟨#[b]⟩)) (xs : Boxed W Bs 9 (.string s)) (xv : Boxed W Bv 3 (.int .i64 0)) (h0 : J [] W) :
    CallsIn Fence.wide n Tryd.prog 67 #[.func (.yield l) #[] #[], .pointer (some ⟨Bp, 0, none⟩), .pointer (some ⟨Bs, 0, none⟩), .pointer (some ⟨Bv, 0, none⟩)] W fun e W' => (∃ v, e = .returned v) ∧
      ((∃ ys, ys.map Subtype.val = splitS s b ∧ J ys W') ∨ (∃ pre, (∀ x ∈ pre, (x : Wd).1 ∈ splitS s b) ∧ Jx pre W')) := by
  have p0 := xp.cell
  refine callsIn_of_wp Tryd.func67 rfl trivial ?_ rfl
  simp only [Tryd.ntmps67, List.size_toArray, List.length_cons, List.length_nil, Nat.reduceAdd, Nat.reduceSub, Array.replicate_succ, Array.replicate_zero, List.push_toArray, List.append_toArray, List.nil_append, List.cons_append]
  gi_wp2_with fail
  clear p0
  gi_loopw [7] (fun _ wr => ∃ (ws : List Wd) (cur : ByteArray), Hid (CutAt s b ws cur) ∧ cur.size ≤ 1048576 ∧ ws.length ≤ s.size ∧ Boxed wr Bp 9 (.string ⟨#[b]⟩) ∧ Boxed wr Bs 9 (.string cur) ∧ Boxed wr Bv 3 (.int .i64 0) ∧ J ws wr)
    (fun _ wr => szC wr Bs)
  case atStart => exact ⟨[], s, Lib.hid (CutAt.start s b), hs, by simp, xp, xs, xv, h0⟩
  case round =>
    clear xp xs xv h0
    obtain ⟨ws, cur, HC, hcs, hwl, xp, xs, xv, hJs⟩ := hrel
    have p1 := xp.cell
    have p2 := xs.cell
    have p3 := xv.cell
    have p4 := xs.frozen
    have IX := Lib.hid (Tryd.strings_Index_one cur b)
    rcases Int.lt_or_le (Lib.indexByte cur.data.toList b) 0 with hneg | hpos
    · have e := Lib.hid (show Lib.indexByte cur.data.toList b = -1 by have := Lib.indexByte_ge cur.data.toList b; omega)
      clear hneg
      gi_wp2_with fail
      refine ⟨trivial, (callsIn_wide.2 (IX.out _)).mono ?_⟩
      rintro e' w' ⟨rfl, rfl⟩
      rw [e.out]
      obtain ⟨fn, tmps, assign, body, hy, hR⟩ := hY ws ⟨cur, hcs⟩ _ hJs (by omega)
      dsimp only at hy
      gi_wp2_with fail
      refine hR.mono ?_
      rintro e2 W3 (⟨rfl, hJ3, _⟩ | ⟨rfl, hJx3⟩)
      · gi_wp2_with fail
        go_end0
        exact ⟨⟨_, rfl⟩, .inl ⟨_, HC.out.all e.out _ rfl, hJ3⟩⟩
      · gi_wp2_with fail
        go_end0
        exact ⟨⟨_, rfl⟩, .inr ⟨_, fun x hx => by rw [← HC.out.all e.out ⟨cur, hcs⟩ rfl]; exact List.mem_map.2 ⟨x, hx, rfl⟩, hJx3⟩⟩
    · obtain ⟨k, hk⟩ : ∃ k : Nat, Lib.indexByte cur.data.toList b = (k : Int) := ⟨(Lib.indexByte cur.data.toList b).toNat, by omega⟩
      have e := Lib.hid hk
      have hkc : k < cur.size := by have := (byte_cut hk).2.2; simpa using this
      clear hpos hk
      gi_wp2_with fail
      refine ⟨trivial, (callsIn_wide.2 (IX.out _)).mono ?_⟩
      rintro e' w' ⟨rfl, rfl⟩
      rw [e.out]
      have hcut := HC.out.2.2
      have k1 : (k : Int) ≤ (cur.size : Int) := by omega
      have k2 : (k : Int) + 1 ≤ (cur.size : Int) := by omega
      obtain ⟨x0, hx0⟩ : ∃ x0 : Wd, x0.1 = cur.extract 0 k := ⟨⟨cur.extract 0 k, by rw [ByteArray.size_extract]; omega⟩, rfl⟩
      obtain ⟨fn, tmps, assign, body, hy, hR⟩ := hY ws x0 _ hJs (by omega)
      rw [hx0] at hy
      have HX := Lib.hid hx0
      clear hx0
      gi_wp2_with fail
      refine hR.mono ?_
      rintro e2 W3 (⟨rfl, hJ3, hly⟩ | ⟨rfl, hJx3⟩)
      · have yp : Boxed W3 Bp 9 (.string ⟨#[b]⟩) := (hly Bp (by simp)).trans xp
        have ys : Boxed W3 Bs 9 (.string cur) := (hly Bs (by simp)).trans xs
        have yv : Boxed W3 Bv 3 (.int .i64 0) := (hly Bv (by simp)).trans xv
        have q1 := yp.cell
        have q2 := ys.cell
        have q4 := ys.frozen
        have m1 := szC_boxed xs
        have HST := Lib.hid (HC.out.step e.out x0 HX.out)
        have zs := ys.set (.string (cur.extract (k + 1) cur.size))
        have zp := yp.other hps (.string (cur.extract (k + 1) cur.size))
        have zv := yv.other hvs (.string (cur.extract (k + 1) cur.size))
        have jz := hJ _ _ _ _ hJ3 (grownBy_setCell' W3 Bs (.string (cur.extract (k + 1) cur.size))) (fun r er => by cases er; rfl)
        have m2 := szC_boxed zs
        have M1 := Lib.hid m1
        have M2 := Lib.hid m2
        clear m1 m2 p1 p2 p3 p4 yp ys yv
        gi_wp2_with fail
        go_roundw
        case rel => exact ⟨_, cur.extract (k + 1) cur.size, HST, by simp; omega, by simp; omega, zp, zs, zv, jz⟩
        case measure => rw [M1.out, M2.out]; simp; omega
      · gi_wp2_with fail
        refine bodyPost_ret (results_none rfl _ _ _) rfl ?_
        exact ⟨⟨_, rfl⟩, .inr ⟨_, (HC.out.step e.out x0 HX.out).mem, hJx3⟩⟩

theorem splitSeq_in (n : Nat) (s : ByteArray) (b : UInt8) (w : World) :
    CallsIn Fence.wide n Tryd.prog 60 #[.string s, .string ⟨#[b]⟩, .int .i64 0] w fun e w' => e = .returned (.func (.func 67) #[] #[.pointer (some ⟨w.heap.size + 1, 0, none⟩), .pointer (some ⟨w.heap.size, 0, none⟩), .pointer (some ⟨w.heap.size + 1 + 1, 0, none⟩)]) ∧ w' = ((w.alloc (.cells #[.string s] 9)).alloc (.cells #[.string ⟨#[b]⟩] 9)).alloc (.cells #[.int .i64 0] 3) := by
  refine callsIn_of_wp Tryd.func60 rfl trivial ?_ rfl
  simp only [Tryd.ntmps60, List.size_toArray, List.length_cons, List.length_nil, Nat.reduceAdd, Nat.reduceSub, Array.replicate_succ, Array.replicate_zero, List.push_toArray, List.append_toArray, List.nil_append, List.cons_append]
  gi_wp2
  go_ret
  exact ⟨rfl, rfl⟩

theorem SplitSeq_in (n : Nat) (hn : 1 ≤ n) (s : ByteArray) (b : UInt8) (w : World) :
    CallsIn Fence.wide n Tryd.prog 57 #[.string s, .string ⟨#[b]⟩] w fun e w' => e = .returned (.func (.func 67) #[] #[.pointer (some ⟨w.heap.size + 1, 0, none⟩), .pointer (some ⟨w.heap.size, 0, none⟩), .pointer (some ⟨w.heap.size + 1 + 1, 0, none⟩)]) ∧ w' = ((w.alloc (.cells #[.string s] 9)).alloc (.cells #[.string ⟨#[b]⟩] 9)).alloc (.cells #[.int .i64 0] 3) := by
  refine callsIn_of_wp Tryd.func57 rfl trivial ?_ rfl
  simp only [Tryd.ntmps57, List.size_toArray, List.length_cons, List.length_nil, Nat.reduceAdd, Nat.reduceSub, Array.replicate_succ, Array.replicate_zero, List.push_toArray, List.append_toArray, List.nil_append, List.cons_append]
  gi_wp2_with fail
  refine ⟨trivial, (splitSeq_in _ s b _).mono ?_⟩
  rintro e w' ⟨rfl, rfl⟩
  gi_wp2_with fail
  go_ret
  exact ⟨rfl, rfl⟩

theorem splitSeq_seq (n : Nat) (s : ByteArray) (b : UInt8) (w : World) (Bp Bs Bv : Nat) (hn : 1 ≤ n) (hs : s.size ≤ 1048576) (hps : Bp ≠ Bs) (hvs : Bv ≠ Bs)
    (xp : Boxed w Bp 9 (.string ⟨#[b]⟩)) (xs : Boxed w Bs 9 (.string s)) (xv : Boxed w Bv 3 (.int .i64 0)) :
    SeqC n Tryd.prog 67 #[.pointer (some ⟨Bp, 0, none⟩), .pointer (some ⟨Bs, 0, none⟩), .pointer (some ⟨Bv, 0, none⟩)] (fun x : Wd => #[Value.string x.1]) [Bp, Bs, Bv] (fun ys => ys.map Subtype.val = splitS s b) (fun pre => ∀ x ∈ pre, x.1 ∈ splitS s b) (s.size + 1) Bs w :=
  fun l J Jx W hW hJ _ hY h0 => splitSeq1_in n l Bp Bs Bv s b hn hs hps hvs J Jx hJ hY W ((hW.block Bp xp.lt).trans xp) ((hW.block Bs xs.lt).trans xs) ((hW.block Bv xv.lt).trans xv) h0

end Go.Proofs.YthcoipoihieggaaDoor
