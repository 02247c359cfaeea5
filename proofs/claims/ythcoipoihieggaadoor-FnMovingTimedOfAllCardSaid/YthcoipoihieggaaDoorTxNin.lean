/- Contracts: the program's numbersIn: the numbers of a text, at every text. -/
import Derived.Test.YthcoipoihieggaaDoorTxSpl
import Derived.Lib.SmallJoins
import Derived.Maps.AppendAt
namespace Go.Proofs.YthcoipoihieggaaDoor
open Go.RowKit Go.Shelf
set_option maxRecDepth 100000

attribute [local go_sem] Oper.semAt_some

/-- the number of a word, as strconv.Atoi finds it -/
def atI (x : ByteArray) : Option Int := match Lib.atoiAll x.data.toList with
  | .ok v => some v
  | _ => none
def atV (x : ByteArray) : Int := (atI x).getD 0
/-- the numbers of a text, or none -/
def ninR (s : ByteArray) (b : UInt8) : List Int := if (splitS s b).all (fun x => (atI x).isSome) then (splitS s b).map atV else []
/-- the two errors lie where they were laid -/
def ErrI (w : World) : Prop := (∃ t p, w.cell? ⟨1, 0, none⟩ = some (.iface t p)) ∧ ∃ t p, w.cell? ⟨2, 0, none⟩ = some (.iface t p)
theorem cell_in {w : World} {b : Nat} {v : Value} (h : w.cell? ⟨b, 0, none⟩ = some v) : b < w.heap.size := by
  obtain ⟨o, ho, _⟩ := cells_of_cell h
  exact (Array.getElem?_eq_some_iff.1 ho).1
theorem ErrI.below {w w' : World} {B : Nat} (h : ErrI w) (hb : Below B w w') (hB : w.heap.size ≤ B) : ErrI w' := by
  obtain ⟨⟨t, p, h1⟩, ⟨t', p', h2⟩⟩ := h
  have l1 := cell_in h1
  have l2 := cell_in h2
  exact ⟨⟨t, p, (hb.cell (p := ⟨1, 0, none⟩) (Nat.lt_of_lt_of_le l1 hB)).trans h1⟩, ⟨t', p', (hb.cell (p := ⟨2, 0, none⟩) (Nat.lt_of_lt_of_le l2 hB)).trans h2⟩⟩
theorem atoi_yes {x : ByteArray} {v : Int} (w : World) (hx : x.size ≤ 1048576) (h : atI x = some v) :
    Calls Tryd.prog 58 #[.string x] w fun e w' => e = .returned (.tuple #[.int .i64 v, .nilIface]) ∧ Below w.heap.size w w' := by
  have h2 : Lib.atoiAll x.data.toList = .ok v := by
    unfold atI at h
    split at h
    · next h3 => rw [h3]; simp only [Option.some.injEq] at h; rw [h]
    · cases h
  refine (Tryd.strconv_Atoi_ok x (by omega) v h2 w).mono ?_
  rintro e w' ⟨rfl, rfl | ⟨t, rfl⟩⟩
  · exact ⟨rfl, Below.refl _ _⟩
  · exact ⟨rfl, Go.Joins.below_bytesWorld _ _ _ _ (Nat.le_refl _)⟩
/-- what Atoi leaves where a text is no number -/
def AtoNo (w : World) (e : Ending) (w' : World) : Prop := ∃ u T p, e = .returned (.tuple #[.int .i64 u, .iface T p]) ∧ Below w.heap.size w w'
theorem atoi_no {x : ByteArray} (w : World) (hx : x.size ≤ 1048576) (h : atI x = none) (hE : ErrI w) :
    Calls Tryd.prog 58 #[.string x] w (AtoNo w) := by
  obtain ⟨⟨t, p, h1⟩, ⟨t', p', h2⟩⟩ := hE
  cases e : Lib.atoiAll x.data.toList with
  | ok v => unfold atI at h; rw [e] at h; cases h
  | «syntax» =>
    refine (Tryd.strconv_Atoi_syntax x (by omega) e (.iface t p) w h1 (.inr ⟨t, p, rfl⟩)).mono ?_
    rintro e w' ⟨N, rfl, _, _, hb⟩
    exact ⟨_, _, _, rfl, hb⟩
  | range =>
    refine (Tryd.strconv_Atoi_range x (by omega) e (.iface t' p') w h2 (.inr ⟨t', p', rfl⟩)).mono ?_
    rintro e w' ⟨N, rfl, _, _, hb⟩
    exact ⟨_, _, _, rfl, hb⟩

/-- the numbers of the words that have come -/
def wdV (ws : List Wd) : List Int := ws.map fun x => atV x.1
theorem wdV_snoc (ws : List Wd) (x : Wd) : wdV (ws ++ [x]) = wdV ws ++ [atV x.1] := by simp [wdV]
theorem OwnI.kept {W W' : World} {B : Nat} {v : Value} {xs : List Int} {row : Option Nat} (h : OwnI W B v xs) (hg : W.grownBy W' row) (hr : ∀ r, row = some r → r < B ∨ ∃ o : Obj, W.heap[r]? = some o ∧ o.isCells = false) : OwnI W' B v xs := by
  refine World.ownsRow.kept h hg ?_
  rcases h.2 with ⟨rfl, _⟩ | ⟨g, cap, cur, rfl, hB, hgb, _⟩
  · exact .inl rfl
  · refine .inr fun e' => ?_
    rcases hr g (by simpa [Value.ownBlock] using e'.symm) with h | ⟨o, ho, hc⟩
    · omega
    · rw [hgb] at ho; cases ho; cases hc
/-- a box holds a list of one's own -/
def Holds (n₀ b : Nat) (xs : List Int) (W : World) : Prop := ∃ v, Boxed W b 26 v ∧ OwnI W n₀ v xs
theorem holds_minds {β : Type} {B c n₀ b : Nat} (f : β → List Int) (hb : b ≠ c) (hc : c < n₀) : MindsB B c (fun s W => Holds n₀ b (f s) W) := by
  rintro s X Y row ⟨v, hv, ho⟩ hg hrow
  refine ⟨v, mindsB_boxed b 26 (fun _ : Unit => v) hb () X Y row hv hg hrow, ho.kept hg fun r e => ?_⟩
  rcases hrow r e with h | ⟨_, h⟩
  · left; omega
  · exact .inr h

theorem boxed_below {w w' : World} {B n : Nat} {t : TypeId} {v : Value} (h : Boxed w B t v) (hb : Below n w w') (hB : B < n) : Boxed w' B t v := (hb.block B hB).trans h
theorem lay_app {W w1 : World} {tmp : Obj} {v v' : Value} {xs : List Int} {n₀ B : Nat} {L : List Nat} (ho : OwnI W n₀ v xs) (hg : (W.alloc tmp).grownBy w1 v.ownBlock) (hL : ∀ k ∈ L, k < n₀ ∧ k < W.heap.size ∧ k ≠ B) : Lay L W (w1.setCell ⟨B, 0, none⟩ v') := fun k hk => by
  obtain ⟨h1, h2, h3⟩ := hL k hk
  exact (Below.heap_setCell _ _ _ k h3).trans ((hg.block k (by simp; omega) (fun e => by have := ho.lt k e.symm; omega)).trans (Below.heap_alloc W tmp k h2))
theorem nin_all {s : ByteArray} {b : UInt8} {ys : List Wd} (h : ys.map Subtype.val = splitS s b) (ha : ∀ x ∈ ys, (atI x.1).isSome = true) : ninR s b = wdV ys := by
  unfold ninR wdV
  rw [← h, if_pos (by simp only [List.all_eq_true, List.mem_map]; rintro _ ⟨y, hy, rfl⟩; exact ha y hy), List.map_map]
  rfl
theorem nin_none {s : ByteArray} {b : UInt8} {x : ByteArray} (h : x ∈ splitS s b) (ha : (atI x).isSome = false) : ninR s b = [] := by
  unfold ninR
  rw [if_neg]
  intro e
  have := List.all_eq_true.1 e x h
  rw [ha] at this; cases this
theorem keepsFrom_below {B : Nat} {W W' : World} (h : Below W.heap.size W W') : KeepsFrom B W W' := ⟨h.size, fun k _ _ hk _ => (h.block k (Array.getElem?_eq_some_iff.1 hk).1).trans hk⟩

set_option maxHeartbeats 4000000 in
theorem numbersIn_any (s : ByteArray) (b : UInt8) (w : World) (hs : s.size ≤ 1048576) (hE : ErrI w) :
    Calls Tryd.prog 50 #[.string s, .string ⟨#[b]⟩] w fun e w' => ∃ v, e = .returned v ∧ OwnI w' w.heap.size v (ninR s b) ∧ Below w.heap.size w w' := by
  have b1 := Boxed.new w 26 (.slice none 0 0)
  have b2 := Boxed.new (w.alloc (.cells #[.slice none 0 0] 26)) 26 (.slice none 0 0)
  refine (callsIn_wide (n := 3)).1 ?_
  refine callsIn_of_wp_marks Tryd.func50 rfl trivial ?_ rfl
  simp only [Tryd.ntmps50, List.size_toArray, List.length_cons, List.length_nil, Nat.reduceAdd, Nat.reduceSub, Array.replicate_succ, Array.replicate_zero, List.push_toArray, List.append_toArray, List.nil_append, List.cons_append]
  gi_wp2_with fail
  refine ⟨trivial, (SplitSeq_in _ (by omega) s b _).mono ?_⟩
  rintro e w1 ⟨rfl, rfl⟩
  simp only [World.size_alloc] at b2 ⊢
  have x1 := (((b1.alloc (.cells #[.slice none 0 0] 26)).alloc (.cells #[.string s] 9)).alloc (.cells #[.string ⟨#[b]⟩] 9)).alloc (.cells #[.int .i64 0] 3)
  have x2 := ((b2.alloc (.cells #[.string s] 9)).alloc (.cells #[.string ⟨#[b]⟩] 9)).alloc (.cells #[.int .i64 0] 3)
  have xs := ((Boxed.new ((w.alloc (.cells #[.slice none 0 0] 26)).alloc (.cells #[.slice none 0 0] 26)) 9 (.string s)).alloc (.cells #[.string ⟨#[b]⟩] 9)).alloc (.cells #[.int .i64 0] 3)
  have xp := (Boxed.new (((w.alloc (.cells #[.slice none 0 0] 26)).alloc (.cells #[.slice none 0 0] 26)).alloc (.cells #[.string s] 9)) 9 (.string ⟨#[b]⟩)).alloc (.cells #[.int .i64 0] 3)
  have xv := Boxed.new ((((w.alloc (.cells #[.slice none 0 0] 26)).alloc (.cells #[.slice none 0 0] 26)).alloc (.cells #[.string s] 9)).alloc (.cells #[.string ⟨#[b]⟩] 9)) 3 (.int .i64 0)
  have bW : Below w.heap.size w (((((w.alloc (.cells #[.slice none 0 0] 26)).alloc (.cells #[.slice none 0 0] 26)).alloc (.cells #[.string s] 9)).alloc (.cells #[.string ⟨#[b]⟩] 9)).alloc (.cells #[.int .i64 0] 3)) :=
    ((((below_alloc _ _).alloc (by simp) _).alloc (by simp; omega) _).alloc (by simp; omega) _).alloc (by simp; omega) _
  have hz : (((((w.alloc (.cells #[.slice none 0 0] 26)).alloc (.cells #[.slice none 0 0] 26)).alloc (.cells #[.string s] 9)).alloc (.cells #[.string ⟨#[b]⟩] 9)).alloc (.cells #[.int .i64 0] 3)).heap.size = w.heap.size + 5 := by simp
  simp only [World.size_alloc] at xs xp xv
  clear b1 b2
  generalize hW0 : ((((w.alloc (.cells #[.slice none 0 0] 26)).alloc (.cells #[.slice none 0 0] 26)).alloc (.cells #[.string s] 9)).alloc (.cells #[.string ⟨#[b]⟩] 9)).alloc (.cells #[.int .i64 0] 3) = w0 at *
  clear hW0
  gi_wp2_with fail
  refine wpIn_rangeC (n := 3) (gf := 67) (lb := #[.pointer (some ⟨w.heap.size + 1 + 1 + 1, 0, none⟩), .pointer (some ⟨w.heap.size + 1 + 1, 0, none⟩), .pointer (some ⟨w.heap.size + 1 + 1 + 1 + 1, 0, none⟩)]) rfl (enters_of Tryd.func67 (by kernel_rfl) rfl)
    (splitSeq_seq (3 - 1) s b w0 (w.heap.size + 1 + 1 + 1) (w.heap.size + 1 + 1) (w.heap.size + 1 + 1 + 1 + 1) (by omega) hs (by omega) (by omega) xp xs xv) (by simp [hz]) (by omega) (fun _ => rfl)
    (fun pre W => (((∀ x ∈ pre, (atI x.1).isSome = true) ∧ Boxed W w.heap.size 26 (.slice none 0 0)) ∧ Holds (w.heap.size + 5) (w.heap.size + 1) (wdV pre) W) ∧ Below w.heap.size w W ∧ w.heap.size + 5 ≤ W.heap.size)
    (fun j pre W => ((j = .ret ∧ ∃ x ∈ pre, (atI x.1).isSome = false) ∧ Boxed W w.heap.size 26 (.slice none 0 0)) ∧ Below w.heap.size w W)
    (MindsB.and (MindsB.and (MindsB.and (fun _ _ _ _ hs _ _ => hs) (mindsB_boxed _ _ (fun _ => _) (by omega))) (holds_minds _ (by omega) (by omega))) (MindsB.and (mindsB_below (Nat.le_refl _) (by omega) (by omega)) (fun _ _ _ _ hs hg _ => Nat.le_trans hs hg.size)))
    (fun j => MindsB.and (MindsB.and (fun _ _ _ _ hs _ _ => hs) (mindsB_boxed _ _ (fun _ => _) (by omega))) (mindsB_below (Nat.le_refl _) (by omega) (by omega)))
    ⟨⟨⟨by simp, x1⟩, ⟨_, x2, OwnI.nil _ _⟩⟩, bW, by omega⟩
    (fun x => { tmps := #[.string s, .string ⟨#[b]⟩, undef, undef, .pointer (some ⟨w.heap.size, 0, none⟩), .pointer (some ⟨w.heap.size + 1, 0, none⟩), .string x.1, undef, undef, .string s, .string ⟨#[b]⟩, .func (.func 67) #[] #[.pointer (some ⟨w.heap.size + 1 + 1 + 1, 0, none⟩), .pointer (some ⟨w.heap.size + 1 + 1, 0, none⟩), .pointer (some ⟨w.heap.size + 1 + 1 + 1 + 1, 0, none⟩)], .string x.1, undef, undef, undef, undef, undef, undef, undef, undef, undef, undef, undef, undef], defers := [] }) ?assign ?body ?done ?stop
  case assign =>
    intro l x W K hK
    gi_wp2
    exact hK
  case body =>
    rintro l pre x W ⟨⟨⟨hall, hr⟩, v, hv, ho⟩, hB, hz5⟩ hlen
    have hx := x.2
    have hEW := hE.below hB (Nat.le_refl _)
    have m1 := hr.cell
    have m2 := hr.frozen
    have hzW : w.heap.size ≤ W.heap.size := hB.size
    have hzv := hv.lt
    have hwl : (wdV pre).length = pre.length := by simp [wdV]
    cases hat : atI x.1 with
    | none =>
      have AT := Lib.hid (atoi_no (x := x.1) W hx hat hEW)
      have HAT := Lib.hid hat
      clear hat
      gi_wp2_with fail
      refine ⟨trivial, (CallsIn.inRound l (callsIn_wide.2 AT.out)).mono ?_⟩
      rintro e w2 ⟨u, T, p, rfl, hb⟩
      have hr2 := boxed_below hr hb (by omega)
      have c1 := hr2.cell
      have c2 := hr2.frozen
      gi_wp2_with fail
      exact ⟨(keepsFrom_below hb).trans ((KeepsOthers.setCell _ _ _).from _), ⟨⟨rfl, x, by simp, by rw [HAT.out]; rfl⟩, hr2.set _⟩, (hB.trans (hb.mono hzW)).setCell (by show w.heap.size ≤ w.heap.size; omega) _⟩
    | some k =>
      have AT := Lib.hid (atoi_yes (x := x.1) W hx hat)
      have HAT := Lib.hid hat
      clear hat
      gi_wp2_with fail
      refine ⟨trivial, (CallsIn.inRound l (callsIn_wide.2 AT.out)).mono ?_⟩
      rintro e w2 ⟨rfl, hb⟩
      have hr2 := boxed_below hr hb (by omega)
      have hv2 := boxed_below hv hb (by omega)
      have ho2 := ho.below hb (Nat.le_refl _)
      have c1 := hv2.cell
      have c2 := hv2.frozen
      have hz2 : w.heap.size + 5 ≤ w2.heap.size := by have := hb.size; omega
      obtain ⟨i0, hi, hz0, hz1, hz3⟩ := info_parts int_info
      gi_wp2_with (gi_at_builtin; refine wpListIn_append_own _ rfl _ _ 26 rfl (w.heap.size + 5) 3 i0 (.int .i64 0) 1 8 Tryd.underlying26 hi hz0 hz1 hz3 rfl (by decide) _ _ _ rfl (World.ownsRow.alloc ho2 _) ⟨w2.heap.size, 0, none⟩ 1 1 [.int .i64 k] rfl rfl (cell_one_new _ _ _) (by simp [Value.oneCell']) (by unfold maxLen; omega) (by omega) (by simp; omega) ?_; intro v' w3 hown' hgrow _; obtain ⟨g', cap', rfl⟩ := ownsRow_succ hown'; have ho4 : OwnI w3 (w.heap.size + 5) (.slice (some ⟨g', 0, none⟩) ((wdV pre).length + 1) cap') (wdV pre ++ [k]) := (by simpa [OwnI] using hown'); obtain ⟨hv1, hv3, _, hk3, hb3⟩ := Boxed.appended (n₀ := w.heap.size) (v := v) (tmp := .cells #[.int .i64 k] 3) hv2 (by decide) (ho2.mono (by omega)) (by omega) (by omega) (ho4.mono (by omega)) hgrow; have hr5 := ((hr2.alloc (.cells #[.int .i64 k] 3)).kept (W' := w3) hgrow (Boxed.not_row (v := v) (hr2.alloc (.cells #[.int .i64 k] 3)) (by decide) (World.ownsRow.alloc ho2 _))).other (B' := w.heap.size + 1) (by omega) (.slice (some ⟨g', 0, none⟩) ((wdV pre).length + 1) cap'); have ho5 : OwnI (w3.setCell ⟨w.heap.size + 1, 0, none⟩ (.slice (some ⟨g', 0, none⟩) ((wdV pre).length + 1) cap')) (w.heap.size + 5) (.slice (some ⟨g', 0, none⟩) ((wdV pre).length + 1) cap') (wdV pre ++ [k]) := ho4.kept (grownBy_setCell' _ _ _) (fun r er => (by cases er; left; omega)); have hly := lay_app (v' := .slice (some ⟨g', 0, none⟩) ((wdV pre).length + 1) cap') (L := [w.heap.size + 1 + 1 + 1, w.heap.size + 1 + 1, w.heap.size + 1 + 1 + 1 + 1]) (B := w.heap.size + 1) ho2 hgrow (by simp; omega); have HG := Lib.hid hgrow; clear hgrow hown'; have hc1 := hv1.cell; have hf1 := hv1.frozen)
      simp only [hwl] at hv3 ho5 hr5 hly hk3 hb3
      exact ⟨(keepsFrom_below hb).trans (hk3.from _), (Lay.below hb (by simp; omega)).trans hly, ⟨⟨fun y hy => (List.mem_append.1 hy).elim (hall y) (fun e => by rw [List.mem_singleton.1 e, HAT.out]; rfl), hr5⟩, _, hv3, by rw [wdV_snoc, show atV x.1 = k by simp [atV, HAT.out]]; exact ho5⟩, (hB.trans (hb.mono hzW)).trans hb3, by have := hb3.size; omega⟩
  case done =>
    rintro D ys W hD hS ⟨⟨⟨hall, hr⟩, v, hv, ho⟩, hB, hz5⟩ hK
    obtain ⟨Av, cv, hv', _⟩ := ho.form
    have EN := Lib.hid (nin_all hS hall)
    generalize (wdV ys).length = m at hv'
    subst hv'
    have m1 := hr.cell
    have m2 := hr.frozen
    have m3 := hv.cell
    have hr3 := hr.set (.slice Av m cv)
    have o3 := ho.kept (grownBy_setCell' W w.heap.size (.slice Av m cv)) (fun r er => (by cases er; left; omega))
    have hK' := (KeepsOthers.setCell W ⟨w.heap.size, 0, none⟩ (.slice Av m cv)).same D _ hK rfl
    clear hS hall
    gi_wp2_with fail
    refine ⟨by simp, .inl ⟨_, _, rfl, run_takeDeferred hK', ?_⟩⟩
    have e2 := cell_kept hr3.cell (grownBy_putObj' _ D (.deferred none)) (fun r e => by cases e; exact ⟨_, hK', rfl⟩)
    refine ⟨.slice Av m cv, ?_, _, rfl, by rw [EN.out]; exact (o3.kept (grownBy_putObj' _ D (.deferred none)) (fun r er => by cases er; exact .inr ⟨_, hK', rfl⟩)).mono (by omega), (hB.setCell (by show w.heap.size ≤ w.heap.size; omega) _).trans (belowK_b (w := w) (Nat.le_refl _) _ D _ _ (by omega) hK' rfl rfl)⟩
    simp [results, Tryd.f50, go_sem, e2]
  case stop =>
    rintro D j pre W hD hS ⟨⟨⟨rfl, x, hx, hno⟩, hr⟩, hB⟩ hK
    have EN := Lib.hid (nin_none (hS x hx) hno)
    gi_wp2_with fail
    refine ⟨by simp, .inl ⟨_, _, rfl, run_takeDeferred hK, ?_⟩⟩
    have e2 := cell_kept hr.cell (grownBy_putObj' _ D (.deferred none)) (fun r e => by cases e; exact ⟨_, hK, rfl⟩)
    refine ⟨.slice none 0 0, ?_, _, rfl, by rw [EN.out]; exact OwnI.nil _ _, hB.trans (belowK_b (w := w) (Nat.le_refl _) _ D _ _ (by omega) hK rfl rfl)⟩
    simp [results, Tryd.f50, go_sem, e2]

end Go.Proofs.YthcoipoihieggaaDoor
