/- Contracts: balls: jumps told from below, the program: a range over slices.Backward. -/
import Derived.Test.YtmolfeckeoimbaaTxSeq
import Derived.Test.YtmolfeckeoimbaaBaC
import Derived.Lib.SmallJoins
import Derived.Maps.AppendAt
namespace Go.Proofs.Ytmolfeckeoimbaa
open Go.RowKit Go.Shelf
set_option maxRecDepth 100000

attribute [local go_sem] Oper.semAt_some

theorem Lay.cell {L : List Nat} {W W' : World} (h : Lay L W W') {b o : Nat} (hb : b ∈ L) : W'.cell? ⟨b, o, none⟩ = W.cell? ⟨b, o, none⟩ := by
  unfold World.cell?
  rw [show W'.heap[(⟨b, o, none⟩ : Addr).block]? = W.heap[(⟨b, o, none⟩ : Addr).block]? from h b hb]
/-- the places of a list from its end on -/
def downL (n : Nat) : List Nat := (List.range n).reverse
theorem down_zero (n : Nat) : ((List.range n).drop n).reverse = [] := by simp
theorem down_step {n k : Nat} (h : k < n) : ((List.range n).drop k).reverse = ((List.range n).drop (k + 1)).reverse ++ [k] := by
  rw [List.drop_eq_getElem_cons (by simpa using h)]
  simp
theorem down_all (n : Nat) : ((List.range n).drop 0).reverse = downL n := rfl
theorem turn_down (xs : List Int) : (downL xs.length).map (fun i => -(xs.getD i 0)) = turnL xs := by
  unfold downL turnL
  rw [List.map_reverse, List.map_reverse]
  congr 1
  apply List.ext_getElem (by simp)
  intro i h1 h2
  simp at h1
  simp [List.getD_eq_getElem?_getD, h1]

set_option maxHeartbeats 2000000 in
theorem backward1_in (n l Bs b o c : Nat) (xs : List Int) (L : List Nat) (hn : 1 ≤ n) (hlen : xs.length ≤ 1000) (hb : b ∈ L) (hBn : Bs ∈ L) (J Jx : List Nat → World → Prop)
    (hY : ∀ pre x W, J pre W → pre.length < xs.length → YieldAt Fence.wide (n - 1) Try.prog l #[.int .i64 ((x : Nat) : Int), .int .i64 (xs.getD x 0)] W fun e W' =>
      (e = .returned (.bool true) ∧ J (pre ++ [x]) W' ∧ Lay L W W') ∨ (e = .returned (.bool false) ∧ Jx (pre ++ [x]) W'))
    (W : World) (hBs : W.cell? ⟨Bs, 0, none⟩ = some (.slice (some ⟨b, o, none⟩) xs.length c)) (hc : ∀ j, j < xs.length → W.cell? ⟨b, o + j, none⟩ = some (.int .i64 (xs.getD j 0))) (h0 : J [] W) :
    CallsIn Fence.wide n Try.prog 56 #[.func (.yield l) #[] #[], .pointer (some ⟨Bs, 0, none⟩)] W fun e W' => (∃ v, e = .returned v) ∧
      (J (downL xs.length) W' ∨ ∃ pre, Jx pre W') := by
  refine callsIn_of_wp Try.func56 rfl trivial ?_ rfl
  simp only [Try.ntmps56, List.size_toArray, List.length_cons, List.length_nil, Nat.reduceAdd, Nat.reduceSub, Array.replicate_succ, Array.replicate_zero, List.push_toArray, List.append_toArray, List.nil_append, List.cons_append]
  gi_wp2
  gi_loopw [3] (fun i wr => ∃ (k : Nat), k ≤ xs.length ∧ i = .int .i64 ((k : Int) - 1) ∧ J ((List.range xs.length).drop k).reverse wr ∧ Lay L W wr)
    (fun i _ => (intOf i + 1).toNat)
  case atStart => exact ⟨xs.length, Nat.le_refl _, by first | rfl | go_num, by rw [down_zero]; exact h0, Lay.refl _ _⟩
  case round =>
    obtain ⟨k, hk, rfl, hJs, hnx⟩ := hrel
    have hs0 := (hnx.cell (o := 0) hBn).trans hBs
    by_cases hk0 : k = 0
    · subst hk0
      gi_wp2
      go_end0
      exact ⟨⟨_, rfl⟩, .inl hJs⟩
    · obtain ⟨k, rfl⟩ : ∃ k', k = k' + 1 := ⟨k - 1, by omega⟩
      have hcx := (hnx.cell (o := o + k) hb).trans (hc k (by omega))
      obtain ⟨fn, tmps, assign, body, hy, hR⟩ := hY _ k wr hJs (by simp; omega)
      have HD := Lib.hid (down_step (n := xs.length) (k := k) (by omega))
      rw [show ((k + 1 : Nat) : Int) - 1 = (k : Int) by omega]
      have hkl : (k : Int) < (xs.length : Int) := by omega
      generalize xs.getD k 0 = x at *
      gi_wp2
      refine hR.mono ?_
      rintro e W3 (⟨rfl, hJ3, hk3⟩ | ⟨rfl, hJx3⟩)
      · gi_wp2
        go_roundw
        case rel => exact ⟨k, by omega, by first | rfl | go_num, by rw [HD.out]; exact hJ3, hnx.trans hk3⟩
        case measure => simp [intOf] <;> omega
      · gi_wp2
        refine bodyPost_ret (results_none rfl _ _ _) rfl ?_
        exact ⟨⟨_, rfl⟩, .inr ⟨_, hJx3⟩⟩

theorem backward_in (n : Nat) (a : Option Addr) (len cap : Nat) (w : World) :
    CallsIn Fence.wide n Try.prog 49 #[.slice a len cap] w fun e w' => e = .returned (.func (.func 56) #[] #[.pointer (some ⟨w.heap.size, 0, none⟩)]) ∧ w' = w.alloc (.cells #[.slice a len cap] 22) := by
  refine callsIn_of_wp Try.func49 rfl trivial ?_ rfl
  simp only [Try.ntmps49, List.size_toArray, List.length_cons, List.length_nil, Nat.reduceAdd, Nat.reduceSub, Array.replicate_succ, Array.replicate_zero, List.push_toArray, List.append_toArray, List.nil_append, List.cons_append]
  gi_wp2
  go_ret
  exact ⟨rfl, rfl⟩

theorem backward_seq (n Bs b o c : Nat) (xs : List Int) (L : List Nat) (c0 : Nat) (hn : 1 ≤ n) (hlen : xs.length ≤ 1000) (w : World) (hb : b ∈ L) (hBn : Bs ∈ L) (hL : ∀ k ∈ L, k < w.heap.size)
    (hBs : w.cell? ⟨Bs, 0, none⟩ = some (.slice (some ⟨b, o, none⟩) xs.length c)) (hc : ∀ j, j < xs.length → w.cell? ⟨b, o + j, none⟩ = some (.int .i64 (xs.getD j 0))) :
    SeqC n Try.prog 56 #[.pointer (some ⟨Bs, 0, none⟩)] (fun x : Nat => #[Value.int .i64 (x : Int), .int .i64 (xs.getD x 0)]) L (fun ys => ys = downL xs.length) (fun _ => True) xs.length c0 w := fun l J Jx W hW _ _ hY h0 =>
  (backward1_in n l Bs b o c xs L hn hlen hb hBn J Jx hY W ((hW.cell (p := ⟨Bs, 0, none⟩) (hL _ hBn)).trans hBs) (fun j hj => (hW.cell (p := ⟨b, o + j, none⟩) (hL _ hb)).trans (hc j hj)) h0).mono fun _ _ ⟨he, hx⟩ => ⟨he, hx.elim (fun h => .inl ⟨_, rfl, h⟩) (fun ⟨pre, h⟩ => .inr ⟨pre, trivial, h⟩)⟩

theorem OwnI.keptT {W W' : World} {B : Nat} {v : Value} {xs : List Int} {row : Option Nat} (h : OwnI W B v xs) (hg : W.grownBy W' row) (hr : ∀ r, row = some r → r < B ∨ ∃ o : Obj, W.heap[r]? = some o ∧ o.isCells = false) : OwnI W' B v xs := by
  refine World.ownsRow.kept h hg ?_
  rcases h.2 with ⟨rfl, _⟩ | ⟨g, cap, cur, rfl, hB, hgb, _⟩
  · exact .inl rfl
  · refine .inr fun e' => ?_
    rcases hr g (by simpa [Value.ownBlock] using e'.symm) with h | ⟨o, ho, hc⟩
    · omega
    · rw [hgb] at ho; cases ho; cases hc
/-- a box holds a list of one's own -/
def HoldsT (n₀ b : Nat) (xs : List Int) (W : World) : Prop := ∃ v, Boxed W b 22 v ∧ OwnI W n₀ v xs
theorem holdsT_minds {β : Type} {B c n₀ b : Nat} (f : β → List Int) (hb : b ≠ c) (hc : c < n₀) : MindsB B c (fun s W => HoldsT n₀ b (f s) W) := by
  rintro s X Y row ⟨v, hv, ho⟩ hg hrow
  refine ⟨v, mindsB_boxed b 22 (fun _ : Unit => v) hb () X Y row hv hg hrow, ho.keptT hg fun r e => ?_⟩
  rcases hrow r e with h | ⟨_, h⟩
  · left; omega
  · exact .inr h
theorem lay_appT {W w1 : World} {tmp : Obj} {v v' : Value} {xs : List Int} {n₀ B : Nat} {L : List Nat} (ho : OwnI W n₀ v xs) (hg : (W.alloc tmp).grownBy w1 v.ownBlock) (hL : ∀ k ∈ L, k < n₀ ∧ k < W.heap.size ∧ k ≠ B) : Lay L W (w1.setCell ⟨B, 0, none⟩ v') := fun k hk => by
  obtain ⟨h1, h2, h3⟩ := hL k hk
  exact (Below.heap_setCell _ _ _ k h3).trans ((hg.block k (by simp; omega) (fun e => by have := ho.lt k e.symm; omega)).trans (Below.heap_alloc W tmp k h2))
/-- the numbers of so many places, with the other sign -/
def negL (xs : List Int) (ys : List Nat) : List Int := ys.map fun i => -(xs.getD i 0)
theorem negL_snoc (xs : List Int) (ys : List Nat) (k : Nat) : negL xs (ys ++ [k]) = negL xs ys ++ [-(xs.getD k 0)] := by simp [negL]

set_option maxHeartbeats 4000000 in
theorem implTurn_any (A : Option Addr) (c : Nat) (xs : List Int) (B : Nat) (w : World) (hr : Rd w B A c xs) (hB : B ≤ w.heap.size) (hn : xs.length ≤ 1048576) :
    Calls Try.prog 30 #[.slice A xs.length c] w (Lists w (turnR xs) (jumpsB xs)) := by
  cases h : jumpsB xs
  · rw [show turnR xs = [] by simp [turnR, h]]
    go_enter Try.func30, Try.ntmps30
    go_wp2_with fail
    refine (impJumps_any _ _ _ _ _ hr hn).mono ?_
    rintro e w' ⟨rfl, rfl⟩
    rw [h]
    clear h
    go_wp2_with fail
    go_ret2
    exact ⟨_, rfl, OwnI.nil _ _, Below.refl _ _⟩
  · have hl := jumpsB_le h
    have HJ := Lib.hid (jumpsB_at h)
    have HX := Lib.hid (show negL xs (downL xs.length) = turnR xs by rw [show turnR xs = turnL xs by simp [turnR, h]]; exact turn_down xs)
    obtain ⟨b, o, rfl, hb, _⟩ := hr.at_ (k := 0) (by omega)
    have hc : ∀ j, j < xs.length → w.cell? ⟨b, o + j, none⟩ = some (.int .i64 (xs.getD j 0)) := fun j hj => by
      obtain ⟨b', o', e, _, h2⟩ := hr.at_ hj
      cases e
      exact h2
    have H := Lib.hid h
    have HC := Lib.hid hc
    clear h hc
    refine (callsIn_wide (n := 3)).1 ?_
    refine callsIn_of_wp_marks Try.func30 rfl trivial ?_ rfl
    simp only [Try.ntmps30, List.size_toArray, List.length_cons, List.length_nil, Nat.reduceAdd, Nat.reduceSub, Array.replicate_succ, Array.replicate_zero, List.push_toArray, List.append_toArray, List.nil_append, List.cons_append]
    gi_wp2_with fail
    refine ⟨trivial, (callsIn_wide.2 (impJumps_any _ _ _ _ _ hr hn)).mono ?_⟩
    rintro e w' ⟨rfl, rfl⟩
    rw [H.out]
    gi_wp2_with fail
    refine ⟨trivial, (backward_in _ _ _ _ _).mono ?_⟩
    rintro e w1 ⟨rfl, rfl⟩
    simp only [World.size_alloc]
    have x1 := (Boxed.new w 22 (.slice none 0 0)).alloc (.cells #[.slice (some ⟨b, o, none⟩) xs.length c] 22)
    have x2 := Boxed.new (w.alloc (.cells #[.slice none 0 0] 22)) 22 (.slice (some ⟨b, o, none⟩) xs.length c)
    have bW : Below w.heap.size w ((w.alloc (.cells #[.slice none 0 0] 22)).alloc (.cells #[.slice (some ⟨b, o, none⟩) xs.length c] 22)) := (below_alloc _ _).alloc (by simp) _
    have hz : ((w.alloc (.cells #[.slice none 0 0] 22)).alloc (.cells #[.slice (some ⟨b, o, none⟩) xs.length c] 22)).heap.size = w.heap.size + 2 := by simp
    simp only [World.size_alloc] at x2
    generalize hW0 : (w.alloc (.cells #[.slice none 0 0] 22)).alloc (.cells #[.slice (some ⟨b, o, none⟩) xs.length c] 22) = w0 at *
    clear hW0
    gi_wp2_with fail
    refine wpIn_rangeC (n := 3) (gf := 56) (lb := #[.pointer (some ⟨w.heap.size + 1, 0, none⟩)]) rfl (enters_of Try.func56 (by kernel_rfl) rfl)
      (backward_seq (3 - 1) (w.heap.size + 1) b o c xs [b, w.heap.size + 1] (w.heap.size + 1) (by omega) (by omega) w0 (by simp) (by simp) (by simp; omega) x2.cell (fun j hj => (bW.cell (p := ⟨b, o + j, none⟩) (by show b < _; omega)).trans (HC.out j hj))) (by simp; omega) (by omega) (fun _ => rfl)
      (fun pre W => HoldsT (w.heap.size + 2) w.heap.size (negL xs pre) W ∧ (Below w.heap.size w W ∧ w.heap.size + 2 ≤ W.heap.size))
      (fun _ _ _ => False)
      (MindsB.and (holdsT_minds _ (by omega) (by omega)) (MindsB.and (mindsB_below (Nat.le_refl _) (by omega) (by omega)) (fun _ _ _ _ hs hg _ => Nat.le_trans hs hg.size)))
      (fun j _ _ _ _ hx => hx.elim)
      ⟨⟨_, x1, OwnI.nil _ _⟩, bW, by omega⟩
      (fun x => { tmps := #[.slice (some ⟨b, o, none⟩) xs.length c, undef, .slice none 0 0, .bool false, .pointer (some ⟨w.heap.size, 0, none⟩), undef, .int .i64 (xs.getD x 0), .slice (some ⟨b, o, none⟩) xs.length c, .bool true, .bool false, .slice (some ⟨b, o, none⟩) xs.length c, .func (.func 56) #[] #[.pointer (some ⟨w.heap.size + 1, 0, none⟩)], .int .i64 (x : Int), .int .i64 (xs.getD x 0), undef, undef, undef, undef, undef, undef], defers := [] }) ?assign ?body ?done ?stop
    case assign =>
      intro l x W K hK
      gi_wp2
      exact hK
    case body =>
      rintro l pre x W ⟨⟨v, hv, ho⟩, hBW, hz5⟩ hlen
      have hwl : (negL xs pre).length = pre.length := by simp [negL]
      have HS := Lib.hid (negL_snoc xs pre x)
      have hx : -30 ≤ xs.getD x 0 ∧ xs.getD x 0 ≤ 30 := by
        by_cases hlt : x < xs.length
        · exact HJ.out x hlt
        · rw [List.getD_eq_getElem?_getD, List.getElem?_eq_none (by omega)]; simp
      generalize xs.getD x 0 = k at *
      have hwk : IntKind.i64.wrap (-k) = -k := IntWalk.i64_in _ (by omega)
      have hzW : w.heap.size ≤ W.heap.size := hBW.size
      have c1 := hv.cell
      have c2 := hv.frozen
      obtain ⟨i0, hi, hz0, hz1, hz3⟩ := info_parts int_info
      gi_wp2_with (gi_at_builtin; refine wpListIn_append_own _ rfl _ _ 22 rfl (w.heap.size + 2) 3 i0 (.int .i64 0) 1 8 Try.underlying22 hi hz0 hz1 hz3 rfl (by decide) _ _ _ rfl (World.ownsRow.alloc ho _) ⟨W.heap.size, 0, none⟩ 1 1 [.int .i64 (-k)] rfl rfl (cell_one_new _ _ _) (by simp [Value.oneCell']) (by unfold maxLen; omega) (by omega) (by simp; omega) ?_; intro v' w3 hown' hgrow _; obtain ⟨g', cap', rfl⟩ := ownsRow_succ hown'; have ho4 : OwnI w3 (w.heap.size + 2) (.slice (some ⟨g', 0, none⟩) ((negL xs pre).length + 1) cap') (negL xs pre ++ [-k]) := (by simpa [OwnI] using hown'); obtain ⟨hv1, hv3, _, hk3, hb3⟩ := Boxed.appended (n₀ := w.heap.size) (v := v) (tmp := .cells #[.int .i64 (-k)] 3) hv (by decide) (ho.mono (by omega)) (by omega) (by omega) (ho4.mono (by omega)) hgrow; have ho5 : OwnI (w3.setCell ⟨w.heap.size, 0, none⟩ (.slice (some ⟨g', 0, none⟩) ((negL xs pre).length + 1) cap')) (w.heap.size + 2) (.slice (some ⟨g', 0, none⟩) ((negL xs pre).length + 1) cap') (negL xs pre ++ [-k]) := ho4.keptT (grownBy_setCell' _ _ _) (fun r er => (by cases er; left; omega)); have hly := lay_appT (v' := .slice (some ⟨g', 0, none⟩) ((negL xs pre).length + 1) cap') (L := [b, w.heap.size + 1]) (B := w.heap.size) ho hgrow (by simp; omega); have HG := Lib.hid hgrow; clear hgrow hown'; have hc1 := hv1.cell; have hf1 := hv1.frozen)
      simp only [hwl] at hv3 ho5 hly hk3 hb3
      exact ⟨hk3.from _, hly, ⟨_, hv3, by rw [HS.out]; exact ho5⟩, hBW.trans hb3, by have := hb3.size; omega⟩
    case done =>
      rintro D ys W hD rfl ⟨⟨v, hv, ho⟩, hBW, hz5⟩ hK
      obtain ⟨Av, cv, hv', _⟩ := ho.form
      rw [HX.out] at ho hv'
      generalize (turnR xs).length = m at hv'
      subst hv'
      have m1 := hv.cell
      gi_wp2_with fail
      refine ⟨by simp, .inl ⟨_, _, rfl, run_takeDeferred hK, ?_⟩⟩
      refine ⟨.tuple #[.slice Av m cv, .bool true], ?_, _, rfl, (ho.keptT (grownBy_putObj' _ D (.deferred none)) (fun r er => by cases er; exact .inr ⟨_, hK, rfl⟩)).mono (by omega), hBW.trans (belowK_b (w := w) (Nat.le_refl _) _ D _ _ (by omega) hK rfl rfl)⟩
      simp [results, Try.f30, go_sem]
    case stop =>
      rintro D j pre W hD hS hx hK
      exact hx.elim

end Go.Proofs.Ytmolfeckeoimbaa
