/- Contracts: spirals: how many steps look to each side, on both sides. -/
import Derived.Test.YtomjebelgnecfaaSpN
import Derived.Test.YtomjebelgnecfaaGMake
import Derived.Lib.OthersKept
namespace Go.Proofs.Ytomjebelgnecfaa
open Go.RowKit

/-- how many of the steps 1..k look to the side j -/
def cntF (b : Int) (k j : Nat) : Int := ((selL (sideP b (j : Int)) k).length : Int)
theorem cntF_le (b : Int) (k j : Nat) : 0 ≤ cntF b k j ∧ cntF b k j ≤ k := by
  unfold cntF
  have := selL_length (sideP b (j : Int)) k
  omega
theorem cnt_step {b : Int} {k r : Nat} (hr : r < 4) (h : sideI b ((k : Int) + 1) = (r : Int)) : (tell 4 (cntF b k)).set r (cntF b k r + 1) = tell 4 (cntF b (k + 1)) := by
  refine tell_set hr ?_ ?_
  · unfold cntF
    rw [selL_yes (show sideP b (r : Int) ((k : Int) + 1) = true by unfold sideP; rw [h]; exact decide_eq_true rfl)]
    simp
  · intro j hj hne
    unfold cntF
    rw [selL_no (show sideP b (j : Int) ((k : Int) + 1) = false by unfold sideP; rw [h]; exact decide_eq_false (by omega))]
theorem tell_snoc (f : Nat → Int) (k : Nat) : tell (k + 1) f = tell k f ++ [f k] := by simp [tell, List.range_succ]
/-- the four counts, or none -/
def cntR (v : Bool) (a b : Int) : List Int := if v then tell 4 (cntF b a.toNat) else []
theorem cntR_length (v : Bool) (a b : Int) : (cntR v a b).length ≤ 1048576 := by
  cases v
  · simp [cntR]
  · simp [cntR, tell_length]
def lenV : Value → Nat
  | .slice _ n _ => n
  | _ => 0
theorem turned_iter (w : World) (k : Nat) (s : ByteArray) (pos : Nat) : Turned w (w.iterAt k s pos) [k] :=
  ⟨rfl, rfl, rfl, by rw [Go.Lib.iterAt_size]; exact Nat.le_refl _, fun j _ hj => Go.Lib.iterAt_other w k j s pos (by simpa using hj)⟩

set_option maxHeartbeats 4000000 in
theorem specCountSides_any (a b c : Int) (w : World) :
    Calls Try.prog 20 #[.agg #[.int .i64 a, .int .i64 b, .int .i64 c]] w fun e w' => Lists w (cntR (spiB a b c) a b) (spiB a b c) e w' := by
  cases g0 : spiB a b c
  · rw [show cntR false a b = [] from rfl]
    have H0 := Lib.hid g0
    clear g0
    go_enter Try.func20, Try.ntmps20
    go_wp2_with fail
    refine (spGood_any _ _ _ _).mono ?_
    rintro e w1 ⟨rfl, hb⟩
    have hs : w.heap.size + 1 ≤ w1.heap.size := by have := hb.size; (try simp at this); omega
    have X0 : Blk w1 (w.heap.size) 27 #[.int .i64 a, .int .i64 b, .int .i64 c] := (Blk.new' (by simp)).below hb (by simp; try omega)
    have Bt : Below w.heap.size w w1 := ((Below.refl _ _).alloc (Nat.le_refl _) _).trans (hb.mono (by simp; try omega))
    clear hb
    have c0_0 : w1.cell? ⟨w.heap.size, 0, none⟩ = some (.int .i64 a) := X0.cell 0
    have c0_1 : w1.cell? ⟨w.heap.size, 1, none⟩ = some (.int .i64 b) := X0.cell 1
    have c0_2 : w1.cell? ⟨w.heap.size, 2, none⟩ = some (.int .i64 c) := X0.cell 2
    rw [H0.out]
    go_wp2_with fail
    go_ret2
    exact ⟨_, rfl, OwnI.nil _ _, Bt⟩
  · have b0 := spiB_le g0
    rw [show cntR true a b = tell 4 (cntF b a.toNat) from rfl]
    have H0 := Lib.hid g0
    clear g0
    go_enter Try.func20, Try.ntmps20
    go_wp2_with fail
    refine (spGood_any _ _ _ _).mono ?_
    rintro e w1 ⟨rfl, hb⟩
    have hs : w.heap.size + 1 ≤ w1.heap.size := by have := hb.size; (try simp at this); omega
    have X0 : Blk w1 (w.heap.size) 27 #[.int .i64 a, .int .i64 b, .int .i64 c] := (Blk.new' (by simp)).below hb (by simp; try omega)
    have Bt : Below w.heap.size w w1 := ((Below.refl _ _).alloc (Nat.le_refl _) _).trans (hb.mono (by simp; try omega))
    clear hb
    have c0_0 : w1.cell? ⟨w.heap.size, 0, none⟩ = some (.int .i64 a) := X0.cell 0
    have c0_1 : w1.cell? ⟨w.heap.size, 1, none⟩ = some (.int .i64 b) := X0.cell 1
    have c0_2 : w1.cell? ⟨w.heap.size, 2, none⟩ = some (.int .i64 c) := X0.cell 2
    rw [H0.out]
    have hmk : ∀ u : World, (Instr.makeSlice 24 (.int .i64 4) (.int .i64 4)).run Try.prog u = .ok (.slice (some ⟨u.heap.size, 0, none⟩) 4 4) (u.alloc (.cells (ints (List.replicate 4 0)) 3)) := fun u => make_run 4 (by omega) u
    go_wp2_with fail
    clear hmk
    go_loopw [5] (fun i wr => ∃ (s : Int) (k : Nat), i = .int .i64 s ∧ s ≤ (k : Int) + 1 ∧ (k : Int) + 1 ≤ s ∧ k ≤ a.toNat ∧ Blk wr w1.heap.size 3 (ints (tell 4 (cntF b k))) ∧ Below w1.heap.size w1 wr) (fun i _ => (500 - intOf i).toNat)
    case atStart => exact ⟨1, 0, rfl, by omega, by omega, Nat.zero_le _, Blk.new _ _ _, below_alloc _ _⟩
    case round =>
      obtain ⟨s, k, rfl, hs1, hs2, hk, hX, hbw⟩ := hrel
      have d0 := keepC hbw c0_0
      have d1 := keepC hbw c0_1
      have d2 := keepC hbw c0_2
      have hz : w1.heap.size ≤ wr.heap.size := hbw.size
      have hXl := hX.lt
      by_cases hlt : s ≤ a
      · have hsk : (k : Int) + 1 = s := by omega
        rcases side_four b s with hr | hr | hr | hr
        · have HA := Lib.hid hr
          have HT := Lib.hid (cnt_step (b := b) (k := k) (r := 0) (by omega) (by rw [hsk, hr]; rfl))
          obtain ⟨y0, y1⟩ := cntF_le b k 0
          have HY := Lib.hid (tell_getD 4 (cntF b k) 0 (by omega))
          generalize cntF b k 0 = y at *
          clear hr hsk
          go_wp2_with fail
          refine (spSide_any a b c s (by omega) (by omega) (by omega) (by omega) _).mono ?_
          rintro e w5 ⟨rfl, hb5⟩
          rw [HA.out]
          have X5 := hX.below hb5 hXl
          have hx : w5.cell? ⟨w1.heap.size, 0, none⟩ = some (.int .i64 y) := by have := X5.int_at (k := 0) (by rw [tell_length]; omega); rw [HY.out] at this; exact this
          have hf := X5.frozen 0
          go_wp2_with fail
          go_roundw
          case rel => exact ⟨s + 1, k + 1, rfl, by omega, by omega, by omega, by rw [← HT.out]; exact X5.int_set 0 (y + 1), (hbw.trans (hb5.mono hz)).setCell (Nat.le_refl _) _⟩
          case measure => simp [intOf]; omega
        · have HA := Lib.hid hr
          have HT := Lib.hid (cnt_step (b := b) (k := k) (r := 1) (by omega) (by rw [hsk, hr]; rfl))
          obtain ⟨y0, y1⟩ := cntF_le b k 1
          have HY := Lib.hid (tell_getD 4 (cntF b k) 1 (by omega))
          generalize cntF b k 1 = y at *
          clear hr hsk
          go_wp2_with fail
          refine (spSide_any a b c s (by omega) (by omega) (by omega) (by omega) _).mono ?_
          rintro e w5 ⟨rfl, hb5⟩
          rw [HA.out]
          have X5 := hX.below hb5 hXl
          have hx : w5.cell? ⟨w1.heap.size, 1, none⟩ = some (.int .i64 y) := by have := X5.int_at (k := 1) (by rw [tell_length]; omega); rw [HY.out] at this; exact this
          have hf := X5.frozen 1
          go_wp2_with fail
          go_roundw
          case rel => exact ⟨s + 1, k + 1, rfl, by omega, by omega, by omega, by rw [← HT.out]; exact X5.int_set 1 (y + 1), (hbw.trans (hb5.mono hz)).setCell (Nat.le_refl _) _⟩
          case measure => simp [intOf]; omega
        · have HA := Lib.hid hr
          have HT := Lib.hid (cnt_step (b := b) (k := k) (r := 2) (by omega) (by rw [hsk, hr]; rfl))
          obtain ⟨y0, y1⟩ := cntF_le b k 2
          have HY := Lib.hid (tell_getD 4 (cntF b k) 2 (by omega))
          generalize cntF b k 2 = y at *
          clear hr hsk
          go_wp2_with fail
          refine (spSide_any a b c s (by omega) (by omega) (by omega) (by omega) _).mono ?_
          rintro e w5 ⟨rfl, hb5⟩
          rw [HA.out]
          have X5 := hX.below hb5 hXl
          have hx : w5.cell? ⟨w1.heap.size, 2, none⟩ = some (.int .i64 y) := by have := X5.int_at (k := 2) (by rw [tell_length]; omega); rw [HY.out] at this; exact this
          have hf := X5.frozen 2
          go_wp2_with fail
          go_roundw
          case rel => exact ⟨s + 1, k + 1, rfl, by omega, by omega, by omega, by rw [← HT.out]; exact X5.int_set 2 (y + 1), (hbw.trans (hb5.mono hz)).setCell (Nat.le_refl _) _⟩
          case measure => simp [intOf]; omega
        · have HA := Lib.hid hr
          have HT := Lib.hid (cnt_step (b := b) (k := k) (r := 3) (by omega) (by rw [hsk, hr]; rfl))
          obtain ⟨y0, y1⟩ := cntF_le b k 3
          have HY := Lib.hid (tell_getD 4 (cntF b k) 3 (by omega))
          generalize cntF b k 3 = y at *
          clear hr hsk
          go_wp2_with fail
          refine (spSide_any a b c s (by omega) (by omega) (by omega) (by omega) _).mono ?_
          rintro e w5 ⟨rfl, hb5⟩
          rw [HA.out]
          have X5 := hX.below hb5 hXl
          have hx : w5.cell? ⟨w1.heap.size, 3, none⟩ = some (.int .i64 y) := by have := X5.int_at (k := 3) (by rw [tell_length]; omega); rw [HY.out] at this; exact this
          have hf := X5.frozen 3
          go_wp2_with fail
          go_roundw
          case rel => exact ⟨s + 1, k + 1, rfl, by omega, by omega, by omega, by rw [← HT.out]; exact X5.int_set 3 (y + 1), (hbw.trans (hb5.mono hz)).setCell (Nat.le_refl _) _⟩
          case measure => simp [intOf]; omega
      · obtain rfl : k = a.toNat := by omega
        have HO := hX.own (by rw [tell_length]; omega)
        rw [tell_length] at HO
        go_wp2
        go_ret2
        exact ⟨_, rfl, HO.mono (by omega), Bt.trans (hbw.mono (by omega))⟩

set_option maxHeartbeats 4000000 in
theorem implCountSides_any (a b c : Int) (w : World) :
    Calls Try.prog 21 #[.agg #[.int .i64 a, .int .i64 b, .int .i64 c]] w fun e w' => Lists w (cntR (spiB a b c) a b) (spiB a b c) e w' := by
  cases g0 : spiB a b c
  · rw [show cntR false a b = [] from rfl]
    have H0 := Lib.hid g0
    clear g0
    go_enter Try.func21, Try.ntmps21
    go_wp2_with fail
    refine (impSpi_any _ _ _ _).mono ?_
    rintro e w1 ⟨rfl, hb⟩
    have hs : w.heap.size + 1 ≤ w1.heap.size := by have := hb.size; (try simp at this); omega
    have X0 : Blk w1 (w.heap.size) 27 #[.int .i64 a, .int .i64 b, .int .i64 c] := (Blk.new' (by simp)).below hb (by simp; try omega)
    have Bt : Below w.heap.size w w1 := ((Below.refl _ _).alloc (Nat.le_refl _) _).trans (hb.mono (by simp; try omega))
    clear hb
    have c0_0 : w1.cell? ⟨w.heap.size, 0, none⟩ = some (.int .i64 a) := X0.cell 0
    have c0_1 : w1.cell? ⟨w.heap.size, 1, none⟩ = some (.int .i64 b) := X0.cell 1
    have c0_2 : w1.cell? ⟨w.heap.size, 2, none⟩ = some (.int .i64 c) := X0.cell 2
    rw [H0.out]
    go_wp2_with fail
    go_ret2
    exact ⟨_, rfl, OwnI.nil _ _, Bt⟩
  · have b0 := spiB_le g0
    rw [show cntR true a b = tell 4 (cntF b a.toNat) from rfl]
    have HSD0 := Lib.hid (show sdB a b c ⟨#[110]⟩ = true by unfold sdB; rw [g0]; rfl)
    have HSD1 := Lib.hid (show sdB a b c ⟨#[101]⟩ = true by unfold sdB; rw [g0]; rfl)
    have HSD2 := Lib.hid (show sdB a b c ⟨#[115]⟩ = true by unfold sdB; rw [g0]; rfl)
    have HSD3 := Lib.hid (show sdB a b c ⟨#[119]⟩ = true by unfold sdB; rw [g0]; rfl)
    have H0 := Lib.hid g0
    clear g0
    go_enter Try.func21, Try.ntmps21
    go_wp2_with fail
    refine (impSpi_any _ _ _ _).mono ?_
    rintro e w1 ⟨rfl, hb⟩
    have hs : w.heap.size + 1 ≤ w1.heap.size := by have := hb.size; (try simp at this); omega
    have X0 : Blk w1 (w.heap.size) 27 #[.int .i64 a, .int .i64 b, .int .i64 c] := (Blk.new' (by simp)).below hb (by simp; try omega)
    have Bt : Below w.heap.size w w1 := ((Below.refl _ _).alloc (Nat.le_refl _) _).trans (hb.mono (by simp; try omega))
    clear hb
    have c0_0 : w1.cell? ⟨w.heap.size, 0, none⟩ = some (.int .i64 a) := X0.cell 0
    have c0_1 : w1.cell? ⟨w.heap.size, 1, none⟩ = some (.int .i64 b) := X0.cell 1
    have c0_2 : w1.cell? ⟨w.heap.size, 2, none⟩ = some (.int .i64 c) := X0.cell 2
    rw [H0.out]
    go_wp2_with fail
    go_loopw [4] (fun v wr => ∃ (k : Nat), k ≤ 4 ∧ lenV v = k ∧ OwnI wr (w1.heap.size + 1) v (tell k (cntF b a.toNat)) ∧ wr.heap[w1.heap.size]? = some (.stringIter ⟨#[110, 101, 115, 119]⟩ k) ∧ Below w1.heap.size w1 wr) (fun v _ => 4 - lenV v)
    case atStart => exact ⟨0, by omega, rfl, OwnI.nil _ _, heap_alloc_new _ _, below_alloc _ _⟩
    case round =>
      obtain ⟨k, hk, hv, hown, hit, hbw⟩ := hrel
      have hz : w1.heap.size ≤ wr.heap.size := hbw.size
      obtain rfl | rfl | rfl | rfl | rfl : k = 0 ∨ k = 1 ∨ k = 2 ∨ k = 3 ∨ k = 4 := by omega
      · have hnx := fun ty => (show (Instr.next (.pointer (some ⟨w1.heap.size, 0, none⟩)) true ty).run Try.prog wr = .ok (.tuple #[.bool true, .int .i64 0, .int .i32 110]) (wr.iterAt w1.heap.size ⟨#[110, 101, 115, 119]⟩ 1) from Go.Lib.run_next_ascii_at wr w1.heap.size ⟨#[110, 101, 115, 119]⟩ 0 ty hit (by decide) (by decide))
        have hit' := Go.Lib.iterAt_heap wr w1.heap.size ⟨#[110, 101, 115, 119]⟩ 0 1 hit
        have hown' := hown.turned (turned_iter wr w1.heap.size ⟨#[110, 101, 115, 119]⟩ 1) (fun q hq he => by have := (hown.lt q hq).1; simp at he; omega)
        have hbw' := Go.Lib.below_iterAt hbw (Nat.le_refl _) ⟨#[110, 101, 115, 119]⟩ 1
        have hT := Lib.hid (tell_snoc (cntF b a.toNat) 0)
        have hy := cntF_le b a.toNat 0
        have HL := Lib.hid (show selR (sdB a b c ⟨#[110]⟩) (sideP b (sdI ⟨#[110]⟩)) a = selL (sideP b ((0 : Nat) : Int)) a.toNat by rw [HSD0.out]; rfl)
        have HY := Lib.hid (show ((selL (sideP b ((0 : Nat) : Int)) a.toNat).length : Int) = cntF b a.toNat 0 from rfl)
        generalize selL (sideP b ((0 : Nat) : Int)) a.toNat = xs at *
        generalize cntF b a.toNat 0 = y at *
        generalize wr.iterAt w1.heap.size ⟨#[110, 101, 115, 119]⟩ 1 = W1 at *
        have X1 := X0.below hbw' (by omega)
        obtain ⟨d0, d1, d2⟩ := X1.three
        have hz1 : w1.heap.size ≤ W1.heap.size := hbw'.size
        have hl1 : w1.heap.size + 1 ≤ W1.heap.size := (Array.getElem?_eq_some_iff.1 hit').1
        obtain ⟨A0, q0, rfl, _⟩ := hown'.form
        clear hown hit hbw hv
        go_wp2_with fail
        refine (implStepsAtSide_any a b c ⟨#[110]⟩ _).mono ?_
        rintro e w5 ⟨v5, rfl, hO, hb5⟩
        rw [HL.out] at hO
        rw [HSD0.out]
        obtain ⟨A5, q5, rfl, _⟩ := hO.form
        have hz5 := hb5.size
        have hown5 := hown'.below hb5 (Nat.le_refl _)
        have hit5 := (hb5.block w1.heap.size (by omega)).trans hit'
        have HB5 := Lib.hid (hbw'.trans (hb5.mono hz1))
        generalize hln : xs.length = n at *
        clear hO hln hown' hbw' hb5
        rw [tell_length] at hown5 ⊢
        obtain ⟨zs, hzs⟩ : ∃ zs, tell 0 (cntF b a.toNat) = zs := ⟨_, rfl⟩
        rw [hzs] at hown5
        have hzl : zs.length ≤ 0 := by rw [← hzs, tell_length]; exact Nat.le_refl _
        have hzm : 0 ≤ zs.length := by rw [← hzs, tell_length]; exact Nat.le_refl _
        have HZ := Lib.hid hzs
        clear hzs
        go_wp2_with (at_builtin; refine wpList_pushI _ rfl _ _ rfl (w1.heap.size + 1) _ zs rfl (hown5.alloc _) _ n rfl ((Blk.new' rfl).cell 0) (by omega) (by simp; omega) ?_; intro A1 c1 w3 hown1 hg1)
        go_roundw
        case rel => exact ⟨1, by omega, by show zs.length + 1 = 1; omega, by rw [hT.out, HZ.out, ← HY.out]; exact hown1, (hg1.block w1.heap.size (by omega)).trans ((Below.heap_alloc _ _ _ (by omega)).trans hit5), (HB5.out.alloc (by omega) _).trans (hg1.mono (by omega))⟩
        case measure => simp [lenV, tell_length]; omega
      · have hnx := fun ty => (show (Instr.next (.pointer (some ⟨w1.heap.size, 0, none⟩)) true ty).run Try.prog wr = .ok (.tuple #[.bool true, .int .i64 1, .int .i32 101]) (wr.iterAt w1.heap.size ⟨#[110, 101, 115, 119]⟩ 2) from Go.Lib.run_next_ascii_at wr w1.heap.size ⟨#[110, 101, 115, 119]⟩ 1 ty hit (by decide) (by decide))
        have hit' := Go.Lib.iterAt_heap wr w1.heap.size ⟨#[110, 101, 115, 119]⟩ 1 2 hit
        have hown' := hown.turned (turned_iter wr w1.heap.size ⟨#[110, 101, 115, 119]⟩ 2) (fun q hq he => by have := (hown.lt q hq).1; simp at he; omega)
        have hbw' := Go.Lib.below_iterAt hbw (Nat.le_refl _) ⟨#[110, 101, 115, 119]⟩ 2
        have hT := Lib.hid (tell_snoc (cntF b a.toNat) 1)
        have hy := cntF_le b a.toNat 1
        have HL := Lib.hid (show selR (sdB a b c ⟨#[101]⟩) (sideP b (sdI ⟨#[101]⟩)) a = selL (sideP b ((1 : Nat) : Int)) a.toNat by rw [HSD1.out]; rfl)
        have HY := Lib.hid (show ((selL (sideP b ((1 : Nat) : Int)) a.toNat).length : Int) = cntF b a.toNat 1 from rfl)
        generalize selL (sideP b ((1 : Nat) : Int)) a.toNat = xs at *
        generalize cntF b a.toNat 1 = y at *
        generalize wr.iterAt w1.heap.size ⟨#[110, 101, 115, 119]⟩ 2 = W1 at *
        have X1 := X0.below hbw' (by omega)
        obtain ⟨d0, d1, d2⟩ := X1.three
        have hz1 : w1.heap.size ≤ W1.heap.size := hbw'.size
        have hl1 : w1.heap.size + 1 ≤ W1.heap.size := (Array.getElem?_eq_some_iff.1 hit').1
        obtain ⟨A0, q0, rfl, _⟩ := hown'.form
        clear hown hit hbw hv
        go_wp2_with fail
        refine (implStepsAtSide_any a b c ⟨#[101]⟩ _).mono ?_
        rintro e w5 ⟨v5, rfl, hO, hb5⟩
        rw [HL.out] at hO
        rw [HSD1.out]
        obtain ⟨A5, q5, rfl, _⟩ := hO.form
        have hz5 := hb5.size
        have hown5 := hown'.below hb5 (Nat.le_refl _)
        have hit5 := (hb5.block w1.heap.size (by omega)).trans hit'
        have HB5 := Lib.hid (hbw'.trans (hb5.mono hz1))
        generalize hln : xs.length = n at *
        clear hO hln hown' hbw' hb5
        rw [tell_length] at hown5 ⊢
        obtain ⟨zs, hzs⟩ : ∃ zs, tell 1 (cntF b a.toNat) = zs := ⟨_, rfl⟩
        rw [hzs] at hown5
        have hzl : zs.length ≤ 1 := by rw [← hzs, tell_length]; exact Nat.le_refl _
        have hzm : 1 ≤ zs.length := by rw [← hzs, tell_length]; exact Nat.le_refl _
        have HZ := Lib.hid hzs
        clear hzs
        go_wp2_with (at_builtin; refine wpList_pushI _ rfl _ _ rfl (w1.heap.size + 1) _ zs rfl (hown5.alloc _) _ n rfl ((Blk.new' rfl).cell 0) (by omega) (by simp; omega) ?_; intro A1 c1 w3 hown1 hg1)
        go_roundw
        case rel => exact ⟨2, by omega, by show zs.length + 1 = 2; omega, by rw [hT.out, HZ.out, ← HY.out]; exact hown1, (hg1.block w1.heap.size (by omega)).trans ((Below.heap_alloc _ _ _ (by omega)).trans hit5), (HB5.out.alloc (by omega) _).trans (hg1.mono (by omega))⟩
        case measure => simp [lenV, tell_length]; omega
      · have hnx := fun ty => (show (Instr.next (.pointer (some ⟨w1.heap.size, 0, none⟩)) true ty).run Try.prog wr = .ok (.tuple #[.bool true, .int .i64 2, .int .i32 115]) (wr.iterAt w1.heap.size ⟨#[110, 101, 115, 119]⟩ 3) from Go.Lib.run_next_ascii_at wr w1.heap.size ⟨#[110, 101, 115, 119]⟩ 2 ty hit (by decide) (by decide))
        have hit' := Go.Lib.iterAt_heap wr w1.heap.size ⟨#[110, 101, 115, 119]⟩ 2 3 hit
        have hown' := hown.turned (turned_iter wr w1.heap.size ⟨#[110, 101, 115, 119]⟩ 3) (fun q hq he => by have := (hown.lt q hq).1; simp at he; omega)
        have hbw' := Go.Lib.below_iterAt hbw (Nat.le_refl _) ⟨#[110, 101, 115, 119]⟩ 3
        have hT := Lib.hid (tell_snoc (cntF b a.toNat) 2)
        have hy := cntF_le b a.toNat 2
        have HL := Lib.hid (show selR (sdB a b c ⟨#[115]⟩) (sideP b (sdI ⟨#[115]⟩)) a = selL (sideP b ((2 : Nat) : Int)) a.toNat by rw [HSD2.out]; rfl)
        have HY := Lib.hid (show ((selL (sideP b ((2 : Nat) : Int)) a.toNat).length : Int) = cntF b a.toNat 2 from rfl)
        generalize selL (sideP b ((2 : Nat) : Int)) a.toNat = xs at *
        generalize cntF b a.toNat 2 = y at *
        generalize wr.iterAt w1.heap.size ⟨#[110, 101, 115, 119]⟩ 3 = W1 at *
        have X1 := X0.below hbw' (by omega)
        obtain ⟨d0, d1, d2⟩ := X1.three
        have hz1 : w1.heap.size ≤ W1.heap.size := hbw'.size
        have hl1 : w1.heap.size + 1 ≤ W1.heap.size := (Array.getElem?_eq_some_iff.1 hit').1
        obtain ⟨A0, q0, rfl, _⟩ := hown'.form
        clear hown hit hbw hv
        go_wp2_with fail
        refine (implStepsAtSide_any a b c ⟨#[115]⟩ _).mono ?_
        rintro e w5 ⟨v5, rfl, hO, hb5⟩
        rw [HL.out] at hO
        rw [HSD2.out]
        obtain ⟨A5, q5, rfl, _⟩ := hO.form
        have hz5 := hb5.size
        have hown5 := hown'.below hb5 (Nat.le_refl _)
        have hit5 := (hb5.block w1.heap.size (by omega)).trans hit'
        have HB5 := Lib.hid (hbw'.trans (hb5.mono hz1))
        generalize hln : xs.length = n at *
        clear hO hln hown' hbw' hb5
        rw [tell_length] at hown5 ⊢
        obtain ⟨zs, hzs⟩ : ∃ zs, tell 2 (cntF b a.toNat) = zs := ⟨_, rfl⟩
        rw [hzs] at hown5
        have hzl : zs.length ≤ 2 := by rw [← hzs, tell_length]; exact Nat.le_refl _
        have hzm : 2 ≤ zs.length := by rw [← hzs, tell_length]; exact Nat.le_refl _
        have HZ := Lib.hid hzs
        clear hzs
        go_wp2_with (at_builtin; refine wpList_pushI _ rfl _ _ rfl (w1.heap.size + 1) _ zs rfl (hown5.alloc _) _ n rfl ((Blk.new' rfl).cell 0) (by omega) (by simp; omega) ?_; intro A1 c1 w3 hown1 hg1)
        go_roundw
        case rel => exact ⟨3, by omega, by show zs.length + 1 = 3; omega, by rw [hT.out, HZ.out, ← HY.out]; exact hown1, (hg1.block w1.heap.size (by omega)).trans ((Below.heap_alloc _ _ _ (by omega)).trans hit5), (HB5.out.alloc (by omega) _).trans (hg1.mono (by omega))⟩
        case measure => simp [lenV, tell_length]; omega
      · have hnx := fun ty => (show (Instr.next (.pointer (some ⟨w1.heap.size, 0, none⟩)) true ty).run Try.prog wr = .ok (.tuple #[.bool true, .int .i64 3, .int .i32 119]) (wr.iterAt w1.heap.size ⟨#[110, 101, 115, 119]⟩ 4) from Go.Lib.run_next_ascii_at wr w1.heap.size ⟨#[110, 101, 115, 119]⟩ 3 ty hit (by decide) (by decide))
        have hit' := Go.Lib.iterAt_heap wr w1.heap.size ⟨#[110, 101, 115, 119]⟩ 3 4 hit
        have hown' := hown.turned (turned_iter wr w1.heap.size ⟨#[110, 101, 115, 119]⟩ 4) (fun q hq he => by have := (hown.lt q hq).1; simp at he; omega)
        have hbw' := Go.Lib.below_iterAt hbw (Nat.le_refl _) ⟨#[110, 101, 115, 119]⟩ 4
        have hT := Lib.hid (tell_snoc (cntF b a.toNat) 3)
        have hy := cntF_le b a.toNat 3
        have HL := Lib.hid (show selR (sdB a b c ⟨#[119]⟩) (sideP b (sdI ⟨#[119]⟩)) a = selL (sideP b ((3 : Nat) : Int)) a.toNat by rw [HSD3.out]; rfl)
        have HY := Lib.hid (show ((selL (sideP b ((3 : Nat) : Int)) a.toNat).length : Int) = cntF b a.toNat 3 from rfl)
        generalize selL (sideP b ((3 : Nat) : Int)) a.toNat = xs at *
        generalize cntF b a.toNat 3 = y at *
        generalize wr.iterAt w1.heap.size ⟨#[110, 101, 115, 119]⟩ 4 = W1 at *
        have X1 := X0.below hbw' (by omega)
        obtain ⟨d0, d1, d2⟩ := X1.three
        have hz1 : w1.heap.size ≤ W1.heap.size := hbw'.size
        have hl1 : w1.heap.size + 1 ≤ W1.heap.size := (Array.getElem?_eq_some_iff.1 hit').1
        obtain ⟨A0, q0, rfl, _⟩ := hown'.form
        clear hown hit hbw hv
        go_wp2_with fail
        refine (implStepsAtSide_any a b c ⟨#[119]⟩ _).mono ?_
        rintro e w5 ⟨v5, rfl, hO, hb5⟩
        rw [HL.out] at hO
        rw [HSD3.out]
        obtain ⟨A5, q5, rfl, _⟩ := hO.form
        have hz5 := hb5.size
        have hown5 := hown'.below hb5 (Nat.le_refl _)
        have hit5 := (hb5.block w1.heap.size (by omega)).trans hit'
        have HB5 := Lib.hid (hbw'.trans (hb5.mono hz1))
        generalize hln : xs.length = n at *
        clear hO hln hown' hbw' hb5
        rw [tell_length] at hown5 ⊢
        obtain ⟨zs, hzs⟩ : ∃ zs, tell 3 (cntF b a.toNat) = zs := ⟨_, rfl⟩
        rw [hzs] at hown5
        have hzl : zs.length ≤ 3 := by rw [← hzs, tell_length]; exact Nat.le_refl _
        have hzm : 3 ≤ zs.length := by rw [← hzs, tell_length]; exact Nat.le_refl _
        have HZ := Lib.hid hzs
        clear hzs
        go_wp2_with (at_builtin; refine wpList_pushI _ rfl _ _ rfl (w1.heap.size + 1) _ zs rfl (hown5.alloc _) _ n rfl ((Blk.new' rfl).cell 0) (by omega) (by simp; omega) ?_; intro A1 c1 w3 hown1 hg1)
        go_roundw
        case rel => exact ⟨4, by omega, by show zs.length + 1 = 4; omega, by rw [hT.out, HZ.out, ← HY.out]; exact hown1, (hg1.block w1.heap.size (by omega)).trans ((Below.heap_alloc _ _ _ (by omega)).trans hit5), (HB5.out.alloc (by omega) _).trans (hg1.mono (by omega))⟩
        case measure => simp [lenV, tell_length]; omega
      · have hnx := fun ty => Go.Lib.run_next_end_at (P := Try.prog) wr w1.heap.size ⟨#[110, 101, 115, 119]⟩ 4 ty hit (by decide)
        go_wp2_with fail
        go_ret2
        exact ⟨_, rfl, hown.mono (by omega), Bt.trans (hbw.mono (by omega))⟩


end Go.Proofs.Ytomjebelgnecfaa
