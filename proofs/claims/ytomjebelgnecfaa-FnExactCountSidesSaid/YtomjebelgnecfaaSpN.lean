/- Contracts: spirals: steps that look to a side, on both sides. -/
import Derived.Test.YtomjebelgnecfaaSpA
import Derived.Test.YtomjebelgnecfaaSpM
import Derived.Test.YtomjebelgnecfaaSpS
import Derived.Test.YtomjebelgnecfaaShelf
import Derived.Deep.RegionHeld3
import Derived.WideShapes
namespace Go.Proofs.Ytomjebelgnecfaa
open Go.RowKit

/-- the side that a text tells: 0, 1, 2, 3, or -1 -/
def sdI (x : ByteArray) : Int := if x = ⟨#[110]⟩ then 0 else if x = ⟨#[101]⟩ then 1 else if x = ⟨#[115]⟩ then 2 else if x = ⟨#[119]⟩ then 3 else -1
theorem sd_cases (x : ByteArray) : (x = ⟨#[110]⟩ ∧ sdI x = 0) ∨ (x = ⟨#[101]⟩ ∧ sdI x = 1) ∨ (x = ⟨#[115]⟩ ∧ sdI x = 2) ∨ (x = ⟨#[119]⟩ ∧ sdI x = 3) ∨ (sdI x = -1 ∧ ¬ x = ⟨#[110]⟩ ∧ ¬ x = ⟨#[101]⟩ ∧ ¬ x = ⟨#[115]⟩ ∧ ¬ x = ⟨#[119]⟩) := by
  by_cases h0 : x = ⟨#[110]⟩
  · subst h0; exact .inl ⟨rfl, rfl⟩
  by_cases h1 : x = ⟨#[101]⟩
  · subst h1; exact .inr (.inl ⟨rfl, rfl⟩)
  by_cases h2 : x = ⟨#[115]⟩
  · subst h2; exact .inr (.inr (.inl ⟨rfl, rfl⟩))
  by_cases h3 : x = ⟨#[119]⟩
  · subst h3; exact .inr (.inr (.inr (.inl ⟨rfl, rfl⟩)))
  · exact .inr (.inr (.inr (.inr ⟨by simp [sdI, h0, h1, h2, h3], h0, h1, h2, h3⟩)))
def sdB (a b c : Int) (x : ByteArray) : Bool := spiB a b c && decide (0 ≤ sdI x)
theorem sdB_le {a b c : Int} {x : ByteArray} (h : sdB a b c x = true) : 1 ≤ a ∧ a ≤ 400 := by
  simp only [sdB, Bool.and_eq_true] at h
  have := spiB_le h.1
  omega
def sideP (b j k : Int) : Bool := decide (sideI b k = j)
theorem side_list {r j : Int} (hr : r = 0 ∨ r = 1 ∨ r = 2 ∨ r = 3) (hj : j = 0 ∨ j = 1 ∨ j = 2 ∨ j = 3) : ((sideS r).toList == (sideS j).toList) = decide (r = j) := by
  rcases hr with rfl | rfl | rfl | rfl <;> rcases hj with rfl | rfl | rfl | rfl <;> decide +kernel
theorem text_no {a b : ByteArray} (h : ¬ a = b) : (a.toList == b.toList) = false := by
  rw [beq_eq_false_iff_ne]
  intro e
  exact h (Go.WideShapes.bytes_inj (by rwa [ByteArray.toList_eq, ByteArray.toList_eq] at e))
theorem byte_ne {x : ByteArray} {u : UInt8} (h : ¬ x = ⟨#[u]⟩) : (x.toList == [u]) = false := by
  have := text_no h
  rwa [show (⟨#[u]⟩ : ByteArray).toList = [u] by rw [ByteArray.toList_eq]] at this
theorem one_byte {x : ByteArray} (h : x.size = 1) : ∃ u, x = ⟨#[u]⟩ := by
  obtain ⟨d⟩ := x
  obtain ⟨l⟩ := d
  match l, h with
  | [u], _ => exact ⟨u, rfl⟩
theorem not_in {u : UInt8} (h0 : ¬ u = 110) (h1 : ¬ u = 101) (h2 : ¬ u = 115) (h3 : ¬ u = 119) : decide (0 ≤ Lib.indexByte (⟨#[110, 101, 115, 119]⟩ : ByteArray).data.toList u) = false := by
  simp [Lib.indexByte, Ne.symm h0, Ne.symm h1, Ne.symm h2, Ne.symm h3]

set_option maxHeartbeats 2000000 in
theorem sideC_any (a b c k j : Int) (gs gd : Nat) (h0 : 3 ≤ b) (h1 : b ≤ 60) (h2 : 1 ≤ k) (h3 : k ≤ 400) (hj : j = 0 ∨ j = 1 ∨ j = 2 ∨ j = 3) (w : World) (hS : Blk w gs 27 #[.int .i64 a, .int .i64 b, .int .i64 c]) (hD : Blk w gd 9 #[.string (sideS j)]) :
    Calls Try.prog 40 #[.int .i64 k, .pointer (some ⟨gs, 0, none⟩), .pointer (some ⟨gd, 0, none⟩)] w fun e w' => e = .returned (.bool (sideP b j k)) ∧ Below w.heap.size w w' := by
  obtain ⟨c0, c1, c2⟩ := hS.three
  have d0 : w.cell? ⟨gd, 0, none⟩ = some (.string (sideS j)) := hD.cell 0
  have hl := hS.lt
  have hl2 := hD.lt
  have hf := side_four b k
  obtain ⟨r, hr⟩ : ∃ r, sideI b k = r := ⟨_, rfl⟩
  have HR0 : decide (r = j) = sideP b j k := by unfold sideP; rw [hr]
  rw [hr] at hf
  have HA := Lib.hid hr
  rw [← side_list hf hj] at HR0
  clear hr hf hj
  obtain ⟨z, hz⟩ : ∃ z, sideS j = z := ⟨_, rfl⟩
  obtain ⟨y, hy⟩ : ∃ y, sideS r = y := ⟨_, rfl⟩
  have HY := Lib.hid hy
  rw [hz] at d0 HR0
  rw [hy] at HR0
  have HR := Lib.hid HR0
  clear hD hz hy HR0
  go_enter Try.func40, Try.ntmps40
  go_wp2_with fail
  go_region_held3 (fun u => u.cell? ⟨gs, 0, none⟩ = some (.int .i64 a) ∧ u.cell? ⟨gs, 1, none⟩ = some (.int .i64 b) ∧ u.cell? ⟨gs, 2, none⟩ = some (.int .i64 c) ∧ u.cell? ⟨gd, 0, none⟩ = some (.string z)) (first | exact ⟨c0, c1, c2, d0⟩ | exact ⟨x0, x1, x2, x3⟩)
    (first
      | (go_at_call 41; (refine (sideOf_any a b c k (by omega) (by omega) (by omega) (by omega) w.drew).mono ?_); rintro e w5 ⟨rfl, hb5'⟩; rw [HA.out, HY.out]; have hb5 : Below w.heap.size w w5 := below_undrew hb5'; have x0 := keepC hb5 c0; have x1 := keepC hb5 c1; have x2 := keepC hb5 c2; have x3 := keepC hb5 d0)
    )
  all_goals go_wp2_with fail
  all_goals go_ret
  all_goals exact ⟨ret_bool HR.out, hb5⟩

set_option maxHeartbeats 4000000 in
theorem implStepsAtSide_any (a b c : Int) (x : ByteArray) (w : World) :
    Calls Try.prog 19 #[.agg #[.int .i64 a, .int .i64 b, .int .i64 c], .string x] w fun e w' => Lists w (selR (sdB a b c x) (sideP b (sdI x)) a) (sdB a b c x) e w' := by
  cases g0 : spiB a b c
  · rw [show sdB a b c x = false by simp [sdB, g0], selR_no]
    have H0 := Lib.hid g0
    clear g0
    go_enter Try.func19, Try.ntmps19
    go_wp2_with fail
    refine (impSpi_any _ _ _ _).mono ?_
    rintro e w1 ⟨rfl, hb⟩
    have hs : w.heap.size + 2 ≤ w1.heap.size := by have := hb.size; (try simp at this); omega
    have X0 : Blk w1 (w.heap.size) 27 #[.int .i64 a, .int .i64 b, .int .i64 c] := ((Blk.new' (by simp)).alloc _).below hb (by simp; try omega)
    have X1 : Blk w1 (w.heap.size + 1) 9 #[.string x] := (Blk.new' (by simp)).below hb (by simp; try omega)
    have Bt : Below w.heap.size w w1 := (((Below.refl _ _).alloc (Nat.le_refl _) _).alloc (by simp; try omega) _).trans (hb.mono (by simp; try omega))
    clear hb
    have c0_0 : w1.cell? ⟨w.heap.size, 0, none⟩ = some (.int .i64 a) := X0.cell 0
    have c0_1 : w1.cell? ⟨w.heap.size, 1, none⟩ = some (.int .i64 b) := X0.cell 1
    have c0_2 : w1.cell? ⟨w.heap.size, 2, none⟩ = some (.int .i64 c) := X0.cell 2
    have c1_0 : w1.cell? ⟨w.heap.size + 1, 0, none⟩ = some (.string x) := X1.cell 0
    rw [H0.out]
    go_wp2_with fail
    go_ret2
    exact ⟨_, rfl, OwnI.nil _ _, Bt⟩
  · have b0 := spiB_le g0
    have H0 := Lib.hid g0
    have HB := Lib.hid (show sdB a b c x = decide (0 ≤ sdI x) by simp [sdB, g0])
    clear g0
    rw [HB.out]
    clear HB
    rcases sd_cases x with ⟨rfl, h⟩ | ⟨rfl, h⟩ | ⟨rfl, h⟩ | ⟨rfl, h⟩ | ⟨h, h1, h2, h3, h4⟩
    · rw [h, show decide ((0 : Int) ≤ 0) = true from rfl, selR_yes]
      clear h
      have HC := Lib.hid (show decide (0 ≤ Lib.indexByte (⟨#[110, 101, 115, 119]⟩ : ByteArray).data.toList 110) = true from rfl)
      go_enter Try.func19, Try.ntmps19
      go_wp2_with fail
      refine (impSpi_any _ _ _ _).mono ?_
      rintro e w1 ⟨rfl, hb⟩
      have hs : w.heap.size + 2 ≤ w1.heap.size := by have := hb.size; (try simp at this); omega
      have X0 : Blk w1 (w.heap.size) 27 #[.int .i64 a, .int .i64 b, .int .i64 c] := ((Blk.new' (by simp)).alloc _).below hb (by simp; try omega)
      have X1 : Blk w1 (w.heap.size + 1) 9 #[.string ⟨#[110]⟩] := (Blk.new' (by simp)).below hb (by simp; try omega)
      have Bt : Below w.heap.size w w1 := (((Below.refl _ _).alloc (Nat.le_refl _) _).alloc (by simp; try omega) _).trans (hb.mono (by simp; try omega))
      clear hb
      have c0_0 : w1.cell? ⟨w.heap.size, 0, none⟩ = some (.int .i64 a) := X0.cell 0
      have c0_1 : w1.cell? ⟨w.heap.size, 1, none⟩ = some (.int .i64 b) := X0.cell 1
      have c0_2 : w1.cell? ⟨w.heap.size, 2, none⟩ = some (.int .i64 c) := X0.cell 2
      have c1_0 : w1.cell? ⟨w.heap.size + 1, 0, none⟩ = some (.string ⟨#[110]⟩) := X1.cell 0
      rw [H0.out]
      go_wp2_with fail
      refine (Try.strings_Contains_one _ 110 _).mono ?_
      rintro e w' ⟨rfl, rfl⟩
      rw [HC.out]
      go_wp2_with fail
      refine (stepsThat_any a b c 40 #[.pointer (some ⟨w.heap.size, 0, none⟩), .pointer (some ⟨w.heap.size + 1, 0, none⟩)] (sideP b 0) _ (by omega) (by omega) (enters_of Try.func40 (by kernel_rfl) rfl) ?_).mono ?_
      · intro k W hk hk2 hbW
        exact sideC_any a b c k 0 _ _ (by omega) (by omega) (by omega) (by omega) (by omega) W (X0.below hbW (by omega)) (X1.below hbW (by omega))
      rintro e w9 ⟨v9, rfl, hO, hB⟩
      go_wp2_with fail
      go_ret2
      exact ⟨_, rfl, hO.mono (by omega), Bt.trans (hB.mono (by omega))⟩
    · rw [h, show decide ((0 : Int) ≤ 1) = true from rfl, selR_yes]
      clear h
      have HC := Lib.hid (show decide (0 ≤ Lib.indexByte (⟨#[110, 101, 115, 119]⟩ : ByteArray).data.toList 101) = true from rfl)
      go_enter Try.func19, Try.ntmps19
      go_wp2_with fail
      refine (impSpi_any _ _ _ _).mono ?_
      rintro e w1 ⟨rfl, hb⟩
      have hs : w.heap.size + 2 ≤ w1.heap.size := by have := hb.size; (try simp at this); omega
      have X0 : Blk w1 (w.heap.size) 27 #[.int .i64 a, .int .i64 b, .int .i64 c] := ((Blk.new' (by simp)).alloc _).below hb (by simp; try omega)
      have X1 : Blk w1 (w.heap.size + 1) 9 #[.string ⟨#[101]⟩] := (Blk.new' (by simp)).below hb (by simp; try omega)
      have Bt : Below w.heap.size w w1 := (((Below.refl _ _).alloc (Nat.le_refl _) _).alloc (by simp; try omega) _).trans (hb.mono (by simp; try omega))
      clear hb
      have c0_0 : w1.cell? ⟨w.heap.size, 0, none⟩ = some (.int .i64 a) := X0.cell 0
      have c0_1 : w1.cell? ⟨w.heap.size, 1, none⟩ = some (.int .i64 b) := X0.cell 1
      have c0_2 : w1.cell? ⟨w.heap.size, 2, none⟩ = some (.int .i64 c) := X0.cell 2
      have c1_0 : w1.cell? ⟨w.heap.size + 1, 0, none⟩ = some (.string ⟨#[101]⟩) := X1.cell 0
      rw [H0.out]
      go_wp2_with fail
      refine (Try.strings_Contains_one _ 101 _).mono ?_
      rintro e w' ⟨rfl, rfl⟩
      rw [HC.out]
      go_wp2_with fail
      refine (stepsThat_any a b c 40 #[.pointer (some ⟨w.heap.size, 0, none⟩), .pointer (some ⟨w.heap.size + 1, 0, none⟩)] (sideP b 1) _ (by omega) (by omega) (enters_of Try.func40 (by kernel_rfl) rfl) ?_).mono ?_
      · intro k W hk hk2 hbW
        exact sideC_any a b c k 1 _ _ (by omega) (by omega) (by omega) (by omega) (by omega) W (X0.below hbW (by omega)) (X1.below hbW (by omega))
      rintro e w9 ⟨v9, rfl, hO, hB⟩
      go_wp2_with fail
      go_ret2
      exact ⟨_, rfl, hO.mono (by omega), Bt.trans (hB.mono (by omega))⟩
    · rw [h, show decide ((0 : Int) ≤ 2) = true from rfl, selR_yes]
      clear h
      have HC := Lib.hid (show decide (0 ≤ Lib.indexByte (⟨#[110, 101, 115, 119]⟩ : ByteArray).data.toList 115) = true from rfl)
      go_enter Try.func19, Try.ntmps19
      go_wp2_with fail
      refine (impSpi_any _ _ _ _).mono ?_
      rintro e w1 ⟨rfl, hb⟩
      have hs : w.heap.size + 2 ≤ w1.heap.size := by have := hb.size; (try simp at this); omega
      have X0 : Blk w1 (w.heap.size) 27 #[.int .i64 a, .int .i64 b, .int .i64 c] := ((Blk.new' (by simp)).alloc _).below hb (by simp; try omega)
      have X1 : Blk w1 (w.heap.size + 1) 9 #[.string ⟨#[115]⟩] := (Blk.new' (by simp)).below hb (by simp; try omega)
      have Bt : Below w.heap.size w w1 := (((Below.refl _ _).alloc (Nat.le_refl _) _).alloc (by simp; try omega) _).trans (hb.mono (by simp; try omega))
      clear hb
      have c0_0 : w1.cell? ⟨w.heap.size, 0, none⟩ = some (.int .i64 a) := X0.cell 0
      have c0_1 : w1.cell? ⟨w.heap.size, 1, none⟩ = some (.int .i64 b) := X0.cell 1
      have c0_2 : w1.cell? ⟨w.heap.size, 2, none⟩ = some (.int .i64 c) := X0.cell 2
      have c1_0 : w1.cell? ⟨w.heap.size + 1, 0, none⟩ = some (.string ⟨#[115]⟩) := X1.cell 0
      rw [H0.out]
      go_wp2_with fail
      refine (Try.strings_Contains_one _ 115 _).mono ?_
      rintro e w' ⟨rfl, rfl⟩
      rw [HC.out]
      go_wp2_with fail
      refine (stepsThat_any a b c 40 #[.pointer (some ⟨w.heap.size, 0, none⟩), .pointer (some ⟨w.heap.size + 1, 0, none⟩)] (sideP b 2) _ (by omega) (by omega) (enters_of Try.func40 (by kernel_rfl) rfl) ?_).mono ?_
      · intro k W hk hk2 hbW
        exact sideC_any a b c k 2 _ _ (by omega) (by omega) (by omega) (by omega) (by omega) W (X0.below hbW (by omega)) (X1.below hbW (by omega))
      rintro e w9 ⟨v9, rfl, hO, hB⟩
      go_wp2_with fail
      go_ret2
      exact ⟨_, rfl, hO.mono (by omega), Bt.trans (hB.mono (by omega))⟩
    · rw [h, show decide ((0 : Int) ≤ 3) = true from rfl, selR_yes]
      clear h
      have HC := Lib.hid (show decide (0 ≤ Lib.indexByte (⟨#[110, 101, 115, 119]⟩ : ByteArray).data.toList 119) = true from rfl)
      go_enter Try.func19, Try.ntmps19
      go_wp2_with fail
      refine (impSpi_any _ _ _ _).mono ?_
      rintro e w1 ⟨rfl, hb⟩
      have hs : w.heap.size + 2 ≤ w1.heap.size := by have := hb.size; (try simp at this); omega
      have X0 : Blk w1 (w.heap.size) 27 #[.int .i64 a, .int .i64 b, .int .i64 c] := ((Blk.new' (by simp)).alloc _).below hb (by simp; try omega)
      have X1 : Blk w1 (w.heap.size + 1) 9 #[.string ⟨#[119]⟩] := (Blk.new' (by simp)).below hb (by simp; try omega)
      have Bt : Below w.heap.size w w1 := (((Below.refl _ _).alloc (Nat.le_refl _) _).alloc (by simp; try omega) _).trans (hb.mono (by simp; try omega))
      clear hb
      have c0_0 : w1.cell? ⟨w.heap.size, 0, none⟩ = some (.int .i64 a) := X0.cell 0
      have c0_1 : w1.cell? ⟨w.heap.size, 1, none⟩ = some (.int .i64 b) := X0.cell 1
      have c0_2 : w1.cell? ⟨w.heap.size, 2, none⟩ = some (.int .i64 c) := X0.cell 2
      have c1_0 : w1.cell? ⟨w.heap.size + 1, 0, none⟩ = some (.string ⟨#[119]⟩) := X1.cell 0
      rw [H0.out]
      go_wp2_with fail
      refine (Try.strings_Contains_one _ 119 _).mono ?_
      rintro e w' ⟨rfl, rfl⟩
      rw [HC.out]
      go_wp2_with fail
      refine (stepsThat_any a b c 40 #[.pointer (some ⟨w.heap.size, 0, none⟩), .pointer (some ⟨w.heap.size + 1, 0, none⟩)] (sideP b 3) _ (by omega) (by omega) (enters_of Try.func40 (by kernel_rfl) rfl) ?_).mono ?_
      · intro k W hk hk2 hbW
        exact sideC_any a b c k 3 _ _ (by omega) (by omega) (by omega) (by omega) (by omega) W (X0.below hbW (by omega)) (X1.below hbW (by omega))
      rintro e w9 ⟨v9, rfl, hO, hB⟩
      go_wp2_with fail
      go_ret2
      exact ⟨_, rfl, hO.mono (by omega), Bt.trans (hB.mono (by omega))⟩
    · rw [h, show decide ((0 : Int) ≤ -1) = false from rfl, selR_no]
      clear h
      by_cases hz : x.size = 1
      · obtain ⟨u, rfl⟩ := one_byte hz
        have HC := Lib.hid (not_in (u := u) (fun e => h1 (by rw [e])) (fun e => h2 (by rw [e])) (fun e => h3 (by rw [e])) (fun e => h4 (by rw [e])))
        clear h1 h2 h3 h4 hz
        go_enter Try.func19, Try.ntmps19
        go_wp2_with fail
        refine (impSpi_any _ _ _ _).mono ?_
        rintro e w1 ⟨rfl, hb⟩
        have hs : w.heap.size + 2 ≤ w1.heap.size := by have := hb.size; (try simp at this); omega
        have X0 : Blk w1 (w.heap.size) 27 #[.int .i64 a, .int .i64 b, .int .i64 c] := ((Blk.new' (by simp)).alloc _).below hb (by simp; try omega)
        have X1 : Blk w1 (w.heap.size + 1) 9 #[.string ⟨#[u]⟩] := (Blk.new' (by simp)).below hb (by simp; try omega)
        have Bt : Below w.heap.size w w1 := (((Below.refl _ _).alloc (Nat.le_refl _) _).alloc (by simp; try omega) _).trans (hb.mono (by simp; try omega))
        clear hb
        have c0_0 : w1.cell? ⟨w.heap.size, 0, none⟩ = some (.int .i64 a) := X0.cell 0
        have c0_1 : w1.cell? ⟨w.heap.size, 1, none⟩ = some (.int .i64 b) := X0.cell 1
        have c0_2 : w1.cell? ⟨w.heap.size, 2, none⟩ = some (.int .i64 c) := X0.cell 2
        have c1_0 : w1.cell? ⟨w.heap.size + 1, 0, none⟩ = some (.string ⟨#[u]⟩) := X1.cell 0
        rw [H0.out]
        go_wp2_with fail
        refine (Try.strings_Contains_one _ u _).mono ?_
        rintro e w' ⟨rfl, rfl⟩
        rw [HC.out]
        go_wp2_with fail
        go_ret2
        exact ⟨_, rfl, OwnI.nil _ _, Bt⟩
      · clear h1 h2 h3 h4
        go_enter Try.func19, Try.ntmps19
        go_wp2_with fail
        refine (impSpi_any _ _ _ _).mono ?_
        rintro e w1 ⟨rfl, hb⟩
        have hs : w.heap.size + 2 ≤ w1.heap.size := by have := hb.size; (try simp at this); omega
        have X0 : Blk w1 (w.heap.size) 27 #[.int .i64 a, .int .i64 b, .int .i64 c] := ((Blk.new' (by simp)).alloc _).below hb (by simp; try omega)
        have X1 : Blk w1 (w.heap.size + 1) 9 #[.string x] := (Blk.new' (by simp)).below hb (by simp; try omega)
        have Bt : Below w.heap.size w w1 := (((Below.refl _ _).alloc (Nat.le_refl _) _).alloc (by simp; try omega) _).trans (hb.mono (by simp; try omega))
        clear hb
        have c0_0 : w1.cell? ⟨w.heap.size, 0, none⟩ = some (.int .i64 a) := X0.cell 0
        have c0_1 : w1.cell? ⟨w.heap.size, 1, none⟩ = some (.int .i64 b) := X0.cell 1
        have c0_2 : w1.cell? ⟨w.heap.size, 2, none⟩ = some (.int .i64 c) := X0.cell 2
        have c1_0 : w1.cell? ⟨w.heap.size + 1, 0, none⟩ = some (.string x) := X1.cell 0
        rw [H0.out]
        go_wp2_with fail
        go_ret2
        exact ⟨_, rfl, OwnI.nil _ _, Bt⟩

set_option maxHeartbeats 8000000 in
theorem specStepsAtSide_any (a b c : Int) (x : ByteArray) (w : World) :
    Calls Try.prog 18 #[.agg #[.int .i64 a, .int .i64 b, .int .i64 c], .string x] w fun e w' => Lists w (selR (sdB a b c x) (sideP b (sdI x)) a) (sdB a b c x) e w' := by
  cases g0 : spiB a b c
  · rw [show sdB a b c x = false by simp [sdB, g0], selR_no]
    have H0 := Lib.hid g0
    clear g0
    go_enter Try.func18, Try.ntmps18
    go_wp2_with fail
    refine (spGood_any _ _ _ _).mono ?_
    rintro e w1 ⟨rfl, hb⟩
    have hs : w.heap.size + 1 ≤ w1.heap.size := by have := hb.size; (try simp at this); omega
    have X0 : Blk w1 (w.heap.size) 27 #[.int .i64 a, .int .i64 b, .int .i64 c] := (Blk.new' (by simp)).below hb (by simp; try omega)
    have Bt : Below w.heap.size w w1 := ((Below.refl _ _).alloc (Nat.le_refl _) _).trans (hb.mono (by simp; try omega))
    clear hb
    have c0_0 : w1.cell? ⟨w.heap.size, 0, none⟩ = some (.int .i64 a) := X0.cell 0
    have c0_1 : w1.cell? ⟨w.heap.size, 1, none⟩ = some (.int .i64 b) := X0.cell 1
    have c0_2 : w1.cell? ⟨w.heap.size, 2, none⟩ = some (.int .i64 c) := X0.cell 2
    rw [H0.out]
    go_wp2_with fail
    go_ret2
    exact ⟨_, rfl, OwnI.nil _ _, Bt⟩
  · have b0 := spiB_le g0
    have H0 := Lib.hid g0
    have HB := Lib.hid (show sdB a b c x = decide (0 ≤ sdI x) by simp [sdB, g0])
    clear g0
    rw [HB.out]
    clear HB
    rcases sd_cases x with ⟨rfl, h⟩ | ⟨rfl, h⟩ | ⟨rfl, h⟩ | ⟨rfl, h⟩ | ⟨h, h1, h2, h3, h4⟩
    · rw [h, show decide ((0 : Int) ≤ 0) = true from rfl, selR_yes]
      clear h
      go_enter Try.func18, Try.ntmps18
      go_wp2_with fail
      refine (spGood_any _ _ _ _).mono ?_
      rintro e w1 ⟨rfl, hb⟩
      have hs : w.heap.size + 1 ≤ w1.heap.size := by have := hb.size; (try simp at this); omega
      have X0 : Blk w1 (w.heap.size) 27 #[.int .i64 a, .int .i64 b, .int .i64 c] := (Blk.new' (by simp)).below hb (by simp; try omega)
      have Bt : Below w.heap.size w w1 := ((Below.refl _ _).alloc (Nat.le_refl _) _).trans (hb.mono (by simp; try omega))
      clear hb
      have c0_0 : w1.cell? ⟨w.heap.size, 0, none⟩ = some (.int .i64 a) := X0.cell 0
      have c0_1 : w1.cell? ⟨w.heap.size, 1, none⟩ = some (.int .i64 b) := X0.cell 1
      have c0_2 : w1.cell? ⟨w.heap.size, 2, none⟩ = some (.int .i64 c) := X0.cell 2
      rw [H0.out]
      go_wp2_with fail
      go_loopw [6, 7] (fun v i wr => ∃ (s : Int) (k : Nat), i = .int .i64 s ∧ s ≤ (k : Int) + 1 ∧ (k : Int) + 1 ≤ s ∧ k ≤ a.toNat ∧ OwnI wr w1.heap.size v (selL (sideP b 0) k) ∧ Below w1.heap.size w1 wr) (fun _ i _ => (500 - intOf i).toNat)
      case atStart => exact ⟨1, 0, rfl, by omega, by omega, Nat.zero_le _, OwnI.nil _ _, Below.refl _ _⟩
      case round =>
        obtain ⟨s, k, rfl, hs1, hs2, hk, hown, hbw⟩ := hrel
        have d0 := keepC hbw c0_0
        have d1 := keepC hbw c0_1
        have d2 := keepC hbw c0_2
        have hz : w1.heap.size ≤ wr.heap.size := hbw.size
        have hl := selL_length (sideP b 0) k
        have HB := Lib.hid hbw
        by_cases hlt : s ≤ a
        · have HY := fun h => selL_yes (p := sideP b 0) (k := k) h
          have HN := fun h => selL_no (p := sideP b 0) (k := k) h
          rw [show (k : Int) + 1 = s by omega] at HY HN
          rcases side_four b s with hr | hr | hr | hr
          · have HA := Lib.hid hr
            have HT := Lib.hid (HY (show sideP b 0 s = true by unfold sideP; rw [hr]; rfl))
            clear HY HN hr hbw
            generalize hL : selL (sideP b 0) k = zs at *
            clear hL
            go_wp2_with fail
            go_region_held3 (fun u => u.cell? ⟨w.heap.size, 0, none⟩ = some (.int .i64 a) ∧ u.cell? ⟨w.heap.size, 1, none⟩ = some (.int .i64 b) ∧ u.cell? ⟨w.heap.size, 2, none⟩ = some (.int .i64 c)) (first | exact ⟨d0, d1, d2⟩ | exact ⟨f0, f1, f2⟩)
              (first
                | (go_at_call 37; (refine (spSide_any a b c s (by omega) (by omega) (by omega) (by omega) wr.drew).mono ?_); rintro e w5 ⟨rfl, hb5'⟩; rw [HA.out]; have hb5 : Below wr.heap.size wr w5 := below_undrew hb5'; have f0 := keepC hb5 d0; have f1 := keepC hb5 d1; have f2 := keepC hb5 d2; have hz2 := hb5.size; have hown5 := hown.below hb5 (Nat.le_refl _); have HB5 := Lib.hid (HB.out.trans (hb5.mono hz)))
              )
            all_goals go_wp2_with (at_builtin; refine wpList_pushI _ rfl _ _ rfl w1.heap.size _ zs rfl (hown5.alloc _) _ s rfl ((Blk.new' rfl).cell 0) (by omega) (by simp; omega) ?_; intro A1 c1 w3 hown1 hg1)
            all_goals go_roundw
            all_goals (first | exact ⟨s + 1, k + 1, rfl, by omega, by omega, by omega, by rw [HT.out]; exact hown1, (HB5.out.alloc (by omega) _).trans hg1⟩ | (simp [intOf]; omega))
          · have HA := Lib.hid hr
            have HT := Lib.hid (HN (show sideP b 0 s = false by unfold sideP; rw [hr]; rfl))
            clear HY HN hr hbw
            go_wp2_with fail
            go_region_held3 (fun u => u.cell? ⟨w.heap.size, 0, none⟩ = some (.int .i64 a) ∧ u.cell? ⟨w.heap.size, 1, none⟩ = some (.int .i64 b) ∧ u.cell? ⟨w.heap.size, 2, none⟩ = some (.int .i64 c)) (first | exact ⟨d0, d1, d2⟩ | exact ⟨f0, f1, f2⟩)
              (first
                | (go_at_call 37; (refine (spSide_any a b c s (by omega) (by omega) (by omega) (by omega) wr.drew).mono ?_); rintro e w5 ⟨rfl, hb5'⟩; rw [HA.out]; have hb5 : Below wr.heap.size wr w5 := below_undrew hb5'; have f0 := keepC hb5 d0; have f1 := keepC hb5 d1; have f2 := keepC hb5 d2; have hz2 := hb5.size; have hown5 := hown.below hb5 (Nat.le_refl _); have HB5 := Lib.hid (HB.out.trans (hb5.mono hz)))
              )
            all_goals go_wp2_with fail
            all_goals go_roundw
            all_goals (first | exact ⟨s + 1, k + 1, rfl, by omega, by omega, by omega, by rw [HT.out]; exact hown5, HB5.out⟩ | (simp [intOf]; omega))
          · have HA := Lib.hid hr
            have HT := Lib.hid (HN (show sideP b 0 s = false by unfold sideP; rw [hr]; rfl))
            clear HY HN hr hbw
            go_wp2_with fail
            go_region_held3 (fun u => u.cell? ⟨w.heap.size, 0, none⟩ = some (.int .i64 a) ∧ u.cell? ⟨w.heap.size, 1, none⟩ = some (.int .i64 b) ∧ u.cell? ⟨w.heap.size, 2, none⟩ = some (.int .i64 c)) (first | exact ⟨d0, d1, d2⟩ | exact ⟨f0, f1, f2⟩)
              (first
                | (go_at_call 37; (refine (spSide_any a b c s (by omega) (by omega) (by omega) (by omega) wr.drew).mono ?_); rintro e w5 ⟨rfl, hb5'⟩; rw [HA.out]; have hb5 : Below wr.heap.size wr w5 := below_undrew hb5'; have f0 := keepC hb5 d0; have f1 := keepC hb5 d1; have f2 := keepC hb5 d2; have hz2 := hb5.size; have hown5 := hown.below hb5 (Nat.le_refl _); have HB5 := Lib.hid (HB.out.trans (hb5.mono hz)))
              )
            all_goals go_wp2_with fail
            all_goals go_roundw
            all_goals (first | exact ⟨s + 1, k + 1, rfl, by omega, by omega, by omega, by rw [HT.out]; exact hown5, HB5.out⟩ | (simp [intOf]; omega))
          · have HA := Lib.hid hr
            have HT := Lib.hid (HN (show sideP b 0 s = false by unfold sideP; rw [hr]; rfl))
            clear HY HN hr hbw
            go_wp2_with fail
            go_region_held3 (fun u => u.cell? ⟨w.heap.size, 0, none⟩ = some (.int .i64 a) ∧ u.cell? ⟨w.heap.size, 1, none⟩ = some (.int .i64 b) ∧ u.cell? ⟨w.heap.size, 2, none⟩ = some (.int .i64 c)) (first | exact ⟨d0, d1, d2⟩ | exact ⟨f0, f1, f2⟩)
              (first
                | (go_at_call 37; (refine (spSide_any a b c s (by omega) (by omega) (by omega) (by omega) wr.drew).mono ?_); rintro e w5 ⟨rfl, hb5'⟩; rw [HA.out]; have hb5 : Below wr.heap.size wr w5 := below_undrew hb5'; have f0 := keepC hb5 d0; have f1 := keepC hb5 d1; have f2 := keepC hb5 d2; have hz2 := hb5.size; have hown5 := hown.below hb5 (Nat.le_refl _); have HB5 := Lib.hid (HB.out.trans (hb5.mono hz)))
              )
            all_goals go_wp2_with fail
            all_goals go_roundw
            all_goals (first | exact ⟨s + 1, k + 1, rfl, by omega, by omega, by omega, by rw [HT.out]; exact hown5, HB5.out⟩ | (simp [intOf]; omega))
        · obtain rfl : k = a.toNat := by omega
          go_wp2
          go_ret2
          exact ⟨_, rfl, hown.mono (by omega), Bt.trans (hbw.mono (by omega))⟩
    · rw [h, show decide ((0 : Int) ≤ 1) = true from rfl, selR_yes]
      clear h
      go_enter Try.func18, Try.ntmps18
      go_wp2_with fail
      refine (spGood_any _ _ _ _).mono ?_
      rintro e w1 ⟨rfl, hb⟩
      have hs : w.heap.size + 1 ≤ w1.heap.size := by have := hb.size; (try simp at this); omega
      have X0 : Blk w1 (w.heap.size) 27 #[.int .i64 a, .int .i64 b, .int .i64 c] := (Blk.new' (by simp)).below hb (by simp; try omega)
      have Bt : Below w.heap.size w w1 := ((Below.refl _ _).alloc (Nat.le_refl _) _).trans (hb.mono (by simp; try omega))
      clear hb
      have c0_0 : w1.cell? ⟨w.heap.size, 0, none⟩ = some (.int .i64 a) := X0.cell 0
      have c0_1 : w1.cell? ⟨w.heap.size, 1, none⟩ = some (.int .i64 b) := X0.cell 1
      have c0_2 : w1.cell? ⟨w.heap.size, 2, none⟩ = some (.int .i64 c) := X0.cell 2
      rw [H0.out]
      go_wp2_with fail
      go_loopw [6, 7] (fun v i wr => ∃ (s : Int) (k : Nat), i = .int .i64 s ∧ s ≤ (k : Int) + 1 ∧ (k : Int) + 1 ≤ s ∧ k ≤ a.toNat ∧ OwnI wr w1.heap.size v (selL (sideP b 1) k) ∧ Below w1.heap.size w1 wr) (fun _ i _ => (500 - intOf i).toNat)
      case atStart => exact ⟨1, 0, rfl, by omega, by omega, Nat.zero_le _, OwnI.nil _ _, Below.refl _ _⟩
      case round =>
        obtain ⟨s, k, rfl, hs1, hs2, hk, hown, hbw⟩ := hrel
        have d0 := keepC hbw c0_0
        have d1 := keepC hbw c0_1
        have d2 := keepC hbw c0_2
        have hz : w1.heap.size ≤ wr.heap.size := hbw.size
        have hl := selL_length (sideP b 1) k
        have HB := Lib.hid hbw
        by_cases hlt : s ≤ a
        · have HY := fun h => selL_yes (p := sideP b 1) (k := k) h
          have HN := fun h => selL_no (p := sideP b 1) (k := k) h
          rw [show (k : Int) + 1 = s by omega] at HY HN
          rcases side_four b s with hr | hr | hr | hr
          · have HA := Lib.hid hr
            have HT := Lib.hid (HN (show sideP b 1 s = false by unfold sideP; rw [hr]; rfl))
            clear HY HN hr hbw
            go_wp2_with fail
            go_region_held3 (fun u => u.cell? ⟨w.heap.size, 0, none⟩ = some (.int .i64 a) ∧ u.cell? ⟨w.heap.size, 1, none⟩ = some (.int .i64 b) ∧ u.cell? ⟨w.heap.size, 2, none⟩ = some (.int .i64 c)) (first | exact ⟨d0, d1, d2⟩ | exact ⟨f0, f1, f2⟩)
              (first
                | (go_at_call 37; (refine (spSide_any a b c s (by omega) (by omega) (by omega) (by omega) wr.drew).mono ?_); rintro e w5 ⟨rfl, hb5'⟩; rw [HA.out]; have hb5 : Below wr.heap.size wr w5 := below_undrew hb5'; have f0 := keepC hb5 d0; have f1 := keepC hb5 d1; have f2 := keepC hb5 d2; have hz2 := hb5.size; have hown5 := hown.below hb5 (Nat.le_refl _); have HB5 := Lib.hid (HB.out.trans (hb5.mono hz)))
              )
            all_goals go_wp2_with fail
            all_goals go_roundw
            all_goals (first | exact ⟨s + 1, k + 1, rfl, by omega, by omega, by omega, by rw [HT.out]; exact hown5, HB5.out⟩ | (simp [intOf]; omega))
          · have HA := Lib.hid hr
            have HT := Lib.hid (HY (show sideP b 1 s = true by unfold sideP; rw [hr]; rfl))
            clear HY HN hr hbw
            generalize hL : selL (sideP b 1) k = zs at *
            clear hL
            go_wp2_with fail
            go_region_held3 (fun u => u.cell? ⟨w.heap.size, 0, none⟩ = some (.int .i64 a) ∧ u.cell? ⟨w.heap.size, 1, none⟩ = some (.int .i64 b) ∧ u.cell? ⟨w.heap.size, 2, none⟩ = some (.int .i64 c)) (first | exact ⟨d0, d1, d2⟩ | exact ⟨f0, f1, f2⟩)
              (first
                | (go_at_call 37; (refine (spSide_any a b c s (by omega) (by omega) (by omega) (by omega) wr.drew).mono ?_); rintro e w5 ⟨rfl, hb5'⟩; rw [HA.out]; have hb5 : Below wr.heap.size wr w5 := below_undrew hb5'; have f0 := keepC hb5 d0; have f1 := keepC hb5 d1; have f2 := keepC hb5 d2; have hz2 := hb5.size; have hown5 := hown.below hb5 (Nat.le_refl _); have HB5 := Lib.hid (HB.out.trans (hb5.mono hz)))
              )
            all_goals go_wp2_with (at_builtin; refine wpList_pushI _ rfl _ _ rfl w1.heap.size _ zs rfl (hown5.alloc _) _ s rfl ((Blk.new' rfl).cell 0) (by omega) (by simp; omega) ?_; intro A1 c1 w3 hown1 hg1)
            all_goals go_roundw
            all_goals (first | exact ⟨s + 1, k + 1, rfl, by omega, by omega, by omega, by rw [HT.out]; exact hown1, (HB5.out.alloc (by omega) _).trans hg1⟩ | (simp [intOf]; omega))
          · have HA := Lib.hid hr
            have HT := Lib.hid (HN (show sideP b 1 s = false by unfold sideP; rw [hr]; rfl))
            clear HY HN hr hbw
            go_wp2_with fail
            go_region_held3 (fun u => u.cell? ⟨w.heap.size, 0, none⟩ = some (.int .i64 a) ∧ u.cell? ⟨w.heap.size, 1, none⟩ = some (.int .i64 b) ∧ u.cell? ⟨w.heap.size, 2, none⟩ = some (.int .i64 c)) (first | exact ⟨d0, d1, d2⟩ | exact ⟨f0, f1, f2⟩)
              (first
                | (go_at_call 37; (refine (spSide_any a b c s (by omega) (by omega) (by omega) (by omega) wr.drew).mono ?_); rintro e w5 ⟨rfl, hb5'⟩; rw [HA.out]; have hb5 : Below wr.heap.size wr w5 := below_undrew hb5'; have f0 := keepC hb5 d0; have f1 := keepC hb5 d1; have f2 := keepC hb5 d2; have hz2 := hb5.size; have hown5 := hown.below hb5 (Nat.le_refl _); have HB5 := Lib.hid (HB.out.trans (hb5.mono hz)))
              )
            all_goals go_wp2_with fail
            all_goals go_roundw
            all_goals (first | exact ⟨s + 1, k + 1, rfl, by omega, by omega, by omega, by rw [HT.out]; exact hown5, HB5.out⟩ | (simp [intOf]; omega))
          · have HA := Lib.hid hr
            have HT := Lib.hid (HN (show sideP b 1 s = false by unfold sideP; rw [hr]; rfl))
            clear HY HN hr hbw
            go_wp2_with fail
            go_region_held3 (fun u => u.cell? ⟨w.heap.size, 0, none⟩ = some (.int .i64 a) ∧ u.cell? ⟨w.heap.size, 1, none⟩ = some (.int .i64 b) ∧ u.cell? ⟨w.heap.size, 2, none⟩ = some (.int .i64 c)) (first | exact ⟨d0, d1, d2⟩ | exact ⟨f0, f1, f2⟩)
              (first
                | (go_at_call 37; (refine (spSide_any a b c s (by omega) (by omega) (by omega) (by omega) wr.drew).mono ?_); rintro e w5 ⟨rfl, hb5'⟩; rw [HA.out]; have hb5 : Below wr.heap.size wr w5 := below_undrew hb5'; have f0 := keepC hb5 d0; have f1 := keepC hb5 d1; have f2 := keepC hb5 d2; have hz2 := hb5.size; have hown5 := hown.below hb5 (Nat.le_refl _); have HB5 := Lib.hid (HB.out.trans (hb5.mono hz)))
              )
            all_goals go_wp2_with fail
            all_goals go_roundw
            all_goals (first | exact ⟨s + 1, k + 1, rfl, by omega, by omega, by omega, by rw [HT.out]; exact hown5, HB5.out⟩ | (simp [intOf]; omega))
        · obtain rfl : k = a.toNat := by omega
          go_wp2
          go_ret2
          exact ⟨_, rfl, hown.mono (by omega), Bt.trans (hbw.mono (by omega))⟩
    · rw [h, show decide ((0 : Int) ≤ 2) = true from rfl, selR_yes]
      clear h
      go_enter Try.func18, Try.ntmps18
      go_wp2_with fail
      refine (spGood_any _ _ _ _).mono ?_
      rintro e w1 ⟨rfl, hb⟩
      have hs : w.heap.size + 1 ≤ w1.heap.size := by have := hb.size; (try simp at this); omega
      have X0 : Blk w1 (w.heap.size) 27 #[.int .i64 a, .int .i64 b, .int .i64 c] := (Blk.new' (by simp)).below hb (by simp; try omega)
      have Bt : Below w.heap.size w w1 := ((Below.refl _ _).alloc (Nat.le_refl _) _).trans (hb.mono (by simp; try omega))
      clear hb
      have c0_0 : w1.cell? ⟨w.heap.size, 0, none⟩ = some (.int .i64 a) := X0.cell 0
      have c0_1 : w1.cell? ⟨w.heap.size, 1, none⟩ = some (.int .i64 b) := X0.cell 1
      have c0_2 : w1.cell? ⟨w.heap.size, 2, none⟩ = some (.int .i64 c) := X0.cell 2
      rw [H0.out]
      go_wp2_with fail
      go_loopw [6, 7] (fun v i wr => ∃ (s : Int) (k : Nat), i = .int .i64 s ∧ s ≤ (k : Int) + 1 ∧ (k : Int) + 1 ≤ s ∧ k ≤ a.toNat ∧ OwnI wr w1.heap.size v (selL (sideP b 2) k) ∧ Below w1.heap.size w1 wr) (fun _ i _ => (500 - intOf i).toNat)
      case atStart => exact ⟨1, 0, rfl, by omega, by omega, Nat.zero_le _, OwnI.nil _ _, Below.refl _ _⟩
      case round =>
        obtain ⟨s, k, rfl, hs1, hs2, hk, hown, hbw⟩ := hrel
        have d0 := keepC hbw c0_0
        have d1 := keepC hbw c0_1
        have d2 := keepC hbw c0_2
        have hz : w1.heap.size ≤ wr.heap.size := hbw.size
        have hl := selL_length (sideP b 2) k
        have HB := Lib.hid hbw
        by_cases hlt : s ≤ a
        · have HY := fun h => selL_yes (p := sideP b 2) (k := k) h
          have HN := fun h => selL_no (p := sideP b 2) (k := k) h
          rw [show (k : Int) + 1 = s by omega] at HY HN
          rcases side_four b s with hr | hr | hr | hr
          · have HA := Lib.hid hr
            have HT := Lib.hid (HN (show sideP b 2 s = false by unfold sideP; rw [hr]; rfl))
            clear HY HN hr hbw
            go_wp2_with fail
            go_region_held3 (fun u => u.cell? ⟨w.heap.size, 0, none⟩ = some (.int .i64 a) ∧ u.cell? ⟨w.heap.size, 1, none⟩ = some (.int .i64 b) ∧ u.cell? ⟨w.heap.size, 2, none⟩ = some (.int .i64 c)) (first | exact ⟨d0, d1, d2⟩ | exact ⟨f0, f1, f2⟩)
              (first
                | (go_at_call 37; (refine (spSide_any a b c s (by omega) (by omega) (by omega) (by omega) wr.drew).mono ?_); rintro e w5 ⟨rfl, hb5'⟩; rw [HA.out]; have hb5 : Below wr.heap.size wr w5 := below_undrew hb5'; have f0 := keepC hb5 d0; have f1 := keepC hb5 d1; have f2 := keepC hb5 d2; have hz2 := hb5.size; have hown5 := hown.below hb5 (Nat.le_refl _); have HB5 := Lib.hid (HB.out.trans (hb5.mono hz)))
              )
            all_goals go_wp2_with fail
            all_goals go_roundw
            all_goals (first | exact ⟨s + 1, k + 1, rfl, by omega, by omega, by omega, by rw [HT.out]; exact hown5, HB5.out⟩ | (simp [intOf]; omega))
          · have HA := Lib.hid hr
            have HT := Lib.hid (HN (show sideP b 2 s = false by unfold sideP; rw [hr]; rfl))
            clear HY HN hr hbw
            go_wp2_with fail
            go_region_held3 (fun u => u.cell? ⟨w.heap.size, 0, none⟩ = some (.int .i64 a) ∧ u.cell? ⟨w.heap.size, 1, none⟩ = some (.int .i64 b) ∧ u.cell? ⟨w.heap.size, 2, none⟩ = some (.int .i64 c)) (first | exact ⟨d0, d1, d2⟩ | exact ⟨f0, f1, f2⟩)
              (first
                | (go_at_call 37; (refine (spSide_any a b c s (by omega) (by omega) (by omega) (by omega) wr.drew).mono ?_); rintro e w5 ⟨rfl, hb5'⟩; rw [HA.out]; have hb5 : Below wr.heap.size wr w5 := below_undrew hb5'; have f0 := keepC hb5 d0; have f1 := keepC hb5 d1; have f2 := keepC hb5 d2; have hz2 := hb5.size; have hown5 := hown.below hb5 (Nat.le_refl _); have HB5 := Lib.hid (HB.out.trans (hb5.mono hz)))
              )
            all_goals go_wp2_with fail
            all_goals go_roundw
            all_goals (first | exact ⟨s + 1, k + 1, rfl, by omega, by omega, by omega, by rw [HT.out]; exact hown5, HB5.out⟩ | (simp [intOf]; omega))
          · have HA := Lib.hid hr
            have HT := Lib.hid (HY (show sideP b 2 s = true by unfold sideP; rw [hr]; rfl))
            clear HY HN hr hbw
            generalize hL : selL (sideP b 2) k = zs at *
            clear hL
            go_wp2_with fail
            go_region_held3 (fun u => u.cell? ⟨w.heap.size, 0, none⟩ = some (.int .i64 a) ∧ u.cell? ⟨w.heap.size, 1, none⟩ = some (.int .i64 b) ∧ u.cell? ⟨w.heap.size, 2, none⟩ = some (.int .i64 c)) (first | exact ⟨d0, d1, d2⟩ | exact ⟨f0, f1, f2⟩)
              (first
                | (go_at_call 37; (refine (spSide_any a b c s (by omega) (by omega) (by omega) (by omega) wr.drew).mono ?_); rintro e w5 ⟨rfl, hb5'⟩; rw [HA.out]; have hb5 : Below wr.heap.size wr w5 := below_undrew hb5'; have f0 := keepC hb5 d0; have f1 := keepC hb5 d1; have f2 := keepC hb5 d2; have hz2 := hb5.size; have hown5 := hown.below hb5 (Nat.le_refl _); have HB5 := Lib.hid (HB.out.trans (hb5.mono hz)))
              )
            all_goals go_wp2_with (at_builtin; refine wpList_pushI _ rfl _ _ rfl w1.heap.size _ zs rfl (hown5.alloc _) _ s rfl ((Blk.new' rfl).cell 0) (by omega) (by simp; omega) ?_; intro A1 c1 w3 hown1 hg1)
            all_goals go_roundw
            all_goals (first | exact ⟨s + 1, k + 1, rfl, by omega, by omega, by omega, by rw [HT.out]; exact hown1, (HB5.out.alloc (by omega) _).trans hg1⟩ | (simp [intOf]; omega))
          · have HA := Lib.hid hr
            have HT := Lib.hid (HN (show sideP b 2 s = false by unfold sideP; rw [hr]; rfl))
            clear HY HN hr hbw
            go_wp2_with fail
            go_region_held3 (fun u => u.cell? ⟨w.heap.size, 0, none⟩ = some (.int .i64 a) ∧ u.cell? ⟨w.heap.size, 1, none⟩ = some (.int .i64 b) ∧ u.cell? ⟨w.heap.size, 2, none⟩ = some (.int .i64 c)) (first | exact ⟨d0, d1, d2⟩ | exact ⟨f0, f1, f2⟩)
              (first
                | (go_at_call 37; (refine (spSide_any a b c s (by omega) (by omega) (by omega) (by omega) wr.drew).mono ?_); rintro e w5 ⟨rfl, hb5'⟩; rw [HA.out]; have hb5 : Below wr.heap.size wr w5 := below_undrew hb5'; have f0 := keepC hb5 d0; have f1 := keepC hb5 d1; have f2 := keepC hb5 d2; have hz2 := hb5.size; have hown5 := hown.below hb5 (Nat.le_refl _); have HB5 := Lib.hid (HB.out.trans (hb5.mono hz)))
              )
            all_goals go_wp2_with fail
            all_goals go_roundw
            all_goals (first | exact ⟨s + 1, k + 1, rfl, by omega, by omega, by omega, by rw [HT.out]; exact hown5, HB5.out⟩ | (simp [intOf]; omega))
        · obtain rfl : k = a.toNat := by omega
          go_wp2
          go_ret2
          exact ⟨_, rfl, hown.mono (by omega), Bt.trans (hbw.mono (by omega))⟩
    · rw [h, show decide ((0 : Int) ≤ 3) = true from rfl, selR_yes]
      clear h
      go_enter Try.func18, Try.ntmps18
      go_wp2_with fail
      refine (spGood_any _ _ _ _).mono ?_
      rintro e w1 ⟨rfl, hb⟩
      have hs : w.heap.size + 1 ≤ w1.heap.size := by have := hb.size; (try simp at this); omega
      have X0 : Blk w1 (w.heap.size) 27 #[.int .i64 a, .int .i64 b, .int .i64 c] := (Blk.new' (by simp)).below hb (by simp; try omega)
      have Bt : Below w.heap.size w w1 := ((Below.refl _ _).alloc (Nat.le_refl _) _).trans (hb.mono (by simp; try omega))
      clear hb
      have c0_0 : w1.cell? ⟨w.heap.size, 0, none⟩ = some (.int .i64 a) := X0.cell 0
      have c0_1 : w1.cell? ⟨w.heap.size, 1, none⟩ = some (.int .i64 b) := X0.cell 1
      have c0_2 : w1.cell? ⟨w.heap.size, 2, none⟩ = some (.int .i64 c) := X0.cell 2
      rw [H0.out]
      go_wp2_with fail
      go_loopw [6, 7] (fun v i wr => ∃ (s : Int) (k : Nat), i = .int .i64 s ∧ s ≤ (k : Int) + 1 ∧ (k : Int) + 1 ≤ s ∧ k ≤ a.toNat ∧ OwnI wr w1.heap.size v (selL (sideP b 3) k) ∧ Below w1.heap.size w1 wr) (fun _ i _ => (500 - intOf i).toNat)
      case atStart => exact ⟨1, 0, rfl, by omega, by omega, Nat.zero_le _, OwnI.nil _ _, Below.refl _ _⟩
      case round =>
        obtain ⟨s, k, rfl, hs1, hs2, hk, hown, hbw⟩ := hrel
        have d0 := keepC hbw c0_0
        have d1 := keepC hbw c0_1
        have d2 := keepC hbw c0_2
        have hz : w1.heap.size ≤ wr.heap.size := hbw.size
        have hl := selL_length (sideP b 3) k
        have HB := Lib.hid hbw
        by_cases hlt : s ≤ a
        · have HY := fun h => selL_yes (p := sideP b 3) (k := k) h
          have HN := fun h => selL_no (p := sideP b 3) (k := k) h
          rw [show (k : Int) + 1 = s by omega] at HY HN
          rcases side_four b s with hr | hr | hr | hr
          · have HA := Lib.hid hr
            have HT := Lib.hid (HN (show sideP b 3 s = false by unfold sideP; rw [hr]; rfl))
            clear HY HN hr hbw
            go_wp2_with fail
            go_region_held3 (fun u => u.cell? ⟨w.heap.size, 0, none⟩ = some (.int .i64 a) ∧ u.cell? ⟨w.heap.size, 1, none⟩ = some (.int .i64 b) ∧ u.cell? ⟨w.heap.size, 2, none⟩ = some (.int .i64 c)) (first | exact ⟨d0, d1, d2⟩ | exact ⟨f0, f1, f2⟩)
              (first
                | (go_at_call 37; (refine (spSide_any a b c s (by omega) (by omega) (by omega) (by omega) wr.drew).mono ?_); rintro e w5 ⟨rfl, hb5'⟩; rw [HA.out]; have hb5 : Below wr.heap.size wr w5 := below_undrew hb5'; have f0 := keepC hb5 d0; have f1 := keepC hb5 d1; have f2 := keepC hb5 d2; have hz2 := hb5.size; have hown5 := hown.below hb5 (Nat.le_refl _); have HB5 := Lib.hid (HB.out.trans (hb5.mono hz)))
              )
            all_goals go_wp2_with fail
            all_goals go_roundw
            all_goals (first | exact ⟨s + 1, k + 1, rfl, by omega, by omega, by omega, by rw [HT.out]; exact hown5, HB5.out⟩ | (simp [intOf]; omega))
          · have HA := Lib.hid hr
            have HT := Lib.hid (HN (show sideP b 3 s = false by unfold sideP; rw [hr]; rfl))
            clear HY HN hr hbw
            go_wp2_with fail
            go_region_held3 (fun u => u.cell? ⟨w.heap.size, 0, none⟩ = some (.int .i64 a) ∧ u.cell? ⟨w.heap.size, 1, none⟩ = some (.int .i64 b) ∧ u.cell? ⟨w.heap.size, 2, none⟩ = some (.int .i64 c)) (first | exact ⟨d0, d1, d2⟩ | exact ⟨f0, f1, f2⟩)
              (first
                | (go_at_call 37; (refine (spSide_any a b c s (by omega) (by omega) (by omega) (by omega) wr.drew).mono ?_); rintro e w5 ⟨rfl, hb5'⟩; rw [HA.out]; have hb5 : Below wr.heap.size wr w5 := below_undrew hb5'; have f0 := keepC hb5 d0; have f1 := keepC hb5 d1; have f2 := keepC hb5 d2; have hz2 := hb5.size; have hown5 := hown.below hb5 (Nat.le_refl _); have HB5 := Lib.hid (HB.out.trans (hb5.mono hz)))
              )
            all_goals go_wp2_with fail
            all_goals go_roundw
            all_goals (first | exact ⟨s + 1, k + 1, rfl, by omega, by omega, by omega, by rw [HT.out]; exact hown5, HB5.out⟩ | (simp [intOf]; omega))
          · have HA := Lib.hid hr
            have HT := Lib.hid (HN (show sideP b 3 s = false by unfold sideP; rw [hr]; rfl))
            clear HY HN hr hbw
            go_wp2_with fail
            go_region_held3 (fun u => u.cell? ⟨w.heap.size, 0, none⟩ = some (.int .i64 a) ∧ u.cell? ⟨w.heap.size, 1, none⟩ = some (.int .i64 b) ∧ u.cell? ⟨w.heap.size, 2, none⟩ = some (.int .i64 c)) (first | exact ⟨d0, d1, d2⟩ | exact ⟨f0, f1, f2⟩)
              (first
                | (go_at_call 37; (refine (spSide_any a b c s (by omega) (by omega) (by omega) (by omega) wr.drew).mono ?_); rintro e w5 ⟨rfl, hb5'⟩; rw [HA.out]; have hb5 : Below wr.heap.size wr w5 := below_undrew hb5'; have f0 := keepC hb5 d0; have f1 := keepC hb5 d1; have f2 := keepC hb5 d2; have hz2 := hb5.size; have hown5 := hown.below hb5 (Nat.le_refl _); have HB5 := Lib.hid (HB.out.trans (hb5.mono hz)))
              )
            all_goals go_wp2_with fail
            all_goals go_roundw
            all_goals (first | exact ⟨s + 1, k + 1, rfl, by omega, by omega, by omega, by rw [HT.out]; exact hown5, HB5.out⟩ | (simp [intOf]; omega))
          · have HA := Lib.hid hr
            have HT := Lib.hid (HY (show sideP b 3 s = true by unfold sideP; rw [hr]; rfl))
            clear HY HN hr hbw
            generalize hL : selL (sideP b 3) k = zs at *
            clear hL
            go_wp2_with fail
            go_region_held3 (fun u => u.cell? ⟨w.heap.size, 0, none⟩ = some (.int .i64 a) ∧ u.cell? ⟨w.heap.size, 1, none⟩ = some (.int .i64 b) ∧ u.cell? ⟨w.heap.size, 2, none⟩ = some (.int .i64 c)) (first | exact ⟨d0, d1, d2⟩ | exact ⟨f0, f1, f2⟩)
              (first
                | (go_at_call 37; (refine (spSide_any a b c s (by omega) (by omega) (by omega) (by omega) wr.drew).mono ?_); rintro e w5 ⟨rfl, hb5'⟩; rw [HA.out]; have hb5 : Below wr.heap.size wr w5 := below_undrew hb5'; have f0 := keepC hb5 d0; have f1 := keepC hb5 d1; have f2 := keepC hb5 d2; have hz2 := hb5.size; have hown5 := hown.below hb5 (Nat.le_refl _); have HB5 := Lib.hid (HB.out.trans (hb5.mono hz)))
              )
            all_goals go_wp2_with (at_builtin; refine wpList_pushI _ rfl _ _ rfl w1.heap.size _ zs rfl (hown5.alloc _) _ s rfl ((Blk.new' rfl).cell 0) (by omega) (by simp; omega) ?_; intro A1 c1 w3 hown1 hg1)
            all_goals go_roundw
            all_goals (first | exact ⟨s + 1, k + 1, rfl, by omega, by omega, by omega, by rw [HT.out]; exact hown1, (HB5.out.alloc (by omega) _).trans hg1⟩ | (simp [intOf]; omega))
        · obtain rfl : k = a.toNat := by omega
          go_wp2
          go_ret2
          exact ⟨_, rfl, hown.mono (by omega), Bt.trans (hbw.mono (by omega))⟩
    · rw [h, show decide ((0 : Int) ≤ -1) = false from rfl, selR_no]
      clear h
      have q1 := byte_ne h1
      have q2 := byte_ne h2
      have q3 := byte_ne h3
      have q4 := byte_ne h4
      clear h1 h2 h3 h4
      go_enter Try.func18, Try.ntmps18
      go_wp2_with fail
      refine (spGood_any _ _ _ _).mono ?_
      rintro e w1 ⟨rfl, hb⟩
      have hs : w.heap.size + 1 ≤ w1.heap.size := by have := hb.size; (try simp at this); omega
      have X0 : Blk w1 (w.heap.size) 27 #[.int .i64 a, .int .i64 b, .int .i64 c] := (Blk.new' (by simp)).below hb (by simp; try omega)
      have Bt : Below w.heap.size w w1 := ((Below.refl _ _).alloc (Nat.le_refl _) _).trans (hb.mono (by simp; try omega))
      clear hb
      have c0_0 : w1.cell? ⟨w.heap.size, 0, none⟩ = some (.int .i64 a) := X0.cell 0
      have c0_1 : w1.cell? ⟨w.heap.size, 1, none⟩ = some (.int .i64 b) := X0.cell 1
      have c0_2 : w1.cell? ⟨w.heap.size, 2, none⟩ = some (.int .i64 c) := X0.cell 2
      rw [H0.out]
      go_wp2_with fail
      go_ret2
      exact ⟨_, rfl, OwnI.nil _ _, Bt⟩


end Go.Proofs.Ytomjebelgnecfaa
