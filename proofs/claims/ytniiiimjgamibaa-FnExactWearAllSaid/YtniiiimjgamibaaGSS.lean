/- Rows of rows of ints as an argument: how they lie, their sizes, copies of them, comparisons, marks. -/
import Derived.Test.YtniiiimjgamibaaGMake
import Derived.Deep.RegionHeld3
namespace Go.Proofs.Ytniiiimjgamibaa
open Go.RowKit

/-- n rows in a slice, row i reads as xs i; they may overlap -/
def RdSS (w : World) (B : Nat) (A : Option Addr) (c n : Nat) (F : Nat → Option Addr) (C : Nat → Nat) (xs : Nat → List Int) : Prop :=
  n ≤ c ∧ ∀ i, i < n → (∃ b o, A = some ⟨b, o, none⟩ ∧ b < B ∧ w.cell? ⟨b, o + i, none⟩ = some (.slice (F i) (xs i).length (C i))) ∧ Rd w B (F i) (C i) (xs i)
theorem RdSS.below {w w' : World} {B B' : Nat} {A : Option Addr} {c n : Nat} {F : Nat → Option Addr} {C : Nat → Nat} {xs : Nat → List Int} (h : RdSS w B A c n F C xs) (hb : Below B' w w') (hB : B ≤ B') : RdSS w' B A c n F C xs :=
  ⟨h.1, fun i hi => by
    obtain ⟨⟨b, o, hA, hbB, hc⟩, hr⟩ := h.2 i hi
    exact ⟨⟨b, o, hA, hbB, (hb.cell (p := ⟨b, o + i, none⟩) (by show b < B'; omega)).trans hc⟩, hr.below hb hB⟩⟩
theorem RdSS.more {w : World} {B B' : Nat} {A : Option Addr} {c n : Nat} {F : Nat → Option Addr} {C : Nat → Nat} {xs : Nat → List Int} (h : RdSS w B A c n F C xs) (hB : B ≤ B') : RdSS w B' A c n F C xs :=
  ⟨h.1, fun i hi => by
    obtain ⟨⟨b, o, hA, hbB, hc⟩, hr⟩ := h.2 i hi
    exact ⟨⟨b, o, hA, by omega, hc⟩, hr.more hB⟩⟩

/-- the lengths of the first k rows together -/
def lenK (xs : Nat → List Int) : Nat → Nat
  | 0 => 0
  | k + 1 => lenK xs k + (xs k).length
theorem lenK_mono (xs : Nat → List Int) {k : Nat} : ∀ {n : Nat}, k ≤ n → lenK xs k ≤ lenK xs n
  | 0, h => by rw [show k = 0 by omega]; exact Nat.le_refl _
  | n + 1, h => by
    by_cases e : k = n + 1
    · rw [e]; exact Nat.le_refl _
    · have := lenK_mono xs (k := k) (n := n) (by omega)
      rw [lenK]; omega
theorem lenK_row (xs : Nat → List Int) {k n : Nat} (h : k < n) : (xs k).length ≤ lenK xs n := by
  have := lenK_mono xs (k := k + 1) (n := n) h
  rw [lenK] at this; omega
/-- what the law leaves of its budget behind one list, behind all -/
def szG (n left : Int) : Int := if left - n < 0 then -1 else left - n
def szGG (xs : Nat → List Int) (n : Nat) (left : Int) : Int := if left - n - lenK xs n < 0 then -1 else left - n - lenK xs n

set_option maxHeartbeats 400000 in
theorem szInt_any (A : Option Addr) (n c : Nat) (left : Int) (w : World) (h0 : 0 ≤ left) (h1 : left ≤ 1048576) (hn : n ≤ 9223372036854775807) :
    Calls Try.prog 14 #[.slice A n c, .int .i64 left] w fun e w' => e = .returned (.int .i64 (szG n left)) ∧ w = w' := by
  by_cases h : left - n < 0
  · rw [show szG n left = -1 from if_pos h]
    go_enter Try.func14, Try.ntmps14
    go_wp2
    go_ret
    exact ⟨rfl, rfl⟩
  · rw [show szG n left = left - n from if_neg h]
    go_enter Try.func14, Try.ntmps14
    go_wp2
    go_ret
    exact ⟨rfl, rfl⟩

set_option maxHeartbeats 2000000 in
theorem szSS_any (A : Option Addr) (c n : Nat) (F : Nat → Option Addr) (C : Nat → Nat) (xs : Nat → List Int) (B : Nat) (w : World) (hr : RdSS w B A c n F C xs) (left : Int) (h0 : 0 ≤ left) (h1 : left ≤ 1048576) (hn : n ≤ 9223372036854775807) (hx : ∀ i, i < n → (xs i).length ≤ 9223372036854775807) :
    Calls Try.prog 4 #[.slice A n c, .int .i64 left] w fun e w' => e = .returned (.int .i64 (szGG xs n left)) ∧ w = w' := by
  by_cases h : left - n < 0
  · rw [show szGG xs n left = -1 from if_pos (by omega)]
    go_enter Try.func4, Try.ntmps4
    go_wp2
    go_ret
    exact ⟨rfl, rfl⟩
  · have HX := Lib.hid hx
    have HR := Lib.hid hr.2
    obtain ⟨R, hR⟩ : ∃ R, szGG xs n left = R := ⟨_, rfl⟩
    have HG := Lib.hid hR
    rw [hR]
    clear hx hr hR
    go_enter Try.func4, Try.ntmps4
    go_wp2
    go_loop [1, 5] (fun u i => ∃ k : Nat, k ≤ n ∧ i = .int .i64 k ∧ u = .int .i64 (left - n - lenK xs k) ∧ 0 ≤ left - n - lenK xs k) (fun _ i => n - (intOf i).toNat)
    case atStart => exact ⟨0, Nat.zero_le _, rfl, by simp [lenK], by simp [lenK]; omega⟩
    case round =>
      obtain ⟨k, hk, rfl, rfl, hpos⟩ := hrel
      by_cases hlt : k < n
      · obtain ⟨⟨b, o, rfl, hb, hcell⟩, _⟩ := HR.out k hlt
        have hxk := HX.out k hlt
        have HL := Lib.hid (show (lenK xs (k + 1) : Int) = lenK xs k + (xs k).length by rw [lenK]; omega)
        have hm := lenK_mono xs (k := k + 1) (n := n) hlt
        have hq0 : (0 : Int) ≤ (lenK xs k : Int) := Int.natCast_nonneg _
        by_cases hs : left - n - lenK xs k - (xs k).length < 0
        · have HE := Lib.hid (show szG (xs k).length (left - n - lenK xs k) = -1 from if_pos hs)
          have HF := Lib.hid (show R = -1 by rw [← HG.out]; exact if_pos (by have := HL.out; omega))
          generalize (xs k).length = m at *
          generalize (lenK xs k : Int) = q at *
          clear hm
          go_wp2_with fail
          refine (szInt_any _ _ _ _ _ hpos (by omega) hxk).mono ?_
          rintro e w' ⟨rfl, rfl⟩
          rw [HE.out]
          go_wp2_with fail
          go_ret
          exact ⟨ret_int HF.out.symm, rfl⟩
        · have HE := Lib.hid (show szG (xs k).length (left - n - lenK xs k) = left - n - lenK xs k - (xs k).length from if_neg hs)
          generalize hM : (xs k).length = m at *
          generalize hQ : (lenK xs k : Int) = q at *
          clear hm hM hQ
          go_wp2_with fail
          refine (szInt_any _ _ _ _ _ hpos (by omega) hxk).mono ?_
          rintro e w' ⟨rfl, rfl⟩
          rw [HE.out]
          go_wp2_with fail
          go_round
          case rel => exact ⟨k + 1, by omega, by go_num, by rw [HL.out]; go_num, by rw [HL.out]; omega⟩
          case measure => simp [intOf]; omega
      · obtain rfl : k = n := by omega
        have HF := Lib.hid (show R = left - k - lenK xs k by rw [← HG.out]; exact if_neg (by omega))
        go_wp2
        go_ret
        exact ⟨ret_int HF.out.symm, rfl⟩

/-- a slice of rows, the first k of them made -/
def rwV (gs : Nat → Nat) (xs : Nat → List Int) (k j : Nat) : Value := if j < k then .slice (some ⟨gs j, 0, none⟩) (xs j).length (xs j).length else .slice none 0 0
def rwA (n : Nat) (gs : Nat → Nat) (xs : Nat → List Int) (k : Nat) : Array Value := ((List.range n).map (rwV gs xs k)).toArray
theorem rwA_get {n : Nat} {gs : Nat → Nat} {xs : Nat → List Int} {k j : Nat} (h : j < n) : (rwA n gs xs k)[j]? = some (rwV gs xs k j) := by simp [rwA, h]
theorem rwA_set {n : Nat} {gs gs' : Nat → Nat} {xs : Nat → List Int} {k : Nat} (h : ∀ j, j < k → gs' j = gs j) :
    (rwA n gs xs k).setIfInBounds k (.slice (some ⟨gs' k, 0, none⟩) (xs k).length (xs k).length) = rwA n gs' xs (k + 1) := by
  apply Array.ext_getElem?
  intro i
  simp only [rwA, Array.getElem?_setIfInBounds, List.getElem?_toArray, List.getElem?_map, List.size_toArray, List.length_map, List.length_range]
  by_cases hi : i < n
  · rw [List.getElem?_range hi]
    by_cases hki : k = i
    · subst hki
      simp [hi, rwV]
    · rw [if_neg hki]
      simp only [Option.map_some, rwV]
      by_cases h2 : i < k
      · rw [if_pos h2, if_pos (by omega), h i h2]
      · rw [if_neg h2, if_neg (by omega)]
  · have e : (List.range n)[i]? = none := by simp; omega
    rw [e]
    by_cases hki : k = i
    · rw [if_pos hki, if_neg (by omega)]; rfl
    · rw [if_neg hki]; rfl
/-- n rows, each a block of its own, and the block that holds them -/
structure OwnR (n g : Nat) (gs : Nat → Nat) (xs : Nat → List Int) (w : World) : Prop where
  o : Blk w g 22 (rwA n gs xs n)
  r : ∀ j, j < n → Blk w (gs j) 3 (ints (xs j))
  lo : ∀ j, j < n → g < gs j
  ne : ∀ i j, i < n → j < n → gs i = gs j → i = j
theorem OwnR.below {n g B : Nat} {gs : Nat → Nat} {xs : Nat → List Int} {w w' : World} (h : OwnR n g gs xs w) (hb : Below B w w') (hB : w.heap.size ≤ B) : OwnR n g gs xs w' :=
  ⟨h.o.below hb (by have := h.o.lt; omega), fun j hj => (h.r j hj).below hb (by have := (h.r j hj).lt; omega), h.lo, h.ne⟩
theorem OwnR.rd {n g : Nat} {gs : Nat → Nat} {xs : Nat → List Int} {w : World} (h : OwnR n g gs xs w) : RdSS w w.heap.size (some ⟨g, 0, none⟩) n n (fun j => some ⟨gs j, 0, none⟩) (fun j => (xs j).length) xs :=
  ⟨Nat.le_refl _, fun i hi => ⟨⟨g, 0, rfl, h.o.lt, by rw [Nat.zero_add, h.o.cell, rwA_get hi]; simp [rwV, hi]⟩, (h.r i hi).rd (h.r i hi).lt (Nat.le_refl _)⟩⟩

theorem rw_info : (Try.prog.info? 22).map (fun i => (i.zero, i.size, i.bytes)) = some (some (.slice none 0 0), 1, 24) := by kernel_rfl
theorem made_rw (n : Nat) (gs : Nat → Nat) (xs : Nat → List Int) : madeCells (Value.slice none 0 0).cells (n * 1) = rwA n gs xs 0 := by
  apply Array.ext_getElem?
  intro i
  simp only [rwA, madeCells, Value.cells]
  by_cases h : i < n <;> simp [h, rwV, Nat.mod_one]
theorem makeRw_run (n : Nat) (gs : Nat → Nat) (xs : Nat → List Int) (hn : n ≤ 1048576) (u : World) : (Instr.makeSlice 23 (.int .i64 (n : Int)) (.int .i64 (n : Int))).run Try.prog u = .ok (.slice (some ⟨u.heap.size, 0, none⟩) n n) (u.alloc (.cells (rwA n gs xs 0) 22)) := by
  obtain ⟨i0, hi, hz, hs, hby⟩ := info_parts rw_info
  have := run_make (P := Try.prog) u 23 22 i0 (.slice none 0 0) Try.underlying23 hi hz .i64 .i64 n n (by omega) (Int.le_refl _) (by rw [hby]; omega) (by omega)
  rw [Int.toNat_natCast, hs, made_rw n gs xs] at this
  exact this

set_option maxHeartbeats 4000000 in
theorem toSS_any (A : Option Addr) (c n : Nat) (F : Nat → Option Addr) (C : Nat → Nat) (xs : Nat → List Int) (B : Nat) (w : World) (hr : RdSS w B A c n F C xs) (hB : B ≤ w.heap.size) (hn : n ≤ 1048576) (hx : ∀ i, i < n → (xs i).length ≤ 1048576) :
    Calls Try.prog 7 #[.slice A n c] w fun e w' => ∃ g gs, e = .returned (.slice (some ⟨g, 0, none⟩) n n) ∧ w.heap.size ≤ g ∧ OwnR n g gs xs w' ∧ Below w.heap.size w w' := by
  have hmk := makeRw_run n (fun _ => 0) xs hn
  have HX := Lib.hid hx
  have HR := Lib.hid hr
  have N1 : Blk (w.alloc (.cells (rwA n (fun _ => 0) xs 0) 22)) w.heap.size 22 (rwA n (fun _ => 0) xs 0) := Blk.new _ _ _
  have B1 : Below w.heap.size w (w.alloc (.cells (rwA n (fun _ => 0) xs 0) 22)) := below_alloc _ _
  clear hx hr
  go_enter Try.func7, Try.ntmps7
  go_wp2_with fail
  clear hmk
  go_loopw [4] (fun i wr => ∃ (k : Nat) (gs : Nat → Nat), k ≤ n ∧ i = .int .i64 (k : Int) ∧ Blk wr w.heap.size 22 (rwA n gs xs k) ∧ (∀ j, j < k → Blk wr (gs j) 3 (ints (xs j))) ∧ (∀ j, j < k → w.heap.size < gs j) ∧ (∀ i j, i < k → j < k → gs i = gs j → i = j) ∧ Below w.heap.size w wr) (fun i _ => n - (intOf i).toNat)
  case atStart => exact ⟨0, fun _ => 0, Nat.zero_le _, rfl, N1, fun j hj => by omega, fun j hj => by omega, fun i j hi => by omega, B1⟩
  case round =>
    clear N1 B1
    obtain ⟨k, gs, hk, rfl, hO, hR, hlo, hne, hbel⟩ := hrel
    have hz := hO.lt
    by_cases hlt : k < n
    · obtain ⟨⟨b, o, rfl, hb, hcell⟩, hrk⟩ := (HR.out.below hbel hB).2 k hlt
      have hxk := HX.out k hlt
      have HT := Lib.hid (toIntS_new (F k) (C k) (xs k) B wr hrk (by omega) hxk)
      have HS := Lib.hid (fun (gk : Nat → Nat) (h : ∀ j, j < k → gk j = gs j) => rwA_set (n := n) (xs := xs) h)
      have HO := Lib.hid hO
      have HRR := Lib.hid hR
      have HLO := Lib.hid hlo
      have HNE := Lib.hid hne
      clear hrk hO hR hlo hne
      generalize (xs k).length = m at *
      go_wp2_with fail
      refine HT.out.mono ?_
      rintro e w1 ⟨q, rfl, hq, hQ, hb1⟩
      have hO1 := HO.out.below hb1 hz
      have f1 := hO1.frozen k
      have c1 : w1.cell? ⟨w.heap.size, k, none⟩ = some (.slice none 0 0) := by
        rw [hO1.cell, rwA_get hlt]
        simp [rwV]
      have hz1 := hb1.size
      have hql := hQ.lt
      obtain ⟨gk, hgk⟩ : ∃ gk, gk = fun j => if j = k then q else gs j := ⟨_, rfl⟩
      have E1 := Lib.hid (show gk k = q by rw [hgk]; simp)
      have E2 := Lib.hid (show ∀ j, j ≠ k → gk j = gs j from fun j hj => by rw [hgk]; simp [hj])
      have HO2 := Lib.hid (hO1.set_ k (.slice (some ⟨q, 0, none⟩) m m))
      clear hgk
      go_wp2_with fail
      go_roundw
      case rel =>
        refine ⟨k + 1, gk, by omega, by go_num, ?_, fun j hj => ?_, fun j hj => ?_, fun i j hi hj he => ?_, (hbel.trans (hb1.mono (by omega))).setCell (Nat.le_refl _) _⟩
        · have h7 := HS.out gk (fun j hj => E2.out j (by omega))
          rw [E1.out] at h7
          have := HO2.out
          rw [h7] at this
          exact this
        · by_cases e : j = k
          · rw [e, E1.out]
            exact hQ.far (by show q ≠ w.heap.size; omega) _
          · rw [E2.out j e]
            have h5 := HLO.out j (by omega)
            have h6 := (HRR.out j (by omega)).lt
            exact ((HRR.out j (by omega)).below hb1 h6).far (by show gs j ≠ w.heap.size; omega) _
        · by_cases e : j = k
          · rw [e, E1.out]; omega
          · rw [E2.out j e]; exact HLO.out j (by omega)
        · by_cases e : i = k
          · by_cases e2 : j = k
            · omega
            · rw [e, E1.out, E2.out j e2] at he
              have := (HRR.out j (by omega)).lt
              omega
          · by_cases e2 : j = k
            · rw [e2, E1.out, E2.out i e] at he
              have := (HRR.out i (by omega)).lt
              omega
            · rw [E2.out i e, E2.out j e2] at he
              exact HNE.out i j (by omega) (by omega) he
      case measure => simp [intOf]; omega
    · obtain rfl : k = n := by omega
      go_wp2
      go_ret
      exact ⟨_, gs, rfl, Nat.le_refl _, ⟨hO, hR, hlo, hne⟩, hbel⟩

set_option maxHeartbeats 2000000 in
theorem eqSS_same (A A' : Option Addr) (c c' n : Nat) (F F' : Nat → Option Addr) (C C' : Nat → Nat) (xs : Nat → List Int) (B B' : Nat) (w : World) (hr : RdSS w B A c n F C xs) (hr' : RdSS w B' A' c' n F' C' xs) (hB : B ≤ w.heap.size) (hB' : B' ≤ w.heap.size) (hx : ∀ i, i < n → (xs i).length ≤ 1048576) (hn : n ≤ 1048576) :
    Calls Try.prog 10 #[.slice A n c, .slice A' n c'] w fun e w' => e = .returned (.bool true) ∧ Below w.heap.size w w' := by
  have HX := Lib.hid hx
  have HR := Lib.hid hr
  have HR' := Lib.hid hr'
  clear hx hr hr'
  go_enter Try.func10, Try.ntmps10
  go_wp2
  go_loopw [5] (fun i wr => ∃ k : Nat, k ≤ n ∧ i = .int .i64 k ∧ Below w.heap.size w wr) (fun i _ => n - (intOf i).toNat)
  case atStart => exact ⟨0, Nat.zero_le _, rfl, Below.refl _ _⟩
  case round =>
    obtain ⟨k, hk, rfl, hbel⟩ := hrel
    by_cases hlt : k < n
    · obtain ⟨⟨b, o, rfl, hb, hcell⟩, hrk⟩ := (HR.out.below hbel hB).2 k hlt
      obtain ⟨⟨b2, o2, rfl, hb2, hcell2⟩, hrk2⟩ := (HR'.out.below hbel hB').2 k hlt
      have hxk := HX.out k hlt
      have hz := hbel.size
      have HT := Lib.hid (fun u (hu : Below wr.heap.size wr u) => eqIntS_new (F k) (F' k) (C k) (C' k) (xs k) (xs k) B B' u (hrk.below hu (by omega)) (hrk2.below hu (by omega)) hxk)
      clear hrk hrk2
      generalize (xs k).length = m at *
      go_wp2_with fail
      go_region_held3 (fun u => u.cell? ⟨b, o + k, none⟩ = some (.slice (F k) m (C k)) ∧ u.cell? ⟨b2, o2 + k, none⟩ = some (.slice (F' k) m (C' k))) (first | exact ⟨hcell, hcell2⟩ | exact ⟨x0, x1⟩)
        (first
          | (go_at_call 9; (refine (HT.out wr.drew (Below.refl _ _).drew).mono ?_); rintro e w5 ⟨rfl, hb5'⟩; rw [eqB_self]; have hb5 : Below wr.heap.size wr w5 := below_undrew hb5'; have x0 := (hb5.cell (p := ⟨b, o + k, none⟩) (by show b < wr.heap.size; omega)).trans hcell; have x1 := (hb5.cell (p := ⟨b2, o2 + k, none⟩) (by show b2 < wr.heap.size; omega)).trans hcell2)
        )
      all_goals go_wp2_with fail
      all_goals go_roundw
      all_goals (first | exact ⟨k + 1, by omega, by go_num, hbel.trans (hb5.mono hz)⟩ | (simp [intOf]; omega))
    · obtain rfl : k = n := by omega
      go_wp2
      go_ret
      exact ⟨rfl, hbel⟩

/-- the blocks of the rows -/
def rowsL (gs : Nat → Nat) (n : Nat) : List Nat := (List.range n).map gs
theorem mem_rowsL {gs : Nat → Nat} {n j : Nat} (h : j < n) : gs j ∈ rowsL gs n := List.mem_map.2 ⟨j, List.mem_range.2 h, rfl⟩
theorem rowsL_ge {n g : Nat} {gs : Nat → Nat} {xs : Nat → List Int} {w : World} (h : OwnR n g gs xs w) : ∀ k ∈ rowsL gs n, g < k := by
  intro k hk
  obtain ⟨j, hj, rfl⟩ := List.mem_map.1 hk
  exact h.lo j (List.mem_range.1 hj)

theorem rowsL_lt {n g : Nat} {gs : Nat → Nat} {xs : Nat → List Int} {w : World} (h : OwnR n g gs xs w) : ∀ k ∈ rowsL gs n, k < w.heap.size := by
  intro k hk
  obtain ⟨j, hj, rfl⟩ := List.mem_map.1 hk
  exact (h.r j (List.mem_range.1 hj)).lt
theorem OwnR.turned {n g : Nat} {gs : Nat → Nat} {xs : Nat → List Int} {w w' : World} {L : List Nat} (h : OwnR n g gs xs w) (ht : Turned w w' L) (hL : ∀ k ∈ L, k < g) : OwnR n g gs xs w' :=
  ⟨h.o.turned ht (fun hk => by have := hL g hk; omega), fun j hj => (h.r j hj).turned ht (fun hk => by have := hL _ hk; have := h.lo j hj; omega), h.lo, h.ne⟩
theorem RdSS.turned {w w' : World} {B : Nat} {A : Option Addr} {c n : Nat} {F : Nat → Option Addr} {C : Nat → Nat} {xs : Nat → List Int} {L : List Nat} (h : RdSS w B A c n F C xs) (ht : Turned w w' L) (hB : B ≤ w.heap.size) (hL : ∀ k ∈ L, B ≤ k) : RdSS w' B A c n F C xs :=
  h.below (ht.below hB hL) (Nat.le_refl _)

set_option maxHeartbeats 2000000 in
theorem markSS_new (n g : Nat) (gs : Nat → Nat) (xs : Nat → List Int) (k0 : Int) (w : World) (h : OwnR n g gs xs w) (hn : n ≤ 1048576) (hs : lenK xs n ≤ 1048576) (hk0 : 0 ≤ k0) (hk1 : k0 ≤ 2097152) :
    Calls Try.prog 12 #[.slice (some ⟨g, 0, none⟩) n n, .int .i64 k0] w fun e w' => e = .returned (.int .i64 (k0 + lenK xs n)) ∧ Turned w w' (rowsL gs n) := by
  have HLO := Lib.hid h.lo
  have HNE := Lib.hid h.ne
  have HO := Lib.hid h.o
  have HR := Lib.hid h.r
  have HM := Lib.hid (fun j (hj : j < n) => mem_rowsL (gs := gs) hj)
  clear h
  go_enter Try.func12, Try.ntmps12
  go_wp2
  go_loopw [1, 5] (fun u i wr => ∃ j : Nat, j ≤ n ∧ i = .int .i64 j ∧ u = .int .i64 (k0 + lenK xs j) ∧ Hid (Blk wr g 22 (rwA n gs xs n)) ∧ Hid (∀ p, j ≤ p → p < n → Blk wr (gs p) 3 (ints (xs p))) ∧ Turned w wr (rowsL gs n)) (fun _ i _ => n - (intOf i).toNat)
  case atStart => exact ⟨0, Nat.zero_le _, rfl, by simp [lenK], HO, Lib.hid (fun p _ hp => HR.out p hp), Turned.refl _ _⟩
  case round =>
    obtain ⟨j, hj, rfl, rfl, hO, hR, ht⟩ := hrel
    by_cases hlt : j < n
    · have hcell : wr.cell? ⟨g, j, none⟩ = some (.slice (some ⟨gs j, 0, none⟩) (xs j).length (xs j).length) := by
        rw [hO.out.cell, rwA_get hlt]; simp [rwV, hlt]
      have hlo := HLO.out j hlt
      have hll := lenK_row xs hlt
      have hlk := lenK_mono xs (k := j) (n := n) (by omega)
      have HL := Lib.hid (show (lenK xs (j + 1) : Int) = lenK xs j + (xs j).length by rw [lenK]; omega)
      have HT := Lib.hid (markI_new _ (xs j) (k0 + lenK xs j) (gs j) wr ((hR.out j (Nat.le_refl _) hlt).own (by omega)) (by omega) (by omega) (by omega))
      clear hll hlk
      generalize (xs j).length = m at *
      generalize (lenK xs j : Int) = q at *
      go_wp2_with fail
      refine HT.out.mono ?_
      rintro e w1 ⟨rfl, _, ht1⟩
      rw [rowL_some] at ht1
      go_wp2_with fail
      go_roundw
      case rel =>
        refine ⟨j + 1, by omega, by go_num, by rw [HL.out]; go_num, Lib.hid (hO.out.turned ht1 (by simp; omega)), Lib.hid (fun p hp hp2 => (hR.out p (by omega) hp2).turned ht1 ?_), ht.trans (ht1.more (fun k hk => by rw [List.mem_singleton.1 hk]; exact HM.out j hlt))⟩
        intro hmem
        have := HNE.out p j hp2 hlt (List.mem_singleton.1 hmem)
        omega
      case measure => simp [intOf]; omega
    · obtain rfl : j = n := by omega
      go_wp2
      go_ret
      exact ⟨rfl, ht⟩

end Go.Proofs.Ytniiiimjgamibaa
