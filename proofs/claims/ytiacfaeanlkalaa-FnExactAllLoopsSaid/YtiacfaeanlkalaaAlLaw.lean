/- Rows of lists; all loops on both sides; the law FnExactAllLoops beside leavers. -/
import Derived.Test.YtiacfaeanlkalaaBaV
import Derived.Test.YtiacfaeanlkalaaGMake
import Derived.Deep.RegionHeld3
import Derived.Maps.AppendAt
import Derived.Test.YtiacfaeanlkalaaBaLp
import Derived.Test.YtiacfaeanlkalaaGnT
set_option linter.unusedSimpArgs false
namespace Go.Proofs.Ytiacfaeanlkalaa
set_option maxRecDepth 100000
open Go.Conc Go.RowKit

/-- the end of the ball from a step, as a text -/
noncomputable def endT (xs : List Int) (s : Int) : ByteArray := ⟨endS (courseB xs s).1 (courseB xs s).2⟩
/-- the steps, of the first k, with an end -/
noncomputable def selE (xs : List Int) (E : ByteArray) : Nat → List Int
  | 0 => []
  | k + 1 => if endT xs (k : Int) = E then selE xs E k ++ [(k : Int)] else selE xs E k
theorem selE_length (xs : List Int) (E : ByteArray) : ∀ k, (selE xs E k).length ≤ k
  | 0 => by simp [selE]
  | k + 1 => by
    have := selE_length xs E k
    unfold selE
    split
    · simp; omega
    · omega
theorem selE_yes {xs : List Int} {E : ByteArray} {k : Nat} (h : endT xs (k : Int) = E) : selE xs E (k + 1) = selE xs E k ++ [(k : Int)] := by
  rw [selE, if_pos h]
theorem selE_no {xs : List Int} {E : ByteArray} {k : Nat} (h : ¬ endT xs (k : Int) = E) : selE xs E (k + 1) = selE xs E k := by
  rw [selE, if_neg h]
theorem ball_step {xs : List Int} (h : jumpsB xs = true) {k : Nat} (hk : k < xs.length) : ballB xs (k : Int) = true := by
  unfold ballB
  rw [h, inB_yes (by omega) (by omega)]; rfl

set_option maxHeartbeats 1000000 in
theorem baSteps_any (A : Option Addr) (c : Nat) (xs : List Int) (E : ByteArray) (B : Nat) (w : World) (hr : Rd w B A c xs) (hB : B ≤ w.heap.size) (hJ : jumpsB xs = true) :
    Calls Try.prog 59 #[.slice A xs.length c, .string E] w fun e w' => ∃ v, e = .returned v ∧ OwnI w' w.heap.size v (selE xs E xs.length) ∧ Below w.heap.size w w' := by
  have hl := jumpsB_le hJ
  have H := Lib.hid hJ
  clear hJ
  go_enter Try.func59, Try.ntmps59
  go_wp2_with fail
  go_loopw [5, 9] (fun v i wr => ∃ k : Nat, k ≤ xs.length ∧ i = .int .i64 (k : Int) ∧ OwnI wr w.heap.size v (selE xs E k) ∧ Below w.heap.size w wr) (fun _ i _ => xs.length - (intOf i).toNat)
  case atStart => exact ⟨0, Nat.zero_le _, rfl, OwnI.nil _ _, Below.refl _ _⟩
  case round =>
    obtain ⟨k, hk, rfl, hown, hbw⟩ := hrel
    have hz : w.heap.size ≤ wr.heap.size := hbw.size
    by_cases hlt : k < xs.length
    · have HC : Hid (Calls Try.prog 41 #[.slice A xs.length c, .int .i64 (k : Int)] wr fun e w' => e = .returned (.string (endT xs (k : Int))) ∧ Below wr.heap.size wr w') := Lib.hid (baEnd_any A c xs (k : Int) B wr (hr.below hbw hB) (Nat.le_trans hB hz) (ball_step H.out hlt))
      have hkl := selE_length xs E k
      have HEQ := Lib.hid (text_beq (endT xs (k : Int)) E)
      by_cases hp : endT xs (k : Int) = E
      · have HT := Lib.hid (selE_yes hp)
        have HB := Lib.hid hbw
        have hq := HEQ.out
        rw [decide_eq_true hp] at hq
        generalize hL : selE xs E k = zs at *
        have HL := Lib.hid hL
        clear hL hbw hp
        generalize endT xs (k : Int) = T at *
        go_wp2_with fail
        refine HC.out.mono ?_
        rintro e w1 ⟨rfl, hb1⟩
        have hown1' := hown.below hb1 (Nat.le_refl _)
        have hz1 : w.heap.size ≤ w1.heap.size := Nat.le_trans hz hb1.size
        have HB1 := Lib.hid (HB.out.trans (hb1.mono hz))
        clear hown hb1
        go_wp2_with (at_builtin; refine wpList_pushI _ rfl _ _ rfl w.heap.size _ zs rfl (hown1'.alloc _) w1.heap.size (k : Int) rfl (by simp) (by omega) (by simp; omega) ?_; intro A1 c1 w3 hown1 hg1)
        go_roundw
        case rel => exact ⟨k + 1, by omega, by go_num, by rw [HT.out]; exact hown1, (HB1.out.alloc (by omega) _).trans hg1⟩
        case measure => simp [intOf]; omega
      · have HT := Lib.hid (selE_no hp)
        have hq := HEQ.out
        rw [decide_eq_false hp] at hq
        clear hp
        generalize endT xs (k : Int) = T at *
        go_wp2_with fail
        refine HC.out.mono ?_
        rintro e w1 ⟨rfl, hb1⟩
        have hown1 := hown.below hb1 (Nat.le_refl _)
        have hB1 := hbw.trans (hb1.mono hz)
        go_wp2_with fail
        go_roundw
        case rel => exact ⟨k + 1, by omega, by go_num, by rw [HT.out]; exact hown1, hB1⟩
        case measure => simp [intOf]; omega
    · obtain rfl : k = xs.length := by omega
      go_wp2_with fail
      go_ret
      exact ⟨_, rfl, hown, hbw⟩

theorem results_tmp4 {fn : Func} {t u v x : Tmp} (h : fn.results = #[.tmp t, .tmp u, .tmp v, .tmp x]) (tmps : Array Value) (P : Program) (w : World) :
    (results fn tmps).run P w = .ok (.tuple #[tmps.getD t undef, tmps.getD u undef, tmps.getD v undef, tmps.getD x undef]) w := by
  simp [results, h]
/-- how many steps have an end -/
noncomputable def cntE (xs : List Int) (E : ByteArray) : Int := if jumpsB xs then ((selE xs E xs.length).length : Int) else 0

set_option maxHeartbeats 1000000 in
theorem specCount_any (A : Option Addr) (c : Nat) (xs : List Int) (B : Nat) (w : World) (hr : Rd w B A c xs) (hB : B ≤ w.heap.size) (hn : xs.length ≤ 1048576) :
    Calls Try.prog 31 #[.slice A xs.length c] w fun e w' => e = .returned (.tuple #[.int .i64 (cntE xs ⟨#[97]⟩), .int .i64 (cntE xs ⟨#[98]⟩), .int .i64 (cntE xs ⟨#[108]⟩), .bool (jumpsB xs)]) ∧ Below w.heap.size w w' := by
  cases hJ : jumpsB xs
  · have HT := Lib.hid (fun E => show cntE xs E = 0 by simp [cntE, hJ])
    have H := Lib.hid hJ
    clear hJ
    go_enter Try.func31, Try.ntmps31
    go_wp2_with fail
    refine (baGood_any A c xs B w hr hn).mono ?_
    rintro e w' ⟨rfl, rfl⟩
    rw [H.out]
    go_wp2_with fail
    (try simp only [Exit.inBlock, Exit.then]); refine bodyPost_ret (results_tmp4 rfl _ _ _) rfl ?_
    exact ⟨by rw [HT.out, HT.out, HT.out]; rfl, Below.refl _ _⟩
  · have HT := Lib.hid (fun E => show cntE xs E = ((selE xs E xs.length).length : Int) by simp [cntE, hJ])
    have HC := Lib.hid (fun E u (h : Below w.heap.size w u) => baSteps_any A c xs E B u (hr.below h hB) (Nat.le_trans hB h.size) hJ)
    have H := Lib.hid hJ
    clear hJ
    go_enter Try.func31, Try.ntmps31
    go_wp2_with fail
    refine (baGood_any A c xs B w hr hn).mono ?_
    rintro e w' ⟨rfl, rfl⟩
    rw [H.out]
    go_wp2_with fail
    refine (HC.out _ w (Below.refl _ _)).mono ?_
    rintro e w1 ⟨v1, rfl, o1, hb1⟩
    obtain ⟨A1, c1, rfl, r1⟩ := o1.form
    have l1 := r1.1
    go_wp2_with fail
    refine (HC.out _ w1 hb1).mono ?_
    rintro e w2 ⟨v2, rfl, o2, hb2⟩
    obtain ⟨A2, c2, rfl, r2⟩ := o2.form
    have hb02 := hb1.trans (hb2.mono hb1.size)
    go_wp2_with fail
    refine (HC.out _ w2 hb02).mono ?_
    rintro e w3 ⟨v3, rfl, o3, hb3⟩
    obtain ⟨A3, c3, rfl, r3⟩ := o3.form
    have hb03 := hb02.trans (hb3.mono hb02.size)
    go_wp2_with fail
    (try simp only [Exit.inBlock, Exit.then]); refine bodyPost_ret (results_tmp4 rfl _ _ _) rfl ?_
    exact ⟨by rw [HT.out, HT.out, HT.out]; rfl, hb03⟩

/-- a text that names an end -/
def isE (E : ByteArray) : Bool := E = ⟨#[97]⟩ ∨ E = ⟨#[98]⟩ ∨ E = ⟨#[108]⟩
noncomputable def sbR (xs : List Int) (E : ByteArray) : List Int := if jumpsB xs && isE E then selE xs E xs.length else []
theorem sbR_length {xs : List Int} (h : xs.length ≤ 1048576) (E : ByteArray) : (sbR xs E).length ≤ 1048576 := by
  have := selE_length xs E xs.length
  unfold sbR
  split
  · omega
  · simp

set_option maxHeartbeats 1000000 in
theorem specSteps_any (A : Option Addr) (c : Nat) (xs : List Int) (E : ByteArray) (B : Nat) (w : World) (hr : Rd w B A c xs) (hB : B ≤ w.heap.size) (hn : xs.length ≤ 1048576) :
    Calls Try.prog 33 #[.slice A xs.length c, .string E] w (Lists w (sbR xs E) (jumpsB xs && isE E)) := by
  cases hJ : jumpsB xs
  · have HT := Lib.hid (show sbR xs E = [] by simp [sbR, hJ])
    have H := Lib.hid hJ
    clear hJ
    go_enter Try.func33, Try.ntmps33
    go_wp2_with fail
    refine (baGood_any A c xs B w hr hn).mono ?_
    rintro e w' ⟨rfl, rfl⟩
    rw [H.out]
    go_wp2_with fail
    go_ret2
    exact ⟨_, rfl, by rw [HT.out]; exact OwnI.nil _ _, Below.refl _ _⟩
  · have HC := Lib.hid (baSteps_any A c xs E B w hr hB hJ)
    have H := Lib.hid hJ
    have q1 := text_beq E ⟨#[97]⟩
    have q2 := text_beq E ⟨#[98]⟩
    have q3 := text_beq E ⟨#[108]⟩
    by_cases h1 : E = ⟨#[97]⟩ ∨ E = ⟨#[98]⟩ ∨ E = ⟨#[108]⟩
    · have hi : isE E = true := by simp [isE, h1]
      have HT := Lib.hid (show sbR xs E = selE xs E xs.length by simp [sbR, hJ, hi])
      rw [hi]
      clear hJ hi
      rcases h1 with rfl | rfl | rfl
      all_goals
        clear q1 q2 q3
        go_enter Try.func33, Try.ntmps33
        go_wp2_with fail
        refine (baGood_any A c xs B w hr hn).mono ?_
        rintro e w' ⟨rfl, rfl⟩
        rw [H.out]
        go_wp2_with fail
        refine HC.out.mono ?_
        rintro e w1 ⟨v1, rfl, o1, hb1⟩
        go_wp2_with fail
        go_ret2
        exact ⟨_, rfl, by rw [HT.out]; exact o1, hb1⟩
    · have hi : isE E = false := by simpa [isE] using h1
      have HT := Lib.hid (show sbR xs E = [] by simp [sbR, hi])
      rw [hi]
      rw [decide_eq_false (fun h => h1 (.inl h))] at q1
      rw [decide_eq_false (fun h => h1 (.inr (.inl h)))] at q2
      rw [decide_eq_false (fun h => h1 (.inr (.inr h)))] at q3
      have e1 : (⟨#[97]⟩ : ByteArray).toList = [97] := by decide +kernel
      have e2 : (⟨#[98]⟩ : ByteArray).toList = [98] := by decide +kernel
      have e3 : (⟨#[108]⟩ : ByteArray).toList = [108] := by decide +kernel
      rw [e1] at q1
      rw [e2] at q2
      rw [e3] at q3
      clear hJ hi h1 HC
      go_enter Try.func33, Try.ntmps33
      go_wp2_with fail
      refine (baGood_any A c xs B w hr hn).mono ?_
      rintro e w' ⟨rfl, rfl⟩
      rw [H.out]
      go_wp2_with fail
      go_ret2
      exact ⟨_, rfl, by rw [HT.out]; exact OwnI.nil _ _, Below.refl _ _⟩

end Go.Proofs.Ytiacfaeanlkalaa

namespace Go.Proofs.Ytiacfaeanlkalaa
set_option maxRecDepth 100000
open Go.RowKit

/-- n rows in a slice, row i reads as xs i; they may overlap -/
def RdSS (w : World) (B : Nat) (A : Option Addr) (c n : Nat) (F : Nat → Option Addr) (C : Nat → Nat) (xs : Nat → List Int) : Prop :=
  n ≤ c ∧ ∀ i, i < n → (∃ b o, A = some ⟨b, o, none⟩ ∧ b < B ∧ w.cell? ⟨b, o + i, none⟩ = some (.slice (F i) (xs i).length (C i))) ∧ Rd w B (F i) (C i) (xs i)
theorem RdSS.below {w w' : World} {B B' : Nat} {A : Option Addr} {c n : Nat} {F : Nat → Option Addr} {C : Nat → Nat} {xs : Nat → List Int} (h : RdSS w B A c n F C xs) (hb : Below B' w w') (hB : B ≤ B') : RdSS w' B A c n F C xs :=
  ⟨h.1, fun i hi => by
    obtain ⟨⟨b, o, hA, hbB, hc⟩, hr⟩ := h.2 i hi
    exact ⟨⟨b, o, hA, hbB, (hb.cell (p := ⟨b, o + i, none⟩) (by show b < B'; omega)).trans hc⟩, hr.below hb hB⟩⟩
theorem RdSS.more {w : World} {B B' : Nat} {A : Option Addr} {c n : Nat} {F : Nat → Option Addr} {C : Nat → Nat} {xs : Nat → List Int} (h : RdSS w B A c n F C xs) (hB : B ≤ B') : RdSS w B' A c n F C xs :=
  ⟨h.1, fun i hi => by
    obtain ⟨⟨b, o, hA, hbB, hc⟩, hr⟩ := h.2 i hi
    exact ⟨⟨b, o, hA, by omega, hc⟩, hr.more hB⟩⟩

/-- the lengths of the first k rows together -/
def lenK (xs : Nat → List Int) : Nat → Nat
  | 0 => 0
  | k + 1 => lenK xs k + (xs k).length
theorem lenK_mono (xs : Nat → List Int) {k : Nat} : ∀ {n : Nat}, k ≤ n → lenK xs k ≤ lenK xs n
  | 0, h => by rw [show k = 0 by omega]; exact Nat.le_refl _
  | n + 1, h => by
    by_cases e : k = n + 1
    · rw [e]; exact Nat.le_refl _
    · have := lenK_mono xs (k := k) (n := n) (by omega)
      rw [lenK]; omega
theorem lenK_row (xs : Nat → List Int) {k n : Nat} (h : k < n) : (xs k).length ≤ lenK xs n := by
  have := lenK_mono xs (k := k + 1) (n := n) h
  rw [lenK] at this; omega
/-- what the law leaves of its budget behind one list, behind all -/
def szG (n left : Int) : Int := if left - n < 0 then -1 else left - n
def szGG (xs : Nat → List Int) (n : Nat) (left : Int) : Int := if left - n - lenK xs n < 0 then -1 else left - n - lenK xs n



/-- a slice of rows, the first k of them made -/
def rwV (gs : Nat → Nat) (xs : Nat → List Int) (k j : Nat) : Value := if j < k then .slice (some ⟨gs j, 0, none⟩) (xs j).length (xs j).length else .slice none 0 0
def rwA (n : Nat) (gs : Nat → Nat) (xs : Nat → List Int) (k : Nat) : Array Value := ((List.range n).map (rwV gs xs k)).toArray
theorem rwA_get {n : Nat} {gs : Nat → Nat} {xs : Nat → List Int} {k j : Nat} (h : j < n) : (rwA n gs xs k)[j]? = some (rwV gs xs k j) := by simp [rwA, h]
theorem rwA_set {n : Nat} {gs gs' : Nat → Nat} {xs : Nat → List Int} {k : Nat} (h : ∀ j, j < k → gs' j = gs j) :
    (rwA n gs xs k).setIfInBounds k (.slice (some ⟨gs' k, 0, none⟩) (xs k).length (xs k).length) = rwA n gs' xs (k + 1) := by
  apply Array.ext_getElem?
  intro i
  simp only [rwA, Array.getElem?_setIfInBounds, List.getElem?_toArray, List.getElem?_map, List.size_toArray, List.length_map, List.length_range]
  by_cases hi : i < n
  · rw [List.getElem?_range hi]
    by_cases hki : k = i
    · subst hki
      simp [hi, rwV]
    · rw [if_neg hki]
      simp only [Option.map_some, rwV]
      by_cases h2 : i < k
      · rw [if_pos h2, if_pos (by omega), h i h2]
      · rw [if_neg h2, if_neg (by omega)]
  · have e : (List.range n)[i]? = none := by simp; omega
    rw [e]
    by_cases hki : k = i
    · rw [if_pos hki, if_neg (by omega)]; rfl
    · rw [if_neg hki]; rfl
/-- n rows, each a block of its own, and the block that holds them -/
structure OwnR (n g : Nat) (gs : Nat → Nat) (xs : Nat → List Int) (w : World) : Prop where
  o : Blk w g 22 (rwA n gs xs n)
  r : ∀ j, j < n → Blk w (gs j) 3 (ints (xs j))
  lo : ∀ j, j < n → g < gs j
  ne : ∀ i j, i < n → j < n → gs i = gs j → i = j
theorem OwnR.below {n g B : Nat} {gs : Nat → Nat} {xs : Nat → List Int} {w w' : World} (h : OwnR n g gs xs w) (hb : Below B w w') (hB : w.heap.size ≤ B) : OwnR n g gs xs w' :=
  ⟨h.o.below hb (by have := h.o.lt; omega), fun j hj => (h.r j hj).below hb (by have := (h.r j hj).lt; omega), h.lo, h.ne⟩
theorem OwnR.rd {n g : Nat} {gs : Nat → Nat} {xs : Nat → List Int} {w : World} (h : OwnR n g gs xs w) : RdSS w w.heap.size (some ⟨g, 0, none⟩) n n (fun j => some ⟨gs j, 0, none⟩) (fun j => (xs j).length) xs :=
  ⟨Nat.le_refl _, fun i hi => ⟨⟨g, 0, rfl, h.o.lt, by rw [Nat.zero_add, h.o.cell, rwA_get hi]; simp [rwV, hi]⟩, (h.r i hi).rd (h.r i hi).lt (Nat.le_refl _)⟩⟩


set_option maxHeartbeats 2000000 in
theorem eqSS_same (A A' : Option Addr) (c c' n : Nat) (F F' : Nat → Option Addr) (C C' : Nat → Nat) (xs : Nat → List Int) (B B' : Nat) (w : World) (hr : RdSS w B A c n F C xs) (hr' : RdSS w B' A' c' n F' C' xs) (hB : B ≤ w.heap.size) (hB' : B' ≤ w.heap.size) (hx : ∀ i, i < n → (xs i).length ≤ 1048576) (hn : n ≤ 1048576) :
    Calls Try.prog 37 #[.slice A n c, .slice A' n c'] w fun e w' => e = .returned (.bool true) ∧ Below w.heap.size w w' := by
  have HX := Lib.hid hx
  have HR := Lib.hid hr
  have HR' := Lib.hid hr'
  clear hx hr hr'
  go_enter Try.func37, Try.ntmps37
  go_wp2
  go_loopw [5] (fun i wr => ∃ k : Nat, k ≤ n ∧ i = .int .i64 k ∧ Below w.heap.size w wr) (fun i _ => n - (intOf i).toNat)
  case atStart => exact ⟨0, Nat.zero_le _, rfl, Below.refl _ _⟩
  case round =>
    obtain ⟨k, hk, rfl, hbel⟩ := hrel
    by_cases hlt : k < n
    · obtain ⟨⟨b, o, rfl, hb, hcell⟩, hrk⟩ := (HR.out.below hbel hB).2 k hlt
      obtain ⟨⟨b2, o2, rfl, hb2, hcell2⟩, hrk2⟩ := (HR'.out.below hbel hB').2 k hlt
      have hxk := HX.out k hlt
      have hz := hbel.size
      have HT := Lib.hid (fun u (hu : Below wr.heap.size wr u) => eqIntS_new (F k) (F' k) (C k) (C' k) (xs k) (xs k) B B' u (hrk.below hu (by omega)) (hrk2.below hu (by omega)) hxk)
      clear hrk hrk2
      generalize (xs k).length = m at *
      go_wp2_with fail
      go_region_held3 (fun u => u.cell? ⟨b, o + k, none⟩ = some (.slice (F k) m (C k)) ∧ u.cell? ⟨b2, o2 + k, none⟩ = some (.slice (F' k) m (C' k))) (first | exact ⟨hcell, hcell2⟩ | exact ⟨x0, x1⟩)
        (first
          | (go_at_call 16; (refine (HT.out wr.drew (Below.refl _ _).drew).mono ?_); rintro e w5 ⟨rfl, hb5'⟩; rw [eqB_self]; have hb5 : Below wr.heap.size wr w5 := below_undrew hb5'; have x0 := (hb5.cell (p := ⟨b, o + k, none⟩) (by show b < wr.heap.size; omega)).trans hcell; have x1 := (hb5.cell (p := ⟨b2, o2 + k, none⟩) (by show b2 < wr.heap.size; omega)).trans hcell2)
        )
      all_goals go_wp2_with fail
      all_goals go_roundw
      all_goals (first | exact ⟨k + 1, by omega, by go_num, hbel.trans (hb5.mono hz)⟩ | (simp [intOf]; omega))
    · obtain rfl : k = n := by omega
      go_wp2
      go_ret
      exact ⟨rfl, hbel⟩

/-- the blocks of the rows -/
def rowsL (gs : Nat → Nat) (n : Nat) : List Nat := (List.range n).map gs
theorem mem_rowsL {gs : Nat → Nat} {n j : Nat} (h : j < n) : gs j ∈ rowsL gs n := List.mem_map.2 ⟨j, List.mem_range.2 h, rfl⟩
theorem rowsL_ge {n g : Nat} {gs : Nat → Nat} {xs : Nat → List Int} {w : World} (h : OwnR n g gs xs w) : ∀ k ∈ rowsL gs n, g < k := by
  intro k hk
  obtain ⟨j, hj, rfl⟩ := List.mem_map.1 hk
  exact h.lo j (List.mem_range.1 hj)

theorem rowsL_lt {n g : Nat} {gs : Nat → Nat} {xs : Nat → List Int} {w : World} (h : OwnR n g gs xs w) : ∀ k ∈ rowsL gs n, k < w.heap.size := by
  intro k hk
  obtain ⟨j, hj, rfl⟩ := List.mem_map.1 hk
  exact (h.r j (List.mem_range.1 hj)).lt
theorem OwnR.turned {n g : Nat} {gs : Nat → Nat} {xs : Nat → List Int} {w w' : World} {L : List Nat} (h : OwnR n g gs xs w) (ht : Turned w w' L) (hL : ∀ k ∈ L, k < g) : OwnR n g gs xs w' :=
  ⟨h.o.turned ht (fun hk => by have := hL g hk; omega), fun j hj => (h.r j hj).turned ht (fun hk => by have := hL _ hk; have := h.lo j hj; omega), h.lo, h.ne⟩
theorem RdSS.turned {w w' : World} {B : Nat} {A : Option Addr} {c n : Nat} {F : Nat → Option Addr} {C : Nat → Nat} {xs : Nat → List Int} {L : List Nat} (h : RdSS w B A c n F C xs) (ht : Turned w w' L) (hB : B ≤ w.heap.size) (hL : ∀ k ∈ L, B ≤ k) : RdSS w' B A c n F C xs :=
  h.below (ht.below hB hL) (Nat.le_refl _)

set_option maxHeartbeats 2000000 in
theorem markSS_new (n g : Nat) (gs : Nat → Nat) (xs : Nat → List Int) (k0 : Int) (w : World) (h : OwnR n g gs xs w) (hn : n ≤ 1048576) (hs : lenK xs n ≤ 1048576) (hk0 : 0 ≤ k0) (hk1 : k0 ≤ 2097152) :
    Calls Try.prog 38 #[.slice (some ⟨g, 0, none⟩) n n, .int .i64 k0] w fun e w' => e = .returned (.int .i64 (k0 + lenK xs n)) ∧ Turned w w' (rowsL gs n) := by
  have HLO := Lib.hid h.lo
  have HNE := Lib.hid h.ne
  have HO := Lib.hid h.o
  have HR := Lib.hid h.r
  have HM := Lib.hid (fun j (hj : j < n) => mem_rowsL (gs := gs) hj)
  clear h
  go_enter Try.func38, Try.ntmps38
  go_wp2
  go_loopw [1, 5] (fun u i wr => ∃ j : Nat, j ≤ n ∧ i = .int .i64 j ∧ u = .int .i64 (k0 + lenK xs j) ∧ Hid (Blk wr g 22 (rwA n gs xs n)) ∧ Hid (∀ p, j ≤ p → p < n → Blk wr (gs p) 3 (ints (xs p))) ∧ Turned w wr (rowsL gs n)) (fun _ i _ => n - (intOf i).toNat)
  case atStart => exact ⟨0, Nat.zero_le _, rfl, by simp [lenK], HO, Lib.hid (fun p _ hp => HR.out p hp), Turned.refl _ _⟩
  case round =>
    obtain ⟨j, hj, rfl, rfl, hO, hR, ht⟩ := hrel
    by_cases hlt : j < n
    · have hcell : wr.cell? ⟨g, j, none⟩ = some (.slice (some ⟨gs j, 0, none⟩) (xs j).length (xs j).length) := by
        rw [hO.out.cell, rwA_get hlt]; simp [rwV, hlt]
      have hlo := HLO.out j hlt
      have hll := lenK_row xs hlt
      have hlk := lenK_mono xs (k := j) (n := n) (by omega)
      have HL := Lib.hid (show (lenK xs (j + 1) : Int) = lenK xs j + (xs j).length by rw [lenK]; omega)
      have HT := Lib.hid (markI_new _ (xs j) (k0 + lenK xs j) (gs j) wr ((hR.out j (Nat.le_refl _) hlt).own (by omega)) (by omega) (by omega) (by omega))
      clear hll hlk
      generalize (xs j).length = m at *
      generalize (lenK xs j : Int) = q at *
      go_wp2_with fail
      refine HT.out.mono ?_
      rintro e w1 ⟨rfl, _, ht1⟩
      rw [rowL_some] at ht1
      go_wp2_with fail
      go_roundw
      case rel =>
        refine ⟨j + 1, by omega, by go_num, by rw [HL.out]; go_num, Lib.hid (hO.out.turned ht1 (by simp; omega)), Lib.hid (fun p hp hp2 => (hR.out p (by omega) hp2).turned ht1 ?_), ht.trans (ht1.more (fun k hk => by rw [List.mem_singleton.1 hk]; exact HM.out j hlt))⟩
        intro hmem
        have := HNE.out p j hp2 hlt (List.mem_singleton.1 hmem)
        omega
      case measure => simp [intOf]; omega
    · obtain rfl : j = n := by omega
      go_wp2
      go_ret
      exact ⟨rfl, ht⟩

end Go.Proofs.Ytiacfaeanlkalaa

namespace Go.Proofs.Ytiacfaeanlkalaa
set_option maxRecDepth 100000
open Go.RowKit

abbrev Rv := Value × List Int
def valsL (L : List Rv) : List Value := L.map (·.1)
def listL (L : List Rv) : List (List Int) := L.map (·.2)
theorem valsL_len (L : List Rv) : (valsL L).length = L.length := by simp [valsL]
theorem listL_len (L : List Rv) : (listL L).length = L.length := by simp [listL]
theorem valsL_get {L : List Rv} {k : Nat} {x : Rv} (h : L[k]? = some x) : (valsL L)[k]? = some x.1 := by simp [valsL, h]
theorem rv_get {L : List Rv} {k : Nat} (h : k < L.length) : ∃ x, L[k]? = some x ∧ x ∈ L := ⟨L[k], List.getElem?_eq_getElem h, List.getElem_mem h⟩
theorem rv_info : (Try.prog.info? 22).map (fun i => (i.zero, i.size, i.bytes)) = some (some (.slice none 0 0), 1, 24) := by kernel_rfl
def OwnV (w : World) (B : Nat) (v : Value) (L : List Rv) : Prop := w.ownsRow B 22 1 v L.length (valsL L)
theorem OwnV.lt {w : World} {B : Nat} {v : Value} {L : List Rv} (h : OwnV w B v L) : ∀ k, v.ownBlock = some k → B ≤ k ∧ k < w.heap.size := World.ownsRow.lt h
theorem OwnV.keep {w w' : World} {B : Nat} {v : Value} {L : List Rv} (h : OwnV w B v L) (hk : ∀ k, v.ownBlock = some k → w'.heap[k]? = w.heap[k]?) : OwnV w' B v L := by
  refine ⟨h.1, ?_⟩
  rcases h.2 with h0 | ⟨g, cap, cur, rfl, hg, hh, r⟩
  · exact .inl h0
  · exact .inr ⟨g, cap, cur, rfl, hg, by rw [hk g rfl]; exact hh, r⟩
theorem OwnV.mono {w : World} {B B' : Nat} {v : Value} {L : List Rv} (h : OwnV w B v L) (hB : B' ≤ B) : OwnV w B' v L := by
  refine ⟨h.1, ?_⟩
  rcases h.2 with h0 | ⟨g, cap, cur, rfl, hg, r⟩
  · exact .inl h0
  · exact .inr ⟨g, cap, cur, rfl, by omega, r⟩
theorem OwnV.form {w : World} {B : Nat} {v : Value} {L : List Rv} (h : OwnV w B v L) : ∃ A c, v = .slice A L.length c ∧ L.length ≤ c := by
  rcases h.2 with ⟨rfl, h0⟩ | ⟨g, cap, cur, rfl, _, _, hc, _⟩
  · exact ⟨none, 0, by rw [h0], by omega⟩
  · exact ⟨_, _, rfl, hc⟩
theorem OwnV.at_ {w : World} {B n c : Nat} {A : Option Addr} {L : List Rv} (h : OwnV w B (.slice A n c) L) {k : Nat} {x : Rv} (hx : L[k]? = some x) :
    ∃ g, A = some ⟨g, 0, none⟩ ∧ g < w.heap.size ∧ w.cell? ⟨g, k, none⟩ = some x.1 := by
  have hk : k < L.length := (List.getElem?_eq_some_iff.1 hx).1
  rcases h.2 with ⟨hv, h0⟩ | ⟨g, cap, cur, hv, hg, hh, hc⟩
  · omega
  · injection hv with e1 e2 e3
    subst e1 e2 e3
    refine ⟨g, rfl, (Array.getElem?_eq_some_iff.1 hh).1, ?_⟩
    rw [World.ownsRow.cellAt h k (by rw [Nat.mul_one]; exact hk)]
    exact valsL_get hx
theorem keepI {w w' : World} {B : Nat} {v : Value} {xs : List Int} (h : OwnI w B v xs) (hk : ∀ k, v.ownBlock = some k → w'.heap[k]? = w.heap[k]?) : OwnI w' B v xs := by
  refine ⟨h.1, ?_⟩
  rcases h.2 with h0 | ⟨g, cap, cur, rfl, hg, hh, r⟩
  · exact .inl h0
  · exact .inr ⟨g, cap, cur, rfl, hg, by rw [hk g rfl]; exact hh, r⟩

/-- the rows of a call's own -/
structure Sk (w : World) (B : Nat) (v : Value) (L : List Rv) : Prop where
  row : OwnV w B v L
  own : ∀ x ∈ L, OwnI w B x.1 x.2
  out : ∀ x ∈ L, Apart v x.1
  pair : L.Pairwise fun x y => Apart x.1 y.1
theorem Sk.nil (w : World) (B : Nat) : Sk w B (.slice none 0 0) [] := ⟨World.ownsRow_nil _ _ _ _, by simp, by simp, List.Pairwise.nil⟩
theorem Sk.keep {w w' : World} {B : Nat} {v : Value} {L : List Rv} (h : Sk w B v L) (hk : ∀ k, B ≤ k → k < w.heap.size → w'.heap[k]? = w.heap[k]?) : Sk w' B v L :=
  ⟨h.row.keep fun k e => hk k (h.row.lt k e).1 (h.row.lt k e).2, fun x hx => keepI (h.own x hx) fun k e => hk k ((h.own x hx).lt k e).1 ((h.own x hx).lt k e).2, h.out, h.pair⟩
theorem Sk.below {w w' : World} {B B' : Nat} {v : Value} {L : List Rv} (h : Sk w B v L) (hb : Below B' w w') (hB : w.heap.size ≤ B') : Sk w' B v L :=
  h.keep fun k _ hk => hb.block k (Nat.lt_of_lt_of_le hk hB)
theorem Sk.heap {w w' : World} {B : Nat} {v : Value} {L : List Rv} (h : Sk w B v L) (hh : w'.heap = w.heap) : Sk w' B v L := h.keep fun k _ _ => by rw [hh]
theorem Sk.mono {w : World} {B B' : Nat} {v : Value} {L : List Rv} (h : Sk w B v L) (hB : B' ≤ B) : Sk w B' v L :=
  ⟨h.row.mono hB, fun x hx => (h.own x hx).mono hB, h.out, h.pair⟩
/-- one row more -/
theorem Sk.push {w w' : World} {B : Nat} {v v' u : Value} {L : List Rv} {xs : List Int} (h : Sk w B v L) (hu : OwnI w B u xs)
    (n1 : ∀ k, u.ownBlock = some k → v.ownBlock ≠ some k ∧ ∀ x ∈ L, x.1.ownBlock ≠ some k)
    (ho : w'.ownsRow B 22 1 v' (L.length + 1) (valsL L ++ [u])) (hg : w.grownBy w' v.ownBlock) (hv : v'.ownBlock = v.ownBlock ∨ v'.ownBlock = some w.heap.size) : Sk w' B v' (L ++ [(u, xs)]) := by
  have kp : ∀ {u : Value} {xs : List Int}, OwnI w B u xs → Apart v u → OwnI w' B u xs := fun hu hap => keepI hu fun k hk => hg.block k (hu.lt k hk).2 (fun ek => hap k ek.symm hk)
  have apU : Apart v u := fun k e1 e2 => (n1 k e2).1 e1
  have apN : ∀ {u : Value} {xs : List Int}, OwnI w B u xs → Apart v u → Apart v' u := fun hu hap k e1 e2 => by
    rcases hv with hv | hv
    · exact hap k (hv ▸ e1) e2
    · rw [hv] at e1
      have := (hu.lt k e2).2
      injection e1 with e1
      omega
  refine ⟨?_, ?_, ?_, ?_⟩
  · unfold OwnV
    simpa [valsL] using ho
  · intro x hx
    rcases List.mem_append.1 hx with hx | hx
    · exact kp (h.own x hx) (h.out x hx)
    · obtain rfl : x = (u, xs) := by simpa using hx
      exact kp hu apU
  · intro x hx
    rcases List.mem_append.1 hx with hx | hx
    · exact apN (h.own x hx) (h.out x hx)
    · obtain rfl : x = (u, xs) := by simpa using hx
      exact apN hu apU
  · rw [List.pairwise_append]
    refine ⟨h.pair, by simp, ?_⟩
    intro x hx y hy
    obtain rfl : y = (u, xs) := by simpa using hy
    exact fun k e1 e2 => (n1 k e2).2 x hx e1
theorem Sk.fresh {w : World} {B : Nat} {v : Value} {L : List Rv} (h : Sk w B v L) {k : Nat} (hk : w.heap.size ≤ k) : v.ownBlock ≠ some k ∧ ∀ x ∈ L, x.1.ownBlock ≠ some k :=
  ⟨fun e => by have := (h.row.lt k e).2; omega, fun x hx e => by have := ((h.own x hx).lt k e).2; omega⟩
/-- append of a row in an ordered list of operations -/
theorem wpList_pushV (w : World) {ops : Array Oper} {rest : List Oper} {o : Oper} {a : Act} {Q : Exit → Act → World → Prop} (hgd : o.guard = none) (s x : Operand)
    (ho : o.op = .call { callee := .builtin .append, args := #[s, x], argTypes := #[42, 42] }) (B : Nat) (v : Value) (L : List Rv) (hs : a.eval s = v) (h0 : Sk w B v L)
    (g : Nat) (u : Value) (xs : List Int) (hx : a.eval x = .slice (some ⟨g, 0, none⟩) 1 1) (hc : w.cell? ⟨g, 0, none⟩ = some u) (hone : u.oneCell' = true) (hu : OwnI w B u xs)
    (n1 : ∀ k, u.ownBlock = some k → v.ownBlock ≠ some k ∧ ∀ x ∈ L, x.1.ownBlock ≠ some k) (hn : L.length ≤ 1048576) (hB : B ≤ w.heap.size)
    (h : ∀ v' w', Sk w' B v' (L ++ [(u, xs)]) → Below B w w' → wpList Try.prog ops Q rest (a.put o.dst v') w') : wpList Try.prog ops Q (o :: rest) a w := by
  obtain ⟨i0, hi, hz, hsz, hby⟩ := info_parts rv_info
  refine wpList_append_own_at w hgd s x 42 ho B 22 i0 (.slice none 0 0) 1 24 Try.underlying42 hi hz hsz hby rfl (by decide) v L.length _ hs h0.row ⟨g, 0, none⟩ 1 1 [u] hx rfl ?_ ?_ ?_ ?_ hB ?_
  · intro j y hy
    match j with
    | 0 => simp at hy; subst hy; exact hc
    | j + 1 => simp at hy
  · intro y hy
    rw [List.mem_singleton.1 hy]; exact hone
  · simp only [maxLen]; omega
  · omega
  · intro v' w' h1 h2 _ h3
    exact h v' w' (h0.push hu n1 h1 h2 h3) ((Below.refl _ _).grown h2 hB (fun k hk => (h0.row.lt k hk).1))
/-- the rows read -/
def rowK (L : List Rv) (j : Nat) : List Int := (L.getD j (.slice none 0 0, [])).2
theorem rowK_get {L : List Rv} {k : Nat} {x : Rv} (h : L[k]? = some x) : rowK L k = x.2 := by simp [rowK, List.getD_eq_getElem?_getD, h]
def addrV : Value → Option Addr
  | .slice A _ _ => A
  | _ => none
def capV : Value → Nat
  | .slice _ _ c => c
  | _ => 0
theorem Sk.rd {w : World} {B : Nat} {v : Value} {L : List Rv} (h : Sk w B v L) : ∃ A c, v = .slice A L.length c ∧ RdSS w w.heap.size A c L.length (fun j => addrV (L.getD j (.slice none 0 0, [])).1) (fun j => capV (L.getD j (.slice none 0 0, [])).1) (rowK L) := by
  obtain ⟨A, c, rfl, hc⟩ := h.row.form
  refine ⟨A, c, rfl, hc, fun i hi => ?_⟩
  obtain ⟨x, hx, hm⟩ := rv_get hi
  obtain ⟨g, hA, hg, hcell⟩ := h.row.at_ hx
  obtain ⟨A1, c1, e1, r1⟩ := (h.own x hm).form
  have hd : L.getD i (.slice none 0 0, []) = x := by simp [List.getD_eq_getElem?_getD, hx]
  rw [rowK_get hx]
  dsimp only
  rw [hd, e1]
  refine ⟨⟨g, 0, hA, hg, ?_⟩, r1⟩
  rw [Nat.zero_add, hcell, e1]
  rfl

theorem eqSk_any (v v' : Value) (L L' : List Rv) (B B' : Nat) (w : World) (h : Sk w B v L) (h' : Sk w B' v' L') (he : listL L = listL L') (hn : L.length ≤ 1048576) (hx : ∀ x ∈ L, x.2.length ≤ 1048576) :
    Calls Try.prog 37 #[v, v'] w fun e w' => e = .returned (.bool true) ∧ Below w.heap.size w w' := by
  have hl : L'.length = L.length := by rw [← listL_len, ← listL_len, he]
  obtain ⟨A, c, rfl, r⟩ := h.rd
  obtain ⟨A', c', rfl, r'⟩ := h'.rd
  rw [hl] at r' ⊢
  have hk : ∀ k, k < L.length → rowK L k = rowK L' k := fun k hk => by
    obtain ⟨x, hx, _⟩ := rv_get hk
    obtain ⟨x', hx', _⟩ := rv_get (hl ▸ hk)
    rw [rowK_get hx, rowK_get hx']
    have e1 : (listL L)[k]? = some x.2 := by simp [listL, hx]
    have e2 : (listL L')[k]? = some x'.2 := by simp [listL, hx']
    rw [he, e2] at e1
    exact (Option.some.inj e1).symm
  have r2 : RdSS w w.heap.size A' c' L.length (fun j => addrV (L'.getD j (.slice none 0 0, [])).1) (fun j => capV (L'.getD j (.slice none 0 0, [])).1) (rowK L) :=
    ⟨r'.1, fun i hi => by rw [hk i hi]; exact r'.2 i hi⟩
  exact eqSS_same A A' c c' L.length _ _ _ _ (rowK L) _ _ w r r2 (Nat.le_refl _) (Nat.le_refl _) (fun i hi => by obtain ⟨x, hx1, hm⟩ := rv_get hi; rw [rowK_get hx1]; exact hx x hm) hn

theorem rowsLe3 {L : List Rv} {R : List (List Int)} (h : listL L = R) (hR : ∀ r ∈ R, r.length ≤ 1000) : ∀ x ∈ L, x.2.length ≤ 1000 := fun x hx => hR x.2 (by rw [← h]; exact List.mem_map.2 ⟨x, hx, rfl⟩)
theorem rowsLe {L : List Rv} {R : List (List Int)} (h : listL L = R) (hR : ∀ r ∈ R, r.length ≤ 1000) : ∀ x ∈ L, x.2.length ≤ 1048576 := fun x hx => by have := rowsLe3 h hR x hx; omega
/-- the marks of rows -/
def kK (k : Int) : List Rv → Int
  | [] => k
  | x :: r => kK (k + x.2.length) r
def mkK (k : Int) : List Rv → List Rv
  | [] => []
  | x :: r => (x.1, marksL k x.2.length) :: mkK (k + x.2.length) r
theorem mkK_len : ∀ (k : Int) (L : List Rv), (mkK k L).length = L.length
  | _, [] => rfl
  | k, x :: r => by simp [mkK, mkK_len _ r]
theorem kK_snoc : ∀ (k : Int) (L : List Rv) (x : Rv), kK k (L ++ [x]) = kK k L + x.2.length
  | _, [], _ => rfl
  | k, y :: r, x => by simp only [List.cons_append, kK]; exact kK_snoc _ r x
theorem mkK_snoc : ∀ (k : Int) (L : List Rv) (x : Rv), mkK k (L ++ [x]) = mkK k L ++ [(x.1, marksL (kK k L) x.2.length)]
  | _, [], _ => rfl
  | k, y :: r, x => by simp only [List.cons_append, mkK, kK]; rw [mkK_snoc _ r x]
theorem kK_le : ∀ (k : Int) (L : List Rv), (∀ x ∈ L, x.2.length ≤ 1000) → k ≤ kK k L ∧ kK k L ≤ k + 1000 * (L.length : Int)
  | k, [], _ => by simp [kK]
  | k, x :: r, h => by
    have h1 := h x (by simp)
    have h2 := kK_le (k + x.2.length) r (fun y hy => h y (by simp [hy]))
    simp only [kK, List.length_cons]
    push_cast
    omega
theorem tk_get {L : List Rv} {j : Nat} {x : Rv} (hx : L[j]? = some x) : L.take (j + 1) = L.take j ++ [x] := by rw [List.take_add_one, hx]; rfl
theorem dr_get {L : List Rv} {j : Nat} {x : Rv} (hx : L[j]? = some x) : L.drop j = x :: L.drop (j + 1) := by
  obtain ⟨h, rfl⟩ := List.getElem?_eq_some_iff.1 hx
  exact List.drop_eq_getElem_cons h
theorem mkK_get (k : Int) {L : List Rv} {j : Nat} {x : Rv} (hx : L[j]? = some x) : (mkK k L)[j]? = some (x.1, marksL (kK k (L.take j)) x.2.length) := by
  have hl : (L.take j).length = j := by
    obtain ⟨h, _⟩ := List.getElem?_eq_some_iff.1 hx
    simp; omega
  have : ∀ (P S : List Rv) (k : Int), (mkK k (P ++ x :: S))[P.length]? = some (x.1, marksL (kK k P) x.2.length) := by
    intro P
    induction P with
    | nil => intro S k; simp [mkK, kK]
    | cons y r ih => intro S k; simp only [List.cons_append, mkK, kK, List.length_cons, List.getElem?_cons_succ]; exact ih S _
  have h2 := this (L.take j) (L.drop (j + 1)) k
  rw [hl, ← dr_get hx, List.take_append_drop] at h2
  exact h2
/-- the blocks of rows -/
def skL (v : Value) (L : List Rv) : List Nat := rowL v ++ L.flatMap fun x => rowL x.1
theorem skL_v {v : Value} {L : List Rv} {k : Nat} (h : k ∈ rowL v) : k ∈ skL v L := List.mem_append.2 (.inl h)
theorem skL_1 {v : Value} {L : List Rv} {x : Rv} (hx : x ∈ L) {k : Nat} (h : k ∈ rowL x.1) : k ∈ skL v L := List.mem_append.2 (.inr (List.mem_flatMap.2 ⟨x, hx, h⟩))
theorem Sk.lt {w : World} {B : Nat} {v : Value} {L : List Rv} (h : Sk w B v L) : ∀ k ∈ skL v L, B ≤ k ∧ k < w.heap.size := by
  intro k hk
  rcases List.mem_append.1 hk with hk | hk
  · exact h.row.lt k (mem_rowL.1 hk)
  · obtain ⟨x, hx, hk⟩ := List.mem_flatMap.1 hk
    exact (h.own x hx).lt k (mem_rowL.1 hk)
theorem Sk.turn {w w' : World} {B : Nat} {v : Value} {L : List Rv} {T : List Nat} (h : Sk w B v L) (ht : Turned w w' T) (hT : ∀ k ∈ skL v L, k ∉ T) : Sk w' B v L :=
  ⟨h.row.keep fun k e => ht.block k (h.row.lt k e).2 (hT k (skL_v (mem_rowL.2 e))), fun x hx => keepI (h.own x hx) fun k e => ht.block k ((h.own x hx).lt k e).2 (hT k (skL_1 hx (mem_rowL.2 e))), h.out, h.pair⟩
/-- one row marked -/
theorem Sk.mark {w w' : World} {B : Nat} {v u : Value} {P S : List Rv} {xs ys : List Int} (h : Sk w B v (P ++ (u, xs) :: S)) (ho : OwnI w' B u ys) (ht : Turned w w' (rowL u)) : Sk w' B v (P ++ (u, ys) :: S) := by
  have hx : (u, xs) ∈ P ++ (u, xs) :: S := by simp
  have hp := h.pair
  rw [List.pairwise_append, List.pairwise_cons] at hp
  have hin : ∀ z ∈ P ++ (u, ys) :: S, z = (u, ys) ∨ (z ∈ P ++ (u, xs) :: S ∧ Apart u z.1) := by
    intro z hz
    simp only [List.mem_append, List.mem_cons] at hz ⊢
    rcases hz with hz | hz | hz
    · exact .inr ⟨.inl hz, fun k e1 e2 => hp.2.2 z hz (u, xs) (by simp) k e2 e1⟩
    · exact .inl hz
    · exact .inr ⟨.inr (.inr hz), hp.2.1.1 z hz⟩
  have hv : valsL (P ++ (u, ys) :: S) = valsL (P ++ (u, xs) :: S) := by simp [valsL]
  refine ⟨?_, ?_, ?_, ?_⟩
  · have := h.row.keep (w' := w') fun k e => ht.block k (h.row.lt k e).2 fun e2 => h.out _ hx k e (mem_rowL.1 e2)
    unfold OwnV at this ⊢
    rw [hv]
    simpa using this
  · intro z hz
    rcases hin z hz with rfl | ⟨hz, ha⟩
    · exact ho
    · exact keepI (h.own z hz) fun k e => ht.block k ((h.own z hz).lt k e).2 fun e2 => ha k (mem_rowL.1 e2) e
  · intro z hz
    rcases hin z hz with rfl | ⟨hz, _⟩
    · exact h.out (u, xs) hx
    · exact h.out z hz
  · rw [List.pairwise_append, List.pairwise_cons]
    refine ⟨hp.1, hp.2.1, ?_⟩
    intro a ha b hb
    rcases List.mem_cons.1 hb with rfl | hb
    · exact hp.2.2 a ha (u, xs) (by simp)
    · exact hp.2.2 a ha b (by simp [hb])

set_option maxHeartbeats 1000000 in
theorem markSk_any (v : Value) (L : List Rv) (k : Int) (B : Nat) (w : World) (h : Sk w B v L) (hn : L.length ≤ 1000) (hs : ∀ x ∈ L, x.2.length ≤ 1000) (hk0 : 0 ≤ k) (hk1 : k ≤ 1048576) :
    Calls Try.prog 38 #[v, .int .i64 k] w fun e w' => e = .returned (.int .i64 (kK k L)) ∧ Sk w' B v (mkK k L) ∧ Turned w w' (skL v L) := by
  obtain ⟨A, c, rfl, _⟩ := h.row.form
  have HS := Lib.hid hs
  clear hs
  go_enter Try.func38, Try.ntmps38
  go_wp2
  go_loopw [1, 5] (fun m i wr => ∃ (j : Nat), j ≤ L.length ∧ i = .int .i64 j ∧ m = .int .i64 (kK k (L.take j)) ∧ Sk wr B (.slice A L.length c) (mkK k (L.take j) ++ L.drop j) ∧ Turned w wr (skL (.slice A L.length c) L)) (fun _ i _ => L.length - (intOf i).toNat)
  case atStart => exact ⟨0, Nat.zero_le _, rfl, by simp [kK], by simpa [mkK] using h, Turned.refl _ _⟩
  case round =>
    obtain ⟨j, hj, rfl, rfl, hown, hgr⟩ := hrel
    by_cases hlt : j < L.length
    · obtain ⟨x, hx, hmem⟩ := rv_get hlt
      have b1 := HS.out x hmem
      have hkl := kK_le k (L.take j) (fun y hy => HS.out y (List.mem_of_mem_take hy))
      have htl : (L.take j).length ≤ 1000 := by simp; omega
      have hpl : (mkK k (L.take j)).length = j := by simp [mkK_len]; omega
      have hts := tk_get hx
      have hkn := kK_snoc k (L.take j) x
      have hmn := mkK_snoc k (L.take j) x
      rw [← hts] at hkn hmn
      rw [dr_get hx] at hown
      have hxj : (mkK k (L.take j) ++ x :: L.drop (j + 1))[j]? = some x := by
        rw [List.getElem?_append_right (by omega), hpl, Nat.sub_self]; rfl
      obtain ⟨g, rfl, hg, hcell⟩ := hown.row.at_ hxj
      have y1 := hown.own x (by simp)
      obtain ⟨u, us⟩ := x
      dsimp only at *
      generalize hkk : kK k (L.take j) = kk at *
      generalize mkK k (L.take j) = Pm at *
      obtain ⟨A1, d1, e1, _⟩ := y1.form
      subst e1
      have D1 := Lib.hid (fun (w1 : World) (ht : Turned wr w1 (rowL (.slice A1 us.length d1))) => hgr.trans (ht.more (fun i hi => skL_1 (v := .slice (some ⟨g, 0, none⟩) L.length c) hmem hi)))
      have HO1 := Lib.hid hown
      have HR := Lib.hid (And.intro hkn hmn)
      have hkr : 0 ≤ kk ∧ kk ≤ 2048576 := by omega
      have HL := Lib.hid hpl
      clear hgr hown hkn hmn hts hx hxj hmem hpl hkl htl hkk
      go_wp2_with fail
      refine (markI_new _ us kk B wr y1 (by omega) (by omega) (by omega)).mono ?_
      rintro e w1 ⟨rfl, m1, tt1⟩
      have s1 := HO1.out.mark (P := Pm) m1 tt1
      have tt := D1.out w1 tt1
      clear tt1 m1
      go_wp2_with fail
      go_roundw
      case rel => exact ⟨j + 1, by omega, by go_num, by rw [HR.out.1], by rw [HR.out.2, List.append_assoc]; exact s1, tt⟩
      case measure => simp [intOf]; omega
    · obtain rfl : j = L.length := by omega
      rw [List.take_length, List.drop_length, List.append_nil] at hown
      rw [List.take_length]
      go_wp2
      go_ret
      exact ⟨rfl, hown, hgr⟩

set_option maxHeartbeats 1000000 in
theorem heldSk_any (v : Value) (L : List Rv) (k : Int) (B : Nat) (w : World) (h : Sk w B v (mkK k L)) (hn : L.length ≤ 1000) (hs : ∀ x ∈ L, x.2.length ≤ 1000) (hk0 : 0 ≤ k) (hk1 : k ≤ 1048576) :
    Calls Try.prog 39 #[v, .int .i64 k] w fun e w' => e = .returned (.int .i64 (kK k L)) ∧ w = w' := by
  obtain ⟨A, c, rfl, _⟩ := h.row.form
  rw [mkK_len] at h ⊢
  have HO := Lib.hid h
  have HS := Lib.hid hs
  clear hs h
  go_enter Try.func39, Try.ntmps39
  go_wp2
  go_loop [1, 5] (fun m i => ∃ (j : Nat), j ≤ L.length ∧ i = .int .i64 j ∧ m = .int .i64 (kK k (L.take j))) (fun _ i => L.length - (intOf i).toNat)
  case atStart => exact ⟨0, Nat.zero_le _, rfl, by simp [kK]⟩
  case round =>
    obtain ⟨j, hj, rfl, rfl⟩ := hrel
    by_cases hlt : j < L.length
    · obtain ⟨x, hx, hmem⟩ := rv_get hlt
      have b1 := HS.out x hmem
      have hkl := kK_le k (L.take j) (fun y hy => HS.out y (List.mem_of_mem_take hy))
      have htl : (L.take j).length ≤ 1000 := by simp; omega
      have hkn := kK_snoc k (L.take j) x
      rw [← tk_get hx] at hkn
      have hg := mkK_get k hx
      obtain ⟨g, rfl, _, a0⟩ := HO.out.row.at_ hg
      have y1 := HO.out.own _ (List.mem_of_getElem? hg)
      obtain ⟨u, us⟩ := x
      dsimp only at *
      generalize hkk : kK k (L.take j) = kk at *
      have hkr : 0 ≤ kk ∧ kk ≤ 2048576 := by omega
      have HR := Lib.hid hkn
      clear hkn hg hx hmem hkl htl hkk
      obtain ⟨A1, d1, e1, _⟩ := y1.form
      rw [marksL_length] at e1
      subst e1
      go_wp2_with fail
      refine (heldIntS_any _ us.length kk B _ y1 (by omega) (by omega) (by omega)).mono ?_
      rintro e w1 ⟨rfl, rfl⟩
      go_wp2_with fail
      go_round
      case rel => exact ⟨j + 1, by omega, by go_num, by rw [HR.out]⟩
      case measure => simp [intOf]; omega
    · obtain rfl : j = L.length := by omega
      rw [List.take_length]
      go_wp2
      go_ret
      exact ⟨rfl, rfl⟩

end Go.Proofs.Ytiacfaeanlkalaa

set_option linter.unusedSimpArgs false
namespace Go.Proofs.Ytiacfaeanlkalaa
set_option maxRecDepth 100000
open Go.Conc Go.RowKit

/-- a step is the least one of its loop -/
noncomputable def lstB (xs : List Int) (k : Nat) : Bool := tlB xs (k : Int) && decide ((loopR xs (k : Int)).getD 0 0 = (k : Int))
/-- the loops whose least step is among the first k -/
noncomputable def lpR (xs : List Int) : Nat → List (List Int)
  | 0 => []
  | k + 1 => if lstB xs k = true then lpR xs k ++ [loopR xs (k : Int)] else lpR xs k
theorem lpR_yes {xs : List Int} {k : Nat} (h : lstB xs k = true) : lpR xs (k + 1) = lpR xs k ++ [loopR xs (k : Int)] := by rw [lpR, if_pos h]
theorem lpR_no {xs : List Int} {k : Nat} (h : lstB xs k = false) : lpR xs (k + 1) = lpR xs k := by rw [lpR, if_neg (by rw [h]; simp)]
theorem lpR_length (xs : List Int) : ∀ k, (lpR xs k).length ≤ k
  | 0 => by simp [lpR]
  | k + 1 => by
    have := lpR_length xs k
    unfold lpR
    split
    · simp; omega
    · omega
theorem loopR_1000 (xs : List Int) (s : Int) : (loopR xs s).length ≤ 1000 := by
  unfold loopR
  by_cases h : tlB xs s = true
  · rw [if_pos h]
    obtain ⟨h1, h2⟩ := tl_parts h
    have h3 := loopD_len h2
    have h4 := course_len (ballB_le h1).1 s
    rw [turnD_length _ h3.1]
    omega
  · rw [if_neg h]; simp
theorem lpR_1000 (xs : List Int) : ∀ k, ∀ r ∈ lpR xs k, r.length ≤ 1000
  | 0 => by simp [lpR]
  | k + 1 => by
    have := lpR_1000 xs k
    unfold lpR
    split
    · intro r hr
      rcases List.mem_append.1 hr with hr | hr
      · exact this r hr
      · rw [List.mem_singleton.1 hr]; exact loopR_1000 xs _
    · exact this
noncomputable def alL (xs : List Int) : List (List Int) := if jumpsB xs = true then lpR xs xs.length else []
theorem alL_length (xs : List Int) : (alL xs).length ≤ 1000 := by
  unfold alL
  split
  · rename_i h
    have := lpR_length xs xs.length
    have := jumpsB_le h
    omega
  · simp
theorem alL_1000 (xs : List Int) : ∀ r ∈ alL xs, r.length ≤ 1000 := by
  unfold alL
  split
  · exact lpR_1000 xs _
  · simp
/-- A CALL ANSWERS ROWS OF ITS OWN MEMORY AND A BOOL -/
def NewK (w : World) (R : List (List Int)) (ok : Bool) (e : Ending) (w' : World) : Prop :=
  ∃ v L, e = .returned (.tuple #[v, .bool ok]) ∧ listL L = R ∧ Sk w' w.heap.size v L ∧ Below w.heap.size w w'
theorem listL_snoc {L : List Rv} {R : List (List Int)} {v : Value} {xs : List Int} (h : listL L = R) : listL (L ++ [(v, xs)]) = R ++ [xs] := by simp [listL, ← h]
theorem first_yes {xs : List Int} {k : Nat} (h : tlB xs (k : Int) = true) (h2 : (loopR xs (k : Int)).getD 0 0 = (k : Int)) : lstB xs k = true := by unfold lstB; rw [h, decide_eq_true h2]; rfl
theorem first_no {xs : List Int} {k : Nat} (h2 : ¬ (loopR xs (k : Int)).getD 0 0 = (k : Int)) : lstB xs k = false := by unfold lstB; rw [decide_eq_false h2, Bool.and_false]
theorem first_no1 {xs : List Int} {k : Nat} (h2 : tlB xs (k : Int) = false) : lstB xs k = false := by simp [lstB, h2]
theorem loopR_pos {xs : List Int} {s : Int} (h : tlB xs s = true) : 1 ≤ (loopR xs s).length := by
  unfold loopR
  rw [if_pos h]
  obtain ⟨h1, h2⟩ := tl_parts h
  have h3 := loopD_len h2
  rw [turnD_length _ h3.1]
  exact h3.1

set_option maxHeartbeats 2000000 in
theorem specLoops_any (A : Option Addr) (c : Nat) (xs : List Int) (B : Nat) (w : World) (hr : Rd w B A c xs) (hB : B ≤ w.heap.size) (hn : xs.length ≤ 1048576) :
    Calls Try.prog 35 #[.slice A xs.length c] w (NewK w (alL xs) (jumpsB xs)) := by
  cases hJ : jumpsB xs
  · have HT := Lib.hid (show alL xs = [] by simp [alL, hJ])
    have H := Lib.hid hJ
    clear hJ
    go_enter Try.func35, Try.ntmps35
    go_wp2_with fail
    refine (baGood_any A c xs B w hr hn).mono ?_
    rintro e w' ⟨rfl, rfl⟩
    rw [H.out]
    go_wp2_with fail
    go_ret2
    exact ⟨_, [], rfl, by rw [HT.out]; rfl, Sk.nil _ _, Below.refl _ _⟩
  · have hl := jumpsB_le hJ
    have HT := Lib.hid (show alL xs = lpR xs xs.length by simp [alL, hJ])
    have H := Lib.hid hJ
    clear hJ
    go_enter Try.func35, Try.ntmps35
    go_wp2_with fail
    refine (baGood_any A c xs B w hr hn).mono ?_
    rintro e w' ⟨rfl, rfl⟩
    rw [H.out]
    go_wp2_with fail
    go_loopw [4, 13] (fun v i wr => ∃ (k : Nat) (L : List Rv), k ≤ xs.length ∧ i = .int .i64 (k : Int) ∧ listL L = lpR xs k ∧ Sk wr w.heap.size v L ∧ Below w.heap.size w wr) (fun _ i _ => xs.length - (intOf i).toNat)
    case atStart => exact ⟨0, [], Nat.zero_le _, rfl, rfl, Sk.nil _ _, Below.refl _ _⟩
    case round =>
      obtain ⟨k, L, hk, rfl, hL, hsk, hbw⟩ := hrel
      have hz : w.heap.size ≤ wr.heap.size := hbw.size
      by_cases hlt : k < xs.length
      · have hball := ball_step H.out hlt
        have HEN := Lib.hid (baEnd_any A c xs (k : Int) B wr (hr.below hbw hB) (Nat.le_trans hB hz) hball)
        have hLl : L.length ≤ k := by
          have h1 := lpR_length xs k
          rw [← hL, listL_len] at h1
          exact h1
        by_cases hm : (courseB xs (k : Int)).2 ∈ (courseB xs (k : Int)).1
        · have HTL := tl_yes hball hm
          have HBQ := Lib.hid (ends_loop (l := (courseB xs (k : Int)).1) (p := (courseB xs (k : Int)).2))
          rw [decide_eq_true hm] at HBQ
          have HR : loopR xs (k : Int) = turnD (loopD (courseB xs (k : Int)).1 (courseB xs (k : Int)).2) := by simp [loopR, HTL.1]
          have HL := Lib.hid (fun u h => baLoop_any A c xs (k : Int) B u ((hr.below hbw hB).below h (Nat.le_trans hB hz)) (Nat.le_trans (Nat.le_trans hB hz) h.size) H.out hm)
          rw [← HR] at HL
          have hpos := loopR_pos HTL.1
          have hle := loopR_1000 xs (k : Int)
          have HY := Lib.hid (fun h => lpR_yes (first_yes (k := k) HTL.1 h))
          have HN := Lib.hid (fun h => lpR_no (first_no (xs := xs) (k := k) h))
          clear hm HTL HR hball
          generalize (⟨endS (courseB xs (k : Int)).1 (courseB xs (k : Int)).2⟩ : ByteArray) = E at *
          have hbq := HBQ.out
          clear HBQ
          have hbq2 : (E.toList == (⟨#[108]⟩ : ByteArray).toList) = true := hbq
          have e108 : (⟨#[108]⟩ : ByteArray).toList = [108] := by decide +kernel
          rw [e108] at hbq
          generalize loopR xs (k : Int) = D at *
          go_wp2_with fail
          refine HEN.out.mono ?_
          rintro e w1 ⟨rfl, hb1⟩
          go_wp2_with fail
          refine (HL.out w1 hb1).mono ?_
          rintro e w2 ⟨pv, rfl, hown, hb2⟩
          have hb12 := hb1.trans (hb2.mono hb1.size)
          have hs2 := hsk.below hb12 (Nat.le_refl _)
          have hbw2 := hbw.trans (hb12.mono hz)
          obtain ⟨A2, c2, rfl, r2⟩ := hown.form
          obtain ⟨b, o, rfl, hbb, hcell⟩ := r2.at_ (k := 0) (by omega)
          rw [Nat.add_zero] at hcell
          have hz1 := hb1.size
          have hown2 : OwnI w2 w.heap.size (.slice (some ⟨b, o, none⟩) D.length c2) D := hown.mono (by omega)
          have n1 : ∀ q, (Value.slice (some ⟨b, o, none⟩) D.length c2).ownBlock = some q → wr.heap.size ≤ q := fun q e => by have := (hown.lt q e).1; omega
          have NF := Lib.hid (fun q e => hsk.fresh (n1 q e))
          have hz2 := hbw2.size
          have p0 : (0 : Int) < (D.length : Int) := by omega
          clear hown hb1 hb2 hb12 hsk hbw HEN HL r2 n1 hz1
          by_cases hf : D.getD 0 0 = (k : Int)
          · have HRR := Lib.hid (HY.out hf)
            rw [hf] at hcell
            clear hf HY HN
            go_wp2_with (at_builtin; refine wpList_pushV _ rfl _ _ rfl w.heap.size _ L rfl (hs2.below (below_alloc _ _) (Nat.le_refl _)) w2.heap.size (.slice (some ⟨b, o, none⟩) D.length c2) D rfl (by simp) rfl (hown2.alloc _) NF.out (by omega) (by simp; omega) ?_; intro v3 w3 hs3 hg3)
            go_roundw
            case rel => exact ⟨k + 1, _, by omega, by go_num, by rw [HRR.out]; exact listL_snoc hL, hs3, (hbw2.alloc (by omega) _).trans hg3⟩
            case measure => simp [intOf]; omega
          · have HRR := Lib.hid (HN.out hf)
            have hf2 : (D.getD 0 0 == (k : Int)) = false := by simpa using hf
            clear HY HN
            generalize D.getD 0 0 = d0 at *
            go_wp2_with fail
            go_roundw
            case rel => exact ⟨k + 1, _, by omega, by go_num, by rw [HRR.out]; exact hL, hs2, hbw2⟩
            case measure => simp [intOf]; omega
        · have HRR := Lib.hid (lpR_no (first_no1 (tl_no2 hm).1))
          have HBQ := Lib.hid (ends_loop (l := (courseB xs (k : Int)).1) (p := (courseB xs (k : Int)).2))
          rw [decide_eq_false hm] at HBQ
          clear hm hball
          generalize (⟨endS (courseB xs (k : Int)).1 (courseB xs (k : Int)).2⟩ : ByteArray) = E at *
          have hbq := HBQ.out
          clear HBQ
          have hbq2 : (E.toList == (⟨#[108]⟩ : ByteArray).toList) = false := hbq
          have e108 : (⟨#[108]⟩ : ByteArray).toList = [108] := by decide +kernel
          rw [e108] at hbq
          go_wp2_with fail
          refine HEN.out.mono ?_
          rintro e w1 ⟨rfl, hb1⟩
          have hs1 := hsk.below hb1 (Nat.le_refl _)
          have hbw1 := hbw.trans (hb1.mono hz)
          go_wp2_with fail
          go_roundw
          case rel => exact ⟨k + 1, _, by omega, by go_num, by rw [HRR.out]; exact hL, hs1, hbw1⟩
          case measure => simp [intOf]; omega
      · obtain rfl : k = xs.length := by omega
        go_wp2_with fail
        go_ret2
        exact ⟨_, L, rfl, by rw [HT.out]; exact hL, hsk, hbw⟩

end Go.Proofs.Ytiacfaeanlkalaa

set_option linter.unusedSimpArgs false
namespace Go.Proofs.Ytiacfaeanlkalaa
set_option maxRecDepth 100000
open Go.Conc Go.RowKit

set_option maxRecDepth 100000 in
set_option maxHeartbeats 8000000 in
theorem implLoops_m (A0 : Option Addr) (c0 : Nat) (xs : List Int) (B : Nat) (w : World) (hr : Rd w B A0 c0 xs) (hB : B ≤ w.heap.size) (hn : xs.length ≤ 1048576) :
    CallsM Try.prog .aside 36 #[.slice A0 xs.length c0] w fun x w' => ∃ v L, x = .tuple #[v, .bool (jumpsB xs)] ∧ listL L = alL xs ∧ Sk w' w.heap.size v L ∧ Below w.heap.size w w' := by
  refine callsM_of Try.func36 rfl ?_
  simp only [Try.ntmps36, List.size_toArray, List.length_cons, List.length_nil, Nat.reduceAdd, Nat.reduceSub, Array.replicate_succ, Array.replicate_zero, List.push_toArray, List.append_toArray, List.nil_append, List.cons_append]
  repeat (first | ((first | refine WpM.seq ?_ | refine WpM.block ?_ | refine WpM.region ?_ | refine WpM.region_end ?_ | refine WpM.ret ?_ | refine WpM.skip ?_ | refine WpM.exit ?_); try simp only [thenM, inBlockM, if_true, if_false, reduceIte, Nat.reduceEqDiff, List.size_toArray, List.length_cons, List.length_nil, Nat.reduceAdd, Nat.zero_add, List.range, List.range.loop]) | (refine WpM.op_k rfl (by rfl) ?_; intro zu zR; obtain ⟨dd, zh⟩ := zR; subst zh; (try simp only [at_at']); intro zK zhK; go_simp; (try (unfold stored; go_simp)); refine zhK _ _ ⟨?_, ?_⟩; (focus (refine m_idle ?_; simp [go_sem, Instr.field, asAgg]; done)); clear zhK zK; try walk_nrm) | fail)
  refine WpM.callL (vs := #[.slice A0 xs.length c0]) fns_ok no_early ⟨_, Try.func36, by rfl⟩ (by kernel_rfl) rfl rfl (by rfl) rfl Try.func55 (by rfl) (by rfl) (by simp [Act.eval]) (fun vv uu => vv = .bool (jumpsB xs) ∧ RW (w.at dd) uu) (lone_same (w := (w.at dd)) (V := .bool (jumpsB xs)) fun τ δ => impJumps_any A0 c0 xs B _ ⟨hr.1, hr.2⟩ hn) ?_; rintro _ _ ⟨rfl, d5, rfl⟩; (try walk_nrm); try simp only [at_at']
  cases hJ : jumpsB xs
  · have HT := Lib.hid (show alL xs = [] by simp [alL, hJ])
    repeat (first | ((first | refine WpM.seq ?_ | refine WpM.block ?_ | refine WpM.region ?_ | refine WpM.region_end ?_ | refine WpM.ret ?_ | refine WpM.skip ?_ | refine WpM.exit ?_); try simp only [thenM, inBlockM, if_true, if_false, reduceIte, Nat.reduceEqDiff, List.size_toArray, List.length_cons, List.length_nil, Nat.reduceAdd, Nat.zero_add, List.range, List.range.loop]) | (refine WpM.op_k rfl (by rfl) ?_; intro zu zR; obtain ⟨dd, zh⟩ := zR; subst zh; (try simp only [at_at']); intro zK zhK; go_simp; (try (unfold stored; go_simp)); refine zhK _ _ ⟨?_, ?_⟩; (focus (refine m_idle ?_; simp [go_sem, Instr.field, asAgg]; done)); clear zhK zK; try walk_nrm) | fail)
    refine WpM.cond (t := true) (by simp [Act.eval]) ?_
    simp only [if_true]
    repeat (first | ((first | refine WpM.seq ?_ | refine WpM.block ?_ | refine WpM.region ?_ | refine WpM.region_end ?_ | refine WpM.ret ?_ | refine WpM.skip ?_ | refine WpM.exit ?_); try simp only [thenM, inBlockM, if_true, if_false, reduceIte, Nat.reduceEqDiff, List.size_toArray, List.length_cons, List.length_nil, Nat.reduceAdd, Nat.zero_add, List.range, List.range.loop]) | (refine WpM.op_k rfl (by rfl) ?_; intro zu zR; obtain ⟨dd, zh⟩ := zR; subst zh; (try simp only [at_at']); intro zK zhK; go_simp; (try (unfold stored; go_simp)); refine zhK _ _ ⟨?_, ?_⟩; (focus (refine m_idle ?_; simp [go_sem, Instr.field, asAgg]; done)); clear zhK zK; try walk_nrm) | fail)
    exact ⟨trivial, trivial, trivial, _, resultsC_tmp2 (by rfl) _, _, [], rfl, by rw [HT.out]; rfl, Sk.nil _ _, below_at (Below.refl _ _) _⟩
  · have hl30 := jumpsB_le hJ
    have HT := Lib.hid (show alL xs = lpR xs xs.length by simp [alL, hJ])
    have HJ := Lib.hid hJ
    clear hJ
    repeat (first | ((first | refine WpM.seq ?_ | refine WpM.block ?_ | refine WpM.region ?_ | refine WpM.region_end ?_ | refine WpM.ret ?_ | refine WpM.skip ?_ | refine WpM.exit ?_); try simp only [thenM, inBlockM, if_true, if_false, reduceIte, Nat.reduceEqDiff, List.size_toArray, List.length_cons, List.length_nil, Nat.reduceAdd, Nat.zero_add, List.range, List.range.loop]) | (refine WpM.op_k rfl (by rfl) ?_; intro zu zR; obtain ⟨dd, zh⟩ := zR; subst zh; (try simp only [at_at']); intro zK zhK; go_simp; (try (unfold stored; go_simp)); refine zhK _ _ ⟨?_, ?_⟩; (focus (refine m_idle ?_; simp [go_sem, Instr.field, asAgg]; done)); clear zhK zK; try walk_nrm) | fail)
    refine WpM.cond (t := false) (by simp [Act.eval]) ?_
    simp only [if_false, Bool.false_eq_true]
    repeat (first | ((first | refine WpM.seq ?_ | refine WpM.block ?_ | refine WpM.region ?_ | refine WpM.region_end ?_ | refine WpM.ret ?_ | refine WpM.skip ?_ | refine WpM.exit ?_); try simp only [thenM, inBlockM, if_true, if_false, reduceIte, Nat.reduceEqDiff, List.size_toArray, List.length_cons, List.length_nil, Nat.reduceAdd, Nat.zero_add, List.range, List.range.loop]) | (refine WpM.op_k rfl (by rfl) ?_; intro zu zR; obtain ⟨dd, zh⟩ := zR; subst zh; (try simp only [at_at']); intro zK zhK; go_simp; (try (unfold stored; go_simp)); refine zhK _ _ ⟨?_, ?_⟩; (focus (refine m_idle ?_; simp [go_sem, Instr.field, asAgg]; done)); clear zhK zK; try walk_nrm) | fail)
    refine WpM.loop (fun j m' a' u => m' = .aside ∧ Below w.heap.size w u ∧ ∃ (i : Nat) (L : List Rv) (v u1 u5 u6 u7 u14 u15 u16 u17 u18 u19 u20 u21 u22 u23 u24 u25 u26 u27 u28 u29 u30 u31 u32 u33 u34 u35 : Value), listL L = lpR xs i ∧ Sk u w.heap.size v L ∧ i + j = xs.length ∧ a' = { tmps := #[.slice A0 xs.length c0, u1, .slice none 0 0, .bool false, v, u5, u6, u7, .slice A0 xs.length c0, .bool true, .bool false, .slice A0 xs.length c0, .int .i64 xs.length, .int .i64 (i : Int), u14, u15, u16, u17, u18, u19, u20, u21, u22, u23, u24, u25, u26, u27, u28, u29, u30, u31, u32, u33, u34, u35], defers := [] }) ?_ xs.length ⟨rfl, below_at (Below.refl _ _) _, 0, [], _, _, _, _, _, _, _, _, _, _, _, _, _, _, _, _, _, _, _, _, _, _, _, _, _, _, _, rfl, Sk.nil _ _, by omega, rfl⟩
    rintro j m a' u0 ⟨rfl, hbw, i, L, v, u1, u5, u6, u7, u14, u15, u16, u17, u18, u19, u20, u21, u22, u23, u24, u25, u26, u27, u28, u29, u30, u31, u32, u33, u34, u35, hL, hsk, hij, rfl⟩
    have hw1 : i < xs.length → IntKind.i64.wrap ((i : Int) + 1) = ((i + 1 : Nat) : Int) := fun _ => IntWalk.i64_in _ (by omega)
    by_cases hlt : i < xs.length
    · have hlt' : (i : Int) < (xs.length : Int) := by omega
      replace hw1 := hw1 hlt
      have hz := hbw.size
      have hLl : L.length ≤ i := by
        have h1 := lpR_length xs i
        rw [← hL, listL_len] at h1
        exact h1
      repeat (first | ((first | refine WpM.seq ?_ | refine WpM.block ?_ | refine WpM.region ?_ | refine WpM.region_end ?_ | refine WpM.ret ?_ | refine WpM.skip ?_ | refine WpM.exit ?_); try simp only [thenM, inBlockM, if_true, if_false, reduceIte, Nat.reduceEqDiff, List.size_toArray, List.length_cons, List.length_nil, Nat.reduceAdd, Nat.zero_add, List.range, List.range.loop]) | (refine WpM.op_k rfl (by rfl) ?_; intro zu zR; obtain ⟨dd, zh⟩ := zR; subst zh; (try simp only [at_at']); intro zK zhK; go_simp; (try (unfold stored; go_simp)); refine zhK _ _ ⟨?_, ?_⟩; (focus (refine m_idle ?_; simp [go_sem, Instr.field, asAgg]; done)); clear zhK zK; try walk_nrm) | fail)
      refine WpM.cond (t := true) (by simp [Act.eval, hlt, hlt']) ?_
      simp only [if_true]
      repeat (first | ((first | refine WpM.seq ?_ | refine WpM.block ?_ | refine WpM.region ?_ | refine WpM.region_end ?_ | refine WpM.ret ?_ | refine WpM.skip ?_ | refine WpM.exit ?_); try simp only [thenM, inBlockM, if_true, if_false, reduceIte, Nat.reduceEqDiff, List.size_toArray, List.length_cons, List.length_nil, Nat.reduceAdd, Nat.zero_add, List.range, List.range.loop]) | (refine WpM.op_k rfl (by rfl) ?_; intro zu zR; obtain ⟨dd, zh⟩ := zR; subst zh; (try simp only [at_at']); intro zK zhK; go_simp; (try (unfold stored; go_simp)); refine zhK _ _ ⟨?_, ?_⟩; (focus (refine m_idle ?_; simp [go_sem, Instr.field, asAgg]; done)); clear zhK zK; try walk_nrm) | fail)
      refine WpM.callM rfl (by rfl) rfl Try.func30 (by rfl) (by rfl) (by simp [Act.eval]) (implLoopB_m A0 c0 xs (i : Int) B _ (rd_at (hr.below hbw hB) _) (Nat.le_trans hB hz) hn) ?_
      rintro x u ⟨pv, rfl, ho, hb0⟩
      have hb1 : Below u0.heap.size u0 u := ⟨hb0.os, hb0.tape, hb0.output, hb0.size, hb0.block⟩
      have hbu : Below w.heap.size w u := hbw.trans (hb1.mono hz)
      have hsu : Sk u w.heap.size v L := hsk.below hb1 (Nat.le_refl _)
      have hou : OwnI u u0.heap.size pv (loopR xs (i : Int)) := ho
      have NF := Lib.hid (fun q (e : pv.ownBlock = some q) => hsk.fresh (hou.lt q e).1)
      have hou2 : OwnI u w.heap.size pv (loopR xs (i : Int)) := hou.mono hz
      clear hb0 ho hb1 hsk
      try walk_nrm
      repeat (first | ((first | refine WpM.seq ?_ | refine WpM.block ?_ | refine WpM.region_end ?_ | refine WpM.ret ?_ | refine WpM.skip ?_ | refine WpM.exit ?_); try simp only [thenM, inBlockM, if_true, if_false, reduceIte, Nat.reduceEqDiff, List.size_toArray, List.length_cons, List.length_nil, Nat.reduceAdd, Nat.zero_add, List.range, List.range.loop]) | (refine WpM.op_k rfl (by rfl) ?_; intro zu zR; obtain ⟨dd, zh⟩ := zR; subst zh; (try simp only [at_at']); intro zK zhK; go_simp; (try (unfold stored; go_simp)); refine zhK _ _ ⟨?_, ?_⟩; (focus (refine m_idle ?_; simp [go_sem, Instr.field, asAgg]; done)); clear zhK zK; try walk_nrm) | fail)
      generalize hU : u.at _ = U
      have bU : Below w.heap.size w U := by rw [← hU]; exact below_at hbu _
      have sU : Sk U w.heap.size v L := by rw [← hU]; exact hsu.heap rfl
      have oU : OwnI U w.heap.size pv (loopR xs (i : Int)) := by rw [← hU]; exact hou2
      clear hU hbu hsu hou2 hou
      cases ht : tlB xs (i : Int)
      · have HRR := Lib.hid (lpR_no (first_no1 ht))
        clear ht
        refine WpM.of_wp fns_ok no_early ⟨_, Try.func36, by rfl⟩ (by kernel_rfl) rfl (fun τ δ => ?_)
        have hsW : Sk (re U τ δ) w.heap.size v L := sU.heap rfl
        have HFIN := Lib.hid (fun (e : Nat) => show Below w.heap.size w (re (re U τ δ) U.tape e) from ⟨bU.os, bU.tape, bU.output, bU.size, bU.block⟩)
        generalize re U τ δ = W at *
        go_wp2_with fail
        intro d1
        simp only [thenM, inBlockM, if_true, if_false, reduceIte, Nat.reduceEqDiff, List.size_toArray, List.length_cons, List.length_nil, Nat.reduceAdd, Nat.zero_add, List.range, List.range.loop]
        have hF := HFIN.out d1
        have hO : Sk (re W U.tape d1) w.heap.size v L := hsW.heap rfl
        generalize re W U.tape d1 = V at *
        refine WpM.cond (t := false) (by simp [Act.eval]) ?_
        simp only [if_false, Bool.false_eq_true]
        repeat (first | ((first | refine WpM.seq ?_ | refine WpM.block ?_ | refine WpM.region ?_ | refine WpM.region_end ?_ | refine WpM.ret ?_ | refine WpM.skip ?_ | refine WpM.exit ?_); try simp only [thenM, inBlockM, if_true, if_false, reduceIte, Nat.reduceEqDiff, List.size_toArray, List.length_cons, List.length_nil, Nat.reduceAdd, Nat.zero_add, List.range, List.range.loop]) | (refine WpM.op_k rfl (by rfl) ?_; intro zu zR; obtain ⟨dd, zh⟩ := zR; subst zh; (try simp only [at_at']); intro zK zhK; go_simp; (try (unfold stored; go_simp)); refine zhK _ _ ⟨?_, ?_⟩; (focus (refine m_idle ?_; simp [go_sem, Instr.field, asAgg]; done)); clear zhK zK; try walk_nrm) | fail)
        try simp only [hw1]
        exact ⟨j - 1, by omega, trivial, below_at hF _, i + 1, _, _, _, _, _, _, _, _, _, _, _, _, _, _, _, _, _, _, _, _, _, _, _, _, _, _, _, _, by rw [HRR.out]; exact hL, hO.heap rfl, by omega, rfl⟩
      · have hpos := loopR_pos ht
        have hle := loopR_1000 xs (i : Int)
        have HY := Lib.hid (fun h => lpR_yes (first_yes (k := i) ht h))
        have HN := Lib.hid (fun h => lpR_no (first_no (xs := xs) (k := i) h))
        clear ht
        generalize loopR xs (i : Int) = D at *
        obtain ⟨A2, c2, rfl, r2⟩ := oU.form
        obtain ⟨b, o, rfl, hbb, hcell⟩ := r2.at_ (k := 0) (by omega)
        rw [Nat.add_zero] at hcell
        have p0 : (0 : Int) < (D.length : Int) := by omega
        clear r2
        by_cases hf : D.getD 0 0 = (i : Int)
        · have HRR := Lib.hid (HY.out hf)
          rw [hf] at hcell
          clear hf HY HN
          refine WpM.of_wp fns_ok no_early ⟨_, Try.func36, by rfl⟩ (by kernel_rfl) rfl (fun τ δ => ?_)
          have hsW : Sk (re U τ δ) w.heap.size v L := sU.heap rfl
          have hoW : OwnI (re U τ δ) w.heap.size (.slice (some ⟨b, o, none⟩) D.length c2) D := oU
          have hcW : (re U τ δ).cell? ⟨b, o, none⟩ = some (.int .i64 (i : Int)) := hcell
          have HFIN := Lib.hid (fun (e : Nat) => show Below w.heap.size w (re (re U τ δ) U.tape e) from ⟨bU.os, bU.tape, bU.output, bU.size, bU.block⟩)
          generalize re U τ δ = W at *
          go_wp2_with fail
          intro d1
          simp only [thenM, inBlockM, if_true, if_false, reduceIte, Nat.reduceEqDiff, List.size_toArray, List.length_cons, List.length_nil, Nat.reduceAdd, Nat.zero_add, List.range, List.range.loop]
          have hF := HFIN.out d1
          have hO : Sk (re W U.tape d1) w.heap.size v L := hsW.heap rfl
          have hP : OwnI (re W U.tape d1) w.heap.size (.slice (some ⟨b, o, none⟩) D.length c2) D := hoW
          clear bU sU oU hcell hbb hsW hoW hcW HFIN
          generalize re W U.tape d1 = V at *
          refine WpM.cond (t := true) (by simp [Act.eval]) ?_
          simp only [if_true]
          repeat (first | ((first | refine WpM.seq ?_ | refine WpM.block ?_ | refine WpM.region_end ?_ | refine WpM.ret ?_ | refine WpM.skip ?_ | refine WpM.exit ?_); try simp only [thenM, inBlockM, if_true, if_false, reduceIte, Nat.reduceEqDiff, List.size_toArray, List.length_cons, List.length_nil, Nat.reduceAdd, Nat.zero_add, List.range, List.range.loop]) | (refine WpM.op_k rfl (by rfl) ?_; intro zu zR; obtain ⟨dd, zh⟩ := zR; subst zh; (try simp only [at_at']); intro zK zhK; go_simp; (try (unfold stored; go_simp)); refine zhK _ _ ⟨?_, ?_⟩; (focus (refine m_idle ?_; simp [go_sem, Instr.field, asAgg]; done)); clear zhK zK; try walk_nrm) | fail)
          refine WpM.of_wp fns_ok no_early ⟨_, Try.func36, by rfl⟩ (by kernel_rfl) rfl (fun τ δ => ?_)
          have hsW : Sk (re V τ δ) w.heap.size v L := hO.heap rfl
          have hoW : OwnI (re V τ δ) w.heap.size (.slice (some ⟨b, o, none⟩) D.length c2) D := hP
          have hzV : w.heap.size ≤ (re V τ δ).heap.size := hF.size
          have HFIN := Lib.hid (fun (wr : World) (e : Nat) (h : Below w.heap.size (re V τ δ) wr) => show Below w.heap.size w (re wr V.tape e) from hF.trans ⟨h.os, rfl, h.output, h.size, h.block⟩)
          generalize re V τ δ = X at *
          go_wp2_with (at_builtin; refine wpList_pushV _ rfl _ _ rfl w.heap.size _ L rfl (hsW.below (below_alloc _ _) (Nat.le_refl _)) X.heap.size (.slice (some ⟨b, o, none⟩) D.length c2) D rfl (by simp) rfl (hoW.alloc _) NF.out (by omega) (by simp; omega) ?_; intro v3 w3 hs3 hg3)
          intro d2
          simp only [thenM, inBlockM, if_true, if_false, reduceIte, Nat.reduceEqDiff, List.size_toArray, List.length_cons, List.length_nil, Nat.reduceAdd, Nat.zero_add, List.range, List.range.loop]
          have hF3 := HFIN.out w3 d2 (((Below.refl w.heap.size X).alloc hzV _).trans hg3)
          have hO3 : Sk (re w3 V.tape d2) w.heap.size v3 (L ++ [(.slice (some ⟨b, o, none⟩) D.length c2, D)]) := hs3.heap rfl
          generalize re w3 V.tape d2 = Y at *
          repeat (first | ((first | refine WpM.seq ?_ | refine WpM.block ?_ | refine WpM.region ?_ | refine WpM.region_end ?_ | refine WpM.ret ?_ | refine WpM.skip ?_ | refine WpM.exit ?_); try simp only [thenM, inBlockM, if_true, if_false, reduceIte, Nat.reduceEqDiff, List.size_toArray, List.length_cons, List.length_nil, Nat.reduceAdd, Nat.zero_add, List.range, List.range.loop]) | (refine WpM.op_k rfl (by rfl) ?_; intro zu zR; obtain ⟨dd, zh⟩ := zR; subst zh; (try simp only [at_at']); intro zK zhK; go_simp; (try (unfold stored; go_simp)); refine zhK _ _ ⟨?_, ?_⟩; (focus (refine m_idle ?_; simp [go_sem, Instr.field, asAgg]; done)); clear zhK zK; try walk_nrm) | fail)
          try simp only [hw1]
          exact ⟨j - 1, by omega, trivial, below_at hF3 _, i + 1, _, _, _, _, _, _, _, _, _, _, _, _, _, _, _, _, _, _, _, _, _, _, _, _, _, _, _, _, by rw [HRR.out]; exact listL_snoc hL, hO3.heap rfl, by omega, rfl⟩
        · have HRR := Lib.hid (HN.out hf)
          have hf2 : (D.getD 0 0 == (i : Int)) = false := by simpa using hf
          clear HY HN
          generalize D.getD 0 0 = q0 at *
          refine WpM.of_wp fns_ok no_early ⟨_, Try.func36, by rfl⟩ (by kernel_rfl) rfl (fun τ δ => ?_)
          have hsW : Sk (re U τ δ) w.heap.size v L := sU.heap rfl
          have hcW : (re U τ δ).cell? ⟨b, o, none⟩ = some (.int .i64 q0) := hcell
          have HFIN := Lib.hid (fun (e : Nat) => show Below w.heap.size w (re (re U τ δ) U.tape e) from ⟨bU.os, bU.tape, bU.output, bU.size, bU.block⟩)
          generalize re U τ δ = W at *
          go_wp2_with fail
          intro d1
          simp only [thenM, inBlockM, if_true, if_false, reduceIte, Nat.reduceEqDiff, List.size_toArray, List.length_cons, List.length_nil, Nat.reduceAdd, Nat.zero_add, List.range, List.range.loop]
          have hF := HFIN.out d1
          have hO : Sk (re W U.tape d1) w.heap.size v L := hsW.heap rfl
          generalize re W U.tape d1 = V at *
          refine WpM.cond (t := false) (by simp [Act.eval]) ?_
          simp only [if_false, Bool.false_eq_true]
          repeat (first | ((first | refine WpM.seq ?_ | refine WpM.block ?_ | refine WpM.region ?_ | refine WpM.region_end ?_ | refine WpM.ret ?_ | refine WpM.skip ?_ | refine WpM.exit ?_); try simp only [thenM, inBlockM, if_true, if_false, reduceIte, Nat.reduceEqDiff, List.size_toArray, List.length_cons, List.length_nil, Nat.reduceAdd, Nat.zero_add, List.range, List.range.loop]) | (refine WpM.op_k rfl (by rfl) ?_; intro zu zR; obtain ⟨dd, zh⟩ := zR; subst zh; (try simp only [at_at']); intro zK zhK; go_simp; (try (unfold stored; go_simp)); refine zhK _ _ ⟨?_, ?_⟩; (focus (refine m_idle ?_; simp [go_sem, Instr.field, asAgg]; done)); clear zhK zK; try walk_nrm) | fail)
          try simp only [hw1]
          exact ⟨j - 1, by omega, trivial, below_at hF _, i + 1, _, _, _, _, _, _, _, _, _, _, _, _, _, _, _, _, _, _, _, _, _, _, _, _, _, _, _, _, by rw [HRR.out]; exact hL, hO.heap rfl, by omega, rfl⟩
    · obtain rfl : i = xs.length := by omega
      repeat (first | ((first | refine WpM.seq ?_ | refine WpM.block ?_ | refine WpM.region ?_ | refine WpM.region_end ?_ | refine WpM.ret ?_ | refine WpM.skip ?_ | refine WpM.exit ?_); try simp only [thenM, inBlockM, if_true, if_false, reduceIte, Nat.reduceEqDiff, List.size_toArray, List.length_cons, List.length_nil, Nat.reduceAdd, Nat.zero_add, List.range, List.range.loop]) | (refine WpM.op_k rfl (by rfl) ?_; intro zu zR; obtain ⟨dd, zh⟩ := zR; subst zh; (try simp only [at_at']); intro zK zhK; go_simp; (try (unfold stored; go_simp)); refine zhK _ _ ⟨?_, ?_⟩; (focus (refine m_idle ?_; simp [go_sem, Instr.field, asAgg]; done)); clear zhK zK; try walk_nrm) | fail)
      refine WpM.cond (t := false) (by simp [Act.eval]) ?_
      simp only [if_false, Bool.false_eq_true]
      repeat (first | ((first | refine WpM.seq ?_ | refine WpM.block ?_ | refine WpM.region ?_ | refine WpM.region_end ?_ | refine WpM.ret ?_ | refine WpM.skip ?_ | refine WpM.exit ?_); try simp only [thenM, inBlockM, if_true, if_false, reduceIte, Nat.reduceEqDiff, List.size_toArray, List.length_cons, List.length_nil, Nat.reduceAdd, Nat.zero_add, List.range, List.range.loop]) | (refine WpM.op_k rfl (by rfl) ?_; intro zu zR; obtain ⟨dd, zh⟩ := zR; subst zh; (try simp only [at_at']); intro zK zhK; go_simp; (try (unfold stored; go_simp)); refine zhK _ _ ⟨?_, ?_⟩; (focus (refine m_idle ?_; simp [go_sem, Instr.field, asAgg]; done)); clear zhK zK; try walk_nrm) | fail)
      exact ⟨trivial, trivial, trivial, _, resultsC_tmp2 (by rfl) _, _, L, rfl, by rw [HT.out]; exact hL, hsk.heap rfl, below_at hbw _⟩

end Go.Proofs.Ytiacfaeanlkalaa

set_option linter.unusedSimpArgs false
namespace Go.Proofs.Ytiacfaeanlkalaa
set_option maxRecDepth 100000
open Go.Conc Go.RowKit

/-- the functions that are walked for one goroutine alone -/
def Lb_allLoops (f : FuncId) : Bool := [14, 16, 42, 55, 52, 48, 65, 40, 54, 45, 64, 51, 62, 46, 41, 13, 27, 28, 35, 50, 47, 63, 37, 38, 39].contains f
set_option maxRecDepth 100000 in
theorem fns_ok_allLoops : ∀ f, Lb_allLoops f = true → fnOk Try.prog Lb_allLoops f = true := by
  intro f hf
  simp only [Lb_allLoops, List.contains_cons, List.contains_nil, Bool.or_false, Bool.or_eq_true, beq_iff_eq] at hf
  rcases hf with rfl | rfl | rfl | rfl | rfl | rfl | rfl | rfl | rfl | rfl | rfl | rfl | rfl | rfl | rfl | rfl | rfl | rfl | rfl | rfl | rfl | rfl | rfl | rfl | rfl <;> kernel_rfl

set_option maxRecDepth 100000 in
set_option maxHeartbeats 8000000 in
theorem allLoops_run (Z0 : Option Addr) (d0 : Nat) (xs0 : List Int) (w0 : World) (R0 : Rd w0 w0.heap.size Z0 d0 xs0) (hm0 : xs0.length ≤ 9223372036854775807) :
    ∃ M last o w' t', runNT Try.prog (M + 1) (solo (G (Frame.enter Try.prog 12 #[.slice Z0 xs0.length d0] .normal) []) w0) #[] = (.ended o w', t') ∧ runN Try.prog M (solo (G (Frame.enter Try.prog 12 #[.slice Z0 xs0.length d0] .normal) []) w0) = .next last ∧ step Try.prog last = .ended o w' ∧
      Go.Conc.Good Try.prog (fun v w' => v = .bool true ∧ Below w0.heap.size w0 w') last o w' t' := by
  refine law_ends Try.func12 rfl (by kernel_rfl) ?_
  simp only [Try.ntmps12, List.size_toArray, List.length_cons, List.length_nil, Nat.reduceAdd, Nat.reduceSub, Array.replicate_succ, Array.replicate_zero, List.push_toArray, List.append_toArray, List.nil_append, List.cons_append]
  repeat (first | ((first | refine WpM.seq ?_ | refine WpM.block ?_ | refine WpM.region ?_ | refine WpM.region_end ?_ | refine WpM.ret ?_ | refine WpM.skip ?_ | refine WpM.exit ?_); try simp only [thenM, inBlockM, if_true, if_false, reduceIte, Nat.reduceEqDiff, List.size_toArray, List.length_cons, List.length_nil, Nat.reduceAdd, Nat.zero_add, List.range, List.range.loop]) | (refine WpM.op_k rfl (by rfl) ?_; intro zu zR; obtain ⟨dd, zh⟩ := zR; subst zh; (try simp only [at_at']); intro zK zhK; go_simp; (try (unfold stored; go_simp)); refine zhK _ _ ⟨?_, ?_⟩; (focus (refine m_idle ?_; simp [go_sem, Instr.field, asAgg]; done)); clear zhK zK; try walk_nrm) | fail)
  by_cases hn : 1048576 < xs0.length
  · have hh : (1048576 : Int) < (xs0.length : Int) := by omega
    refine WpM.cond (t := true) (by simp [Act.eval, hh, hn]) ?_
    simp only [if_true]
    repeat (first | ((first | refine WpM.seq ?_ | refine WpM.block ?_ | refine WpM.region ?_ | refine WpM.region_end ?_ | refine WpM.ret ?_ | refine WpM.skip ?_ | refine WpM.exit ?_); try simp only [thenM, inBlockM, if_true, if_false, reduceIte, Nat.reduceEqDiff, List.size_toArray, List.length_cons, List.length_nil, Nat.reduceAdd, Nat.zero_add, List.range, List.range.loop]) | (refine WpM.op_k rfl (by rfl) ?_; intro zu zR; obtain ⟨dd, zh⟩ := zR; subst zh; (try simp only [at_at']); intro zK zhK; go_simp; (try (unfold stored; go_simp)); refine zhK _ _ ⟨?_, ?_⟩; (focus (refine m_idle ?_; simp [go_sem, Instr.field, asAgg]; done)); clear zhK zK; try walk_nrm) | fail)
    exact ⟨trivial, trivial, trivial, _, resultsC_tmp (by rfl) _, fun d => ⟨rfl, below_at (below_at (Below.refl _ _) _) d⟩⟩
  have hn0 : xs0.length ≤ 1048576 := by omega
  have hh : ¬ (1048576 : Int) < (xs0.length : Int) := by omega
  refine WpM.cond (t := false) (by simp [Act.eval, hh]; try omega) ?_
  simp only [if_false, Bool.false_eq_true]
  have Bt : Below w0.heap.size w0 w0 := Below.refl _ _
  obtain ⟨zs0, hzs⟩ : ∃ zs, zs = (alL xs0) := ⟨_, rfl⟩
  have hz0 : zs0.length ≤ 1000 := by rw [hzs]; exact (alL_length _)
  have hz1 : ∀ r ∈ zs0, r.length ≤ 1000 := by rw [hzs]; exact alL_1000 _
  have HZS := Lib.hid hzs
  clear hzs
  repeat (first | ((first | refine WpM.seq ?_ | refine WpM.block ?_ | refine WpM.region ?_ | refine WpM.region_end ?_ | refine WpM.ret ?_ | refine WpM.skip ?_ | refine WpM.exit ?_); try simp only [thenM, inBlockM, if_true, if_false, reduceIte, Nat.reduceEqDiff, List.size_toArray, List.length_cons, List.length_nil, Nat.reduceAdd, Nat.zero_add, List.range, List.range.loop]) | (refine WpM.op_k rfl (by rfl) ?_; intro zu zR; obtain ⟨dd, zh⟩ := zR; subst zh; (try simp only [at_at']); intro zK zhK; go_simp; (try (unfold stored; go_simp)); refine zhK _ _ ⟨?_, ?_⟩; (focus (refine m_idle ?_; simp [go_sem, Instr.field, asAgg]; done)); clear zhK zK; try walk_nrm) | fail)
  refine WpM.callL (vs := #[.slice Z0 xs0.length d0]) fns_ok_allLoops no_early ⟨_, Try.func12, by rfl⟩ (by kernel_rfl) rfl rfl (by rfl) rfl Try.func14 (by rfl) (by rfl) (by simp [Act.eval]) (fun vv uu => ∃ g, vv = .slice (some ⟨g, 0, none⟩) xs0.length xs0.length ∧ w0.heap.size ≤ g ∧ Blk uu g 3 (ints xs0) ∧ Below w0.heap.size w0 uu) (fun τ δ => Calls.mono (toIntS_new Z0 d0 xs0 w0.heap.size _ ⟨R0.1, R0.2⟩ Bt.size hn0) fun e w' ⟨g, he, hg, hB, hb⟩ => ⟨_, he, fun d => ⟨g, rfl, hg, hB, ⟨hb.os, rfl, hb.output, hb.size, hb.block⟩⟩⟩) ?_; rintro _ u1 ⟨a0, rfl, a0g, Ha0, hb⟩; (try walk_nrm); try simp only [at_at']
  have z1 : w0.heap.size ≤ u1.heap.size := hb.size
  replace R0 := R0.below hb (by omega)
  replace Bt := Bt.trans (hb.mono (by omega))
  clear hb
  have a0l := Ha0.lt
  repeat (first | ((first | refine WpM.seq ?_ | refine WpM.block ?_ | refine WpM.region ?_ | refine WpM.region_end ?_ | refine WpM.ret ?_ | refine WpM.skip ?_ | refine WpM.exit ?_); try simp only [thenM, inBlockM, if_true, if_false, reduceIte, Nat.reduceEqDiff, List.size_toArray, List.length_cons, List.length_nil, Nat.reduceAdd, Nat.zero_add, List.range, List.range.loop]) | (refine WpM.op_k rfl (by rfl) ?_; intro zu zR; obtain ⟨dd, zh⟩ := zR; subst zh; (try simp only [at_at']); intro zK zhK; go_simp; (try (unfold stored; go_simp)); refine zhK _ _ ⟨?_, ?_⟩; (focus (refine m_idle ?_; simp [go_sem, Instr.field, asAgg]; done)); clear zhK zK; try walk_nrm) | fail)
  refine WpM.callL (vs := #[.slice (some ⟨a0, 0, none⟩) xs0.length xs0.length]) fns_ok_allLoops no_early ⟨_, Try.func12, by rfl⟩ (by kernel_rfl) rfl rfl (by rfl) rfl Try.func35 (by rfl) (by rfl) (by simp [Act.eval]) (fun vv uu => ∃ pv L, vv = .tuple #[pv, .bool (jumpsB xs0)] ∧ listL L = zs0 ∧ Sk uu u1.heap.size pv L ∧ Below u1.heap.size u1 uu) (fun τ δ => Calls.mono (specLoops_any _ _ xs0 u1.heap.size _ ⟨(Ha0.rd (c := xs0.length) Ha0.lt (Nat.le_refl _)).1, (Ha0.rd (c := xs0.length) Ha0.lt (Nat.le_refl _)).2⟩ (Nat.le_refl _) hn0) fun e w' ⟨pv, L, he, hL, ho, hb⟩ => ⟨_, he, fun d => ⟨pv, L, rfl, by rw [HZS.out]; exact hL, ho.heap rfl, ⟨hb.os, rfl, hb.output, hb.size, hb.block⟩⟩⟩) ?_; rintro _ u2 ⟨v0, L0, rfl, hL0, O0, hb⟩; (try walk_nrm); try simp only [at_at']
  have og0 := fun k h => (O0.lt k h).1
  have ol0 := fun k h => (O0.lt k h).2
  have z2 : u1.heap.size ≤ u2.heap.size := hb.size
  replace R0 := R0.below hb (by omega)
  replace Ha0 := Ha0.below hb (by omega)
  replace Bt := Bt.trans (hb.mono (by omega))
  clear hb
  clear Ha0 a0l
  repeat (first | ((first | refine WpM.seq ?_ | refine WpM.block ?_ | refine WpM.region ?_ | refine WpM.region_end ?_ | refine WpM.ret ?_ | refine WpM.skip ?_ | refine WpM.exit ?_); try simp only [thenM, inBlockM, if_true, if_false, reduceIte, Nat.reduceEqDiff, List.size_toArray, List.length_cons, List.length_nil, Nat.reduceAdd, Nat.zero_add, List.range, List.range.loop]) | (refine WpM.op_k rfl (by rfl) ?_; intro zu zR; obtain ⟨dd, zh⟩ := zR; subst zh; (try simp only [at_at']); intro zK zhK; go_simp; (try (unfold stored; go_simp)); refine zhK _ _ ⟨?_, ?_⟩; (focus (refine m_idle ?_; simp [go_sem, Instr.field, asAgg]; done)); clear zhK zK; try walk_nrm) | fail)
  refine WpM.callL (vs := #[.slice Z0 xs0.length d0]) fns_ok_allLoops no_early ⟨_, Try.func12, by rfl⟩ (by kernel_rfl) rfl rfl (by rfl) rfl Try.func14 (by rfl) (by rfl) (by simp [Act.eval]) (fun vv uu => ∃ g, vv = .slice (some ⟨g, 0, none⟩) xs0.length xs0.length ∧ u2.heap.size ≤ g ∧ Blk uu g 3 (ints xs0) ∧ Below u2.heap.size u2 uu) (fun τ δ => Calls.mono (toIntS_new Z0 d0 xs0 w0.heap.size _ ⟨R0.1, R0.2⟩ Bt.size hn0) fun e w' ⟨g, he, hg, hB, hb⟩ => ⟨_, he, fun d => ⟨g, rfl, hg, hB, ⟨hb.os, rfl, hb.output, hb.size, hb.block⟩⟩⟩) ?_; rintro _ u3 ⟨b0, rfl, b0g, Hb0, hb⟩; (try walk_nrm); try simp only [at_at']
  have z3 : u2.heap.size ≤ u3.heap.size := hb.size
  replace R0 := R0.below hb (by omega)
  replace O0 := O0.below hb (Nat.le_refl _)
  replace Bt := Bt.trans (hb.mono (by omega))
  clear hb
  have b0l := Hb0.lt
  repeat (first | ((first | refine WpM.seq ?_ | refine WpM.block ?_ | refine WpM.region ?_ | refine WpM.region_end ?_ | refine WpM.ret ?_ | refine WpM.skip ?_ | refine WpM.exit ?_); try simp only [thenM, inBlockM, if_true, if_false, reduceIte, Nat.reduceEqDiff, List.size_toArray, List.length_cons, List.length_nil, Nat.reduceAdd, Nat.zero_add, List.range, List.range.loop]) | (refine WpM.op_k rfl (by rfl) ?_; intro zu zR; obtain ⟨dd, zh⟩ := zR; subst zh; (try simp only [at_at']); intro zK zhK; go_simp; (try (unfold stored; go_simp)); refine zhK _ _ ⟨?_, ?_⟩; (focus (refine m_idle ?_; simp [go_sem, Instr.field, asAgg]; done)); clear zhK zK; try walk_nrm) | fail)
  refine WpM.callM rfl (by rfl) rfl Try.func36 (by rfl) (by rfl) (by simp [Act.eval]) (implLoops_m _ _ xs0 u3.heap.size _ ⟨(Hb0.rd (c := xs0.length) Hb0.lt (Nat.le_refl _)).1, (Hb0.rd (c := xs0.length) Hb0.lt (Nat.le_refl _)).2⟩ (Nat.le_refl _) hn0) ?_
  rintro x u4 ⟨v1, L1, rfl, hL1, O1', hb0⟩
  have hb : Below u3.heap.size u3 u4 := ⟨hb0.os, hb0.tape, hb0.output, hb0.size, hb0.block⟩
  have O1 : Sk u4 u3.heap.size v1 L1 := O1'
  rw [← HZS.out] at hL1
  clear hb0 O1'
  try walk_nrm
  have og1 := fun k h => (O1.lt k h).1
  have ol1 := fun k h => (O1.lt k h).2
  have z4 : u3.heap.size ≤ u4.heap.size := hb.size
  replace R0 := R0.below hb (by omega)
  replace O0 := O0.below hb (Nat.le_refl _)
  replace Hb0 := Hb0.below hb (by omega)
  replace Bt := Bt.trans (hb.mono (by omega))
  clear hb
  repeat (first | ((first | refine WpM.seq ?_ | refine WpM.block ?_ | refine WpM.region ?_ | refine WpM.region_end ?_ | refine WpM.ret ?_ | refine WpM.skip ?_ | refine WpM.exit ?_); try simp only [thenM, inBlockM, if_true, if_false, reduceIte, Nat.reduceEqDiff, List.size_toArray, List.length_cons, List.length_nil, Nat.reduceAdd, Nat.zero_add, List.range, List.range.loop]) | (refine WpM.op_k rfl (by rfl) ?_; intro zu zR; obtain ⟨dd, zh⟩ := zR; subst zh; (try simp only [at_at']); intro zK zhK; go_simp; (try (unfold stored; go_simp)); refine zhK _ _ ⟨?_, ?_⟩; (focus (refine m_idle ?_; simp [go_sem, Instr.field, asAgg]; done)); clear zhK zK; try walk_nrm) | fail)
  refine WpM.callL (vs := #[v1, v0]) fns_ok_allLoops no_early ⟨_, Try.func12, by rfl⟩ (by kernel_rfl) rfl rfl (by rfl) rfl Try.func37 (by rfl) (by rfl) (by simp [Act.eval]) (fun vv uu => vv = .bool true ∧ Below u4.heap.size u4 uu) (fun τ δ => Calls.mono (eqSk_any _ _ L1 L0 _ _ _ (O1.heap rfl) (O0.heap rfl) (hL1.trans hL0.symm) (by rw [← listL_len, hL1]; omega) (rowsLe hL1 hz1)) fun e w' ⟨he, hb⟩ => ⟨_, he, fun d => ⟨rfl, ⟨hb.os, rfl, hb.output, hb.size, hb.block⟩⟩⟩) ?_; rintro _ u5 ⟨rfl, hb⟩; (try walk_nrm); try simp only [at_at']
  have z5 : u4.heap.size ≤ u5.heap.size := hb.size
  replace R0 := R0.below hb (by omega)
  replace O0 := O0.below hb (Nat.le_refl _)
  replace Hb0 := Hb0.below hb (by omega)
  replace O1 := O1.below hb (Nat.le_refl _)
  replace Bt := Bt.trans (hb.mono (by omega))
  clear hb
  repeat (first | ((first | refine WpM.seq ?_ | refine WpM.block ?_ | refine WpM.region ?_ | refine WpM.region_end ?_ | refine WpM.ret ?_ | refine WpM.skip ?_ | refine WpM.exit ?_); try simp only [thenM, inBlockM, if_true, if_false, reduceIte, Nat.reduceEqDiff, List.size_toArray, List.length_cons, List.length_nil, Nat.reduceAdd, Nat.zero_add, List.range, List.range.loop]) | (refine WpM.op_k rfl (by rfl) ?_; intro zu zR; obtain ⟨dd, zh⟩ := zR; subst zh; (try simp only [at_at']); intro zK zhK; go_simp; (try (unfold stored; go_simp)); refine zhK _ _ ⟨?_, ?_⟩; (focus (refine m_idle ?_; simp [go_sem, Instr.field, asAgg]; done)); clear zhK zK; try walk_nrm) | fail)
  (refine WpM.op_k rfl (by rfl) ?_; intro zu zR; obtain ⟨dd, zh⟩ := zR; subst zh; (try simp only [at_at']); intro zK zhK; go_simp; (try (unfold stored; go_simp)); refine zhK _ _ ⟨?_, ?_⟩; (focus (exact m_idle (by generalize (jumpsB xs0) = bb; cases bb <;> (simp [go_sem]; first | rfl | simp [binOp, go_sem] | simp [binOp])); done)); clear zhK zK; try walk_nrm)
  repeat (first | ((first | refine WpM.seq ?_ | refine WpM.block ?_ | refine WpM.region ?_ | refine WpM.region_end ?_ | refine WpM.ret ?_ | refine WpM.skip ?_ | refine WpM.exit ?_); try simp only [thenM, inBlockM, if_true, if_false, reduceIte, Nat.reduceEqDiff, List.size_toArray, List.length_cons, List.length_nil, Nat.reduceAdd, Nat.zero_add, List.range, List.range.loop]) | (refine WpM.op_k rfl (by rfl) ?_; intro zu zR; obtain ⟨dd, zh⟩ := zR; subst zh; (try simp only [at_at']); intro zK zhK; go_simp; (try (unfold stored; go_simp)); refine zhK _ _ ⟨?_, ?_⟩; (focus (refine m_idle ?_; simp [go_sem, Instr.field, asAgg]; done)); clear zhK zK; try walk_nrm) | fail)
  refine WpM.cond (t := false) (by simp [Act.eval]) ?_
  simp only [if_false, Bool.false_eq_true]
  repeat (first | ((first | refine WpM.seq ?_ | refine WpM.block ?_ | refine WpM.region ?_ | refine WpM.region_end ?_ | refine WpM.ret ?_ | refine WpM.skip ?_ | refine WpM.exit ?_); try simp only [thenM, inBlockM, if_true, if_false, reduceIte, Nat.reduceEqDiff, List.size_toArray, List.length_cons, List.length_nil, Nat.reduceAdd, Nat.zero_add, List.range, List.range.loop]) | (refine WpM.op_k rfl (by rfl) ?_; intro zu zR; obtain ⟨dd, zh⟩ := zR; subst zh; (try simp only [at_at']); intro zK zhK; go_simp; (try (unfold stored; go_simp)); refine zhK _ _ ⟨?_, ?_⟩; (focus (refine m_idle ?_; simp [go_sem, Instr.field, asAgg]; done)); clear zhK zK; try walk_nrm) | fail)
  refine WpM.callL (vs := #[.slice Z0 xs0.length d0]) fns_ok_allLoops no_early ⟨_, Try.func12, by rfl⟩ (by kernel_rfl) rfl rfl (by rfl) rfl Try.func14 (by rfl) (by rfl) (by simp [Act.eval]) (fun vv uu => ∃ g, vv = .slice (some ⟨g, 0, none⟩) xs0.length xs0.length ∧ u5.heap.size ≤ g ∧ Blk uu g 3 (ints xs0) ∧ Below u5.heap.size u5 uu) (fun τ δ => Calls.mono (toIntS_new Z0 d0 xs0 w0.heap.size _ ⟨R0.1, R0.2⟩ Bt.size hn0) fun e w' ⟨g, he, hg, hB, hb⟩ => ⟨_, he, fun d => ⟨g, rfl, hg, hB, ⟨hb.os, rfl, hb.output, hb.size, hb.block⟩⟩⟩) ?_; rintro _ u6 ⟨c0, rfl, c0g, Hc0, hb⟩; (try walk_nrm); try simp only [at_at']
  have z6 : u5.heap.size ≤ u6.heap.size := hb.size
  replace R0 := R0.below hb (by omega)
  replace O0 := O0.below hb (Nat.le_refl _)
  replace Hb0 := Hb0.below hb (by omega)
  replace O1 := O1.below hb (Nat.le_refl _)
  replace Bt := Bt.trans (hb.mono (by omega))
  clear hb
  have c0l := Hc0.lt
  repeat (first | ((first | refine WpM.seq ?_ | refine WpM.block ?_ | refine WpM.region ?_ | refine WpM.region_end ?_ | refine WpM.ret ?_ | refine WpM.skip ?_ | refine WpM.exit ?_); try simp only [thenM, inBlockM, if_true, if_false, reduceIte, Nat.reduceEqDiff, List.size_toArray, List.length_cons, List.length_nil, Nat.reduceAdd, Nat.zero_add, List.range, List.range.loop]) | (refine WpM.op_k rfl (by rfl) ?_; intro zu zR; obtain ⟨dd, zh⟩ := zR; subst zh; (try simp only [at_at']); intro zK zhK; go_simp; (try (unfold stored; go_simp)); refine zhK _ _ ⟨?_, ?_⟩; (focus (refine m_idle ?_; simp [go_sem, Instr.field, asAgg]; done)); clear zhK zK; try walk_nrm) | fail)
  refine WpM.callL (vs := #[.slice (some ⟨b0, 0, none⟩) xs0.length xs0.length, .slice (some ⟨c0, 0, none⟩) xs0.length xs0.length]) fns_ok_allLoops no_early ⟨_, Try.func12, by rfl⟩ (by kernel_rfl) rfl rfl (by rfl) rfl Try.func16 (by rfl) (by rfl) (by simp [Act.eval]) (fun vv uu => vv = .bool (eqB xs0 xs0) ∧ Below u6.heap.size u6 uu) (fun τ δ => Calls.mono (eqIntS_new _ _ _ _ xs0 xs0 _ _ _ ⟨(Hb0.rd (c := xs0.length) Hb0.lt (Nat.le_refl _)).1, (Hb0.rd (c := xs0.length) Hb0.lt (Nat.le_refl _)).2⟩ ⟨(Hc0.rd (c := xs0.length) Hc0.lt (Nat.le_refl _)).1, (Hc0.rd (c := xs0.length) Hc0.lt (Nat.le_refl _)).2⟩ hn0) fun e w' ⟨he, hb⟩ => ⟨_, he, fun d => ⟨rfl, ⟨hb.os, rfl, hb.output, hb.size, hb.block⟩⟩⟩) ?_; rintro _ u7 ⟨rfl, hb⟩; (try walk_nrm); try simp only [at_at']
  have z7 : u6.heap.size ≤ u7.heap.size := hb.size
  replace R0 := R0.below hb (by omega)
  replace O0 := O0.below hb (Nat.le_refl _)
  replace Hb0 := Hb0.below hb (by omega)
  replace O1 := O1.below hb (Nat.le_refl _)
  replace Hc0 := Hc0.below hb (by omega)
  replace Bt := Bt.trans (hb.mono (by omega))
  clear hb
  rw [eqB_self]
  clear Hc0 c0l
  repeat (first | ((first | refine WpM.seq ?_ | refine WpM.block ?_ | refine WpM.region ?_ | refine WpM.region_end ?_ | refine WpM.ret ?_ | refine WpM.skip ?_ | refine WpM.exit ?_); try simp only [thenM, inBlockM, if_true, if_false, reduceIte, Nat.reduceEqDiff, List.size_toArray, List.length_cons, List.length_nil, Nat.reduceAdd, Nat.zero_add, List.range, List.range.loop]) | (refine WpM.op_k rfl (by rfl) ?_; intro zu zR; obtain ⟨dd, zh⟩ := zR; subst zh; (try simp only [at_at']); intro zK zhK; go_simp; (try (unfold stored; go_simp)); refine zhK _ _ ⟨?_, ?_⟩; (focus (refine m_idle ?_; simp [go_sem, Instr.field, asAgg]; done)); clear zhK zK; try walk_nrm) | fail)
  refine WpM.cond (t := false) (by simp [Act.eval]) ?_
  simp only [if_false, Bool.false_eq_true]
  repeat (first | ((first | refine WpM.seq ?_ | refine WpM.block ?_ | refine WpM.region ?_ | refine WpM.region_end ?_ | refine WpM.ret ?_ | refine WpM.skip ?_ | refine WpM.exit ?_); try simp only [thenM, inBlockM, if_true, if_false, reduceIte, Nat.reduceEqDiff, List.size_toArray, List.length_cons, List.length_nil, Nat.reduceAdd, Nat.zero_add, List.range, List.range.loop]) | (refine WpM.op_k rfl (by rfl) ?_; intro zu zR; obtain ⟨dd, zh⟩ := zR; subst zh; (try simp only [at_at']); intro zK zhK; go_simp; (try (unfold stored; go_simp)); refine zhK _ _ ⟨?_, ?_⟩; (focus (refine m_idle ?_; simp [go_sem, Instr.field, asAgg]; done)); clear zhK zK; try walk_nrm) | fail)
  refine WpM.callL (vs := #[.slice (some ⟨b0, 0, none⟩) xs0.length xs0.length, .int .i64 1]) fns_ok_allLoops no_early ⟨_, Try.func12, by rfl⟩ (by kernel_rfl) rfl rfl (by rfl) rfl Try.func27 (by rfl) (by rfl) (by simp [Act.eval]) (fun vv uu => vv = .int .i64 (1 + xs0.length) ∧ Turned u7 uu (rowL (.slice (some ⟨b0, 0, none⟩) xs0.length xs0.length))) (fun τ δ => Calls.mono (markI_new _ xs0 (1) b0 _ (show OwnI _ _ _ _ from Hb0.own hn0) hn0 (by omega) (by omega)) fun e w' ⟨he, _, ht⟩ => ⟨_, he, fun d => ⟨rfl, ⟨ht.os, rfl, ht.output, ht.size, ht.block⟩⟩⟩) ?_; rintro _ u8 ⟨rfl, ht⟩; (try walk_nrm); try simp only [at_at']
  have hge : ∀ k ∈ rowL (.slice (some ⟨b0, 0, none⟩) xs0.length xs0.length), k = b0 := fun k hk => by simpa [rowL_some] using hk
  clear Hb0
  have z8 : u7.heap.size ≤ u8.heap.size := ht.size
  replace R0 := R0.turned ht (by omega) (fun k hk => by have := hge k hk; omega)
  replace O0 := O0.turn ht (fun k hv hk => by have := hge k hk; have := ol0 k hv; omega)
  replace O1 := O1.turn ht (fun k hv hk => by have := hge k hk; have := og1 k hv; omega)
  replace Bt := Bt.trans (ht.below (by omega) (fun k hk => by have := hge k hk; omega))
  clear ht hge
  obtain ⟨kk, hkk⟩ : ∃ kk : Int, kk = 1 + xs0.length := ⟨_, rfl⟩
  rw [← hkk]
  have hk0 : ¬ kk < 0 := by omega
  clear hkk
  repeat (first | ((first | refine WpM.seq ?_ | refine WpM.block ?_ | refine WpM.region ?_ | refine WpM.region_end ?_ | refine WpM.ret ?_ | refine WpM.skip ?_ | refine WpM.exit ?_); try simp only [thenM, inBlockM, if_true, if_false, reduceIte, Nat.reduceEqDiff, List.size_toArray, List.length_cons, List.length_nil, Nat.reduceAdd, Nat.zero_add, List.range, List.range.loop]) | (refine WpM.op_k rfl (by rfl) ?_; intro zu zR; obtain ⟨dd, zh⟩ := zR; subst zh; (try simp only [at_at']); intro zK zhK; go_simp; (try (unfold stored; go_simp)); refine zhK _ _ ⟨?_, ?_⟩; (focus (refine m_idle ?_; simp [go_sem, Instr.field, asAgg]; done)); clear zhK zK; try walk_nrm) | fail)
  try rw [decide_eq_false hk0]
  repeat (first | ((first | refine WpM.seq ?_ | refine WpM.block ?_ | refine WpM.region ?_ | refine WpM.region_end ?_ | refine WpM.ret ?_ | refine WpM.skip ?_ | refine WpM.exit ?_); try simp only [thenM, inBlockM, if_true, if_false, reduceIte, Nat.reduceEqDiff, List.size_toArray, List.length_cons, List.length_nil, Nat.reduceAdd, Nat.zero_add, List.range, List.range.loop]) | (refine WpM.op_k rfl (by rfl) ?_; intro zu zR; obtain ⟨dd, zh⟩ := zR; subst zh; (try simp only [at_at']); intro zK zhK; go_simp; (try (unfold stored; go_simp)); refine zhK _ _ ⟨?_, ?_⟩; (focus (refine m_idle ?_; simp [go_sem, Instr.field, asAgg]; done)); clear zhK zK; try walk_nrm) | fail)
  refine WpM.callL (vs := #[v1, v0]) fns_ok_allLoops no_early ⟨_, Try.func12, by rfl⟩ (by kernel_rfl) rfl rfl (by rfl) rfl Try.func37 (by rfl) (by rfl) (by simp [Act.eval]) (fun vv uu => vv = .bool true ∧ Below u8.heap.size u8 uu) (fun τ δ => Calls.mono (eqSk_any _ _ L1 L0 _ _ _ (O1.heap rfl) (O0.heap rfl) (hL1.trans hL0.symm) (by rw [← listL_len, hL1]; omega) (rowsLe hL1 hz1)) fun e w' ⟨he, hb⟩ => ⟨_, he, fun d => ⟨rfl, ⟨hb.os, rfl, hb.output, hb.size, hb.block⟩⟩⟩) ?_; rintro _ u9 ⟨rfl, hb⟩; (try walk_nrm); try simp only [at_at']
  have z9 : u8.heap.size ≤ u9.heap.size := hb.size
  replace R0 := R0.below hb (by omega)
  replace O0 := O0.below hb (Nat.le_refl _)
  replace O1 := O1.below hb (Nat.le_refl _)
  replace Bt := Bt.trans (hb.mono (by omega))
  clear hb
  repeat (first | ((first | refine WpM.seq ?_ | refine WpM.block ?_ | refine WpM.region ?_ | refine WpM.region_end ?_ | refine WpM.ret ?_ | refine WpM.skip ?_ | refine WpM.exit ?_); try simp only [thenM, inBlockM, if_true, if_false, reduceIte, Nat.reduceEqDiff, List.size_toArray, List.length_cons, List.length_nil, Nat.reduceAdd, Nat.zero_add, List.range, List.range.loop]) | (refine WpM.op_k rfl (by rfl) ?_; intro zu zR; obtain ⟨dd, zh⟩ := zR; subst zh; (try simp only [at_at']); intro zK zhK; go_simp; (try (unfold stored; go_simp)); refine zhK _ _ ⟨?_, ?_⟩; (focus (refine m_idle ?_; simp [go_sem, Instr.field, asAgg]; done)); clear zhK zK; try walk_nrm) | fail)
  (refine WpM.op_k rfl (by rfl) ?_; intro zu zR; obtain ⟨dd, zh⟩ := zR; subst zh; (try simp only [at_at']); intro zK zhK; go_simp; (try (unfold stored; go_simp)); refine zhK _ _ ⟨?_, ?_⟩; (focus (exact m_idle (by generalize (jumpsB xs0) = bb; cases bb <;> (simp [go_sem]; first | rfl | simp [binOp, go_sem] | simp [binOp])); done)); clear zhK zK; try walk_nrm)
  repeat (first | ((first | refine WpM.seq ?_ | refine WpM.block ?_ | refine WpM.region ?_ | refine WpM.region_end ?_ | refine WpM.ret ?_ | refine WpM.skip ?_ | refine WpM.exit ?_); try simp only [thenM, inBlockM, if_true, if_false, reduceIte, Nat.reduceEqDiff, List.size_toArray, List.length_cons, List.length_nil, Nat.reduceAdd, Nat.zero_add, List.range, List.range.loop]) | (refine WpM.op_k rfl (by rfl) ?_; intro zu zR; obtain ⟨dd, zh⟩ := zR; subst zh; (try simp only [at_at']); intro zK zhK; go_simp; (try (unfold stored; go_simp)); refine zhK _ _ ⟨?_, ?_⟩; (focus (refine m_idle ?_; simp [go_sem, Instr.field, asAgg]; done)); clear zhK zK; try walk_nrm) | fail)
  refine WpM.cond (t := false) (by simp [Act.eval]) ?_
  simp only [if_false, Bool.false_eq_true]
  repeat (first | ((first | refine WpM.seq ?_ | refine WpM.block ?_ | refine WpM.region ?_ | refine WpM.region_end ?_ | refine WpM.ret ?_ | refine WpM.skip ?_ | refine WpM.exit ?_); try simp only [thenM, inBlockM, if_true, if_false, reduceIte, Nat.reduceEqDiff, List.size_toArray, List.length_cons, List.length_nil, Nat.reduceAdd, Nat.zero_add, List.range, List.range.loop]) | (refine WpM.op_k rfl (by rfl) ?_; intro zu zR; obtain ⟨dd, zh⟩ := zR; subst zh; (try simp only [at_at']); intro zK zhK; go_simp; (try (unfold stored; go_simp)); refine zhK _ _ ⟨?_, ?_⟩; (focus (refine m_idle ?_; simp [go_sem, Instr.field, asAgg]; done)); clear zhK zK; try walk_nrm) | fail)
  refine WpM.callL (vs := #[v1, .int .i64 1]) fns_ok_allLoops no_early ⟨_, Try.func12, by rfl⟩ (by kernel_rfl) rfl rfl (by rfl) rfl Try.func38 (by rfl) (by rfl) (by simp [Act.eval]) (fun vv uu => vv = .int .i64 (kK 1 L1) ∧ Sk uu u3.heap.size v1 (mkK 1 L1) ∧ Turned u9 uu (skL v1 L1)) (fun τ δ => Calls.mono (markSk_any _ L1 1 _ _ (O1.heap rfl) (by rw [← listL_len, hL1]; exact hz0) (rowsLe3 hL1 hz1) (by omega) (by omega)) fun e w' ⟨he, hm, ht⟩ => ⟨_, he, fun d => ⟨rfl, hm.heap rfl, ⟨ht.os, rfl, ht.output, ht.size, ht.block⟩⟩⟩) ?_; rintro _ u10 ⟨rfl, M1, ht⟩; (try walk_nrm); try simp only [at_at']
  have hge := fun k hk => og1 k hk
  clear O1
  have z10 : u9.heap.size ≤ u10.heap.size := ht.size
  replace R0 := R0.turned ht (by omega) (fun k hk => by have := hge k hk; omega)
  replace O0 := O0.turn ht (fun k hv hk => by have := hge k hk; have := ol0 k hv; omega)
  replace Bt := Bt.trans (ht.below (by omega) (fun k hk => by have := hge k hk; omega))
  clear ht hge
  have hkk1 := kK_le 1 L1 (rowsLe3 hL1 hz1)
  repeat (first | ((first | refine WpM.seq ?_ | refine WpM.block ?_ | refine WpM.region ?_ | refine WpM.region_end ?_ | refine WpM.ret ?_ | refine WpM.skip ?_ | refine WpM.exit ?_); try simp only [thenM, inBlockM, if_true, if_false, reduceIte, Nat.reduceEqDiff, List.size_toArray, List.length_cons, List.length_nil, Nat.reduceAdd, Nat.zero_add, List.range, List.range.loop]) | (refine WpM.op_k rfl (by rfl) ?_; intro zu zR; obtain ⟨dd, zh⟩ := zR; subst zh; (try simp only [at_at']); intro zK zhK; go_simp; (try (unfold stored; go_simp)); refine zhK _ _ ⟨?_, ?_⟩; (focus (refine m_idle ?_; simp [go_sem, Instr.field, asAgg]; done)); clear zhK zK; try walk_nrm) | fail)
  refine WpM.callL (vs := #[v1, .int .i64 1]) fns_ok_allLoops no_early ⟨_, Try.func12, by rfl⟩ (by kernel_rfl) rfl rfl (by rfl) rfl Try.func39 (by rfl) (by rfl) (by simp [Act.eval]) (fun vv uu => vv = .int .i64 (kK 1 L1) ∧ RW u10 uu) (fun τ δ => Calls.mono (heldSk_any _ L1 1 _ _ (M1.heap rfl) (by rw [← listL_len, hL1]; exact hz0) (rowsLe3 hL1 hz1) (by omega) (by omega)) fun e w' ⟨he, hw⟩ => ⟨_, he, fun d => ⟨rfl, d, by rw [← hw]; rfl⟩⟩) ?_; rintro _ _ ⟨rfl, dh, rfl⟩; (try walk_nrm); try simp only [at_at']
  try simp only [at_at']
  obtain ⟨mm, hmm⟩ : ∃ mm : Int, mm = kK 1 L1 := ⟨_, rfl⟩
  rw [← hmm]
  have hm1 : ¬ mm < 0 := by omega
  have HMM := Lib.hid hmm
  clear hmm
  repeat (first | ((first | refine WpM.seq ?_ | refine WpM.block ?_ | refine WpM.region ?_ | refine WpM.region_end ?_ | refine WpM.ret ?_ | refine WpM.skip ?_ | refine WpM.exit ?_); try simp only [thenM, inBlockM, if_true, if_false, reduceIte, Nat.reduceEqDiff, List.size_toArray, List.length_cons, List.length_nil, Nat.reduceAdd, Nat.zero_add, List.range, List.range.loop]) | (refine WpM.op_k rfl (by rfl) ?_; intro zu zR; obtain ⟨dd, zh⟩ := zR; subst zh; (try simp only [at_at']); intro zK zhK; go_simp; (try (unfold stored; go_simp)); refine zhK _ _ ⟨?_, ?_⟩; (focus (refine m_idle ?_; simp [go_sem, Instr.field, asAgg]; done)); clear zhK zK; try walk_nrm) | fail)
  refine WpM.cond (t := false) (by simp [Act.eval, hm1]) ?_
  simp only [if_false, Bool.false_eq_true]
  repeat (first | ((first | refine WpM.seq ?_ | refine WpM.block ?_ | refine WpM.region ?_ | refine WpM.region_end ?_ | refine WpM.ret ?_ | refine WpM.skip ?_ | refine WpM.exit ?_); try simp only [thenM, inBlockM, if_true, if_false, reduceIte, Nat.reduceEqDiff, List.size_toArray, List.length_cons, List.length_nil, Nat.reduceAdd, Nat.zero_add, List.range, List.range.loop]) | (refine WpM.op_k rfl (by rfl) ?_; intro zu zR; obtain ⟨dd, zh⟩ := zR; subst zh; (try simp only [at_at']); intro zK zhK; go_simp; (try (unfold stored; go_simp)); refine zhK _ _ ⟨?_, ?_⟩; (focus (refine m_idle ?_; simp [go_sem, Instr.field, asAgg]; done)); clear zhK zK; try walk_nrm) | fail)
  refine WpM.cond (t := false) (by simp [Act.eval]) ?_
  simp only [if_false, Bool.false_eq_true]
  repeat (first | ((first | refine WpM.seq ?_ | refine WpM.block ?_ | refine WpM.region ?_ | refine WpM.region_end ?_ | refine WpM.ret ?_ | refine WpM.skip ?_ | refine WpM.exit ?_); try simp only [thenM, inBlockM, if_true, if_false, reduceIte, Nat.reduceEqDiff, List.size_toArray, List.length_cons, List.length_nil, Nat.reduceAdd, Nat.zero_add, List.range, List.range.loop]) | (refine WpM.op_k rfl (by rfl) ?_; intro zu zR; obtain ⟨dd, zh⟩ := zR; subst zh; (try simp only [at_at']); intro zK zhK; go_simp; (try (unfold stored; go_simp)); refine zhK _ _ ⟨?_, ?_⟩; (focus (refine m_idle ?_; simp [go_sem, Instr.field, asAgg]; done)); clear zhK zK; try walk_nrm) | fail)
  refine WpM.callM rfl (by rfl) rfl Try.func14 (by rfl) (by rfl) (by simp [Act.eval]) (toIntS_m Z0 d0 xs0 w0.heap.size _ ⟨R0.1, R0.2⟩ Bt.size hn0) ?_
  rintro x u11 ⟨e0, rfl, e0g, He0, hb0⟩
  have hb : Below u10.heap.size u10 u11 := ⟨hb0.os, hb0.tape, hb0.output, hb0.size, hb0.block⟩
  clear hb0
  try walk_nrm
  have z11 : u10.heap.size ≤ u11.heap.size := hb.size
  replace R0 := R0.below hb (by omega)
  replace O0 := O0.below hb (Nat.le_refl _)
  replace M1 := M1.below hb (Nat.le_refl _)
  replace Bt := Bt.trans (hb.mono (by omega))
  clear hb
  have e0l := He0.lt
  repeat (first | ((first | refine WpM.seq ?_ | refine WpM.block ?_ | refine WpM.region ?_ | refine WpM.region_end ?_ | refine WpM.ret ?_ | refine WpM.skip ?_ | refine WpM.exit ?_); try simp only [thenM, inBlockM, if_true, if_false, reduceIte, Nat.reduceEqDiff, List.size_toArray, List.length_cons, List.length_nil, Nat.reduceAdd, Nat.zero_add, List.range, List.range.loop]) | (refine WpM.op_k rfl (by rfl) ?_; intro zu zR; obtain ⟨dd, zh⟩ := zR; subst zh; (try simp only [at_at']); intro zK zhK; go_simp; (try (unfold stored; go_simp)); refine zhK _ _ ⟨?_, ?_⟩; (focus (refine m_idle ?_; simp [go_sem, Instr.field, asAgg]; done)); clear zhK zK; try walk_nrm) | fail)
  refine WpM.callM rfl (by rfl) rfl Try.func36 (by rfl) (by rfl) (by simp [Act.eval]) (implLoops_m _ _ xs0 u11.heap.size _ ⟨(He0.rd (c := xs0.length) He0.lt (Nat.le_refl _)).1, (He0.rd (c := xs0.length) He0.lt (Nat.le_refl _)).2⟩ (Nat.le_refl _) hn0) ?_
  rintro x u12 ⟨v2, L2, rfl, hL2, O2', hb0⟩
  have hb : Below u11.heap.size u11 u12 := ⟨hb0.os, hb0.tape, hb0.output, hb0.size, hb0.block⟩
  have O2 : Sk u12 u11.heap.size v2 L2 := O2'
  rw [← HZS.out] at hL2
  clear hb0 O2'
  try walk_nrm
  have og2 := fun k h => (O2.lt k h).1
  have ol2 := fun k h => (O2.lt k h).2
  have z12 : u11.heap.size ≤ u12.heap.size := hb.size
  replace R0 := R0.below hb (by omega)
  replace O0 := O0.below hb (Nat.le_refl _)
  replace M1 := M1.below hb (Nat.le_refl _)
  replace He0 := He0.below hb (by omega)
  replace Bt := Bt.trans (hb.mono (by omega))
  clear hb
  repeat (first | ((first | refine WpM.seq ?_ | refine WpM.block ?_ | refine WpM.region ?_ | refine WpM.region_end ?_ | refine WpM.ret ?_ | refine WpM.skip ?_ | refine WpM.exit ?_); try simp only [thenM, inBlockM, if_true, if_false, reduceIte, Nat.reduceEqDiff, List.size_toArray, List.length_cons, List.length_nil, Nat.reduceAdd, Nat.zero_add, List.range, List.range.loop]) | (refine WpM.op_k rfl (by rfl) ?_; intro zu zR; obtain ⟨dd, zh⟩ := zR; subst zh; (try simp only [at_at']); intro zK zhK; go_simp; (try (unfold stored; go_simp)); refine zhK _ _ ⟨?_, ?_⟩; (focus (refine m_idle ?_; simp [go_sem, Instr.field, asAgg]; done)); clear zhK zK; try walk_nrm) | fail)
  refine WpM.callL (vs := #[v2, v0]) fns_ok_allLoops no_early ⟨_, Try.func12, by rfl⟩ (by kernel_rfl) rfl rfl (by rfl) rfl Try.func37 (by rfl) (by rfl) (by simp [Act.eval]) (fun vv uu => vv = .bool true ∧ Below u12.heap.size u12 uu) (fun τ δ => Calls.mono (eqSk_any _ _ L2 L0 _ _ _ (O2.heap rfl) (O0.heap rfl) (hL2.trans hL0.symm) (by rw [← listL_len, hL2]; omega) (rowsLe hL2 hz1)) fun e w' ⟨he, hb⟩ => ⟨_, he, fun d => ⟨rfl, ⟨hb.os, rfl, hb.output, hb.size, hb.block⟩⟩⟩) ?_; rintro _ u13 ⟨rfl, hb⟩; (try walk_nrm); try simp only [at_at']
  have z13 : u12.heap.size ≤ u13.heap.size := hb.size
  replace R0 := R0.below hb (by omega)
  replace O0 := O0.below hb (Nat.le_refl _)
  replace M1 := M1.below hb (Nat.le_refl _)
  replace He0 := He0.below hb (by omega)
  replace O2 := O2.below hb (Nat.le_refl _)
  replace Bt := Bt.trans (hb.mono (by omega))
  clear hb
  repeat (first | ((first | refine WpM.seq ?_ | refine WpM.block ?_ | refine WpM.region ?_ | refine WpM.region_end ?_ | refine WpM.ret ?_ | refine WpM.skip ?_ | refine WpM.exit ?_); try simp only [thenM, inBlockM, if_true, if_false, reduceIte, Nat.reduceEqDiff, List.size_toArray, List.length_cons, List.length_nil, Nat.reduceAdd, Nat.zero_add, List.range, List.range.loop]) | (refine WpM.op_k rfl (by rfl) ?_; intro zu zR; obtain ⟨dd, zh⟩ := zR; subst zh; (try simp only [at_at']); intro zK zhK; go_simp; (try (unfold stored; go_simp)); refine zhK _ _ ⟨?_, ?_⟩; (focus (refine m_idle ?_; simp [go_sem, Instr.field, asAgg]; done)); clear zhK zK; try walk_nrm) | fail)
  (refine WpM.op_k rfl (by rfl) ?_; intro zu zR; obtain ⟨dd, zh⟩ := zR; subst zh; (try simp only [at_at']); intro zK zhK; go_simp; (try (unfold stored; go_simp)); refine zhK _ _ ⟨?_, ?_⟩; (focus (exact m_idle (by generalize (jumpsB xs0) = bb; cases bb <;> (simp [go_sem]; first | rfl | simp [binOp, go_sem] | simp [binOp])); done)); clear zhK zK; try walk_nrm)
  repeat (first | ((first | refine WpM.seq ?_ | refine WpM.block ?_ | refine WpM.region ?_ | refine WpM.region_end ?_ | refine WpM.ret ?_ | refine WpM.skip ?_ | refine WpM.exit ?_); try simp only [thenM, inBlockM, if_true, if_false, reduceIte, Nat.reduceEqDiff, List.size_toArray, List.length_cons, List.length_nil, Nat.reduceAdd, Nat.zero_add, List.range, List.range.loop]) | (refine WpM.op_k rfl (by rfl) ?_; intro zu zR; obtain ⟨dd, zh⟩ := zR; subst zh; (try simp only [at_at']); intro zK zhK; go_simp; (try (unfold stored; go_simp)); refine zhK _ _ ⟨?_, ?_⟩; (focus (refine m_idle ?_; simp [go_sem, Instr.field, asAgg]; done)); clear zhK zK; try walk_nrm) | fail)
  refine WpM.cond (t := false) (by simp [Act.eval]) ?_
  simp only [if_false, Bool.false_eq_true]
  repeat (first | ((first | refine WpM.seq ?_ | refine WpM.block ?_ | refine WpM.region ?_ | refine WpM.region_end ?_ | refine WpM.ret ?_ | refine WpM.skip ?_ | refine WpM.exit ?_); try simp only [thenM, inBlockM, if_true, if_false, reduceIte, Nat.reduceEqDiff, List.size_toArray, List.length_cons, List.length_nil, Nat.reduceAdd, Nat.zero_add, List.range, List.range.loop]) | (refine WpM.op_k rfl (by rfl) ?_; intro zu zR; obtain ⟨dd, zh⟩ := zR; subst zh; (try simp only [at_at']); intro zK zhK; go_simp; (try (unfold stored; go_simp)); refine zhK _ _ ⟨?_, ?_⟩; (focus (refine m_idle ?_; simp [go_sem, Instr.field, asAgg]; done)); clear zhK zK; try walk_nrm) | fail)
  refine WpM.callL (vs := #[v1, .int .i64 1]) fns_ok_allLoops no_early ⟨_, Try.func12, by rfl⟩ (by kernel_rfl) rfl rfl (by rfl) rfl Try.func39 (by rfl) (by rfl) (by simp [Act.eval]) (fun vv uu => vv = .int .i64 (kK 1 L1) ∧ RW u13 uu) (fun τ δ => Calls.mono (heldSk_any _ L1 1 _ _ (M1.heap rfl) (by rw [← listL_len, hL1]; exact hz0) (rowsLe3 hL1 hz1) (by omega) (by omega)) fun e w' ⟨he, hw⟩ => ⟨_, he, fun d => ⟨rfl, d, by rw [← hw]; rfl⟩⟩) ?_; rintro _ _ ⟨rfl, dh, rfl⟩; (try walk_nrm); try simp only [at_at']
  try simp only [at_at']
  rw [← HMM.out]
  repeat (first | ((first | refine WpM.seq ?_ | refine WpM.block ?_ | refine WpM.region ?_ | refine WpM.region_end ?_ | refine WpM.ret ?_ | refine WpM.skip ?_ | refine WpM.exit ?_); try simp only [thenM, inBlockM, if_true, if_false, reduceIte, Nat.reduceEqDiff, List.size_toArray, List.length_cons, List.length_nil, Nat.reduceAdd, Nat.zero_add, List.range, List.range.loop]) | (refine WpM.op_k rfl (by rfl) ?_; intro zu zR; obtain ⟨dd, zh⟩ := zR; subst zh; (try simp only [at_at']); intro zK zhK; go_simp; (try (unfold stored; go_simp)); refine zhK _ _ ⟨?_, ?_⟩; (focus (refine m_idle ?_; simp [go_sem, Instr.field, asAgg]; done)); clear zhK zK; try walk_nrm) | fail)
  refine WpM.cond (t := false) (by simp [Act.eval, hm1]) ?_
  simp only [if_false, Bool.false_eq_true]
  repeat (first | ((first | refine WpM.seq ?_ | refine WpM.block ?_ | refine WpM.region ?_ | refine WpM.region_end ?_ | refine WpM.ret ?_ | refine WpM.skip ?_ | refine WpM.exit ?_); try simp only [thenM, inBlockM, if_true, if_false, reduceIte, Nat.reduceEqDiff, List.size_toArray, List.length_cons, List.length_nil, Nat.reduceAdd, Nat.zero_add, List.range, List.range.loop]) | (refine WpM.op_k rfl (by rfl) ?_; intro zu zR; obtain ⟨dd, zh⟩ := zR; subst zh; (try simp only [at_at']); intro zK zhK; go_simp; (try (unfold stored; go_simp)); refine zhK _ _ ⟨?_, ?_⟩; (focus (refine m_idle ?_; simp [go_sem, Instr.field, asAgg]; done)); clear zhK zK; try walk_nrm) | fail)
  refine WpM.cond (t := false) (by simp [Act.eval]) ?_
  simp only [if_false, Bool.false_eq_true]
  repeat (first | ((first | refine WpM.seq ?_ | refine WpM.block ?_ | refine WpM.region ?_ | refine WpM.region_end ?_ | refine WpM.ret ?_ | refine WpM.skip ?_ | refine WpM.exit ?_); try simp only [thenM, inBlockM, if_true, if_false, reduceIte, Nat.reduceEqDiff, List.size_toArray, List.length_cons, List.length_nil, Nat.reduceAdd, Nat.zero_add, List.range, List.range.loop]) | (refine WpM.op_k rfl (by rfl) ?_; intro zu zR; obtain ⟨dd, zh⟩ := zR; subst zh; (try simp only [at_at']); intro zK zhK; go_simp; (try (unfold stored; go_simp)); refine zhK _ _ ⟨?_, ?_⟩; (focus (refine m_idle ?_; simp [go_sem, Instr.field, asAgg]; done)); clear zhK zK; try walk_nrm) | fail)
  exact ⟨trivial, trivial, trivial, _, resultsC_tmp (by rfl) _, fun d => ⟨rfl, below_at (below_at Bt _) d⟩⟩
end Go.Proofs.Ytiacfaeanlkalaa
