/- The steps with an end: the model alone. -/
import Derived.Test.YtfgjgpjdfjlglaaBaV
set_option linter.unusedSimpArgs false
namespace Go.Proofs.Ytfgjgpjdfjlglaa
open Go.Conc Go.RowKit

/-- the end of the ball from a step, as a text -/
noncomputable def endT (xs : List Int) (s : Int) : ByteArray := ⟨endS (courseB xs s).1 (courseB xs s).2⟩
/-- the steps, of the first k, with an end -/
noncomputable def selE (xs : List Int) (E : ByteArray) : Nat → List Int
  | 0 => []
  | k + 1 => if endT xs (k : Int) = E then selE xs E k ++ [(k : Int)] else selE xs E k
theorem selE_length (xs : List Int) (E : ByteArray) : ∀ k, (selE xs E k).length ≤ k
  | 0 => by simp [selE]
  | k + 1 => by
    have := selE_length xs E k
    unfold selE
    split
    · simp; omega
    · omega
theorem selE_yes {xs : List Int} {E : ByteArray} {k : Nat} (h : endT xs (k : Int) = E) : selE xs E (k + 1) = selE xs E k ++ [(k : Int)] := by
  rw [selE, if_pos h]
theorem selE_no {xs : List Int} {E : ByteArray} {k : Nat} (h : ¬ endT xs (k : Int) = E) : selE xs E (k + 1) = selE xs E k := by
  rw [selE, if_neg h]
theorem ball_step {xs : List Int} (h : jumpsB xs = true) {k : Nat} (hk : k < xs.length) : ballB xs (k : Int) = true := by
  unfold ballB
  rw [h, inB_yes (by omega) (by omega)]; rfl

set_option maxHeartbeats 1000000 in
theorem baSteps_any (A : Option Addr) (c : Nat) (xs : List Int) (E : ByteArray) (B : Nat) (w : World) (hr : Rd w B A c xs) (hB : B ≤ w.heap.size) (hJ : jumpsB xs = true) :
    Calls Try.prog 56 #[.slice A xs.length c, .string E] w fun e w' => ∃ v, e = .returned v ∧ OwnI w' w.heap.size v (selE xs E xs.length) ∧ Below w.heap.size w w' := by
  have hl := jumpsB_le hJ
  have H := Lib.hid hJ
  clear hJ
  go_enter Try.func56, Try.ntmps56
  go_wp2_with fail
  go_loopw [5, 9] (fun v i wr => ∃ k : Nat, k ≤ xs.length ∧ i = .int .i64 (k : Int) ∧ OwnI wr w.heap.size v (selE xs E k) ∧ Below w.heap.size w wr) (fun _ i _ => xs.length - (intOf i).toNat)
  case atStart => exact ⟨0, Nat.zero_le _, rfl, OwnI.nil _ _, Below.refl _ _⟩
  case round =>
    obtain ⟨k, hk, rfl, hown, hbw⟩ := hrel
    have hz : w.heap.size ≤ wr.heap.size := hbw.size
    by_cases hlt : k < xs.length
    · have HC : Hid (Calls Try.prog 44 #[.slice A xs.length c, .int .i64 (k : Int)] wr fun e w' => e = .returned (.string (endT xs (k : Int))) ∧ Below wr.heap.size wr w') := Lib.hid (baEnd_any A c xs (k : Int) B wr (hr.below hbw hB) (Nat.le_trans hB hz) (ball_step H.out hlt))
      have hkl := selE_length xs E k
      have HEQ := Lib.hid (text_beq (endT xs (k : Int)) E)
      by_cases hp : endT xs (k : Int) = E
      · have HT := Lib.hid (selE_yes hp)
        have HB := Lib.hid hbw
        have hq := HEQ.out
        rw [decide_eq_true hp] at hq
        generalize hL : selE xs E k = zs at *
        have HL := Lib.hid hL
        clear hL hbw hp
        generalize endT xs (k : Int) = T at *
        go_wp2_with fail
        refine HC.out.mono ?_
        rintro e w1 ⟨rfl, hb1⟩
        have hown1' := hown.below hb1 (Nat.le_refl _)
        have hz1 : w.heap.size ≤ w1.heap.size := Nat.le_trans hz hb1.size
        have HB1 := Lib.hid (HB.out.trans (hb1.mono hz))
        clear hown hb1
        go_wp2_with (at_builtin; refine wpList_pushI _ rfl _ _ rfl w.heap.size _ zs rfl (hown1'.alloc _) w1.heap.size (k : Int) rfl (by simp) (by omega) (by simp; omega) ?_; intro A1 c1 w3 hown1 hg1)
        go_roundw
        case rel => exact ⟨k + 1, by omega, by go_num, by rw [HT.out]; exact hown1, (HB1.out.alloc (by omega) _).trans hg1⟩
        case measure => simp [intOf]; omega
      · have HT := Lib.hid (selE_no hp)
        have hq := HEQ.out
        rw [decide_eq_false hp] at hq
        clear hp
        generalize endT xs (k : Int) = T at *
        go_wp2_with fail
        refine HC.out.mono ?_
        rintro e w1 ⟨rfl, hb1⟩
        have hown1 := hown.below hb1 (Nat.le_refl _)
        have hB1 := hbw.trans (hb1.mono hz)
        go_wp2_with fail
        go_roundw
        case rel => exact ⟨k + 1, by omega, by go_num, by rw [HT.out]; exact hown1, hB1⟩
        case measure => simp [intOf]; omega
    · obtain rfl : k = xs.length := by omega
      go_wp2_with fail
      go_ret
      exact ⟨_, rfl, hown, hbw⟩

theorem results_tmp4 {fn : Func} {t u v x : Tmp} (h : fn.results = #[.tmp t, .tmp u, .tmp v, .tmp x]) (tmps : Array Value) (P : Program) (w : World) :
    (results fn tmps).run P w = .ok (.tuple #[tmps.getD t undef, tmps.getD u undef, tmps.getD v undef, tmps.getD x undef]) w := by
  simp [results, h]
/-- how many steps have an end -/
noncomputable def cntE (xs : List Int) (E : ByteArray) : Int := if jumpsB xs then ((selE xs E xs.length).length : Int) else 0

set_option maxHeartbeats 1000000 in
theorem specCount_any (A : Option Addr) (c : Nat) (xs : List Int) (B : Nat) (w : World) (hr : Rd w B A c xs) (hB : B ≤ w.heap.size) (hn : xs.length ≤ 1048576) :
    Calls Try.prog 32 #[.slice A xs.length c] w fun e w' => e = .returned (.tuple #[.int .i64 (cntE xs ⟨#[97]⟩), .int .i64 (cntE xs ⟨#[98]⟩), .int .i64 (cntE xs ⟨#[108]⟩), .bool (jumpsB xs)]) ∧ Below w.heap.size w w' := by
  cases hJ : jumpsB xs
  · have HT := Lib.hid (fun E => show cntE xs E = 0 by simp [cntE, hJ])
    have H := Lib.hid hJ
    clear hJ
    go_enter Try.func32, Try.ntmps32
    go_wp2_with fail
    refine (baGood_any A c xs B w hr hn).mono ?_
    rintro e w' ⟨rfl, rfl⟩
    rw [H.out]
    go_wp2_with fail
    (try simp only [Exit.inBlock, Exit.then]); refine bodyPost_ret (results_tmp4 rfl _ _ _) rfl ?_
    exact ⟨by rw [HT.out, HT.out, HT.out]; rfl, Below.refl _ _⟩
  · have HT := Lib.hid (fun E => show cntE xs E = ((selE xs E xs.length).length : Int) by simp [cntE, hJ])
    have HC := Lib.hid (fun E u (h : Below w.heap.size w u) => baSteps_any A c xs E B u (hr.below h hB) (Nat.le_trans hB h.size) hJ)
    have H := Lib.hid hJ
    clear hJ
    go_enter Try.func32, Try.ntmps32
    go_wp2_with fail
    refine (baGood_any A c xs B w hr hn).mono ?_
    rintro e w' ⟨rfl, rfl⟩
    rw [H.out]
    go_wp2_with fail
    refine (HC.out _ w (Below.refl _ _)).mono ?_
    rintro e w1 ⟨v1, rfl, o1, hb1⟩
    obtain ⟨A1, c1, rfl, r1⟩ := o1.form
    have l1 := r1.1
    go_wp2_with fail
    refine (HC.out _ w1 hb1).mono ?_
    rintro e w2 ⟨v2, rfl, o2, hb2⟩
    obtain ⟨A2, c2, rfl, r2⟩ := o2.form
    have hb02 := hb1.trans (hb2.mono hb1.size)
    go_wp2_with fail
    refine (HC.out _ w2 hb02).mono ?_
    rintro e w3 ⟨v3, rfl, o3, hb3⟩
    obtain ⟨A3, c3, rfl, r3⟩ := o3.form
    have hb03 := hb02.trans (hb3.mono hb02.size)
    go_wp2_with fail
    (try simp only [Exit.inBlock, Exit.then]); refine bodyPost_ret (results_tmp4 rfl _ _ _) rfl ?_
    exact ⟨by rw [HT.out, HT.out, HT.out]; rfl, hb03⟩

/-- a text that names an end -/
def isE (E : ByteArray) : Bool := E = ⟨#[97]⟩ ∨ E = ⟨#[98]⟩ ∨ E = ⟨#[108]⟩
noncomputable def sbR (xs : List Int) (E : ByteArray) : List Int := if jumpsB xs && isE E then selE xs E xs.length else []
theorem sbR_length {xs : List Int} (h : xs.length ≤ 1048576) (E : ByteArray) : (sbR xs E).length ≤ 1048576 := by
  have := selE_length xs E xs.length
  unfold sbR
  split
  · omega
  · simp

set_option maxHeartbeats 1000000 in
theorem specSteps_any (A : Option Addr) (c : Nat) (xs : List Int) (E : ByteArray) (B : Nat) (w : World) (hr : Rd w B A c xs) (hB : B ≤ w.heap.size) (hn : xs.length ≤ 1048576) :
    Calls Try.prog 34 #[.slice A xs.length c, .string E] w (Lists w (sbR xs E) (jumpsB xs && isE E)) := by
  cases hJ : jumpsB xs
  · have HT := Lib.hid (show sbR xs E = [] by simp [sbR, hJ])
    have H := Lib.hid hJ
    clear hJ
    go_enter Try.func34, Try.ntmps34
    go_wp2_with fail
    refine (baGood_any A c xs B w hr hn).mono ?_
    rintro e w' ⟨rfl, rfl⟩
    rw [H.out]
    go_wp2_with fail
    go_ret2
    exact ⟨_, rfl, by rw [HT.out]; exact OwnI.nil _ _, Below.refl _ _⟩
  · have HC := Lib.hid (baSteps_any A c xs E B w hr hB hJ)
    have H := Lib.hid hJ
    have q1 := text_beq E ⟨#[97]⟩
    have q2 := text_beq E ⟨#[98]⟩
    have q3 := text_beq E ⟨#[108]⟩
    by_cases h1 : E = ⟨#[97]⟩ ∨ E = ⟨#[98]⟩ ∨ E = ⟨#[108]⟩
    · have hi : isE E = true := by simp [isE, h1]
      have HT := Lib.hid (show sbR xs E = selE xs E xs.length by simp [sbR, hJ, hi])
      rw [hi]
      clear hJ hi
      rcases h1 with rfl | rfl | rfl
      all_goals
        clear q1 q2 q3
        go_enter Try.func34, Try.ntmps34
        go_wp2_with fail
        refine (baGood_any A c xs B w hr hn).mono ?_
        rintro e w' ⟨rfl, rfl⟩
        rw [H.out]
        go_wp2_with fail
        refine HC.out.mono ?_
        rintro e w1 ⟨v1, rfl, o1, hb1⟩
        go_wp2_with fail
        go_ret2
        exact ⟨_, rfl, by rw [HT.out]; exact o1, hb1⟩
    · have hi : isE E = false := by simpa [isE] using h1
      have HT := Lib.hid (show sbR xs E = [] by simp [sbR, hi])
      rw [hi]
      rw [decide_eq_false (fun h => h1 (.inl h))] at q1
      rw [decide_eq_false (fun h => h1 (.inr (.inl h)))] at q2
      rw [decide_eq_false (fun h => h1 (.inr (.inr h)))] at q3
      have e1 : (⟨#[97]⟩ : ByteArray).toList = [97] := by decide +kernel
      have e2 : (⟨#[98]⟩ : ByteArray).toList = [98] := by decide +kernel
      have e3 : (⟨#[108]⟩ : ByteArray).toList = [108] := by decide +kernel
      rw [e1] at q1
      rw [e2] at q2
      rw [e3] at q3
      clear hJ hi h1 HC
      go_enter Try.func34, Try.ntmps34
      go_wp2_with fail
      refine (baGood_any A c xs B w hr hn).mono ?_
      rintro e w' ⟨rfl, rfl⟩
      rw [H.out]
      go_wp2_with fail
      go_ret2
      exact ⟨_, rfl, by rw [HT.out]; exact OwnI.nil _ _, Below.refl _ _⟩

end Go.Proofs.Ytfgjgpjdfjlglaa
