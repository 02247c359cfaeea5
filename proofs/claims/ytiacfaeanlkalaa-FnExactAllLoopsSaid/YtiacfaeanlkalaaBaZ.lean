/- The model's paths, ends and loops, for one goroutine alone. -/
import Derived.Test.YtiacfaeanlkalaaBaX
import Derived.Test.YtiacfaeanlkalaaGOwn
import Derived.Deep.RegionLaw
import Derived.BigQuiet
import Derived.Laws.Strings
set_option linter.unusedSimpArgs false
namespace Go.Proofs.Ytiacfaeanlkalaa
set_option maxRecDepth 100000
open Go.Conc Go.RowKit

def lenS : Value → Nat
  | .slice _ n _ => n
  | _ => 0

set_option maxHeartbeats 2000000 in
theorem baPath_any (A : Option Addr) (c : Nat) (xs : List Int) (s : Int) (B : Nat) (w : World) (hr : Rd w B A c xs) (hB : B ≤ w.heap.size) (hJ : jumpsB xs = true) :
    Calls Try.prog 46 #[.slice A xs.length c, .int .i64 s] w fun e w' => ∃ pv, e = .returned (.tuple #[pv, .int .i64 (courseB xs s).2]) ∧ OwnI w' w.heap.size pv (courseB xs s).1 ∧ Below w.heap.size w w' := by
  have hl30 := jumpsB_le hJ
  have HJ := Lib.hid hJ
  clear hJ
  go_enter Try.func46, Try.ntmps46
  go_wp2_with fail
  go_loopw [6, 7] (fun v p' wr => ∃ (j : Nat) (l : List Int) (p : Int), p' = .int .i64 p ∧ OwnI wr w.heap.size v l ∧ l.Nodup ∧ Hid (∀ y ∈ l, 0 ≤ y ∧ y < (xs.length : Int)) ∧ j + l.length = xs.length + 1 ∧ Hid (walkB xs j l p = courseB xs s) ∧ Below w.heap.size w wr) (fun v _ _ => xs.length + 1 - lenS v)
  case atStart => exact ⟨xs.length + 1, [], s, rfl, OwnI.nil _ _, by simp, Lib.hid (by simp), by simp, Lib.hid rfl, Below.refl _ _⟩
  case round =>
    obtain ⟨j, l, p, rfl, hown, hnd, HRG, hj, HWK, hbw⟩ := hrel
    have hle := nodup_le xs.length l hnd HRG.out
    have HND := Lib.hid hnd
    obtain ⟨f, rfl⟩ : ∃ f, j = f + 1 := ⟨j - 1, by omega⟩
    obtain ⟨A1, c1, rfl, hrd⟩ := hown.form
    have hz : w.heap.size ≤ wr.heap.size := hbw.size
    have HHAS := Lib.hid (l1Has_any A1 c1 l p _ wr hrd (by omega))
    have HNX := Lib.hid (fun (u : World) h => baNext_any A c xs p B u ((hr.below h hB)) HJ.out)
    have HJF := Lib.hid hj
    clear hnd hj hrd
    by_cases g0 : 0 ≤ p
    · by_cases g1 : p < (xs.length : Int)
      · have hin : inB p 0 ((xs.length : Int) - 1) = true := inB_yes g0 (by omega)
        cases h2 : hasB l p
        · have hm : p ∉ l := by rw [hasB_dec] at h2; exact of_decide_eq_false h2
          have HW2 : Hid (walkB xs f (l ++ [p]) (nextI xs p) = courseB xs s) := Lib.hid (by rw [← HWK.out, walkB, hin]; simp [hm])
          have HN2 : Hid ((l ++ [p]).Nodup) := Lib.hid (by
            rw [List.nodup_append]
            exact ⟨HND.out, by simp, fun a ha b hb => by simp at hb; subst hb; rintro rfl; exact hm ha⟩)
          have HR2 : Hid (∀ y ∈ l ++ [p], 0 ≤ y ∧ y < (xs.length : Int)) := Lib.hid (by
            intro y hy
            rcases List.mem_append.1 hy with hy | hy
            · exact HRG.out y hy
            · simp at hy; subst hy; omega)
          have H2 := Lib.hid h2
          obtain ⟨m, hm2⟩ : ∃ m, m = l.length := ⟨_, rfl⟩
          have hll : l.length ≤ 1000 := by omega
          rw [← hm2] at hown HHAS HJF ⊢
          have HM := Lib.hid hm2
          have hm3 : m ≤ 30 := by omega
          clear h2 hm hin hm2 hle
          go_wp2_with fail
          refine HHAS.out.mono ?_
          rintro e w' ⟨rfl, rfl⟩
          rw [H2.out]
          go_wp2_with (at_builtin; refine wpList_pushI _ rfl _ _ rfl w.heap.size _ l rfl (hown.alloc _) wr.heap.size p rfl (by simp) (by omega) (by simp; omega) ?_; intro A2 c2 w3 hown1 hg1)
          have hb3 := (hbw.alloc hz (.cells #[.int .i64 p] 3)).trans hg1
          refine (HNX.out _ hb3).mono ?_
          rintro e w' ⟨rfl, rfl⟩
          go_wp2_with fail
          go_roundw
          case rel => exact ⟨f, l ++ [p], nextI xs p, rfl, by simpa using hown1, HN2.out, HR2, by have := HJF.out; have := HM.out; simp; omega, HW2, hb3⟩
          case measure => have := HJF.out; have := HM.out; simp [lenS]; omega
        · have hm : p ∈ l := by rw [hasB_dec] at h2; exact of_decide_eq_true h2
          have HE : Hid (courseB xs s = (l, p)) := Lib.hid (by rw [← HWK.out, walkB, hin]; simp [hm])
          have H2 := Lib.hid h2
          clear h2 hm hin
          go_wp2_with fail
          refine HHAS.out.mono ?_
          rintro e w' ⟨rfl, rfl⟩
          rw [H2.out]
          go_wp2_with fail
          go_ret2
          exact ⟨_, by rw [HE.out]; rfl, by rw [HE.out]; exact hown, hbw⟩
      · have hin : inB p 0 ((xs.length : Int) - 1) = false := inB_no (by omega)
        have HE : Hid (courseB xs s = (l, p)) := Lib.hid (by rw [← HWK.out, walkB, hin]; simp)
        clear hin
        go_wp2_with fail
        go_ret2
        exact ⟨_, by rw [HE.out]; rfl, by rw [HE.out]; exact hown, hbw⟩
    · have hin : inB p 0 ((xs.length : Int) - 1) = false := inB_no (by omega)
      have HE : Hid (courseB xs s = (l, p)) := Lib.hid (by rw [← HWK.out, walkB, hin]; simp)
      clear hin
      go_wp2_with fail
      go_ret2
      exact ⟨_, by rw [HE.out]; rfl, by rw [HE.out]; exact hown, hbw⟩

set_option maxHeartbeats 1000000 in
theorem baEnd_any (A : Option Addr) (c : Nat) (xs : List Int) (s : Int) (B : Nat) (w : World) (hr : Rd w B A c xs) (hB : B ≤ w.heap.size) (hb : ballB xs s = true) :
    Calls Try.prog 41 #[.slice A xs.length c, .int .i64 s] w fun e w' => e = .returned (.string ⟨endS (courseB xs s).1 (courseB xs s).2⟩) ∧ Below w.heap.size w w' := by
  have hfin := course_fin hb
  have HP := Lib.hid (baPath_any A c xs s B w hr hB (ballB_le hb).1)
  clear hb
  generalize (courseB xs s).2 = p at *
  generalize (courseB xs s).1 = l at *
  by_cases hm : p ∈ l
  · have h0 := hfin.1.1 hm
    have h1 : ¬ p < 0 := by omega
    have h2 : ¬ (xs.length : Int) ≤ p := by omega
    rw [show endS l p = #[108] by simp [endS, hm]]
    clear hm hfin
    go_enter Try.func41, Try.ntmps41
    go_wp2_with fail
    refine HP.out.mono ?_
    rintro e w1 ⟨pv, rfl, hown, hb1⟩
    go_wp2_with fail
    go_ret
    exact ⟨rfl, hb1⟩
  · have h0 : p < 0 ∨ (xs.length : Int) ≤ p := by
      have h3 : ¬ (0 ≤ p ∧ p < (xs.length : Int)) := fun h => hm (hfin.1.2 h)
      omega
    have hbd := hfin.2
    by_cases h1 : p < 0
    · rw [show endS l p = #[97] by unfold endS; rw [if_neg hm, if_pos (by omega)]]
      clear hm hfin h0
      go_enter Try.func41, Try.ntmps41
      go_wp2_with fail
      refine HP.out.mono ?_
      rintro e w1 ⟨pv, rfl, hown, hb1⟩
      go_wp2_with fail
      go_ret
      exact ⟨rfl, hb1⟩
    · have h2 : (xs.length : Int) ≤ p := by omega
      have h3 : ¬ p = -1 := by omega
      rw [show endS l p = #[98] by simp [endS, hm, h3]]
      clear hm hfin h0
      go_enter Try.func41, Try.ntmps41
      go_wp2_with fail
      refine HP.out.mono ?_
      rintro e w1 ⟨pv, rfl, hown, hb1⟩
      go_wp2_with fail
      go_ret
      exact ⟨rfl, hb1⟩

end Go.Proofs.Ytiacfaeanlkalaa
