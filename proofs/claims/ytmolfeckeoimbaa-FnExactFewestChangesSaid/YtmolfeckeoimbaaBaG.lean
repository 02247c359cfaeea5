/- Contracts: balls: fewest changes, the model. -/
import Derived.Test.YtmolfeckeoimbaaBaF
import Derived.Test.YtmolfeckeoimbaaGLeast
namespace Go.Proofs.Ytmolfeckeoimbaa
open Go.RowKit

/-! what the model's row holds -/
def cntL : List Int → Nat
  | [] => 0
  | y :: r => (if 0 ≤ y then 1 else 0) + cntL r
def msrL (M : Nat) : List Int → Nat
  | [] => 0
  | y :: r => (if 0 ≤ y then y.toNat else M) + msrL M r
theorem cntL_le : ∀ ys : List Int, cntL ys ≤ ys.length
  | [] => by simp [cntL]
  | y :: r => by
    have := cntL_le r
    simp only [cntL, List.length_cons]
    split <;> omega
theorem cntL_set : ∀ (ys : List Int) (k : Nat) (v : Int), k < ys.length → cntL (ys.set k v) + (if 0 ≤ ys.getD k 0 then 1 else 0) = cntL ys + (if 0 ≤ v then 1 else 0)
  | [], k, v, h => absurd h (by simp)
  | y :: r, 0, v, _ => by
    simp only [List.set_cons_zero, cntL, List.getD_cons_zero]
    omega
  | y :: r, k + 1, v, h => by
    have := cntL_set r k v (by simpa using h)
    simp only [List.set_cons_succ, cntL, List.getD_cons_succ]
    omega
theorem msrL_set (M : Nat) : ∀ (ys : List Int) (k : Nat) (v : Int), k < ys.length → msrL M (ys.set k v) + (if 0 ≤ ys.getD k 0 then (ys.getD k 0).toNat else M) = msrL M ys + (if 0 ≤ v then v.toNat else M)
  | [], k, v, h => absurd h (by simp)
  | y :: r, 0, v, _ => by
    simp only [List.set_cons_zero, msrL, List.getD_cons_zero]
    omega
  | y :: r, k + 1, v, h => by
    have := msrL_set M r k v (by simpa using h)
    simp only [List.set_cons_succ, msrL, List.getD_cons_succ]
    omega
theorem cntL_none : ∀ n : Nat, cntL (List.replicate n (-1)) = 0
  | 0 => rfl
  | n + 1 => by rw [List.replicate_succ, cntL, cntL_none n]; simp
structure Mod (xs : List Int) (s : Nat) (ys : List Int) : Prop where
  len : ys.length = xs.length + 1
  sound : SoundM xs s (gF ys)
  zero : gF ys s = 0
  cnt : ∀ v, v ≤ xs.length → gF ys v + 1 ≤ cntL ys
theorem Mod.first {xs : List Int} {s : Nat} (hs : s < xs.length) : Mod xs s ((List.replicate (xs.length + 1) (-1)).set s 0) := by
  have e := gF_set (List.replicate (xs.length + 1) (-1)) s 0 (by simp; omega)
  have hm : ∀ v, v ≤ xs.length → gF (List.replicate (xs.length + 1) (-1)) v = -1 := fun v hv => by
    simp [gF, List.getD_eq_getElem?_getD, show v < xs.length + 1 by omega]
  have h0 : gF ((List.replicate (xs.length + 1) (-1)).set s 0) s = 0 := by rw [e]; simp [putF]
  have hc := cntL_set (List.replicate (xs.length + 1) (-1)) s 0 (by simp; omega)
  rw [show (List.replicate (xs.length + 1) (-1)).getD s 0 = -1 from hm s (by omega), cntL_none] at hc
  simp at hc
  refine ⟨by simp, fun v hv => ?_, h0, fun v hv => ?_⟩
  · by_cases hvs : v = s
    · subst hvs
      exact .inr ⟨by rw [h0]; omega, [], trivial, rfl, by rw [h0]; rfl⟩
    · exact .inl (by rw [e, putF, if_neg hvs]; exact hm v hv)
  · rw [e, putF]
    split
    · omega
    · rw [hm v hv]; omega
theorem Mod.put {xs ys : List Int} {s u : Nat} {b : Int} (h : Mod xs s ys) (ho : okE xs u b = true) (hu : 0 ≤ gF ys u) (hb : gF ys (nxE xs u b).toNat < 0 ∨ gF ys u + costE b < gF ys (nxE xs u b).toNat) :
    Mod xs s (ys.set (nxE xs u b).toNat (gF ys u + costE b)) ∧ msrL (xs.length + 2) (ys.set (nxE xs u b).toNat (gF ys u + costE b)) < msrL (xs.length + 2) ys := by
  have hon := okE_on ho
  have hnx := nxE_bd ho
  have hcb := costE_bd b
  obtain ⟨v, hv⟩ := Int.eq_ofNat_of_zero_le hnx.1
  rw [hv] at hb ⊢
  rw [Int.toNat_natCast] at hb ⊢
  have hvn : v ≤ xs.length := by omega
  have hvl : v < ys.length := by rw [h.len]; omega
  have e := gF_set ys v (gF ys u + costE b) hvl
  have hcu := h.cnt u (by omega)
  have hcl := cntL_le ys
  have hc := cntL_set ys v (gF ys u + costE b) hvl
  have hm := msrL_set (xs.length + 2) ys v (gF ys u + costE b) hvl
  have hg : ys.getD v 0 = gF ys v := rfl
  rw [hg] at hc hm
  rw [if_pos (show 0 ≤ gF ys u + costE b by omega)] at hc hm
  have hlen := h.len
  refine ⟨⟨by rw [List.length_set]; exact h.len, fun k hk => ?_, ?_, fun k hk => ?_⟩, ?_⟩
  · rw [e, putF]
    split
    · rename_i ek
      subst ek
      obtain ⟨_, bs, b1, b2, b3⟩ := (h.sound u (by omega)).resolve_left (by omega)
      refine .inr ⟨by omega, bs ++ [b], (okW_app _ _ _ _).2 ⟨b1, by rw [b2]; exact ⟨ho, trivial⟩⟩, by rw [endW_app, b2]; exact hv, by rw [costW_app, b3]; simp [costW]⟩
    · exact h.sound k hk
  · rw [e, putF]
    split
    · rename_i ek
      subst ek
      have := h.zero
      omega
    · exact h.zero
  · rw [e, putF]
    have hck := h.cnt k hk
    split
    · by_cases g : 0 ≤ gF ys v
      · rw [if_pos g] at hc
        have := h.cnt v hvn
        omega
      · rw [if_neg g] at hc; omega
    · by_cases g : 0 ≤ gF ys v
      · rw [if_pos g] at hc; omega
      · rw [if_neg g] at hc; omega
  · by_cases g : 0 ≤ gF ys v
    · rw [if_pos g] at hm; omega
    · rw [if_neg g] at hm; omega
/-- nothing better is found from a step by a change -/
def NoneAt (xs ys : List Int) (u : Nat) (b : Int) : Prop := okE xs u b = true → 0 ≤ gF ys u → 0 ≤ gF ys (nxE xs u b).toNat ∧ gF ys (nxE xs u b).toNat ≤ gF ys u + costE b
/-- a pass over all steps, before change b of step u -/
structure Pass (xs : List Int) (s : Nat) (m0 : Nat) (t : Bool) (u : Nat) (b : Int) (ys : List Int) : Prop where
  mod : Mod xs s ys
  le : msrL (xs.length + 2) ys ≤ m0
  lt : t = true → msrL (xs.length + 2) ys < m0
  quiet : t = false → (∀ u' b', u' < u → NoneAt xs ys u' b') ∧ ∀ b', b' < b → NoneAt xs ys u b'
theorem noneAt_low {xs ys : List Int} {u : Nat} {b : Int} (h : b < -1 ∨ 1 < b) : NoneAt xs ys u b := by
  intro ho
  simp only [okE, inB, Bool.and_eq_true, decide_eq_true_eq] at ho
  omega
theorem Pass.start {xs ys : List Int} {s : Nat} (h : Mod xs s ys) : Pass xs s (msrL (xs.length + 2) ys) false 0 (-1) ys :=
  ⟨h, Nat.le_refl _, fun e => (by cases e), fun _ => ⟨fun u' b' hu => absurd hu (by omega), fun b' hb => noneAt_low (by omega)⟩⟩
theorem Pass.more {xs ys : List Int} {s m0 u : Nat} {t : Bool} {b : Int} (h : Pass xs s m0 t u b ys) (hn : NoneAt xs ys u b) : Pass xs s m0 t u (b + 1) ys := by
  refine ⟨h.mod, h.le, h.lt, fun e => ⟨(h.quiet e).1, fun b' hb => ?_⟩⟩
  by_cases e' : b' = b
  · subst e'; exact hn
  · exact (h.quiet e).2 b' (by omega)
theorem Pass.put {xs ys : List Int} {s m0 u : Nat} {t : Bool} {b : Int} (h : Pass xs s m0 t u b ys) (ho : okE xs u b = true) (hu : 0 ≤ gF ys u) (hb : gF ys (nxE xs u b).toNat < 0 ∨ gF ys u + costE b < gF ys (nxE xs u b).toNat) :
    Pass xs s m0 true u (b + 1) (ys.set (nxE xs u b).toNat (gF ys u + costE b)) := by
  obtain ⟨h1, h2⟩ := h.mod.put ho hu hb
  have := h.le
  exact ⟨h1, by omega, fun _ => by omega, fun e => by cases e⟩
theorem Pass.next {xs ys : List Int} {s m0 u : Nat} {t : Bool} (h : Pass xs s m0 t u 2 ys) : Pass xs s m0 t (u + 1) (-1) ys := by
  refine ⟨h.mod, h.le, h.lt, fun e => ⟨fun u' b' hu => ?_, fun b' hb => noneAt_low (by omega)⟩⟩
  by_cases e' : u' = u
  · subst e'
    by_cases hb : b' < 2
    · exact (h.quiet e).2 b' hb
    · exact noneAt_low (by omega)
  · exact (h.quiet e).1 u' b' (by omega)
theorem Pass.skip {xs ys : List Int} {s m0 u : Nat} {t : Bool} (h : Pass xs s m0 t u (-1) ys) (hu : gF ys u < 0) : Pass xs s m0 t (u + 1) (-1) ys := by
  refine ⟨h.mod, h.le, h.lt, fun e => ⟨fun u' b' hu' => ?_, fun b' hb => noneAt_low (by omega)⟩⟩
  by_cases e' : u' = u
  · subst e'; exact fun _ h0 => absurd h0 (by omega)
  · exact (h.quiet e).1 u' b' (by omega)
theorem Pass.still {xs ys : List Int} {s m0 : Nat} (h : Pass xs s m0 false xs.length (-1) ys) : Still xs (gF ys) := by
  intro u b ho h0
  have := okE_on ho
  exact (h.quiet rfl).1 u b (by omega) ho h0
theorem put_len {xs ys : List Int} {s m0 u : Nat} {t : Bool} {b : Int} (h : Pass xs s m0 t u b ys) : ys.length = xs.length + 1 := h.mod.len
theorem put_pos {xs ys : List Int} {u : Nat} {b : Int} {s : Nat} (h : Mod xs s ys) (ho : okE xs u b = true) (hu : 0 ≤ gF ys u) : 0 ≤ gF (ys.set (nxE xs u b).toNat (gF ys u + costE b)) u := by
  have hnx := nxE_bd ho
  rw [gF_set _ _ _ (by rw [h.len]; omega), putF]
  have := costE_bd b
  split <;> omega

theorem repL_set {m n : Nat} {v : Int} (h : m < n) : (repL m n v).set m v = repL (m + 1) n v := by
  unfold repL
  rw [List.set_append, if_neg (by simp), List.length_replicate, Nat.sub_self, show n - m = (n - (m + 1)) + 1 by omega, List.replicate_succ, List.set_cons_zero, List.replicate_succ', List.append_assoc]
  simp

theorem l1AbsB_any (b : Int) (w : World) (h0 : -1 ≤ b) (h1 : b ≤ 1) :
    Calls Try.prog 45 #[.int .i64 b] w fun e w' => e = .returned (.int .i64 (costE b)) ∧ w = w' := by
  rcases (show b = -1 ∨ b = 0 ∨ b = 1 by omega) with rfl | rfl | rfl
  all_goals
    go_enter Try.func45, Try.ntmps45
    go_wp2
    go_ret
    exact ⟨rfl, rfl⟩

set_option maxRecDepth 100000 in
set_option maxHeartbeats 8000000 in
theorem specFew_any (A : Option Addr) (c : Nat) (xs : List Int) (s : Int) (B : Nat) (w : World) (hr : Rd w B A c xs) (hB : B ≤ w.heap.size) (hn : xs.length ≤ 1048576) :
    Calls Try.prog 25 #[.slice A xs.length c, .int .i64 s] w (Plain (.tuple #[.int .i64 (if ballB xs s then fewX xs s else 0), .bool (ballB xs s && fewB xs s)]) w) := by
  cases h : ballB xs s
  · rw [show (if (false : Bool) = true then fewX xs s else 0) = 0 from rfl, Bool.false_and]
    have H := Lib.hid h
    clear h
    go_enter Try.func25, Try.ntmps25
    go_wp2_with fail
    refine (baStep_any _ _ _ _ _ _ hr hn).mono ?_
    rintro e w' ⟨rfl, rfl⟩
    rw [H.out]
    go_wp2_with fail
    go_ret2
    exact ⟨rfl, Below.refl _ _⟩
  · obtain ⟨hJ, hs0, hs1⟩ := ballB_le h
    obtain ⟨k, rfl⟩ := Int.eq_ofNat_of_zero_le hs0
    have hk : k < xs.length := by omega
    have hl := jumpsB_le hJ
    rw [show (if (true : Bool) = true then fewX xs (k : Int) else 0) = fewX xs (k : Int) from rfl, Bool.true_and]
    obtain ⟨X, hX⟩ : ∃ X, X = fewX xs (k : Int) := ⟨_, rfl⟩
    obtain ⟨Y, hY⟩ : ∃ Y, Y = fewB xs (k : Int) := ⟨_, rfl⟩
    rw [← hX, ← hY]
    have HX := Lib.hid hX
    have HY := Lib.hid hY
    have H := Lib.hid h
    have HJ := Lib.hid hJ
    have hw2 : IntKind.i64.wrap ((xs.length : Int) + 1) = (xs.length : Int) + 1 := IntWalk.i64_in _ (by omega)
    have hmk := fun u => make_run (xs.length + 1) (by omega) u
    rw [show (((xs.length + 1 : Nat) : Int)) = (xs.length : Int) + 1 by omega] at hmk
    have hZ : Blk (w.alloc (.cells (ints (repL 0 (xs.length + 1) (-1))) 3)) w.heap.size 3 (ints (repL 0 (xs.length + 1) (-1))) := Blk.new _ _ _
    rw [show repL 0 (xs.length + 1) (-1) = List.replicate (xs.length + 1) 0 by simp [repL]] at hZ
    clear h hX hY hJ
    go_enter Try.func25, Try.ntmps25
    go_wp2_with fail
    refine (baStep_any _ _ _ _ _ _ hr hn).mono ?_
    rintro e w' ⟨rfl, rfl⟩
    rw [H.out]
    go_wp2_with fail
    clear hmk
    go_loopw [24] (fun i wr => ∃ m : Nat, m ≤ xs.length + 1 ∧ i = .int .i64 (m : Int) ∧ Blk wr w.heap.size 3 (ints (repL m (xs.length + 1) (-1))) ∧ Below w.heap.size w wr) (fun i _ => xs.length + 1 - (intOf i).toNat)
    case atStart => exact ⟨0, Nat.zero_le _, rfl, by rw [show repL 0 (xs.length + 1) (-1) = List.replicate (xs.length + 1) 0 by simp [repL]]; exact hZ, below_alloc _ _⟩
    case round =>
      clear hZ
      obtain ⟨m, hm, rfl, hblk, hbw⟩ := hrel
      by_cases hlt : m < xs.length + 1
      · have hlt' : (m : Int) < (xs.length : Int) + 1 := by omega
        have k1 : wr.cell? ⟨w.heap.size, m, none⟩ = some (.int .i64 ((repL m (xs.length + 1) (-1)).getD m 0)) := hblk.int_at (by rw [repL_length hm]; exact hlt)
        have k2 := hblk.frozen m
        have HB := Lib.hid (hblk.int_set m (-1))
        rw [repL_set hlt] at HB
        have HW := Lib.hid hbw
        clear hblk hbw
        generalize (repL m (xs.length + 1) (-1)).getD m 0 = z at *
        go_wp2_with fail
        go_roundw
        case rel => exact ⟨m + 1, by omega, by go_num, HB.out, HW.out.setCell (p := ⟨w.heap.size, m, none⟩) (Nat.le_refl _) _⟩
        case measure => simp [intOf]; omega
      · obtain rfl : m = xs.length + 1 := by omega
        rw [repL_all] at hblk
        have k1 : wr.cell? ⟨w.heap.size, k, none⟩ = some (.int .i64 (-1)) := by
          rw [hblk.int_at (k := k) (by simp; omega)]
          simp [List.getD_eq_getElem?_getD, show k < xs.length + 1 by omega]
        have k2 := hblk.frozen k
        have HB := Lib.hid (hblk.int_set k 0)
        have HW := Lib.hid (hbw.setCell (p := ⟨w.heap.size, k, none⟩) (Nat.le_refl _) (.int .i64 0))
        have HM := Lib.hid (Mod.first hk)
        clear hblk hbw
        go_wp2_with fail
        generalize (List.replicate (xs.length + 1) (-1)).set k 0 = y0 at *
        go_loopg [8] (msrL (xs.length + 2) y0 + 2) (fun gg v wr => ∃ (t : Bool) (ys : List Int), v = .bool t ∧ Blk wr w.heap.size 3 (ints ys) ∧ Hid (Mod xs k ys) ∧ Hid (t = false → Still xs (gF ys)) ∧ msrL (xs.length + 2) ys + (if t then 2 else 1) ≤ gg ∧ Below w.heap.size w wr)
        case atStart => exact ⟨true, y0, rfl, HB.out, HM, Lib.hid (fun e => by cases e), Nat.le_refl _, HW.out⟩
        case round =>
          clear HB HW HM k1 k2
          obtain ⟨t, ys, rfl, hblk, HM, HS, hgg, hbw⟩ := hrel
          have hz : w.heap.size ≤ wr.heap.size := hbw.size
          cases t
          · have hlen := HM.out.len
            have k1 : wr.cell? ⟨w.heap.size, xs.length, none⟩ = some (.int .i64 (gF ys xs.length)) := hblk.int_at (by omega)
            have HR := Lib.hid (few_of_model HM.out.sound HM.out.zero (HS.out rfl))
            clear hlen hgg
            generalize gF ys xs.length = v at *
            have hlt1 : (xs.length : Int) < (xs.length : Int) + 1 := by omega
            by_cases hv : 0 ≤ v
            · have h1 : ¬ v < 0 := by omega
              have R1 : Hid (X = v) := Lib.hid (HX.out.trans (HR.out.2.1 hv))
              have R2 : Hid (Y = true) := Lib.hid (HY.out.trans (HR.out.1.trans (decide_eq_true hv)))
              clear hv
              go_wp2_with fail
              go_ret2
              exact ⟨by rw [R1.out, R2.out]; rfl, hbw⟩
            · have h1 : v < 0 := by omega
              have R1 : Hid (X = 0) := Lib.hid (HX.out.trans (HR.out.2.2 hv))
              have R2 : Hid (Y = false) := Lib.hid (HY.out.trans (HR.out.1.trans (decide_eq_false hv)))
              clear hv
              go_wp2_with fail
              go_ret2
              exact ⟨by rw [R1.out, R2.out]; rfl, hbw⟩
          · have HP := Lib.hid (Pass.start HM.out)
            have HGG := Lib.hid hgg
            generalize hm0 : msrL (xs.length + 2) ys = m0 at *
            clear hm0 hgg HM HS
            go_wp2_with fail
            go_loopw [8, 37] (fun v i wr => ∃ (t : Bool) (u : Nat) (ys : List Int), u ≤ xs.length ∧ v = .bool t ∧ i = .int .i64 (u : Int) ∧ Blk wr w.heap.size 3 (ints ys) ∧ Hid (Pass xs k m0 t u (-1) ys) ∧ Below w.heap.size w wr) (fun _ i _ => xs.length - (intOf i).toNat)
            case atStart => exact ⟨false, 0, ys, Nat.zero_le _, rfl, rfl, hblk, HP, hbw⟩
            case round =>
              clear hblk HP hbw hz
              obtain ⟨t, u, ys, hul, rfl, rfl, hblk, HP, hbw⟩ := hrel
              have hz : w.heap.size ≤ wr.heap.size := hbw.size
              by_cases hlu : u < xs.length
              · have hlu' : (u : Int) < xs.length := by omega
                have hlen := put_len HP.out
                obtain ⟨b0, o0, rfl, hb0, hcx⟩ := (hr.below hbw hB).at_ hlu
                have hat := jumpsB_at HJ.out u hlu
                have HXU : Hid (∀ b, okE xs u b = (inB b (-1) 1 && (inB (xs.getD u 0 + b) (-30) 30 && decide (0 ≤ (u : Int) + (xs.getD u 0 + b))))) := fun b => by
                  simp only [okE, Int.toNat_natCast]
                  rw [inB_yes (n := (u : Int)) (by omega) (by omega), Bool.true_and]
                have HNU : Hid (∀ b, nxE xs u b = clampI xs.length ((u : Int) + (xs.getD u 0 + b))) := fun b => by simp [nxE]
                generalize xs.getD u 0 = x at *
                have k1 : wr.cell? ⟨w.heap.size, u, none⟩ = some (.int .i64 (gF ys u)) := hblk.int_at (by omega)
                clear hlen
                by_cases hneg : gF ys u < 0
                · have HP2 := Lib.hid (HP.out.skip hneg)
                  generalize gF ys u = y at *
                  go_wp2_with fail
                  go_roundw
                  case rel => exact ⟨t, u + 1, ys, by omega, rfl, by go_num, hblk, HP2, hbw⟩
                  case measure => simp [intOf]; omega
                · have HU0 : Hid (0 ≤ gF ys u) := Lib.hid (by omega)
                  generalize hy : gF ys u = y at *
                  have HYU := Lib.hid hy
                  clear hy
                  go_wp2_with fail
                  go_loopw [8, 11] (fun v i wr => ∃ (t : Bool) (b : Int) (ys : List Int), -1 ≤ b ∧ b ≤ 2 ∧ v = .bool t ∧ i = .int .i64 b ∧ Blk wr w.heap.size 3 (ints ys) ∧ Hid (Pass xs k m0 t u b ys) ∧ Hid (0 ≤ gF ys u) ∧ Below w.heap.size w wr) (fun _ i _ => (2 - intOf i).toNat)
                  case atStart => exact ⟨t, -1, ys, by omega, by omega, rfl, rfl, hblk, HP, Lib.hid (by rw [HYU.out]; exact HU0), hbw⟩
                  case round =>
                    clear hblk HP hbw hz k1 hneg HU0 HYU hcx
                    obtain ⟨t, b, ys, hb1, hb2, rfl, rfl, hblk, HP, HU0, hbw⟩ := hrel
                    have hz : w.heap.size ≤ wr.heap.size := hbw.size
                    by_cases hlb : b ≤ 1
                    · have hlen := put_len HP.out
                      have hwb : IntKind.i64.wrap (b + 1) = b + 1 := IntWalk.i64_in _ (by omega)
                      have HBK := Lib.hid hblk
                      have HBW := Lib.hid hbw
                      by_cases g1 : (u : Int) + x + b < 0
                      · have HPN := Lib.hid (HP.out.more (fun ho => by rw [HXU.out b, show decide (0 ≤ (u : Int) + (x + b)) = false from decide_eq_false (by omega)] at ho; simp at ho))
                        have HL : Hid (leastI ((u : Int) + x + b) xs.length = (u : Int) + x + b) := Lib.hid (if_pos (by omega))
                        go_wp2_with fail
                        refine (l1Least_any _ _ _).mono ?_
                        rintro e w' ⟨rfl, rfl⟩
                        rw [HL.out]
                        go_wp2_with fail
                        go_roundw
                        case rel => exact ⟨t, b + 1, ys, by omega, by omega, rfl, by go_num, HBK.out, HPN, HU0, HBW.out⟩
                        case measure => simp [intOf]; omega
                      · cases g2 : inB (x + b) (-30) 30
                        · have HPN := Lib.hid (HP.out.more (fun ho => by rw [HXU.out b, g2] at ho; simp at ho))
                          have HI := Lib.hid g2
                          have hq : 0 ≤ leastI ((u : Int) + x + b) xs.length := by unfold leastI; split <;> omega
                          clear g2
                          generalize hqq : leastI ((u : Int) + x + b) xs.length = q at *
                          have HQ := Lib.hid hqq
                          clear hqq
                          have HL := HQ
                          have hq2 : ¬ q < 0 := by omega
                          go_wp2_with fail
                          refine (l1Least_any _ _ _).mono ?_
                          rintro e w' ⟨rfl, rfl⟩
                          rw [HL.out]
                          go_wp2_with fail
                          refine (l1In_any _ _ _ _).mono ?_
                          rintro e w' ⟨rfl, rfl⟩
                          rw [HI.out]
                          go_wp2_with fail
                          go_roundw
                          case rel => exact ⟨t, b + 1, ys, by omega, by omega, rfl, by go_num, HBK.out, HPN, HU0, HBW.out⟩
                          case measure => simp [intOf]; omega
                        · have ho : okE xs u b = true := by
                            rw [HXU.out b, g2, inB_yes hb1 hlb, show decide (0 ≤ (u : Int) + (x + b)) = true from decide_eq_true (by omega)]; rfl
                          have hnb := nxE_bd ho
                          have HI := Lib.hid g2
                          obtain ⟨m, hm⟩ := Int.eq_ofNat_of_zero_le hnb.1
                          have HL : Hid (leastI ((u : Int) + x + b) xs.length = (m : Int)) := Lib.hid (by
                            rw [← hm, HNU.out b]
                            unfold leastI clampI
                            rw [if_neg (show ¬ (u : Int) + (x + b) < 0 by omega)]
                            split <;> split <;> omega)
                          have hcu := HP.out.mod.cnt u (by omega)
                          have hcl := cntL_le ys
                          have hmn : m ≤ xs.length := by omega
                          have HUK : Hid (∀ z, z = u → 0 ≤ gF ys z) := Lib.hid (fun z e => by subst e; exact HU0.out)
                          have k1 : wr.drew.cell? ⟨w.heap.size, u, none⟩ = some (.int .i64 (gF ys u)) := (show Blk wr.drew w.heap.size 3 (ints ys) from hblk).int_at (by omega)
                          have k2 : wr.drew.cell? ⟨w.heap.size, m, none⟩ = some (.int .i64 (gF ys m)) := (show Blk wr.drew w.heap.size 3 (ints ys) from hblk).int_at (by omega)
                          have k3 : wr.drew.frozen? ⟨w.heap.size, m, none⟩ = false := (show Blk wr.drew w.heap.size 3 (ints ys) from hblk).frozen m
                          have hcb := costE_bd b
                          have hu0 := HU0.out
                          have HNA : Hid (0 ≤ gF ys m → gF ys m ≤ gF ys u + costE b → Pass xs k m0 t u (b + 1) ys) := Lib.hid (fun h1 h2 => HP.out.more (fun _ _ => by rw [hm, Int.toNat_natCast]; exact ⟨h1, h2⟩))
                          have HPU : Hid (gF ys m < 0 ∨ gF ys u + costE b < gF ys m → Pass xs k m0 true u (b + 1) (ys.set m (gF ys u + costE b)) ∧ 0 ≤ gF (ys.set m (gF ys u + costE b)) u) := Lib.hid (fun h1 => by
                            have e1 := HP.out.put ho HU0.out (by rw [hm, Int.toNat_natCast]; exact h1)
                            have e2 := put_pos HP.out.mod ho HU0.out
                            rw [hm, Int.toNat_natCast] at e1 e2
                            exact ⟨e1, e2⟩)
                          have hlt1 : (u : Int) < (xs.length : Int) + 1 := by omega
                          have hlt2 : (m : Int) < (xs.length : Int) + 1 := by omega
                          have hyb : gF ys u ≤ 40 := by omega
                          clear ho hm hnb g2 hcu hcl hblk hbw
                          generalize gF ys u = y at *
                          generalize gF ys m = z at *
                          have hwc : IntKind.i64.wrap (y + costE b) = y + costE b := IntWalk.i64_in _ (by omega)
                          have HAB := Lib.hid (l1AbsB_any b wr.drew hb1 hlb)
                          generalize costE b = cb at *
                          by_cases hz1 : z < 0
                          · have HPX := Lib.hid (HPU.out (.inl hz1))
                            have HBS := Lib.hid (HBK.out.drew'.int_set m (y + cb))
                            go_wp2_with fail
                            refine (l1Least_any _ _ _).mono ?_
                            rintro e w' ⟨rfl, rfl⟩
                            rw [HL.out]
                            go_wp2_with fail
                            refine (l1In_any _ _ _ _).mono ?_
                            rintro e w' ⟨rfl, rfl⟩
                            rw [HI.out]
                            go_wp2_with fail
                            go_region_with (go_at_call 45; refine HAB.out.mono ?_; rintro e w' ⟨rfl, rfl⟩)
                            all_goals
                              go_wp2_with fail
                              go_roundw
                              case rel => exact ⟨true, b + 1, _, by omega, by omega, rfl, by go_num, HBS.out, Lib.hid HPX.out.1, Lib.hid HPX.out.2, HBW.out.drew.setCell (p := ⟨w.heap.size, m, none⟩) (Nat.le_refl _) _⟩
                              case measure => simp [intOf]; omega
                          · by_cases hz2 : y + cb < z
                            · have HPX := Lib.hid (HPU.out (.inr hz2))
                              have HBS := Lib.hid (HBK.out.drew'.int_set m (y + cb))
                              go_wp2_with fail
                              refine (l1Least_any _ _ _).mono ?_
                              rintro e w' ⟨rfl, rfl⟩
                              rw [HL.out]
                              go_wp2_with fail
                              refine (l1In_any _ _ _ _).mono ?_
                              rintro e w' ⟨rfl, rfl⟩
                              rw [HI.out]
                              go_wp2_with fail
                              go_region_with (go_at_call 45; refine HAB.out.mono ?_; rintro e w' ⟨rfl, rfl⟩)
                              all_goals
                                go_wp2_with fail
                                go_roundw
                                case rel => exact ⟨true, b + 1, _, by omega, by omega, rfl, by go_num, HBS.out, Lib.hid HPX.out.1, Lib.hid HPX.out.2, HBW.out.drew.setCell (p := ⟨w.heap.size, m, none⟩) (Nat.le_refl _) _⟩
                                case measure => simp [intOf]; omega
                            · have HPN := Lib.hid (HNA.out (by omega) (by omega))
                              have hz3 : ¬ z < 0 := by omega
                              go_wp2_with fail
                              refine (l1Least_any _ _ _).mono ?_
                              rintro e w' ⟨rfl, rfl⟩
                              rw [HL.out]
                              go_wp2_with fail
                              refine (l1In_any _ _ _ _).mono ?_
                              rintro e w' ⟨rfl, rfl⟩
                              rw [HI.out]
                              go_wp2_with fail
                              go_region_with (go_at_call 45; refine HAB.out.mono ?_; rintro e w' ⟨rfl, rfl⟩)
                              all_goals
                                go_wp2_with fail
                                go_roundw
                                case rel => exact ⟨t, b + 1, ys, by omega, by omega, rfl, by go_num, HBK.out.drew', HPN, Lib.hid (HUK.out _ rfl), HBW.out.drew⟩
                                case measure => simp [intOf]; omega
                    · obtain rfl : b = 2 := by omega
                      go_wp2_with fail
                      go_roundw
                      case rel => exact ⟨t, u + 1, ys, by omega, rfl, by go_num, hblk, Lib.hid HP.out.next, hbw⟩
                      case measure => simp [intOf]; omega
              · obtain rfl : u = xs.length := by omega
                have hle := HP.out.le
                have hltt := HP.out.lt
                have hgg := HGG.out
                have HMn := Lib.hid HP.out.mod
                have HSn : Hid (t = false → Still xs (gF ys)) := Lib.hid (fun e => by subst e; exact HP.out.still)
                have hmm : msrL (xs.length + 2) ys + (if t then 2 else 1) < gk := by
                  simp only [if_true] at hgg
                  cases t
                  · simp; omega
                  · have := hltt rfl
                    simp; omega
                clear hle hltt hgg HP
                go_wp2_with fail
                go_roundg (msrL (xs.length + 2) ys + (if t then 2 else 1))
                case measure => exact hmm
                case rel => exact ⟨t, ys, rfl, hblk, HMn, HSn, Nat.le_refl _, hbw⟩

end Go.Proofs.Ytmolfeckeoimbaa
