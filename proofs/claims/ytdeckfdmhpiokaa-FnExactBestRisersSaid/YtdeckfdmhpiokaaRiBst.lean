/- Contracts: flights: the best number of risers, on the program's side. -/
import Derived.Test.YtdeckfdmhpiokaaRiW
import Derived.Laws.EntriesVeiled
namespace Go.Proofs.Ytdeckfdmhpiokaa
open Go.RowKit
set_option maxRecDepth 100000

/-- how far the pace sum of so many risers is from a sum -/
def farI (h s t r : Int) : Int := if 2 * (h / r) + t - s < 0 then -(2 * (h / r) + t - s) else 2 * (h / r) + t - s
theorem farI_max (h s t r : Int) : max (2 * (h / r) + t - s) (s - (2 * (h / r) + t)) = farI h s t r := by unfold farI; split <;> omega
/-- the first of the nearest among the first k of a list -/
def mnF (f : Int → Int) (xs : List Int) : Nat → Int
  | 0 => 0
  | k + 1 => if k = 0 ∨ f (xs.getD k 0) < f (mnF f xs k) then xs.getD k 0 else mnF f xs k
theorem mnF_one (f : Int → Int) (xs : List Int) : mnF f xs 1 = xs.getD 0 0 := by simp [mnF]
theorem mnF_yes {f : Int → Int} {xs : List Int} {k : Nat} (h : f (xs.getD k 0) < f (mnF f xs k)) : mnF f xs (k + 1) = xs.getD k 0 := by rw [mnF, if_pos (.inr h)]
theorem mnF_no {f : Int → Int} {xs : List Int} {k : Nat} (hk : 1 ≤ k) (h : ¬ f (xs.getD k 0) < f (mnF f xs k)) : mnF f xs (k + 1) = mnF f xs k := by rw [mnF, if_neg (by omega)]
theorem mnF_in {f : Int → Int} {xs : List Int} {P : Int → Prop} (h : ∀ j, j < xs.length → P (xs.getD j 0)) : ∀ k, 1 ≤ k → k ≤ xs.length → P (mnF f xs k)
  | 0, h1, _ => absurd h1 (by omega)
  | k + 1, _, h2 => by
    unfold mnF
    split
    · exact h k (by omega)
    · next g => exact mnF_in h k (by omega) (by omega)
theorem mnF_app (f : Int → Int) (xs ys : List Int) : ∀ k, k ≤ xs.length → mnF f (xs ++ ys) k = mnF f xs k
  | 0, _ => rfl
  | k + 1, h => by
    have e : (xs ++ ys).getD k 0 = xs.getD k 0 := by simp [List.getD_eq_getElem?_getD, List.getElem?_append_left (show k < xs.length by omega)]
    unfold mnF
    rw [mnF_app f xs ys k (by omega), e]
/-- the best of the numbers below r, 0 if there is none -/
def bsR (h s t : Int) : Nat → Int
  | 0 => 0
  | r + 1 => if wrOk h 1 250 r then (if bsR h s t r = 0 ∨ farI h s t r < farI h s t (bsR h s t r) then (r : Int) else bsR h s t r) else bsR h s t r
theorem wrL_mem {h l m : Int} : ∀ {r : Nat} {j : Nat}, j < (wrL h l m r).length → 1 ≤ (wrL h l m r).getD j 0 ∧ (wrL h l m r).getD j 0 < r
  | 0, j, hj => absurd hj (by simp [wrL])
  | r + 1, j, hj => by
    by_cases g : wrOk h l m r = true
    · rw [wrL_yes g] at hj ⊢
      have hr : 1 ≤ r := by simp [wrOk] at g; exact g.1
      by_cases hj2 : j < (wrL h l m r).length
      · rw [show (wrL h l m r ++ [(r : Int)]).getD j 0 = (wrL h l m r).getD j 0 by simp [List.getD_eq_getElem?_getD, List.getElem?_append_left hj2]]
        have := wrL_mem hj2
        omega
      · have : j = (wrL h l m r).length := by simp at hj; omega
        subst this
        simp
        omega
    · rw [wrL_no (by simpa using g)] at hj ⊢
      have := wrL_mem hj
      omega
theorem bsR_list (h s t : Int) : ∀ r : Nat, mnF (farI h s t) (wrL h 1 250 r) (wrL h 1 250 r).length = bsR h s t r ∧ (bsR h s t r = 0 ↔ (wrL h 1 250 r).length = 0)
  | 0 => by simp [wrL, mnF, bsR]
  | r + 1 => by
    obtain ⟨e1, e2⟩ := bsR_list h s t r
    by_cases g : wrOk h 1 250 r = true
    · have hr : 1 ≤ r := by simp [wrOk] at g; exact g.1
      rw [wrL_yes g, List.length_append, List.length_singleton]
      have e3 : (wrL h 1 250 r ++ [(r : Int)]).getD (wrL h 1 250 r).length 0 = r := by simp [List.getD_eq_getElem?_getD]
      have e4 := mnF_app (farI h s t) (wrL h 1 250 r) [(r : Int)] _ (Nat.le_refl _)
      have em : mnF (farI h s t) (wrL h 1 250 r ++ [(r : Int)]) ((wrL h 1 250 r).length + 1) = bsR h s t (r + 1) := by
        rw [mnF, e3, e4, e1, bsR, if_pos g]
        by_cases z : bsR h s t r = 0
        · rw [if_pos (.inl (e2.1 z)), if_pos (.inl z)]
        · by_cases q : farI h s t r < farI h s t (bsR h s t r)
          · rw [if_pos (.inr q), if_pos (.inr q)]
          · rw [if_neg, if_neg]
            · rintro (a | a)
              · exact z a
              · exact q a
            · rintro (a | a)
              · exact z (e2.2 a)
              · exact q a
      refine ⟨em, ?_⟩
      have : ¬ bsR h s t (r + 1) = 0 := by
        rw [bsR, if_pos g]
        split
        · omega
        · next q => exact fun z => q (.inl z)
      constructor
      · intro z; exact absurd z this
      · intro z; omega
    · have g2 : wrOk h 1 250 r = false := by simpa using g
      rw [wrL_no g2, show bsR h s t (r + 1) = bsR h s t r by rw [bsR, if_neg g]]
      exact ⟨e1, e2⟩

set_option maxHeartbeats 400000 in
theorem isNaN_any (a : Int) (w : World) : Calls Try.prog 59 #[.int .i64 a] w fun e w' => e = .returned (.bool false) ∧ w = w' := by
  go_enter Try.func59, Try.ntmps59
  go_wp2
  go_ret
  exact ⟨rfl, rfl⟩
def cmpI (a b : Int) : Int := if a < b then -1 else if b < a then 1 else 0
theorem cmpI_neg (a b : Int) : cmpI a b < 0 ↔ a < b := by unfold cmpI; split <;> (try split) <;> omega
theorem cmpI_in (a b : Int) : -1 ≤ cmpI a b ∧ cmpI a b ≤ 1 := by unfold cmpI; split <;> (try split) <;> omega
set_option maxHeartbeats 400000 in
theorem compare_any (a b : Int) (w : World) : Calls Try.prog 47 #[.int .i64 a, .int .i64 b] w fun e w' => e = .returned (.int .i64 (cmpI a b)) ∧ w = w' := by
  by_cases g : a < b
  · rw [show cmpI a b = -1 from if_pos g]
    go_enter Try.func47, Try.ntmps47
    go_wp2_with (refine (isNaN_any _ _).mono ?_; rintro e w' ⟨rfl, rfl⟩)
    go_ret
    exact ⟨rfl, rfl⟩
  · by_cases g2 : b < a
    · rw [show cmpI a b = 1 by unfold cmpI; rw [if_neg g, if_pos g2]]
      go_enter Try.func47, Try.ntmps47
      go_wp2_with (refine (isNaN_any _ _).mono ?_; rintro e w' ⟨rfl, rfl⟩)
      go_ret
      exact ⟨rfl, rfl⟩
    · rw [show cmpI a b = 0 by unfold cmpI; rw [if_neg g, if_neg g2]]
      go_enter Try.func47, Try.ntmps47
      go_wp2_with (refine (isNaN_any _ _).mono ?_; rintro e w' ⟨rfl, rfl⟩)
      go_ret
      exact ⟨rfl, rfl⟩

set_option maxHeartbeats 1000000 in
theorem away_any (h s t r : Int) (p q u : Nat) (w : World) (hh : 1 ≤ h ∧ h ≤ 6000) (hs : 1 ≤ s ∧ s ≤ 2000) (ht : 1 ≤ t ∧ t ≤ 500) (hr : 1 ≤ r ∧ r ≤ 100)
    (c0 : w.cell? ⟨p, 0, none⟩ = some (.int .i64 h)) (c1 : w.cell? ⟨q, 0, none⟩ = some (.int .i64 t)) (c2 : w.cell? ⟨u, 0, none⟩ = some (.int .i64 s)) :
    Calls Try.prog 43 #[.int .i64 r, .pointer (some ⟨p, 0, none⟩), .pointer (some ⟨q, 0, none⟩), .pointer (some ⟨u, 0, none⟩)] w fun e w' => e = .returned (.int .i64 (farI h s t r)) ∧ ∃ m, w' = w.drewN m := by
  have td : h.tdiv r = h / r := Int.tdiv_eq_ediv_of_nonneg (by omega)
  have q0 : 0 ≤ h / r ∧ h / r ≤ h := ⟨Int.ediv_nonneg (by omega) (by omega), Int.ediv_le_self _ (by omega)⟩
  have w1 : IntKind.i64.wrap (h / r) = h / r := IntWalk.i64_in _ (by omega)
  have w5 : ¬ r = 0 := by omega
  have HM := Lib.hid (farI_max h s t r)
  have HP := Lib.hid (fun w => paceSum_any (h / r) t (by omega) (by omega) (by omega) (by omega) w)
  generalize h / r = y at *
  generalize farI h s t r = z at *
  go_enter Try.func43, Try.ntmps43
  go_wp2_with fail
  go_quiet (first | (go_at_call 44; refine Calls.quiet_of_same ((HP.out _).mono fun _ _ hx => ⟨hx.1, hx.2.symm⟩)))
  go_wp2_with fail
  all_goals go_ret
  all_goals exact ⟨ret_int (by have := HM.out; omega), _, rfl⟩

set_option maxHeartbeats 1000000 in
theorem nearer_any (h s t a b : Int) (p q u g : Nat) (w : World) (hh : 1 ≤ h ∧ h ≤ 6000) (hs : 1 ≤ s ∧ s ≤ 2000) (ht : 1 ≤ t ∧ t ≤ 500) (ha : 1 ≤ a ∧ a ≤ 100) (hb : 1 ≤ b ∧ b ≤ 100)
    (c0 : w.cell? ⟨p, 0, none⟩ = some (.int .i64 h)) (c1 : w.cell? ⟨q, 0, none⟩ = some (.int .i64 t)) (c2 : w.cell? ⟨u, 0, none⟩ = some (.int .i64 s))
    (c3 : w.cell? ⟨g, 0, none⟩ = some (.func (.func 43) #[] #[.pointer (some ⟨p, 0, none⟩), .pointer (some ⟨q, 0, none⟩), .pointer (some ⟨u, 0, none⟩)])) :
    Calls Try.prog 46 #[.int .i64 a, .int .i64 b, .pointer (some ⟨g, 0, none⟩)] w fun e w' => e = .returned (.int .i64 (cmpI (farI h s t a) (farI h s t b))) ∧ ∃ m, w' = w.drewN m := by
  have H1 := Lib.hid (fun n => away_any h s t a p q u (w.drewN n) hh hs ht ha (by simpa using c0) (by simpa using c1) (by simpa using c2))
  have H2 := Lib.hid (fun n => away_any h s t b p q u (w.drewN n) hh hs ht hb (by simpa using c0) (by simpa using c1) (by simpa using c2))
  generalize farI h s t a = y at *
  generalize farI h s t b = z at *
  clear c0 c1 c2
  go_enter Try.func46, Try.ntmps46
  go_wp2_with fail
  go_quiet (first | (go_at_call_of 43 (Value.int .i64 a); refine Calls.quiet_of (H1.out _)) | (go_at_call_of 43 (Value.int .i64 b); refine Calls.quiet_of (H2.out _)) | (go_at_call 47; refine Calls.quiet_of_same ((compare_any y z _).mono fun _ _ hx => ⟨hx.1, hx.2.symm⟩)))
  go_wp2_with fail
  go_ret
  exact ⟨rfl, _, rfl⟩

set_option maxHeartbeats 1000000 in
theorem minFunc_any (f : Int → Int) (A : Option Addr) (n c : Nat) (xs : List Int) (B : Nat) (g : Nat) (w : World) (hl : n = xs.length) (hr : Rd w B A c xs) (hn : 1 ≤ xs.length ∧ xs.length ≤ 1000) (hx : ∀ k, k < xs.length → 1 ≤ xs.getD k 0 ∧ xs.getD k 0 ≤ 100)
    (hf : ∀ a b m, 1 ≤ a ∧ a ≤ 100 → 1 ≤ b ∧ b ≤ 100 → Calls Try.prog 46 #[.int .i64 a, .int .i64 b, .pointer (some ⟨g, 0, none⟩)] (w.drewN m) fun e w' => e = .returned (.int .i64 (cmpI (f a) (f b))) ∧ ∃ m', w' = (w.drewN m).drewN m') :
    Calls Try.prog 45 #[.slice A n c, .func (.func 46) #[] #[.pointer (some ⟨g, 0, none⟩)]] w fun e w' => e = .returned (.int .i64 (mnF f xs xs.length)) ∧ ∃ m, w' = w.drewN m := by
  subst hl
  have HF := Lib.hid hf
  clear hf
  obtain ⟨b0, o0, rfl, hb0, hcell0⟩ := hr.at_ (k := 0) (by omega)
  have M1 := Lib.hid (mnF_one f xs)
  have hx0 := hx 0 (by omega)
  rw [Nat.add_zero] at hcell0
  generalize xs.getD 0 0 = x0 at hcell0 hx0 M1
  have hr2 := Lib.hid (show ∀ k, k < xs.length → w.cell? ⟨b0, o0 + k, none⟩ = some (.int .i64 (xs.getD k 0)) from fun k hk => by
    obtain ⟨b, o, e, _, hc⟩ := hr.at_ hk
    obtain ⟨rfl, rfl⟩ : b0 = b ∧ o0 = o := by injection e with e; injection e with e1 e2; exact ⟨e1, e2⟩
    exact hc)
  clear hr
  go_enter Try.func45, Try.ntmps45
  go_wp2_with fail
  go_loopw [5, 6] (fun v i wr => ∃ k : Nat, 1 ≤ k ∧ k ≤ xs.length ∧ i = .int .i64 k ∧ v = .int .i64 (mnF f xs k) ∧ ∃ m, wr = w.drewN m) (fun _ i _ => xs.length - (intOf i).toNat)
  case atStart => exact ⟨1, by omega, by omega, rfl, by rw [M1.out], 0, rfl⟩
  case round =>
    obtain ⟨k, hk1, hk, rfl, rfl, m, rfl⟩ := hrel
    by_cases hlt : k < xs.length
    · have hc := hr2.out k hlt
      have hx1 := hx k hlt
      have hm := mnF_in (f := f) (P := fun v => 1 ≤ v ∧ v ≤ 100) hx k hk1 hk
      have HC := Lib.hid (HF.out (xs.getD k 0) (mnF f xs k) m hx1 hm)
      have hn1 := cmpI_neg (f (xs.getD k 0)) (f (mnF f xs k))
      have hin := cmpI_in (f (xs.getD k 0)) (f (mnF f xs k))
      by_cases gl : f (xs.getD k 0) < f (mnF f xs k)
      · have HT := Lib.hid (mnF_yes gl)
        have hneg := hn1.2 gl
        clear hn1
        generalize cmpI (f (xs.getD k 0)) (f (mnF f xs k)) = d at *
        generalize xs.getD k 0 = x at *
        generalize mnF f xs k = y at *
        go_wp2_with fail
        refine HC.out.mono ?_
        rintro e w1 ⟨rfl, m2, rfl⟩
        go_wp2_with fail
        go_roundw
        case rel => exact ⟨k + 1, by omega, by omega, by go_num, by rw [HT.out], m + m2, by simp⟩
        case measure => simp [intOf]; omega
      · have HT := Lib.hid (mnF_no hk1 gl)
        have hneg : ¬ cmpI (f (xs.getD k 0)) (f (mnF f xs k)) < 0 := fun z => gl (hn1.1 z)
        clear hn1
        generalize cmpI (f (xs.getD k 0)) (f (mnF f xs k)) = d at *
        generalize xs.getD k 0 = x at *
        generalize mnF f xs k = y at *
        go_wp2_with fail
        refine HC.out.mono ?_
        rintro e w1 ⟨rfl, m2, rfl⟩
        go_wp2_with fail
        go_roundw
        case rel => exact ⟨k + 1, by omega, by omega, by go_num, by rw [HT.out], m + m2, by simp⟩
        case measure => simp [intOf]; omega
    · obtain rfl : k = xs.length := by omega
      go_wp2
      go_ret
      exact ⟨rfl, m, rfl⟩


def bsB (h s t : Int) : Bool := inB h 1 6000 && (inB s 1 2000 && (inB t 1 500 && !decide (bsR h s t 101 = 0)))
set_option maxHeartbeats 1000000 in
theorem implBest_any (h s t : Int) (w : World) :
    Calls Try.prog 21 #[.int .i64 h, .int .i64 s, .int .i64 t] w fun e w' => e = .returned (.tuple #[.int .i64 (orI (bsB h s t) (bsR h s t 101)), .bool (bsB h s t)]) ∧ Below w.heap.size w w' := by
  have HZ := bsR_list h s t 101
  cases hN : (inB h 1 6000 && !decide ((wrL h 1 250 101).length = 0))
  · have hE : wrR h 1 250 = [] := by
      cases g0 : inB h 1 6000
      · simp [wrR, wrB, g0]
      · have : (wrL h 1 250 101).length = 0 := by simpa [g0] using hN
        unfold wrR
        split
        · exact List.eq_nil_of_length_eq_zero this
        · rfl
    have hV : bsB h s t = false := by
      cases g0 : inB h 1 6000
      · simp [bsB, g0]
      · have : (wrL h 1 250 101).length = 0 := by simpa [g0] using hN
        simp [bsB, HZ.2.2 this]
    rw [hV, orI_no]
    clear hV hN HZ
    go_enter Try.func21, Try.ntmps21
    go_wp2_with fail
    refine (implWholeRisers_any _ _ _ _).mono ?_
    rintro e w1 ⟨v, rfl, ho, hb⟩
    rw [hE] at ho
    obtain ⟨A, c, rfl, hrd⟩ := ho.form
    generalize wrB h 1 250 = zB
    clear ho hrd hE
    have Bt : Below w.heap.size w w1 := ((((Below.refl _ _).alloc (Nat.le_refl _) _).alloc (by simp) _).alloc (by simp; omega) _).trans (hb.mono (by simp; omega))
    clear hb
    go_wp2_with fail
    go_ret2
    exact ⟨rfl, Bt⟩
  · have g0 : inB h 1 6000 = true := by simp at hN; exact hN.1
    have hL : ¬ (wrL h 1 250 101).length = 0 := by simp at hN; simpa using hN.2
    have b0 := inB_le g0
    have hW : wrB h 1 250 = true := by simp [wrB, g0]; decide
    have hE : wrR h 1 250 = wrL h 1 250 101 := by simp [wrR, hW]
    clear hN hW
    have hz : ¬ bsR h s t 101 = 0 := fun z => hL (HZ.2.1 z)
    cases g1 : inB s 1 2000
    · rw [show bsB h s t = false by simp [bsB, g1], orI_no]
      have H1 := Lib.hid g1
      clear g0 g1 HZ hz
      go_enter Try.func21, Try.ntmps21
      go_wp2_with fail
      refine (implWholeRisers_any _ _ _ _).mono ?_
      rintro e w1 ⟨v, rfl, ho, hb⟩
      rw [hE] at ho
      obtain ⟨A, c, rfl, hrd⟩ := ho.form
      have hs : w.heap.size + 3 ≤ w1.heap.size := by have := hb.size; simp at this; omega
      have c0 : w1.cell? ⟨w.heap.size, 0, none⟩ = some (.int .i64 h) := (((((Blk.new _ _ _).alloc _).alloc _).below hb (by simp; omega)).cell 0)
      have c1 : w1.cell? ⟨w.heap.size + 1, 0, none⟩ = some (.int .i64 s) := ((((Blk.new' (by simp)).alloc _).below hb (by simp)).cell 0)
      have c2 : w1.cell? ⟨w.heap.size + 1 + 1, 0, none⟩ = some (.int .i64 t) := (((Blk.new' (by simp)).below hb (by simp)).cell 0)
      have Bt : Below w.heap.size w w1 := ((((Below.refl _ _).alloc (Nat.le_refl _) _).alloc (by simp) _).alloc (by simp; omega) _).trans (hb.mono (by simp; omega))
      generalize wrB h 1 250 = zB
      clear hb ho hE
      generalize wrL h 1 250 101 = xs at *
      have n0 : ¬ (xs.length : Int) = 0 := by omega
      go_wp2_with fail
      refine (isPaceSum_any _ _).mono ?_
      rintro e w' ⟨rfl, rfl⟩
      rw [H1.out]
      go_wp2_with fail
      go_ret2
      exact ⟨rfl, Bt⟩
    · cases g2 : inB t 1 500
      · rw [show bsB h s t = false by simp [bsB, g2], orI_no]
        have H1 := Lib.hid g1
        have H2 := Lib.hid g2
        clear g0 g1 g2 HZ hz
        go_enter Try.func21, Try.ntmps21
        go_wp2_with fail
        refine (implWholeRisers_any _ _ _ _).mono ?_
        rintro e w1 ⟨v, rfl, ho, hb⟩
        rw [hE] at ho
        obtain ⟨A, c, rfl, hrd⟩ := ho.form
        have hs : w.heap.size + 3 ≤ w1.heap.size := by have := hb.size; simp at this; omega
        have c0 : w1.cell? ⟨w.heap.size, 0, none⟩ = some (.int .i64 h) := (((((Blk.new _ _ _).alloc _).alloc _).below hb (by simp; omega)).cell 0)
        have c1 : w1.cell? ⟨w.heap.size + 1, 0, none⟩ = some (.int .i64 s) := ((((Blk.new' (by simp)).alloc _).below hb (by simp)).cell 0)
        have c2 : w1.cell? ⟨w.heap.size + 1 + 1, 0, none⟩ = some (.int .i64 t) := (((Blk.new' (by simp)).below hb (by simp)).cell 0)
        have Bt : Below w.heap.size w w1 := ((((Below.refl _ _).alloc (Nat.le_refl _) _).alloc (by simp) _).alloc (by simp; omega) _).trans (hb.mono (by simp; omega))
        generalize wrB h 1 250 = zB
        clear hb ho hE
        generalize wrL h 1 250 101 = xs at *
        have n0 : ¬ (xs.length : Int) = 0 := by omega
        go_wp2_with fail
        refine (isPaceSum_any _ _).mono ?_
        rintro e w' ⟨rfl, rfl⟩
        rw [H1.out]
        go_wp2_with fail
        refine (isTread_any _ _).mono ?_
        rintro e w' ⟨rfl, rfl⟩
        rw [H2.out]
        go_wp2_with fail
        go_ret2
        exact ⟨rfl, Bt⟩
      · have b1 := inB_le g1
        have b2 := inB_le g2
        rw [show bsB h s t = true by simp [bsB, g0, g1, g2, hz], orI_yes]
        have H1 := Lib.hid g1
        have H2 := Lib.hid g2
        have HN := Lib.hid HZ.1
        have HM := Lib.hid (fun j hj => wrL_mem (h := h) (l := 1) (m := 250) (r := 101) (j := j) hj)
        have HLen := wrL_length h 1 250 101
        clear g0 g1 g2 HZ hz
        generalize bsR h s t 101 = y at *
        go_enter Try.func21, Try.ntmps21
        go_wp2_with fail
        refine (implWholeRisers_any _ _ _ _).mono ?_
        rintro e w1 ⟨v, rfl, ho, hb⟩
        rw [hE] at ho
        obtain ⟨A, c, rfl, hrd⟩ := ho.form
        have hs : w.heap.size + 3 ≤ w1.heap.size := by have := hb.size; simp at this; omega
        have c0 : w1.cell? ⟨w.heap.size, 0, none⟩ = some (.int .i64 h) := (((((Blk.new _ _ _).alloc _).alloc _).below hb (by simp; omega)).cell 0)
        have c1 : w1.cell? ⟨w.heap.size + 1, 0, none⟩ = some (.int .i64 s) := ((((Blk.new' (by simp)).alloc _).below hb (by simp)).cell 0)
        have c2 : w1.cell? ⟨w.heap.size + 1 + 1, 0, none⟩ = some (.int .i64 t) := (((Blk.new' (by simp)).below hb (by simp)).cell 0)
        have Bt : Below w.heap.size w w1 := ((((Below.refl _ _).alloc (Nat.le_refl _) _).alloc (by simp) _).alloc (by simp; omega) _).trans (hb.mono (by simp; omega))
        generalize wrB h 1 250 = zB
        clear hb ho hE
        generalize wrL h 1 250 101 = xs at *
        have n0 : ¬ (xs.length : Int) = 0 := by omega
        go_wp2_with fail
        refine (isPaceSum_any _ _).mono ?_
        rintro e w' ⟨rfl, rfl⟩
        rw [H1.out]
        have k0 : (w1.alloc (.cells #[.nilFunc] 49)).cell? ⟨w1.heap.size, 0, none⟩ = some .nilFunc := (Blk.new _ _ _).cell 0
        have k1 : (w1.alloc (.cells #[.nilFunc] 49)).frozen? ⟨w1.heap.size, 0, none⟩ = false := (Blk.new _ _ _).frozen 0
        go_wp2_with fail
        refine (isTread_any _ _).mono ?_
        rintro e w' ⟨rfl, rfl⟩
        rw [H2.out]
        go_wp2_with fail
        refine (minFunc_any (farI h s t) _ _ _ xs w1.heap.size w1.heap.size (w1.alloc (.cells #[.func (.func 43) #[] #[.pointer (some ⟨w.heap.size, 0, none⟩), .pointer (some ⟨w.heap.size + 1 + 1, 0, none⟩), .pointer (some ⟨w.heap.size + 1, 0, none⟩)]] 49)) rfl (hrd.below (below_alloc _ _) (Nat.le_refl _)) ⟨by omega, by omega⟩ (fun k hk => by have := HM.out k hk; omega) (fun a b m ha hb => nearer_any h s t a b w.heap.size (w.heap.size + 1 + 1) (w.heap.size + 1) w1.heap.size _ b0 b1 b2 ha hb
          (((below_alloc w1 _).cell (p := ⟨w.heap.size, 0, none⟩) (by show w.heap.size < w1.heap.size; omega)).trans c0) (((below_alloc w1 _).cell (p := ⟨w.heap.size + 1 + 1, 0, none⟩) (by show w.heap.size + 1 + 1 < w1.heap.size; omega)).trans c2)
          (((below_alloc w1 _).cell (p := ⟨w.heap.size + 1, 0, none⟩) (by show w.heap.size + 1 < w1.heap.size; omega)).trans c1) ((Blk.new w1 _ _).cell 0))).mono ?_
        rintro e w2 ⟨rfl, m, rfl⟩
        rw [HN.out]
        go_wp2_with fail
        go_ret2
        exact ⟨rfl, Below.drewN' (Bt.alloc (by omega) _) _⟩

end Go.Proofs.Ytdeckfdmhpiokaa
