/- Contracts: flights for a height, on both sides. -/
import Derived.Test.YtdeckfdmhpiokaaRiW
import Derived.Test.YtdeckfdmhpiokaaGFl
namespace Go.Proofs.Ytdeckfdmhpiokaa
open Go.RowKit

theorem wrL_ok {h l m : Int} : ∀ {r : Nat} {j : Nat}, j < (wrL h l m r).length → 1 ≤ (wrL h l m r).getD j 0 ∧ (wrL h l m r).getD j 0 < r ∧ h % (wrL h l m r).getD j 0 = 0 ∧ l ≤ h / (wrL h l m r).getD j 0 ∧ h / (wrL h l m r).getD j 0 ≤ m
  | 0, j, hj => absurd hj (by simp [wrL])
  | r + 1, j, hj => by
    by_cases g : wrOk h l m r = true
    · rw [wrL_yes g] at hj ⊢
      have hr : 1 ≤ r ∧ h % (r : Int) = 0 ∧ inB (h / (r : Int)) l m = true := by simpa [wrOk] using g
      have hb := inB_le hr.2.2
      by_cases hj2 : j < (wrL h l m r).length
      · rw [show (wrL h l m r ++ [(r : Int)]).getD j 0 = (wrL h l m r).getD j 0 by simp [List.getD_eq_getElem?_getD, List.getElem?_append_left hj2]]
        have := wrL_ok hj2
        omega
      · have : j = (wrL h l m r).length := by simp at hj; omega
        subst this
        simp
        omega
    · rw [wrL_no (by simpa using g)] at hj ⊢
      have := wrL_ok hj
      omega
def pickB (h run s x : Int) : Bool := fliB x (h / x) (s - 2 * (h / x)) && decide ((x - 1) * (s - 2 * (h / x)) ≤ run)
def triF (h s x : Int) : Tri := (x, h / x, s - 2 * (h / x))
/-- the flights among the first k numbers of a list -/
def fmL (h run s : Int) (xs : List Int) : Nat → List Tri
  | 0 => []
  | k + 1 => if pickB h run s (xs.getD k 0) then fmL h run s xs k ++ [triF h s (xs.getD k 0)] else fmL h run s xs k
theorem fmL_yes {h run s : Int} {xs : List Int} {k : Nat} (p : pickB h run s (xs.getD k 0) = true) : fmL h run s xs (k + 1) = fmL h run s xs k ++ [triF h s (xs.getD k 0)] := by rw [fmL, if_pos p]
theorem fmL_no {h run s : Int} {xs : List Int} {k : Nat} (p : pickB h run s (xs.getD k 0) = false) : fmL h run s xs (k + 1) = fmL h run s xs k := by rw [fmL, if_neg (by rw [p]; simp)]
theorem fmL_length (h run s : Int) (xs : List Int) : ∀ k, (fmL h run s xs k).length ≤ k
  | 0 => Nat.le_refl _
  | k + 1 => by
    have := fmL_length h run s xs k
    unfold fmL
    split <;> simp <;> omega
theorem fmL_app (h run s : Int) (xs ys : List Int) : ∀ k, k ≤ xs.length → fmL h run s (xs ++ ys) k = fmL h run s xs k
  | 0, _ => rfl
  | k + 1, hk => by
    have e : (xs ++ ys).getD k 0 = xs.getD k 0 := by simp [List.getD_eq_getElem?_getD, List.getElem?_append_left (show k < xs.length by omega)]
    unfold fmL
    rw [fmL_app h run s xs ys k (by omega), e]
/-- the flights of the numbers below r -/
def ffL (h run s : Int) : Nat → List Tri
  | 0 => []
  | r + 1 => if wrOk h 1 250 r && pickB h run s r then ffL h run s r ++ [triF h s r] else ffL h run s r
theorem ffL_yes {h run s : Int} {r : Nat} (hr : 1 ≤ r) (e : h % (r : Int) = 0) (p : pickB h run s r = true) : ffL h run s (r + 1) = ffL h run s r ++ [triF h s r] := by
  rw [ffL, if_pos]
  have hf : fliB r (h / r) (s - 2 * (h / r)) = true := by simp [pickB] at p; exact p.1
  have := fliB_le hf
  have w : wrOk h 1 250 r = true := by simp [wrOk, inB, hr, e]; omega
  rw [w, p]; rfl
theorem ffL_no1 {h run s : Int} {r : Nat} (e : ¬ h % (r : Int) = 0) : ffL h run s (r + 1) = ffL h run s r := by rw [ffL, if_neg (by simp [wrOk, e])]
theorem ffL_no2 {h run s : Int} {r : Nat} (p : pickB h run s r = false) : ffL h run s (r + 1) = ffL h run s r := by rw [ffL, if_neg (by simp [p])]
theorem ffL_length (h run s : Int) : ∀ r, (ffL h run s r).length ≤ r
  | 0 => Nat.le_refl _
  | r + 1 => by
    have := ffL_length h run s r
    unfold ffL
    split <;> simp <;> omega
theorem ff_fm (h run s : Int) : ∀ r : Nat, fmL h run s (wrL h 1 250 r) (wrL h 1 250 r).length = ffL h run s r
  | 0 => rfl
  | r + 1 => by
    have ih := ff_fm h run s r
    by_cases g : wrOk h 1 250 r = true
    · rw [wrL_yes g, List.length_append, List.length_singleton]
      have e3 : (wrL h 1 250 r ++ [(r : Int)]).getD (wrL h 1 250 r).length 0 = r := by simp [List.getD_eq_getElem?_getD]
      have e4 := fmL_app h run s (wrL h 1 250 r) [(r : Int)] _ (Nat.le_refl _)
      rw [fmL, e3, e4, ih, ffL, g]
      rfl
    · have g2 : wrOk h 1 250 r = false := by simpa using g
      rw [wrL_no g2, ih, ffL, g2]
      rfl
def ffB (h run s : Int) : Bool := inB h 1 6000 && (inB run 0 50000 && inB s 1 2000)
def ffR (h run s : Int) : List Tri := if ffB h run s then ffL h run s 101 else []
theorem ffR_length (h run s : Int) : (ffR h run s).length ≤ 1048576 := by
  unfold ffR
  split
  · have := ffL_length h run s 101; omega
  · simp

set_option maxHeartbeats 2000000 in
theorem specFlightsFor_any (h run s : Int) (w : World) :
    Calls Try.prog 24 #[.int .i64 h, .int .i64 run, .int .i64 s] w (ListsF w (ffR h run s) (ffB h run s)) := by
  cases g0 : inB h 1 6000
  · have hV : ffB h run s = false := by simp [ffB, g0]
    rw [show ffR h run s = [] by simp [ffR, hV], hV]
    clear hV
    have H0 := Lib.hid g0
    clear g0
    go_enter Try.func24, Try.ntmps24
    go_wp2_with fail
    refine (riHigh_any _ _).mono ?_
    rintro e w' ⟨rfl, rfl⟩
    rw [H0.out]
    go_wp2_with fail
    go_ret2
    exact ⟨_, rfl, OwnF.nil _ _, Below.refl _ _⟩
  · have b0 := inB_le g0
    cases g1 : inB run 0 50000
    · have hV : ffB h run s = false := by simp [ffB, g1]
      rw [show ffR h run s = [] by simp [ffR, hV], hV]
      clear hV
      have H0 := Lib.hid g0
      clear g0
      have H1 := Lib.hid g1
      clear g1
      go_enter Try.func24, Try.ntmps24
      go_wp2_with fail
      refine (riHigh_any _ _).mono ?_
      rintro e w' ⟨rfl, rfl⟩
      rw [H0.out]
      go_wp2_with fail
      refine (l1In_any _ _ _ _).mono ?_
      rintro e w' ⟨rfl, rfl⟩
      rw [H1.out]
      go_wp2_with fail
      go_ret2
      exact ⟨_, rfl, OwnF.nil _ _, Below.refl _ _⟩
    · have b1 := inB_le g1
      cases g2 : inB s 1 2000
      · have hV : ffB h run s = false := by simp [ffB, g2]
        rw [show ffR h run s = [] by simp [ffR, hV], hV]
        clear hV
        have H0 := Lib.hid g0
        clear g0
        have H1 := Lib.hid g1
        clear g1
        have H2 := Lib.hid g2
        clear g2
        go_enter Try.func24, Try.ntmps24
        go_wp2_with fail
        refine (riHigh_any _ _).mono ?_
        rintro e w' ⟨rfl, rfl⟩
        rw [H0.out]
        go_wp2_with fail
        refine (l1In_any _ _ _ _).mono ?_
        rintro e w' ⟨rfl, rfl⟩
        rw [H1.out]
        go_wp2_with fail
        refine (l1In_any _ _ _ _).mono ?_
        rintro e w' ⟨rfl, rfl⟩
        rw [H2.out]
        go_wp2_with fail
        go_ret2
        exact ⟨_, rfl, OwnF.nil _ _, Below.refl _ _⟩
      · have b2 := inB_le g2
        have hV : ffB h run s = true := by simp [ffB, g0, g1, g2]
        rw [show ffR h run s = ffL h run s 101 by simp [ffR, hV], hV]
        clear hV
        have H0 := Lib.hid g0
        clear g0
        have H1 := Lib.hid g1
        clear g1
        have H2 := Lib.hid g2
        clear g2
        go_enter Try.func24, Try.ntmps24
        go_wp2_with fail
        refine (riHigh_any _ _).mono ?_
        rintro e w' ⟨rfl, rfl⟩
        rw [H0.out]
        go_wp2_with fail
        refine (l1In_any _ _ _ _).mono ?_
        rintro e w' ⟨rfl, rfl⟩
        rw [H1.out]
        go_wp2_with fail
        refine (l1In_any _ _ _ _).mono ?_
        rintro e w' ⟨rfl, rfl⟩
        rw [H2.out]
        go_wp2_with fail
        go_loopw [8, 9] (fun v i wr => ∃ r : Nat, 1 ≤ r ∧ r ≤ 101 ∧ i = .int .i64 r ∧ OwnF wr w.heap.size v (ffL h run s r) ∧ Below w.heap.size w wr) (fun _ i _ => (101 - intOf i).toNat)
        case atStart => exact ⟨1, by omega, by omega, rfl, OwnF.nil _ _, Below.refl _ _⟩
        case round =>
          obtain ⟨r, hr, hk, rfl, hown, hbw⟩ := hrel
          have hz : w.heap.size ≤ wr.heap.size := hbw.size
          by_cases hlt : r < 101
          · have hl := ffL_length h run s r
            have tm : h.tmod r = h % r := Int.tmod_eq_emod_of_nonneg (by omega)
            have td : h.tdiv r = h / r := Int.tdiv_eq_ediv_of_nonneg (by omega)
            have z0 : ¬ (r : Int) = 0 := by omega
            have z00 : ¬ r = 0 := by omega
            have q0 : 0 ≤ h / r ∧ h / r ≤ h := ⟨Int.ediv_nonneg (by omega) (by omega), Int.ediv_le_self _ (by omega)⟩
            have q1 : 0 ≤ h % r := Int.emod_nonneg _ z0
            have q2 : h % r < r := Int.emod_lt_of_pos _ (by omega)
            have u1 : IntKind.i64.wrap (h / (r : Int)) = h / (r : Int) := IntWalk.i64_in _ (by omega)
            have u2 : IntKind.i64.wrap (2 * (h / (r : Int))) = 2 * (h / (r : Int)) := IntWalk.i64_in _ (by omega)
            have u3 : IntKind.i64.wrap (s - 2 * (h / (r : Int))) = s - 2 * (h / (r : Int)) := IntWalk.i64_in _ (by omega)
            have X := (Blk.new wr 24 #[.int .i64 r, .int .i64 (h / r), .int .i64 (s - 2 * (h / r))])
            have RG := Lib.hid (fun u => riGood_any (r : Int) (h / r) (s - 2 * (h / r)) u)
            go_wp2_with fail
            go_region_with (fail)
            have XD := X.drew'
            have OD := (hown.alloc (.cells #[.int .i64 (r : Int), .int .i64 (h / (r : Int)), .int .i64 (s - 2 * (h / (r : Int)))] 24)).drew1
            have BD := (hbw.alloc hz (.cells #[.int .i64 (r : Int), .int .i64 (h / (r : Int)), .int .i64 (s - 2 * (h / (r : Int)))] 24)).drew
            generalize (wr.alloc (.cells #[.int .i64 (r : Int), .int .i64 (h / (r : Int)), .int .i64 (s - 2 * (h / (r : Int)))] 24)).drew = wd at *
            have ZD : wr.heap.size < wd.heap.size := XD.lt
            obtain ⟨x0, x1, x2⟩ := XD.three
            clear X hown hbw u1 u2 u3
            by_cases e : h % (r : Int) = 0
            · cases gf : fliB (r : Int) (h / (r : Int)) (s - 2 * (h / (r : Int)))
              · have HT := Lib.hid (ffL_no2 (h := h) (run := run) (s := s) (r := r) (by simp [pickB, gf]))
                rw [gf] at RG
                clear gf
                go_wp2_with fail
                refine (RG.out _).mono ?_
                rintro e w1 ⟨rfl, hb⟩
                go_wp2_with fail
                go_roundw
                case rel => exact ⟨r + 1, by omega, by omega, by go_num, by rw [HT.out]; exact OD.below hb (Nat.le_refl _), BD.trans (hb.mono (by omega))⟩
                case measure => simp [intOf]; omega
              · have bf := fliB_le gf
                obtain ⟨m0, m1⟩ := mul_bd (a := (r : Int) - 1) (A := 100) (b := s - 2 * (h / (r : Int))) (B := 500) (by omega) (by omega) (by omega) (by omega)
                by_cases gr : ((r : Int) - 1) * (s - 2 * (h / (r : Int))) ≤ run
                · have HT := Lib.hid (ffL_yes hr e (show pickB h run s r = true by simp [pickB, gf, gr]))
                  rw [gf] at RG
                  generalize hL : ffL h run s r = zs at *
                  clear hL gf
                  go_wp2_with fail
                  refine (RG.out _).mono ?_
                  rintro e w1 ⟨rfl, hb⟩
                  have X1 := XD.below hb ZD
                  obtain ⟨y0, y1, y2⟩ := X1.three
                  have O1 := OD.below hb (Nat.le_refl _)
                  have B1 := BD.trans (hb.mono (by omega))
                  have Z1 : wd.heap.size ≤ w1.heap.size := hb.size
                  go_wp2_with (at_builtin; refine wpList_pushF _ rfl _ _ rfl w.heap.size _ zs rfl (O1.alloc _) w1.heap.size (triF h s r) rfl (by simp [triF]) (by simp [triF]) (by simp [triF]) (by omega) (by simp; omega) ?_; intro v2 w2 hown1 hg1)
                  go_roundw
                  case rel => exact ⟨r + 1, by omega, by omega, by go_num, by rw [HT.out]; exact hown1, (B1.alloc (by omega) _).trans hg1⟩
                  case measure => simp [intOf]; omega
                · have HT := Lib.hid (ffL_no2 (h := h) (run := run) (s := s) (r := r) (by simp [pickB, gf, gr]))
                  rw [gf] at RG
                  clear gf
                  go_wp2_with fail
                  refine (RG.out _).mono ?_
                  rintro e w1 ⟨rfl, hb⟩
                  obtain ⟨y0, y1, y2⟩ := (XD.below hb ZD).three
                  go_wp2_with fail
                  go_roundw
                  case rel => exact ⟨r + 1, by omega, by omega, by go_num, by rw [HT.out]; exact OD.below hb (Nat.le_refl _), BD.trans (hb.mono (by omega))⟩
                  case measure => simp [intOf]; omega
            · have HT := Lib.hid (ffL_no1 (h := h) (run := run) (s := s) (r := r) e)
              go_wp2_with fail
              go_roundw
              case rel => exact ⟨r + 1, by omega, by omega, by go_num, by rw [HT.out]; exact OD, BD⟩
              case measure => simp [intOf]; omega
          · obtain rfl : r = 101 := by omega
            go_wp2
            go_ret2
            exact ⟨_, rfl, hown, hbw⟩

set_option maxHeartbeats 2000000 in
theorem implFlightsFor_any (h run s : Int) (w : World) :
    Calls Try.prog 25 #[.int .i64 h, .int .i64 run, .int .i64 s] w (ListsF w (ffR h run s) (ffB h run s)) := by
  cases g0 : inB h 1 6000
  · have hV : ffB h run s = false := by simp [ffB, g0]
    rw [show ffR h run s = [] by simp [ffR, hV], hV]
    have hw : wrB h 1 250 = false := by simp [wrB, g0]
    have HW := Lib.hid hw
    have hE : wrR h 1 250 = [] := by simp [wrR, hw]
    clear hV hw g0
    go_enter Try.func25, Try.ntmps25
    go_wp2_with fail
    refine (implWholeRisers_any _ _ _ _).mono ?_
    rintro e w1 ⟨v, rfl, ho, hb⟩
    rw [hE] at ho
    obtain ⟨A, c, rfl, hrd⟩ := ho.form
    rw [HW.out]
    have Bt : Below w.heap.size w w1 := hb
    have hz1 : w.heap.size ≤ w1.heap.size := hb.size
    clear hb ho hE
    go_wp2_with fail
    go_ret2
    exact ⟨_, rfl, OwnF.nil _ _, Bt⟩
  · have hw : wrB h 1 250 = true := by simp [wrB, g0]; decide
    have HW := Lib.hid hw
    have hE : wrR h 1 250 = wrL h 1 250 101 := by simp [wrR, hw]
    have b0 := inB_le g0
    clear hw
    cases g1 : inB run 0 50000
    · have hV : ffB h run s = false := by simp [ffB, g1]
      rw [show ffR h run s = [] by simp [ffR, hV], hV]
      have H1 := Lib.hid g1
      clear hV g0 g1
      go_enter Try.func25, Try.ntmps25
      go_wp2_with fail
      refine (implWholeRisers_any _ _ _ _).mono ?_
      rintro e w1 ⟨v, rfl, ho, hb⟩
      rw [hE] at ho
      obtain ⟨A, c, rfl, hrd⟩ := ho.form
      rw [HW.out]
      have Bt : Below w.heap.size w w1 := hb
      have hz1 : w.heap.size ≤ w1.heap.size := hb.size
      clear hb ho hE
      go_wp2_with fail
      refine (isRun_any _ _).mono ?_
      rintro e w' ⟨rfl, rfl⟩
      rw [H1.out]
      go_wp2_with fail
      go_ret2
      exact ⟨_, rfl, OwnF.nil _ _, Bt⟩
    · cases g2 : inB s 1 2000
      · have hV : ffB h run s = false := by simp [ffB, g2]
        rw [show ffR h run s = [] by simp [ffR, hV], hV]
        have H1 := Lib.hid g1
        have H2 := Lib.hid g2
        clear hV g0 g1 g2
        go_enter Try.func25, Try.ntmps25
        go_wp2_with fail
        refine (implWholeRisers_any _ _ _ _).mono ?_
        rintro e w1 ⟨v, rfl, ho, hb⟩
        rw [hE] at ho
        obtain ⟨A, c, rfl, hrd⟩ := ho.form
        rw [HW.out]
        have Bt : Below w.heap.size w w1 := hb
        have hz1 : w.heap.size ≤ w1.heap.size := hb.size
        clear hb ho hE
        go_wp2_with fail
        refine (isRun_any _ _).mono ?_
        rintro e w' ⟨rfl, rfl⟩
        rw [H1.out]
        go_wp2_with fail
        refine (isPaceSum_any _ _).mono ?_
        rintro e w' ⟨rfl, rfl⟩
        rw [H2.out]
        go_wp2_with fail
        go_ret2
        exact ⟨_, rfl, OwnF.nil _ _, Bt⟩
      · have hV : ffB h run s = true := by simp [ffB, g0, g1, g2]
        rw [show ffR h run s = ffL h run s 101 by simp [ffR, hV], hV, ← ff_fm h run s 101]
        have H1 := Lib.hid g1
        have H2 := Lib.hid g2
        have b1 := inB_le g1
        have b2 := inB_le g2
        have HM := Lib.hid (fun j hj => wrL_ok (h := h) (l := 1) (m := 250) (r := 101) (j := j) hj)
        have HLen := wrL_length h 1 250 101
        clear hV g0 g1 g2
        go_enter Try.func25, Try.ntmps25
        go_wp2_with fail
        refine (implWholeRisers_any _ _ _ _).mono ?_
        rintro e w1 ⟨v, rfl, ho, hb⟩
        rw [hE] at ho
        obtain ⟨A, c, rfl, hrd⟩ := ho.form
        rw [HW.out]
        have Bt : Below w.heap.size w w1 := hb
        have hz1 : w.heap.size ≤ w1.heap.size := hb.size
        clear hb ho hE
        generalize wrL h 1 250 101 = xs at *
        go_wp2_with fail
        refine (isRun_any _ _).mono ?_
        rintro e w' ⟨rfl, rfl⟩
        rw [H1.out]
        go_wp2_with fail
        refine (isPaceSum_any _ _).mono ?_
        rintro e w' ⟨rfl, rfl⟩
        rw [H2.out]
        go_wp2_with fail
        go_loopw [10, 35] (fun v i wr => ∃ k : Nat, k ≤ xs.length ∧ i = .int .i64 k ∧ OwnF wr w1.heap.size v (fmL h run s xs k) ∧ Below w1.heap.size w1 wr) (fun _ i _ => xs.length - (intOf i).toNat)
        case atStart => exact ⟨0, Nat.zero_le _, rfl, OwnF.nil _ _, Below.refl _ _⟩
        case round =>
          obtain ⟨k, hk, rfl, hown, hbw⟩ := hrel
          have hz : w1.heap.size ≤ wr.heap.size := hbw.size
          by_cases hlt : k < xs.length
          · obtain ⟨b, o, rfl, hb0, hcell⟩ := (hrd.below hbw (Nat.le_refl _)).at_ hlt
            have hm := HM.out k hlt
            have hl := fmL_length h run s xs k
            have HY := Lib.hid (fmL_yes (h := h) (run := run) (s := s) (xs := xs) (k := k))
            have HN := Lib.hid (fmL_no (h := h) (run := run) (s := s) (xs := xs) (k := k))
            generalize xs.getD k 0 = x at *
            have td : h.tdiv x = h / x := Int.tdiv_eq_ediv_of_nonneg (by omega)
            have z0 : ¬ x = 0 := by omega
            have hx : inB x 1 100 = true := inB_yes (by omega) (by omega)
            have hr : inB (h / x) 1 250 = true := inB_yes (by omega) (by omega)
            have hs : inB s 1 2000 = true := inB_yes (by omega) (by omega)
            have TF := Lib.hid (fun u => implTreadFor_any (h / x) s u)
            generalize hL : fmL h run s xs k = zs at *
            clear hL
            cases gt : inB (s - 2 * (h / x)) 1 500
            · have hp : pickB h run s x = false := by simp [pickB, fliB, gt]
              have HT := Lib.hid (HN.out hp)
              have ht : treadB (h / x) s = false := by simp [treadB, gt]
              rw [ht, orI_no] at TF
              have RU := Lib.hid (fun u => implRunOf_any x (h / x) 0 u)
              rw [show fliB x (h / x) 0 = false by simp [fliB, inB]] at RU
              clear hp ht gt HY HN
              go_wp2_with fail
              refine (TF.out _).mono ?_
              rintro e w3 ⟨rfl, hb3⟩
              have X3 : Blk w3 wr.heap.size 24 #[.int .i64 x, .int .i64 (h / x), .int .i64 0] := (Blk.new wr _ _).below hb3 (by simp)
              have O3 : OwnF w3 w1.heap.size _ zs := (hown.alloc _).below hb3 (Nat.le_refl _)
              have B3 : Below w1.heap.size w1 w3 := (hbw.alloc hz _).trans (hb3.mono (by simp; omega))
              have Z3 : wr.heap.size < w3.heap.size := X3.lt
              obtain ⟨p0, p1, p2⟩ := X3.three
              have pf := X3.frozen 2
              have X3' : Blk (w3.setCell ⟨wr.heap.size, 2, none⟩ (.int .i64 0)) wr.heap.size 24 #[.int .i64 x, .int .i64 (h / x), .int .i64 0] := X3.set_ 2 _
              obtain ⟨q0, q1, q2⟩ := X3'.three
              have B3' : Below w1.heap.size w1 (w3.setCell ⟨wr.heap.size, 2, none⟩ (.int .i64 0)) := B3.setCell (by show w1.heap.size ≤ wr.heap.size; omega) _
              have OS : OwnF (w3.setCell ⟨wr.heap.size, 2, none⟩ (.int .i64 0)) w1.heap.size _ zs := O3.turned (turned_set1 w3 wr.heap.size 2 (.int .i64 0)) (fun g hv hm9 => by have := (hown.lt g hv).2; simp at hm9; omega)
              have ZS : wr.heap.size < (w3.setCell ⟨wr.heap.size, 2, none⟩ (.int .i64 0)).heap.size := X3'.lt
              go_wp2_with fail
              refine (RU.out _).mono ?_
              rintro e w4 ⟨rfl, hb4⟩
              have X4 := X3'.below hb4 ZS
              have O4 := OS.below hb4 (Nat.le_refl _)
              have B4 := B3'.trans (hb4.mono (by omega))
              have Z4 : wr.heap.size < w4.heap.size := X4.lt
              clear p0 p1 p2 pf q0 q1 q2
              obtain ⟨q0, q1, q2⟩ := X4.three
              go_wp2_with fail
              go_roundw
              case rel => exact ⟨k + 1, by omega, by go_num, by rw [HT.out]; exact O4, B4⟩
              case measure => simp [intOf]; omega
            · have bt := inB_le gt
              have ht : treadB (h / x) s = true := by simp [treadB, gt, hr, hs]
              rw [ht, orI_yes] at TF
              have hf : fliB x (h / x) (s - 2 * (h / x)) = true := by simp [fliB, hx, hr, gt]
              have RU := Lib.hid (fun u => implRunOf_any x (h / x) (s - 2 * (h / x)) u)
              rw [hf, orI_yes] at RU
              by_cases gr : (x - 1) * (s - 2 * (h / x)) ≤ run
              · have hp : pickB h run s x = true := by simp [pickB, hf, gr]
                have HT := Lib.hid (HY.out hp)
                clear hp ht hf HY HN
                go_wp2_with fail
                refine (TF.out _).mono ?_
                rintro e w3 ⟨rfl, hb3⟩
                have X3 : Blk w3 wr.heap.size 24 #[.int .i64 x, .int .i64 (h / x), .int .i64 0] := (Blk.new wr _ _).below hb3 (by simp)
                have O3 : OwnF w3 w1.heap.size _ zs := (hown.alloc _).below hb3 (Nat.le_refl _)
                have B3 : Below w1.heap.size w1 w3 := (hbw.alloc hz _).trans (hb3.mono (by simp; omega))
                have Z3 : wr.heap.size < w3.heap.size := X3.lt
                obtain ⟨p0, p1, p2⟩ := X3.three
                have pf := X3.frozen 2
                have X3' : Blk (w3.setCell ⟨wr.heap.size, 2, none⟩ (.int .i64 (s - 2 * (h / x)))) wr.heap.size 24 #[.int .i64 x, .int .i64 (h / x), .int .i64 (s - 2 * (h / x))] := X3.set_ 2 _
                obtain ⟨q0, q1, q2⟩ := X3'.three
                have B3' : Below w1.heap.size w1 (w3.setCell ⟨wr.heap.size, 2, none⟩ (.int .i64 (s - 2 * (h / x)))) := B3.setCell (by show w1.heap.size ≤ wr.heap.size; omega) _
                have OS : OwnF (w3.setCell ⟨wr.heap.size, 2, none⟩ (.int .i64 (s - 2 * (h / x)))) w1.heap.size _ zs := O3.turned (turned_set1 w3 wr.heap.size 2 (.int .i64 (s - 2 * (h / x)))) (fun g hv hm9 => by have := (hown.lt g hv).2; simp at hm9; omega)
                have ZS : wr.heap.size < (w3.setCell ⟨wr.heap.size, 2, none⟩ (.int .i64 (s - 2 * (h / x)))).heap.size := X3'.lt
                go_wp2_with fail
                refine (RU.out _).mono ?_
                rintro e w4 ⟨rfl, hb4⟩
                have X4 := X3'.below hb4 ZS
                have O4 := OS.below hb4 (Nat.le_refl _)
                have B4 := B3'.trans (hb4.mono (by omega))
                have Z4 : wr.heap.size < w4.heap.size := X4.lt
                clear p0 p1 p2 pf q0 q1 q2
                obtain ⟨q0, q1, q2⟩ := X4.three
                have z9 : w1.heap.size ≤ w4.heap.size := by omega
                go_wp2_with (at_builtin; refine wpList_pushF _ rfl _ _ rfl w1.heap.size _ zs rfl (O4.alloc _) w4.heap.size (triF h s x) rfl (by simp [triF]) (by simp [triF]) (by simp [triF]) (by omega) (by simp; omega) ?_; intro v5 w5 hown1 hg1)
                go_roundw
                case rel => exact ⟨k + 1, by omega, by go_num, by rw [HT.out]; exact hown1, (B4.alloc z9 _).trans hg1⟩
                case measure => simp [intOf]; omega
              · have hp : pickB h run s x = false := by simp [pickB, hf, gr]
                have HT := Lib.hid (HN.out hp)
                clear hp ht hf HY HN
                go_wp2_with fail
                refine (TF.out _).mono ?_
                rintro e w3 ⟨rfl, hb3⟩
                have X3 : Blk w3 wr.heap.size 24 #[.int .i64 x, .int .i64 (h / x), .int .i64 0] := (Blk.new wr _ _).below hb3 (by simp)
                have O3 : OwnF w3 w1.heap.size _ zs := (hown.alloc _).below hb3 (Nat.le_refl _)
                have B3 : Below w1.heap.size w1 w3 := (hbw.alloc hz _).trans (hb3.mono (by simp; omega))
                have Z3 : wr.heap.size < w3.heap.size := X3.lt
                obtain ⟨p0, p1, p2⟩ := X3.three
                have pf := X3.frozen 2
                have X3' : Blk (w3.setCell ⟨wr.heap.size, 2, none⟩ (.int .i64 (s - 2 * (h / x)))) wr.heap.size 24 #[.int .i64 x, .int .i64 (h / x), .int .i64 (s - 2 * (h / x))] := X3.set_ 2 _
                obtain ⟨q0, q1, q2⟩ := X3'.three
                have B3' : Below w1.heap.size w1 (w3.setCell ⟨wr.heap.size, 2, none⟩ (.int .i64 (s - 2 * (h / x)))) := B3.setCell (by show w1.heap.size ≤ wr.heap.size; omega) _
                have OS : OwnF (w3.setCell ⟨wr.heap.size, 2, none⟩ (.int .i64 (s - 2 * (h / x)))) w1.heap.size _ zs := O3.turned (turned_set1 w3 wr.heap.size 2 (.int .i64 (s - 2 * (h / x)))) (fun g hv hm9 => by have := (hown.lt g hv).2; simp at hm9; omega)
                have ZS : wr.heap.size < (w3.setCell ⟨wr.heap.size, 2, none⟩ (.int .i64 (s - 2 * (h / x)))).heap.size := X3'.lt
                go_wp2_with fail
                refine (RU.out _).mono ?_
                rintro e w4 ⟨rfl, hb4⟩
                have X4 := X3'.below hb4 ZS
                have O4 := OS.below hb4 (Nat.le_refl _)
                have B4 := B3'.trans (hb4.mono (by omega))
                have Z4 : wr.heap.size < w4.heap.size := X4.lt
                clear p0 p1 p2 pf q0 q1 q2
                obtain ⟨q0, q1, q2⟩ := X4.three
                go_wp2_with fail
                go_roundw
                case rel => exact ⟨k + 1, by omega, by go_num, by rw [HT.out]; exact O4, B4⟩
                case measure => simp [intOf]; omega
          · obtain rfl : k = xs.length := by omega
            go_wp2
            go_ret2
            exact ⟨_, rfl, hown.mono hz1, Bt.trans (hbw.mono hz1)⟩

end Go.Proofs.Ytdeckfdmhpiokaa
