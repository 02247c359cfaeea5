/- Contracts: balls: two balls that meet, on both sides. -/
import Derived.Test.YtmolfeckeoimbaaBaP
namespace Go.Proofs.Ytmolfeckeoimbaa
open Go.RowKit

def mtQ (xs : List Int) (a b : Int) : Bool := ballB xs a && (inB b 0 ((xs.length : Int) - 1) && !decide (a = b))
def mtO (xs : List Int) (a b : Int) : Option (Nat × Int) := if mtQ xs a b then meetF (nextI xs) xs.length xs.length 0 a b else none
def mtT (xs : List Int) (a b : Int) : Int := ((mtO xs a b).map fun x => (x.1 : Int)).getD 0
def mtP (xs : List Int) (a b : Int) : Int := ((mtO xs a b).map fun x => x.2).getD 0
def mtB (xs : List Int) (a b : Int) : Bool := (mtO xs a b).isSome
/-- what is answered -/
def mtV (o : Option (Nat × Int)) : Value := .tuple #[.int .i64 ((o.map fun x => (x.1 : Int)).getD 0), .int .i64 ((o.map fun x => x.2).getD 0), .bool o.isSome]
theorem mtV_none : mtV none = .tuple #[.int .i64 0, .int .i64 0, .bool false] := rfl
theorem mtV_some (t : Nat) (p : Int) : mtV (some (t, p)) = .tuple #[.int .i64 (t : Int), .int .i64 p, .bool true] := rfl
theorem mtQ_of {xs : List Int} {a b : Int} (h : mtQ xs a b = true) : ballB xs a = true ∧ inB b 0 ((xs.length : Int) - 1) = true ∧ a ≠ b := by
  simpa [mtQ] using h

set_option maxHeartbeats 2000000 in
theorem implMeet_any (A : Option Addr) (c : Nat) (xs : List Int) (a b : Int) (B : Nat) (w : World) (hr : Rd w B A c xs) (_hB : B ≤ w.heap.size) (hn : xs.length ≤ 1048576) :
    Calls Try.prog 24 #[.slice A xs.length c, .int .i64 a, .int .i64 b] w (Plain (mtV (mtO xs a b)) w) := by
  cases h : ballB xs a
  · rw [show mtO xs a b = none by simp [mtO, mtQ, h], mtV_none]
    have H := Lib.hid h
    clear h
    go_enter Try.func24, Try.ntmps24
    go_wp2_with fail
    refine (hasBall_any _ _ _ _ _ _ hr hn).mono ?_
    rintro e w' ⟨rfl, rfl⟩
    rw [H.out]
    go_wp2_with fail
    go_ret3
    exact ⟨by first | rfl | (rw [HN.out]; rfl), Below.refl _ _⟩
  · cases h1 : inB b 0 ((xs.length : Int) - 1)
    · rw [show mtO xs a b = none by simp [mtO, mtQ, h1], mtV_none]
      have H := Lib.hid h
      have H1 := Lib.hid h1
      clear h h1
      go_enter Try.func24, Try.ntmps24
      go_wp2_with fail
      refine (hasBall_any _ _ _ _ _ _ hr hn).mono ?_
      rintro e w' ⟨rfl, rfl⟩
      rw [H.out]
      go_wp2_with fail
      refine (isOn_any _ _ _ _ _ hn).mono ?_
      rintro e w' ⟨rfl, rfl⟩
      rw [H1.out]
      go_wp2_with fail
      go_ret3
      exact ⟨by first | rfl | (rw [HN.out]; rfl), Below.refl _ _⟩
    · by_cases he : a = b
      · subst he
        rw [show mtO xs a a = none by simp [mtO, mtQ], mtV_none]
        have H := Lib.hid h
        have H1 := Lib.hid h1
        clear h h1
        go_enter Try.func24, Try.ntmps24
        go_wp2_with fail
        refine (hasBall_any _ _ _ _ _ _ hr hn).mono ?_
        rintro e w' ⟨rfl, rfl⟩
        rw [H.out]
        go_wp2_with fail
        refine (isOn_any _ _ _ _ _ hn).mono ?_
        rintro e w' ⟨rfl, rfl⟩
        rw [H1.out]
        go_wp2_with fail
        go_ret3
        exact ⟨by first | rfl | (rw [HN.out]; rfl), Below.refl _ _⟩
      · have hJ := Lib.hid (ballB_le h).1
        have hl := jumpsB_le hJ.out
        have HO : Hid (mtO xs a b = meetF (nextI xs) xs.length xs.length 0 a b) := Lib.hid (by simp [mtO, mtQ, h, h1, he])
        have H := Lib.hid h
        have H1 := Lib.hid h1
        have hab : (a == b) = false := by simpa using he
        rw [HO.out]
        clear h h1
        go_enter Try.func24, Try.ntmps24
        go_wp2_with fail
        refine (hasBall_any _ _ _ _ _ _ hr hn).mono ?_
        rintro e w' ⟨rfl, rfl⟩
        rw [H.out]
        go_wp2_with fail
        refine (isOn_any _ _ _ _ _ hn).mono ?_
        rintro e w' ⟨rfl, rfl⟩
        rw [H1.out]
        go_wp2_with fail
        go_loop [1, 2, 27] (fun x y i => ∃ (k : Nat) (p q : Int), k ≤ xs.length ∧ i = .int .i64 (k : Int) ∧ x = .int .i64 p ∧ y = .int .i64 q ∧ Hid (meetF (nextI xs) xs.length xs.length 0 a b = meetF (nextI xs) xs.length (xs.length - k) k p q)) (fun _ _ i => xs.length - (intOf i).toNat)
        case atStart => exact ⟨0, a, b, Nat.zero_le _, rfl, rfl, rfl, Lib.hid rfl⟩
        case round =>
          obtain ⟨k, p, q, hk, rfl, rfl, rfl, HM⟩ := hrel
          by_cases hlt : k < xs.length
          · have E : Hid (meetF (nextI xs) xs.length (xs.length - k) k p q = if nextI xs p = nextI xs q ∧ 0 ≤ nextI xs p ∧ nextI xs p < xs.length then some (k + 1, nextI xs p) else meetF (nextI xs) xs.length (xs.length - (k + 1)) (k + 1) (nextI xs p) (nextI xs q)) := Lib.hid (by
              rw [show xs.length - k = (xs.length - (k + 1)) + 1 by omega, meetF])
            have C1 := Lib.hid (nextPlace_any A c xs p B w hr hJ.out)
            have C2 := Lib.hid (nextPlace_any A c xs q B w hr hJ.out)
            generalize nextI xs p = p' at *
            generalize nextI xs q = q' at *
            by_cases g : p' = q'
            · subst g
              cases g1 : inB p' 0 ((xs.length : Int) - 1)
              · have HN : Hid (meetF (nextI xs) xs.length xs.length 0 a b = meetF (nextI xs) xs.length (xs.length - (k + 1)) (k + 1) p' p') := Lib.hid (by
                  rw [HM.out, E.out, if_neg]
                  rintro ⟨_, x1, x2⟩
                  rw [inB_yes x1 (by omega)] at g1; cases g1)
                have G1 := Lib.hid g1
                clear g1
                go_wp2_with fail
                refine C1.out.mono ?_
                rintro e w' ⟨rfl, rfl⟩
                go_wp2_with fail
                refine C2.out.mono ?_
                rintro e w' ⟨rfl, rfl⟩
                go_wp2_with fail
                refine (isOn_any _ _ _ _ _ hn).mono ?_
                rintro e w' ⟨rfl, rfl⟩
                rw [G1.out]
                go_wp2_with fail
                go_round
                case rel => exact ⟨k + 1, p', p', by omega, by go_num, rfl, rfl, HN⟩
                case measure => simp [intOf]; omega
              · have hb := inB_le g1
                have HN : Hid (meetF (nextI xs) xs.length xs.length 0 a b = some (k + 1, p')) := Lib.hid (by
                  rw [HM.out, E.out, if_pos ⟨rfl, by omega, by omega⟩])
                have G1 := Lib.hid g1
                clear g1
                go_wp2_with fail
                refine C1.out.mono ?_
                rintro e w' ⟨rfl, rfl⟩
                go_wp2_with fail
                refine C2.out.mono ?_
                rintro e w' ⟨rfl, rfl⟩
                go_wp2_with fail
                refine (isOn_any _ _ _ _ _ hn).mono ?_
                rintro e w' ⟨rfl, rfl⟩
                rw [G1.out]
                go_wp2_with fail
                go_ret3
                exact ⟨by first | rfl | (rw [HN.out]; rfl), Below.refl _ _⟩
            · have HN : Hid (meetF (nextI xs) xs.length xs.length 0 a b = meetF (nextI xs) xs.length (xs.length - (k + 1)) (k + 1) p' q') := Lib.hid (by
                rw [HM.out, E.out, if_neg (fun x => g x.1)])
              go_wp2_with fail
              refine C1.out.mono ?_
              rintro e w' ⟨rfl, rfl⟩
              go_wp2_with fail
              refine C2.out.mono ?_
              rintro e w' ⟨rfl, rfl⟩
              go_wp2_with fail
              go_round
              case rel => exact ⟨k + 1, p', q', by omega, by go_num, rfl, rfl, HN⟩
              case measure => simp [intOf]; omega
          · have HN : Hid (meetF (nextI xs) xs.length xs.length 0 a b = none) := Lib.hid (by
              rw [HM.out, show xs.length - k = 0 by omega]; rfl)
            go_wp2_with fail
            go_ret3
            exact ⟨by first | rfl | (rw [HN.out]; rfl), Below.refl _ _⟩

set_option maxHeartbeats 2000000 in
theorem specMeet_any (A : Option Addr) (c : Nat) (xs : List Int) (a b : Int) (B : Nat) (w : World) (hr : Rd w B A c xs) (_hB : B ≤ w.heap.size) (hn : xs.length ≤ 1048576) :
    Calls Try.prog 23 #[.slice A xs.length c, .int .i64 a, .int .i64 b] w (Plain (mtV (mtO xs a b)) w) := by
  cases h : ballB xs a
  · rw [show mtO xs a b = none by simp [mtO, mtQ, h], mtV_none]
    have H := Lib.hid h
    clear h
    go_enter Try.func23, Try.ntmps23
    go_wp2_with fail
    refine (baStep_any _ _ _ _ _ _ hr hn).mono ?_
    rintro e w' ⟨rfl, rfl⟩
    rw [H.out]
    go_wp2_with fail
    go_ret3
    exact ⟨by first | rfl | (rw [HN.out]; rfl), Below.refl _ _⟩
  · have hJ := Lib.hid (ballB_le h).1
    have e1 : ballB xs b = inB b 0 ((xs.length : Int) - 1) := by simp [ballB, hJ.out]
    cases h1 : inB b 0 ((xs.length : Int) - 1)
    · rw [show mtO xs a b = none by simp [mtO, mtQ, h1], mtV_none]
      have H := Lib.hid h
      have H1 := Lib.hid (e1.trans h1)
      clear h h1 e1
      go_enter Try.func23, Try.ntmps23
      go_wp2_with fail
      refine (baStep_any _ _ _ _ _ _ hr hn).mono ?_
      rintro e w' ⟨rfl, rfl⟩
      rw [H.out]
      go_wp2_with fail
      refine (baStep_any _ _ _ _ _ _ hr hn).mono ?_
      rintro e w' ⟨rfl, rfl⟩
      rw [H1.out]
      go_wp2_with fail
      go_ret3
      exact ⟨by first | rfl | (rw [HN.out]; rfl), Below.refl _ _⟩
    · by_cases he : a = b
      · subst he
        rw [show mtO xs a a = none by simp [mtO, mtQ], mtV_none]
        have H := Lib.hid h
        clear h h1 e1
        go_enter Try.func23, Try.ntmps23
        go_wp2_with fail
        refine (baStep_any _ _ _ _ _ _ hr hn).mono ?_
        rintro e w' ⟨rfl, rfl⟩
        rw [H.out]
        go_wp2_with fail
        refine (baStep_any _ _ _ _ _ _ hr hn).mono ?_
        rintro e w' ⟨rfl, rfl⟩
        rw [H.out]
        go_wp2_with fail
        go_ret3
        exact ⟨by first | rfl | (rw [HN.out]; rfl), Below.refl _ _⟩
      · have hl := jumpsB_le hJ.out
        have hf : ∀ p, p < 0 ∨ (xs.length : Int) ≤ p → nextI xs p = p := fun p hp => nextI_out hp
        have HO : Hid (mtO xs a b = meetS (nextI xs) xs.length (xs.length * xs.length) 0 a b) := Lib.hid (by
          rw [meetS_F hf, meetF_more hf he (Nat.le_mul_of_pos_left _ (by omega))]
          simp [mtO, mtQ, h, h1, he])
        have H := Lib.hid h
        have H1 := Lib.hid (e1.trans h1)
        have hab : (a == b) = false := by simpa using he
        rw [HO.out]
        clear h h1 e1 hf
        have hsq : xs.length * xs.length ≤ 900 := Nat.mul_le_mul hl.2 hl.2
        have hwm : IntKind.i64.wrap ((xs.length : Int) * (xs.length : Int)) = (xs.length : Int) * (xs.length : Int) := IntWalk.i64_in _ (by rw [← Int.natCast_mul]; omega)
        have hmul : (xs.length : Int) * (xs.length : Int) = ((xs.length * xs.length : Nat) : Int) := by rw [Int.natCast_mul]
        generalize hM : xs.length * xs.length = M at *
        go_enter Try.func23, Try.ntmps23
        go_wp2_with fail
        refine (baStep_any _ _ _ _ _ _ hr hn).mono ?_
        rintro e w' ⟨rfl, rfl⟩
        rw [H.out]
        go_wp2_with fail
        refine (baStep_any _ _ _ _ _ _ hr hn).mono ?_
        rintro e w' ⟨rfl, rfl⟩
        rw [H1.out]
        go_wp2_with fail
        go_loop [1, 2, 9] (fun x y i => ∃ (k : Nat) (p q : Int), k ≤ M ∧ i = .int .i64 ((k : Int) + 1) ∧ x = .int .i64 p ∧ y = .int .i64 q ∧ Hid (meetS (nextI xs) xs.length M 0 a b = meetS (nextI xs) xs.length (M - k) k p q)) (fun _ _ i => M + 1 - (intOf i).toNat)
        case atStart => exact ⟨0, a, b, Nat.zero_le _, rfl, rfl, rfl, Lib.hid rfl⟩
        case round =>
          obtain ⟨k, p, q, hk, rfl, rfl, rfl, HM⟩ := hrel
          have HSQ := Lib.hid hmul
          by_cases hlt : k < M
          · have E : Hid (meetS (nextI xs) xs.length (M - k) k p q = if nextI xs p < 0 ∨ nextI xs q < 0 ∨ (xs.length : Int) ≤ nextI xs p ∨ (xs.length : Int) ≤ nextI xs q then none else if nextI xs p = nextI xs q then some (k + 1, nextI xs p) else meetS (nextI xs) xs.length (M - (k + 1)) (k + 1) (nextI xs p) (nextI xs q)) := Lib.hid (by
              rw [show M - k = (M - (k + 1)) + 1 by omega, meetS])
            have C1 := Lib.hid (baNext_any A c xs p B w hr hJ.out)
            have C2 := Lib.hid (baNext_any A c xs q B w hr hJ.out)
            have hle : (k : Int) + 1 ≤ (xs.length : Int) * (xs.length : Int) := by rw [hmul]; omega
            generalize nextI xs p = p' at *
            generalize nextI xs q = q' at *
            by_cases g : p' < 0 ∨ q' < 0 ∨ (xs.length : Int) ≤ p' ∨ (xs.length : Int) ≤ q'
            · have HN : Hid (meetS (nextI xs) xs.length M 0 a b = none) := Lib.hid (by rw [HM.out, E.out, if_pos g])
              clear hmul
              by_cases g1 : p' < 0
              · go_wp2_with fail
                refine C1.out.mono ?_
                rintro e w' ⟨rfl, rfl⟩
                go_wp2_with fail
                refine C2.out.mono ?_
                rintro e w' ⟨rfl, rfl⟩
                go_wp2_with fail
                go_ret3
                exact ⟨by first | rfl | (rw [HN.out]; rfl), Below.refl _ _⟩
              · by_cases g2 : q' < 0
                · go_wp2_with fail
                  refine C1.out.mono ?_
                  rintro e w' ⟨rfl, rfl⟩
                  go_wp2_with fail
                  refine C2.out.mono ?_
                  rintro e w' ⟨rfl, rfl⟩
                  go_wp2_with fail
                  go_ret3
                  exact ⟨by first | rfl | (rw [HN.out]; rfl), Below.refl _ _⟩
                · by_cases g3 : (xs.length : Int) ≤ p'
                  · go_wp2_with fail
                    refine C1.out.mono ?_
                    rintro e w' ⟨rfl, rfl⟩
                    go_wp2_with fail
                    refine C2.out.mono ?_
                    rintro e w' ⟨rfl, rfl⟩
                    go_wp2_with fail
                    go_ret3
                    exact ⟨by first | rfl | (rw [HN.out]; rfl), Below.refl _ _⟩
                  · have g4 : (xs.length : Int) ≤ q' := by omega
                    go_wp2_with fail
                    refine C1.out.mono ?_
                    rintro e w' ⟨rfl, rfl⟩
                    go_wp2_with fail
                    refine C2.out.mono ?_
                    rintro e w' ⟨rfl, rfl⟩
                    go_wp2_with fail
                    go_ret3
                    exact ⟨by first | rfl | (rw [HN.out]; rfl), Below.refl _ _⟩
            · have g1 : ¬ p' < 0 := by omega
              have g2 : ¬ q' < 0 := by omega
              have g3 : ¬ (xs.length : Int) ≤ p' := by omega
              have g4 : ¬ (xs.length : Int) ≤ q' := by omega
              clear hmul
              by_cases ge : p' = q'
              · subst ge
                have HN : Hid (meetS (nextI xs) xs.length M 0 a b = some (k + 1, p')) := Lib.hid (by rw [HM.out, E.out, if_neg g, if_pos rfl])
                go_wp2_with fail
                refine C1.out.mono ?_
                rintro e w' ⟨rfl, rfl⟩
                go_wp2_with fail
                refine C2.out.mono ?_
                rintro e w' ⟨rfl, rfl⟩
                go_wp2_with fail
                go_ret3
                exact ⟨by first | rfl | (rw [HN.out]; rfl), Below.refl _ _⟩
              · have HN : Hid (meetS (nextI xs) xs.length M 0 a b = meetS (nextI xs) xs.length (M - (k + 1)) (k + 1) p' q') := Lib.hid (by rw [HM.out, E.out, if_neg g, if_neg ge])
                go_wp2_with fail
                refine C1.out.mono ?_
                rintro e w' ⟨rfl, rfl⟩
                go_wp2_with fail
                refine C2.out.mono ?_
                rintro e w' ⟨rfl, rfl⟩
                go_wp2_with fail
                go_round
                case rel => exact ⟨k + 1, p', q', by omega, by go_num, rfl, rfl, HN⟩
                case measure => simp [intOf]; omega
          · have HN : Hid (meetS (nextI xs) xs.length M 0 a b = none) := Lib.hid (by
              rw [HM.out, show M - k = 0 by omega]; rfl)
            have hgt : ¬ (k : Int) + 1 ≤ (xs.length : Int) * (xs.length : Int) := by rw [hmul]; omega
            clear hmul
            go_wp2_with fail
            go_ret3
            exact ⟨by first | rfl | (rw [HN.out]; rfl), Below.refl _ _⟩

end Go.Proofs.Ytmolfeckeoimbaa
