/- Contracts: who meets when, on both sides. -/
import Derived.Test.YtkeejocbpiipjaaMovT
import Derived.Test.YtkeejocbpiipjaaWK
import Derived.Deep.DeepCutAuto
namespace Go.Proofs.Ytkeejocbpiipjaa
open Go.RowKit

def meetV (x y u d : Int) : Bool := askB x y u && (askB x y d && !decide (2 * y + u + d = 0))


set_option maxHeartbeats 1000000 in
theorem specMeetStep_any (x y u d : Int) (w : World) :
    Calls Try.prog 10 #[.agg #[.int .i64 x, .int .i64 y], .int .i64 u, .int .i64 d] w fun e w' => e = .returned (.tuple #[.int .i64 (frN (meetV x y u d) (x * (y + u)) (2 * y + u + d)), .int .i64 (frD (meetV x y u d) (x * (y + u)) (2 * y + u + d)), .bool (meetV x y u d)]) ∧ Below w.heap.size w w' := by
  cases g0 : askB x y u
  · have hV : meetV x y u d = false := by simp [meetV, g0]
    rw [hV, frN_no, frD_no]
    clear hV
    have H0 := Lib.hid g0
    clear g0
    go_enter Try.func10, Try.ntmps10
    go_wp2_with fail
    refine (moAsked_any _ _ _ _).mono ?_
    rintro e w1 ⟨rfl, hb⟩
    have hs : w.heap.size + 1 ≤ w1.heap.size := by have := hb.size; (try simp at this); omega
    have c0_0 : w1.cell? ⟨w.heap.size, 0, none⟩ = some (.int .i64 x) := (hb.cell (by simp; try omega)).trans (by simp)
    have c0_1 : w1.cell? ⟨w.heap.size, 1, none⟩ = some (.int .i64 y) := (hb.cell (by simp; try omega)).trans (by simp)
    have Bt : Below w.heap.size w w1 := ((Below.refl _ _).alloc (Nat.le_refl _) _).trans (hb.mono (by simp; try omega))
    clear hb
    rw [H0.out]
    go_wp2_with fail
    go_ret3
    exact ⟨rfl, Bt⟩
  · have b0 := askB_le g0
    cases g1 : askB x y d
    · have hV : meetV x y u d = false := by simp [meetV, g1]
      rw [hV, frN_no, frD_no]
      clear hV
      have H0 := Lib.hid g0
      clear g0
      have H1 := Lib.hid g1
      clear g1
      go_enter Try.func10, Try.ntmps10
      go_wp2_with fail
      refine (moAsked_any _ _ _ _).mono ?_
      rintro e w1 ⟨rfl, hb⟩
      have hs : w.heap.size + 1 ≤ w1.heap.size := by have := hb.size; (try simp at this); omega
      have c0_0 : w1.cell? ⟨w.heap.size, 0, none⟩ = some (.int .i64 x) := (hb.cell (by simp; try omega)).trans (by simp)
      have c0_1 : w1.cell? ⟨w.heap.size, 1, none⟩ = some (.int .i64 y) := (hb.cell (by simp; try omega)).trans (by simp)
      have Bt : Below w.heap.size w w1 := ((Below.refl _ _).alloc (Nat.le_refl _) _).trans (hb.mono (by simp; try omega))
      clear hb
      rw [H0.out]
      go_wp2_with fail
      refine (moAsked_any _ _ _ _).mono ?_
      rintro e w2 ⟨rfl, hb⟩
      replace c0_0 := (hb.cell (p := ⟨w.heap.size, 0, none⟩) (by show w.heap.size < w1.heap.size; omega)).trans c0_0
      replace c0_1 := (hb.cell (p := ⟨w.heap.size, 1, none⟩) (by show w.heap.size < w1.heap.size; omega)).trans c0_1
      replace Bt := Bt.trans (hb.mono (by omega))
      replace hs : w.heap.size + 1 ≤ w2.heap.size := by have := hb.size; omega
      clear hb
      rw [H1.out]
      go_wp2_with fail
      go_ret3
      exact ⟨rfl, Bt⟩
    · have b1 := askB_le g1
      by_cases g2 : 2 * y + u + d = 0
      · have hV : meetV x y u d = false := by simp [meetV, g2]
        rw [hV, frN_no, frD_no]
        clear hV
        have H0 := Lib.hid g0
        clear g0
        have H1 := Lib.hid g1
        clear g1
        have z0 : 2 * y + u + d ≤ 0 := by omega
        clear g2
        go_enter Try.func10, Try.ntmps10
        go_wp2_with fail
        refine (moAsked_any _ _ _ _).mono ?_
        rintro e w1 ⟨rfl, hb⟩
        have hs : w.heap.size + 1 ≤ w1.heap.size := by have := hb.size; (try simp at this); omega
        have c0_0 : w1.cell? ⟨w.heap.size, 0, none⟩ = some (.int .i64 x) := (hb.cell (by simp; try omega)).trans (by simp)
        have c0_1 : w1.cell? ⟨w.heap.size, 1, none⟩ = some (.int .i64 y) := (hb.cell (by simp; try omega)).trans (by simp)
        have Bt : Below w.heap.size w w1 := ((Below.refl _ _).alloc (Nat.le_refl _) _).trans (hb.mono (by simp; try omega))
        clear hb
        rw [H0.out]
        go_wp2_with fail
        refine (moAsked_any _ _ _ _).mono ?_
        rintro e w2 ⟨rfl, hb⟩
        replace c0_0 := (hb.cell (p := ⟨w.heap.size, 0, none⟩) (by show w.heap.size < w1.heap.size; omega)).trans c0_0
        replace c0_1 := (hb.cell (p := ⟨w.heap.size, 1, none⟩) (by show w.heap.size < w1.heap.size; omega)).trans c0_1
        replace Bt := Bt.trans (hb.mono (by omega))
        replace hs : w.heap.size + 1 ≤ w2.heap.size := by have := hb.size; omega
        clear hb
        rw [H1.out]
        go_wp2_with fail
        go_ret3
        exact ⟨rfl, Bt⟩
      · rw [show meetV x y u d = true by simp [meetV, g0, g1, g2], frN_yes, frD_yes]
        have e1 := mul_bd (a := x) (A := 500) (b := y + u) (B := 40) (by omega) (by omega) (by omega) (by omega)
        obtain ⟨e3, e4⟩ := e1
        have H0 := Lib.hid g0
        clear g0
        have H1 := Lib.hid g1
        clear g1
        go_enter Try.func10, Try.ntmps10
        go_wp2_with fail
        refine (moAsked_any _ _ _ _).mono ?_
        rintro e w1 ⟨rfl, hb⟩
        have hs : w.heap.size + 1 ≤ w1.heap.size := by have := hb.size; (try simp at this); omega
        have c0_0 : w1.cell? ⟨w.heap.size, 0, none⟩ = some (.int .i64 x) := (hb.cell (by simp; try omega)).trans (by simp)
        have c0_1 : w1.cell? ⟨w.heap.size, 1, none⟩ = some (.int .i64 y) := (hb.cell (by simp; try omega)).trans (by simp)
        have Bt : Below w.heap.size w w1 := ((Below.refl _ _).alloc (Nat.le_refl _) _).trans (hb.mono (by simp; try omega))
        clear hb
        rw [H0.out]
        go_wp2_with fail
        refine (moAsked_any _ _ _ _).mono ?_
        rintro e w2 ⟨rfl, hb⟩
        replace c0_0 := (hb.cell (p := ⟨w.heap.size, 0, none⟩) (by show w.heap.size < w1.heap.size; omega)).trans c0_0
        replace c0_1 := (hb.cell (p := ⟨w.heap.size, 1, none⟩) (by show w.heap.size < w1.heap.size; omega)).trans c0_1
        replace Bt := Bt.trans (hb.mono (by omega))
        replace hs : w.heap.size + 1 ≤ w2.heap.size := by have := hb.size; omega
        clear hb
        rw [H1.out]
        go_wp2_with fail
        refine (moLow_any (x * (y + u)) (2 * y + u + d) _ (by omega) (by omega) (by omega) (by omega)).mono ?_
        rintro e w3 ⟨rfl, kk, hw⟩
        have hb := drew_below hw
        clear hw kk
        replace c0_0 := (hb.cell (p := ⟨w.heap.size, 0, none⟩) (by show w.heap.size < w2.heap.size; omega)).trans c0_0
        replace c0_1 := (hb.cell (p := ⟨w.heap.size, 1, none⟩) (by show w.heap.size < w2.heap.size; omega)).trans c0_1
        replace Bt := Bt.trans (hb.mono (by omega))
        replace hs : w.heap.size + 1 ≤ w3.heap.size := by have := hb.size; omega
        clear hb
        go_wp2_with fail
        go_ret3
        exact ⟨rfl, Bt⟩


set_option maxHeartbeats 400000 in
theorem speed_lit (p c : Int) (w : World) (h1 : -9223372036854775808 ≤ p + c) (h2 : p + c ≤ 9223372036854775807) :
    Calls Try.prog 33 #[.agg #[.int .i64 p, .int .i64 c]] w fun e w' => e = .returned (.int .i64 (p + c)) ∧ w.alloc (.cells #[.int .i64 p, .int .i64 c] 46) = w' := by
  go_enter Try.func33, Try.ntmps33
  go_wp2_with fail
  go_ret
  exact ⟨rfl, rfl⟩
set_option maxHeartbeats 400000 in
theorem stands_lit (p c : Int) (w : World) :
    Calls Try.prog 43 #[.agg #[.int .i64 p, .int .i64 c]] w fun e w' => e = .returned (.bool (decide (p = 0) && decide (c = 0))) ∧ w.alloc (.cells #[.int .i64 p, .int .i64 c] 46) = w' := by
  by_cases h1 : p = 0
  · by_cases h2 : c = 0
    · subst h1 h2
      go_enter Try.func43, Try.ntmps43
      go_wp2_with fail
      go_ret
      exact ⟨rfl, rfl⟩
    · rw [show (decide (p = 0) && decide (c = 0)) = false by simp [h2]]
      subst h1
      go_enter Try.func43, Try.ntmps43
      go_wp2_with fail
      go_ret
      exact ⟨rfl, rfl⟩
  · rw [show (decide (p = 0) && decide (c = 0)) = false by simp [h1]]
    go_enter Try.func43, Try.ntmps43
    go_wp2_with fail
    go_ret
    exact ⟨rfl, rfl⟩

set_option maxHeartbeats 400000 in
theorem walkerWith_lit (x y p : Int) (w : World) :
    Calls Try.prog 32 #[.agg #[.int .i64 x, .int .i64 y], .int .i64 p] w fun e w' => e = .returned (.agg #[.int .i64 p, .int .i64 y]) ∧ (w.alloc (.cells #[.int .i64 x, .int .i64 y] 26)).alloc (.cells #[.int .i64 p, .int .i64 y] 46) = w' := by
  go_enter Try.func32, Try.ntmps32
  go_wp2_with fail
  exact bodyPost_ret (v := .agg #[.int .i64 p, .int .i64 y]) (by simp [results, Try.results32, go_sem]) rfl ⟨rfl, rfl⟩
def MeetCut (x y u d : Int) (w : World) (s9 s10 : Value) (wx : World) : Prop :=
  ∃ g g' : Nat, s9 = .pointer (some ⟨g, 0, none⟩) ∧ s10 = .pointer (some ⟨g', 0, none⟩) ∧ wx.cell? ⟨g, 0, none⟩ = some (.int .i64 u) ∧ wx.cell? ⟨g, 1, none⟩ = some (.int .i64 y) ∧ wx.cell? ⟨g', 0, none⟩ = some (.int .i64 d) ∧ wx.cell? ⟨g', 1, none⟩ = some (.int .i64 y) ∧
    wx.cell? ⟨w.heap.size, 0, none⟩ = some (.int .i64 x) ∧ wx.cell? ⟨w.heap.size, 1, none⟩ = some (.int .i64 y) ∧ Below w.heap.size w wx

set_option maxHeartbeats 4000000 in
theorem meet_yes (x y u d : Int) (w : World) (g0 : movB x y = true) (g1 : inB u 0 20 = true) (g2 : inB d 0 20 = true) :
    Calls Try.prog 30 #[.agg #[.int .i64 x, .int .i64 y], .int .i64 u, .int .i64 d] w fun e w' => e = .returned (.tuple #[.int .i64 (frN (meetV x y u d) x (2 * y + u + d)), .int .i64 (frD (meetV x y u d) x (2 * y + u + d)), .bool (meetV x y u d)]) ∧ Below w.heap.size w w' := by
  have b0 := movB_le g0
  have b1 := inB_le g1
  have b2 := inB_le g2
  have HV0 := Lib.hid (show meetV x y u d = !decide (2 * y + u + d = 0) by simp [meetV, askB, g0, g1, g2])
  rw [show 2 * y + u + d = u + y + (d + y) by omega]
  have H0 := Lib.hid g0
  have H1 := Lib.hid g1
  have H2 := Lib.hid g2
  clear g0 g1 g2
  go_enter Try.func30, Try.ntmps30
  go_wp2_with fail
  refine (impMov_any _ _ _).mono ?_
  rintro e w1 ⟨rfl, hb⟩
  have hs : w.heap.size + 1 ≤ w1.heap.size := by have := hb.size; (try simp at this); omega
  have c0_0 : w1.cell? ⟨w.heap.size, 0, none⟩ = some (.int .i64 x) := (hb.cell (by simp; try omega)).trans (by simp)
  have c0_1 : w1.cell? ⟨w.heap.size, 1, none⟩ = some (.int .i64 y) := (hb.cell (by simp; try omega)).trans (by simp)
  have Bt : Below w.heap.size w w1 := ((Below.refl _ _).alloc (Nat.le_refl _) _).trans (hb.mono (by simp; try omega))
  clear hb
  rw [H0.out]
  go_wp2_with fail
  refine (isPace_any _ _).mono ?_
  rintro e w' ⟨rfl, rfl⟩
  rw [H1.out]
  go_wp2_with fail
  refine (isPace_any _ _).mono ?_
  rintro e w' ⟨rfl, rfl⟩
  rw [H2.out]
  go_upto_region 3 with fail
  go_cut [9, 10] (fun s9 s10 wx => MeetCut x y u d w s9 s10 wx)
  case first =>
    have n0 := World.new_ne w1 _ c0_0
    have n1 := World.new_ne w1 _ c0_1
    go_region_held3 (fun w' => w'.cell? ⟨w.heap.size, 0, none⟩ = some (.int .i64 x) ∧ w'.cell? ⟨w.heap.size, 1, none⟩ = some (.int .i64 y)) (refine ⟨?_, ?_⟩ <;> (repeat (first | assumption | refine keepA ?_ | refine keepD ?_))) (first | (go_at_call 32; refine (walkerWith_lit _ _ _ _).mono ?_; rintro e wq ⟨rfl, rfl⟩))
    all_goals (go_wp2_with fail; go_meet; refine ⟨_, _, rfl, rfl, (by repeat (first | (refine cellN ?_ rfl; simp; done) | refine keepA ?_ | refine keepD ?_)), (by repeat (first | (refine cellN ?_ rfl; simp; done) | refine keepA ?_ | refine keepD ?_)), (by repeat (first | (refine cellN ?_ rfl; simp; done) | refine keepA ?_ | refine keepD ?_)), (by repeat (first | (refine cellN ?_ rfl; simp; done) | refine keepA ?_ | refine keepD ?_)), (by repeat (first | assumption | refine keepA ?_ | refine keepD ?_)), (by repeat (first | assumption | refine keepA ?_ | refine keepD ?_)), ?_⟩; repeat (first | exact Bt | refine keepB ?_ | refine Below.drew ?_))
  case rest =>
    obtain ⟨g, g', rfl, rfl, k0, k1, k2, k3, k4, k5, Bx⟩ := hcut
    by_cases hz : 2 * y + u + d = 0
    · have HV := Lib.hid (show meetV x y u d = false by rw [HV0.out]; simp [hz])
      have HA1 := Lib.hid (show (decide (u = 0) && decide (y = 0)) = true by simp [show u = 0 by omega, show y = 0 by omega])
      have HA2 := Lib.hid (show (decide (d = 0) && decide (y = 0)) = true by simp [show d = 0 by omega, show y = 0 by omega])
      clear hz
      go_wp2_with fail
      refine (stands_any _ _ _).mono ?_
      rintro e ws2 ⟨rfl, hb⟩
      replace k0 := keepC hb k0
      replace k1 := keepC hb k1
      replace k2 := keepC hb k2
      replace k3 := keepC hb k3
      replace k4 := keepC hb k4
      replace k5 := keepC hb k5
      replace Bx := Bx.trans (hb.mono Bx.size)
      clear hb
      rw [HA1.out]
      go_wp2_with fail
      refine (stands_any _ _ _).mono ?_
      rintro e ws3 ⟨rfl, hb⟩
      replace k0 := keepC hb k0
      replace k1 := keepC hb k1
      replace k2 := keepC hb k2
      replace k3 := keepC hb k3
      replace k4 := keepC hb k4
      replace k5 := keepC hb k5
      replace Bx := Bx.trans (hb.mono Bx.size)
      clear hb
      rw [HA2.out]
      go_wp2_with fail
      go_ret3
      exact ⟨by rw [HV.out, frN_no, frD_no]; rfl, Bx⟩
    have HV := Lib.hid (show meetV x y u d = true by rw [HV0.out]; simp [hz])
    replace hz : 0 < 2 * y + u + d := by omega
    by_cases hA : u = 0 ∧ y = 0
    · have hA1 : (decide (u = 0) && decide (y = 0)) = true := by simp [hA.1, hA.2]
      have hA2 : (decide (d = 0) && decide (y = 0)) = false := by simp [show ¬ d = 0 by omega]
      have HA1 := Lib.hid hA1
      have HA2 := Lib.hid hA2
      clear hA hA1 hA2
      go_wp2_with fail
      refine (stands_any _ _ _).mono ?_
      rintro e ws4 ⟨rfl, hb⟩
      replace k0 := keepC hb k0
      replace k1 := keepC hb k1
      replace k2 := keepC hb k2
      replace k3 := keepC hb k3
      replace k4 := keepC hb k4
      replace k5 := keepC hb k5
      replace Bx := Bx.trans (hb.mono Bx.size)
      clear hb
      rw [HA1.out]
      go_wp2_with fail
      refine (stands_any _ _ _).mono ?_
      rintro e ws5 ⟨rfl, hb⟩
      replace k0 := keepC hb k0
      replace k1 := keepC hb k1
      replace k2 := keepC hb k2
      replace k3 := keepC hb k3
      replace k4 := keepC hb k4
      replace k5 := keepC hb k5
      replace Bx := Bx.trans (hb.mono Bx.size)
      clear hb
      rw [HA2.out]
      have E1 : IntKind.i64.wrap (u + y + (d + y)) = u + y + (d + y) := IntWalk.i64_in _ (by omega)
      go_wp2_with fail
      go_region_held3 (fun w' => w'.cell? ⟨w.heap.size, 0, none⟩ = some (.int .i64 x) ∧ w'.cell? ⟨g, 0, none⟩ = some (.int .i64 u) ∧ w'.cell? ⟨g, 1, none⟩ = some (.int .i64 y) ∧ w'.cell? ⟨g', 0, none⟩ = some (.int .i64 d) ∧ w'.cell? ⟨g', 1, none⟩ = some (.int .i64 y)) (refine ⟨?_, ?_, ?_, ?_, ?_⟩ <;> (repeat (first | assumption | refine keepA ?_ | refine keepD ?_ | refine keepDN ?_)))
        (first | (go_at_call 33; refine (speed_lit _ _ _ (by omega) (by omega)).mono ?_; rintro e wq ⟨rfl, rfl⟩) | (go_at_call 31; refine (lowest_any _ _ _ (by omega) (by omega) (by omega) (by omega)).mono ?_; rintro e wq ⟨rfl, kk, rfl⟩))
      all_goals (go_wp2_with fail; go_ret3; refine ⟨by rw [HV.out, frN_yes, frD_yes]; rfl, ?_⟩; repeat (first | exact Bx | refine keepB ?_ | refine keepBN ?_ | refine Below.drew ?_))
    · have hB : (decide (u = 0) && decide (y = 0)) = false := by
        cases hB : (decide (u = 0) && decide (y = 0))
        · rfl
        · exact absurd (by simpa using hB) hA
      have HB := Lib.hid hB
      clear hA hB
      go_wp2_with fail
      refine (stands_any _ _ _).mono ?_
      rintro e ws6 ⟨rfl, hb⟩
      replace k0 := keepC hb k0
      replace k1 := keepC hb k1
      replace k2 := keepC hb k2
      replace k3 := keepC hb k3
      replace k4 := keepC hb k4
      replace k5 := keepC hb k5
      replace Bx := Bx.trans (hb.mono Bx.size)
      clear hb
      rw [HB.out]
      have E1 : IntKind.i64.wrap (u + y + (d + y)) = u + y + (d + y) := IntWalk.i64_in _ (by omega)
      go_wp2_with fail
      go_region_held3 (fun w' => w'.cell? ⟨w.heap.size, 0, none⟩ = some (.int .i64 x) ∧ w'.cell? ⟨g, 0, none⟩ = some (.int .i64 u) ∧ w'.cell? ⟨g, 1, none⟩ = some (.int .i64 y) ∧ w'.cell? ⟨g', 0, none⟩ = some (.int .i64 d) ∧ w'.cell? ⟨g', 1, none⟩ = some (.int .i64 y)) (refine ⟨?_, ?_, ?_, ?_, ?_⟩ <;> (repeat (first | assumption | refine keepA ?_ | refine keepD ?_ | refine keepDN ?_)))
        (first | (go_at_call 33; refine (speed_lit _ _ _ (by omega) (by omega)).mono ?_; rintro e wq ⟨rfl, rfl⟩) | (go_at_call 31; refine (lowest_any _ _ _ (by omega) (by omega) (by omega) (by omega)).mono ?_; rintro e wq ⟨rfl, kk, rfl⟩))
      all_goals (go_wp2_with fail; go_ret3; refine ⟨by rw [HV.out, frN_yes, frD_yes]; rfl, ?_⟩; repeat (first | exact Bx | refine keepB ?_ | refine keepBN ?_ | refine Below.drew ?_))
set_option maxHeartbeats 1000000 in
theorem implMeetTime_any (x y u d : Int) (w : World) :
    Calls Try.prog 30 #[.agg #[.int .i64 x, .int .i64 y], .int .i64 u, .int .i64 d] w fun e w' => e = .returned (.tuple #[.int .i64 (frN (meetV x y u d) (x) (2 * y + u + d)), .int .i64 (frD (meetV x y u d) (x) (2 * y + u + d)), .bool (meetV x y u d)]) ∧ Below w.heap.size w w' := by
  cases g0 : movB x y
  · have hV : meetV x y u d = false := by simp [meetV, askB, g0]
    rw [hV, frN_no, frD_no]
    clear hV
    have H0 := Lib.hid g0
    clear g0
    go_enter Try.func30, Try.ntmps30
    go_wp2_with fail
    refine (impMov_any _ _ _).mono ?_
    rintro e w1 ⟨rfl, hb⟩
    have hs : w.heap.size + 1 ≤ w1.heap.size := by have := hb.size; (try simp at this); omega
    have c0_0 : w1.cell? ⟨w.heap.size, 0, none⟩ = some (.int .i64 x) := (hb.cell (by simp; try omega)).trans (by simp)
    have c0_1 : w1.cell? ⟨w.heap.size, 1, none⟩ = some (.int .i64 y) := (hb.cell (by simp; try omega)).trans (by simp)
    have Bt : Below w.heap.size w w1 := ((Below.refl _ _).alloc (Nat.le_refl _) _).trans (hb.mono (by simp; try omega))
    clear hb
    rw [H0.out]
    go_wp2_with fail
    go_ret3
    exact ⟨rfl, Bt⟩
  · cases g1 : inB u 0 20
    · have hV : meetV x y u d = false := by simp [meetV, askB, g1]
      rw [hV, frN_no, frD_no]
      clear hV
      have H0 := Lib.hid g0
      clear g0
      have H1 := Lib.hid g1
      clear g1
      go_enter Try.func30, Try.ntmps30
      go_wp2_with fail
      refine (impMov_any _ _ _).mono ?_
      rintro e w1 ⟨rfl, hb⟩
      have hs : w.heap.size + 1 ≤ w1.heap.size := by have := hb.size; (try simp at this); omega
      have c0_0 : w1.cell? ⟨w.heap.size, 0, none⟩ = some (.int .i64 x) := (hb.cell (by simp; try omega)).trans (by simp)
      have c0_1 : w1.cell? ⟨w.heap.size, 1, none⟩ = some (.int .i64 y) := (hb.cell (by simp; try omega)).trans (by simp)
      have Bt : Below w.heap.size w w1 := ((Below.refl _ _).alloc (Nat.le_refl _) _).trans (hb.mono (by simp; try omega))
      clear hb
      rw [H0.out]
      go_wp2_with fail
      refine (isPace_any _ _).mono ?_
      rintro e w' ⟨rfl, rfl⟩
      rw [H1.out]
      go_wp2_with fail
      go_ret3
      exact ⟨rfl, Bt⟩
    · cases g2 : inB d 0 20
      · have hV : meetV x y u d = false := by simp [meetV, askB, g2]
        rw [hV, frN_no, frD_no]
        clear hV
        have H0 := Lib.hid g0
        clear g0
        have H1 := Lib.hid g1
        clear g1
        have H2 := Lib.hid g2
        clear g2
        go_enter Try.func30, Try.ntmps30
        go_wp2_with fail
        refine (impMov_any _ _ _).mono ?_
        rintro e w1 ⟨rfl, hb⟩
        have hs : w.heap.size + 1 ≤ w1.heap.size := by have := hb.size; (try simp at this); omega
        have c0_0 : w1.cell? ⟨w.heap.size, 0, none⟩ = some (.int .i64 x) := (hb.cell (by simp; try omega)).trans (by simp)
        have c0_1 : w1.cell? ⟨w.heap.size, 1, none⟩ = some (.int .i64 y) := (hb.cell (by simp; try omega)).trans (by simp)
        have Bt : Below w.heap.size w w1 := ((Below.refl _ _).alloc (Nat.le_refl _) _).trans (hb.mono (by simp; try omega))
        clear hb
        rw [H0.out]
        go_wp2_with fail
        refine (isPace_any _ _).mono ?_
        rintro e w' ⟨rfl, rfl⟩
        rw [H1.out]
        go_wp2_with fail
        refine (isPace_any _ _).mono ?_
        rintro e w' ⟨rfl, rfl⟩
        rw [H2.out]
        go_wp2_with fail
        go_ret3
        exact ⟨rfl, Bt⟩
      · exact meet_yes _ _ _ _ _ g0 g1 g2

theorem meetV_le {x y u d : Int} (h : meetV x y u d = true) : 1 ≤ x ∧ x ≤ 500 ∧ 0 ≤ y ∧ y ≤ 20 ∧ 0 ≤ u ∧ u ≤ 20 ∧ 0 ≤ d ∧ d ≤ 20 ∧ 0 < 2 * y + u + d := by
  simp only [meetV, Bool.and_eq_true, Bool.not_eq_true', decide_eq_false_iff_not] at h
  have h1 := askB_le h.1
  have h2 := askB_le h.2.1
  have h3 := h.2.2
  omega

set_option maxHeartbeats 1000000 in
theorem implMeetStep_any (x y u d : Int) (w : World) :
    Calls Try.prog 12 #[.agg #[.int .i64 x, .int .i64 y], .int .i64 u, .int .i64 d] w fun e w' => e = .returned (.tuple #[.int .i64 (frN (meetV x y u d) (x * (y + u)) (2 * y + u + d)), .int .i64 (frD (meetV x y u d) (x * (y + u)) (2 * y + u + d)), .bool (meetV x y u d)]) ∧ Below w.heap.size w w' := by
  cases hV : meetV x y u d
  · rw [frN_no, frD_no]
    have H := Lib.hid hV
    clear hV
    go_enter Try.func12, Try.ntmps12
    go_wp2_with fail
    refine (implMeetTime_any _ _ _ _ _).mono ?_
    rintro e w1 ⟨rfl, hb⟩
    have hs : w.heap.size + 1 ≤ w1.heap.size := by have := hb.size; (try simp at this); omega
    have c0_0 : w1.cell? ⟨w.heap.size, 0, none⟩ = some (.int .i64 x) := (hb.cell (by simp; try omega)).trans (by simp)
    have c0_1 : w1.cell? ⟨w.heap.size, 1, none⟩ = some (.int .i64 y) := (hb.cell (by simp; try omega)).trans (by simp)
    have Bt : Below w.heap.size w w1 := ((Below.refl _ _).alloc (Nat.le_refl _) _).trans (hb.mono (by simp; try omega))
    clear hb
    rw [H.out]
    rw [frN_no, frD_no]
    go_wp2_with fail
    go_ret3
    exact ⟨rfl, Bt⟩
  · rw [frN_yes, frD_yes]
    have hp := meetV_le hV
    have e1 := lowN_nonneg (a := x) (b := 2 * y + u + d) (by omega) (by omega)
    have e2 := lowN_le (a := x) (b := 2 * y + u + d) (by omega)
    have e3 := lowD_pos (a := x) (b := 2 * y + u + d) (by omega)
    have e4 := lowD_le (a := x) (b := 2 * y + u + d) (by omega)
    obtain ⟨e5, e6⟩ := mul_bd (a := lowN x (2 * y + u + d)) (A := 500) (b := u + y) (B := 40) e1 (by omega) (by omega) (by omega)
    have hS := Lib.hid (low_times (a := x) (b := 2 * y + u + d) (c := u + y) (by omega))
    have H := Lib.hid hV
    clear hV
    go_enter Try.func12, Try.ntmps12
    go_wp2_with fail
    refine (implMeetTime_any _ _ _ _ _).mono ?_
    rintro e w1 ⟨rfl, hb⟩
    have hs : w.heap.size + 1 ≤ w1.heap.size := by have := hb.size; (try simp at this); omega
    have c0_0 : w1.cell? ⟨w.heap.size, 0, none⟩ = some (.int .i64 x) := (hb.cell (by simp; try omega)).trans (by simp)
    have c0_1 : w1.cell? ⟨w.heap.size, 1, none⟩ = some (.int .i64 y) := (hb.cell (by simp; try omega)).trans (by simp)
    have Bt : Below w.heap.size w w1 := ((Below.refl _ _).alloc (Nat.le_refl _) _).trans (hb.mono (by simp; try omega))
    clear hb
    rw [H.out]
    rw [frN_yes, frD_yes]
    go_wp2_with fail
    refine (walkerWith_any _ _ _ _).mono ?_
    rintro e w2 ⟨rfl, hb⟩
    replace c0_0 := (hb.cell (p := ⟨w.heap.size, 0, none⟩) (by show w.heap.size < w1.heap.size; omega)).trans c0_0
    replace c0_1 := (hb.cell (p := ⟨w.heap.size, 1, none⟩) (by show w.heap.size < w1.heap.size; omega)).trans c0_1
    replace Bt := Bt.trans (hb.mono (by omega))
    replace hs : w.heap.size + 1 ≤ w2.heap.size := by have := hb.size; omega
    clear hb
    go_wp2_with fail
    refine (speed_any _ _ _ (by omega) (by omega)).mono ?_
    rintro e w3 ⟨rfl, hb⟩
    replace c0_0 := (hb.cell (p := ⟨w.heap.size, 0, none⟩) (by show w.heap.size < w2.heap.size; omega)).trans c0_0
    replace c0_1 := (hb.cell (p := ⟨w.heap.size, 1, none⟩) (by show w.heap.size < w2.heap.size; omega)).trans c0_1
    replace Bt := Bt.trans (hb.mono (by omega))
    replace hs : w.heap.size + 1 ≤ w3.heap.size := by have := hb.size; omega
    clear hb
    go_wp2_with fail
    refine (lowest_any (lowN x (2 * y + u + d) * (u + y)) (lowD x (2 * y + u + d)) _ (by omega) (by omega) (by omega) (by omega)).mono ?_
    rintro e w4 ⟨rfl, kk, hw⟩
    have hb := drew_below hw
    clear hw kk
    replace c0_0 := (hb.cell (p := ⟨w.heap.size, 0, none⟩) (by show w.heap.size < w3.heap.size; omega)).trans c0_0
    replace c0_1 := (hb.cell (p := ⟨w.heap.size, 1, none⟩) (by show w.heap.size < w3.heap.size; omega)).trans c0_1
    replace Bt := Bt.trans (hb.mono (by omega))
    replace hs : w.heap.size + 1 ≤ w4.heap.size := by have := hb.size; omega
    clear hb
    go_wp2_with fail
    go_ret3
    exact ⟨by rw [hS.out.1, hS.out.2, Int.add_comm u y]; rfl, Bt⟩


end Go.Proofs.Ytkeejocbpiipjaa
