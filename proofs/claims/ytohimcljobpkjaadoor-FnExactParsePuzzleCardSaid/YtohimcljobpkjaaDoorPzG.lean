/- Contracts: the stairs of a row that fit a clue; a clue that is none is raised (the program). -/
import Derived.Test.YtohimcljobpkjaaDoorPzF
namespace Go.Proofs.YtohimcljobpkjaaDoor
open Go.RowKit
set_option maxRecDepth 100000

set_option maxHeartbeats 400000 in
theorem fit_no (k a b : Int) (v : Value) (w : World) (hk : clueB k a b = false) :
    Calls Tryd.prog 42 #[.agg #[.int .i64 k, .int .i64 a, .int .i64 b], v] w fun e w' => e = .panicked [{ v := .iface 44 (.agg #[.int .i64 k, .int .i64 a, .int .i64 b]), recovered := false }] ∧ Below w.heap.size w w' := by
  have X0 : Blk (w.alloc (.cells #[.int .i64 k, .int .i64 a, .int .i64 b] 44)) w.heap.size 44 #[.int .i64 k, .int .i64 a, .int .i64 b] := Blk.new _ _ _
  go_enter Tryd.func42, Tryd.ntmps42
  go_wp2_with fail
  refine (implClue_any _ _ _ _).mono ?_
  rintro e w1 ⟨rfl, hb⟩
  rw [hk]
  have X1 := X0.below hb (by simp)
  obtain ⟨p0, p1, p2⟩ := X1.three
  go_wp2_with fail
  exact ⟨rfl, rfl, (below_alloc _ _).trans (hb.mono (by simp))⟩

set_option maxHeartbeats 4000000 in
theorem fit_yes (k a b : Int) (A : Option Addr) (c : Nat) (L : Lr) (B : Nat) (w : World) (hk : clueB k a b = true) (hr : RdE w B A c (elsL L)) (hall : ∀ x ∈ L, StE w B x.1 x.2) (hB : B ≤ w.heap.size) (hn : L.length ≤ 1048576) :
    Calls Tryd.prog 42 #[.agg #[.int .i64 k, .int .i64 a, .int .i64 b], .slice A L.length c] w fun e w' => ∃ v, e = .returned v ∧ OwnE w' w.heap.size v (elsL (fitL (k, a, b) L)) ∧ Below w.heap.size w w' := by
  have X0 : Blk (w.alloc (.cells #[.int .i64 k, .int .i64 a, .int .i64 b] 44)) w.heap.size 44 #[.int .i64 k, .int .i64 a, .int .i64 b] := Blk.new _ _ _
  have HK := Lib.hid hk
  have HR := Lib.hid hr
  have HA := Lib.hid hall
  have HE := Lib.hid (elsL_len L)
  clear hk hr hall
  go_enter Tryd.func42, Tryd.ntmps42
  go_wp2_with fail
  refine (implClue_any _ _ _ _).mono ?_
  rintro e w1 ⟨rfl, hb⟩
  rw [HK.out]
  have X1 := X0.below hb (by simp)
  obtain ⟨p0, p1, p2⟩ := X1.three
  have B1 : Below w.heap.size w w1 := (below_alloc _ _).trans (hb.mono (by simp))
  have z1 : w.heap.size < w1.heap.size := X1.lt
  clear hb X0
  go_wp2_with fail
  go_loopw [5, 15] (fun l i wr => ∃ (j : Nat) (v : Value), j ≤ L.length ∧ i = .int .i64 j ∧ l = v ∧ OwnE wr w1.heap.size v (elsL (fitL (k, a, b) (L.take j))) ∧ Below w1.heap.size w1 wr) (fun _ i _ => L.length - (intOf i).toNat)
  case atStart => exact ⟨0, _, Nat.zero_le _, rfl, rfl, OwnE.nil _ _, Below.refl _ _⟩
  case round =>
    obtain ⟨j, v, hj, rfl, rfl, hown, hbw⟩ := hrel
    have z2 : w1.heap.size ≤ wr.heap.size := hbw.size
    have Bw : Below w.heap.size w wr := B1.trans (hbw.mono (by omega))
    have hfl : (elsL (fitL (k, a, b) (L.take j))).length ≤ L.length := by rw [elsL_len]; exact fitL_len _ _ _
    by_cases hlt : j < L.length
    · obtain ⟨x, hx, hm⟩ := lr_get hlt
      obtain ⟨bb, o, rfl, hbb, c0, c1, c2⟩ := (HR.out.below Bw hB).2 j (by rw [HE.out]; exact hlt)
      rw [elsL_get hx] at c0 c1 c2
      have hst := (HA.out x hm).below Bw hB
      have HY := Lib.hid (fun h : fitB (k, a, b) x.2 = true => show elsL (fitL (k, a, b) (L.take (j + 1))) = elsL (fitL (k, a, b) (L.take j)) ++ [x.1] by rw [fitL_take_yes hx h]; simp [elsL])
      have HN := Lib.hid (fun h : fitB (k, a, b) x.2 = false => show elsL (fitL (k, a, b) (L.take (j + 1))) = elsL (fitL (k, a, b) (L.take j)) by rw [fitL_take_no hx h])
      obtain ⟨⟨st', v1, v2⟩, ⟨st, ss, bs⟩⟩ := x
      obtain ⟨h0, A1, A2, k1, k2, h1, h2, h3⟩ := hst
      dsimp only at h0 h1 h2 h3 c0 c1 c2
      subst h0 h1 h2
      clear hx hm
      have Q1 := X1.below hbw z1
      have Q2 := Q1.alloc (.cells #[.int .i64 st', .slice A1 ss.length k1, .slice A2 bs.length k2] 84)
      have S2 : Blk (wr.alloc (.cells #[.int .i64 st', .slice A1 ss.length k1, .slice A2 bs.length k2] 84)) wr.heap.size 84 #[.int .i64 st', .slice A1 ss.length k1, .slice A2 bs.length k2] := Blk.new _ _ _
      have hO2 := hown.alloc (.cells #[.int .i64 st', .slice A1 ss.length k1, .slice A2 bs.length k2] 84)
      have hT2 := h3.alloc (Nat.le_trans hB Bw.size) (.cells #[.int .i64 st', .slice A1 ss.length k1, .slice A2 bs.length k2] 84)
      have b2 : Below w1.heap.size w1 (wr.alloc (.cells #[.int .i64 st', .slice A1 ss.length k1, .slice A2 bs.length k2] 84)) := hbw.alloc z2 _
      have hz2 : B ≤ (wr.alloc (.cells #[.int .i64 st', .slice A1 ss.length k1, .slice A2 bs.length k2] 84)).heap.size := by simp; omega
      have HV := Lib.hid (fun u (hu : St u B st' A1 A2 k1 k2 ss bs) (hBu : B ≤ u.heap.size) => toldBy_any k a st' A1 A2 k1 k2 ss bs B u hu hBu)
      have HF := Lib.hid (show fitB (k, a, b) (st', ss, bs) = decide (toldV k a st' ss bs = b) from rfl)
      clear Q1 hown
      generalize elsL (fitL (k, a, b) (L.take j)) = es at *
      generalize toldV k a st' ss bs = tv at *
      go_wp2_with fail
      generalize wr.alloc (.cells #[.int .i64 st', .slice A1 ss.length k1, .slice A2 bs.length k2] 84) = u at *
      obtain ⟨p0, p1, p2⟩ := Q2.three
      obtain ⟨q0, q1, q2⟩ := S2.three
      by_cases he : tv = b
      all_goals
        go_region_held3 (fun u => u.cell? ⟨w.heap.size, 0, none⟩ = some (.int .i64 k) ∧ u.cell? ⟨w.heap.size, 1, none⟩ = some (.int .i64 a) ∧ u.cell? ⟨w.heap.size, 2, none⟩ = some (.int .i64 b) ∧ u.cell? ⟨wr.heap.size, 0, none⟩ = some (.int .i64 st') ∧ u.cell? ⟨wr.heap.size, 1, none⟩ = some (.slice A1 ss.length k1) ∧ u.cell? ⟨wr.heap.size, 2, none⟩ = some (.slice A2 bs.length k2)) (first | exact ⟨p0, p1, p2, q0, q1, q2⟩ | exact ⟨r0, r1, r2, s0, s1, s2⟩)
          (first
          | (go_at_call 52; (refine (HV.out u.drew hT2.drew hz2).mono ?_); rintro e w3 ⟨rfl, k3⟩; have hb3 : Below u.heap.size u w3 := below_undrew k3; have X3 := Q2.below hb3 Q2.lt; have Y3 := S2.below hb3 S2.lt; obtain ⟨r0, r1, r2⟩ := X3.three; obtain ⟨s0, s1, s2⟩ := Y3.three)
          | fail
          )
      · have HY1 := Lib.hid (HY.out (by rw [HF.out]; exact decide_eq_true he))
        have hO3 := hO2.below hb3 (Nat.le_refl _)
        have b3 := b2.trans (hb3.mono b2.size)
        have z3 : w1.heap.size ≤ w3.heap.size := b3.size
        clear k3 hb3 X3 p0 p1 p2 q0 q1 q2 r0 r1 r2
        subst he
        go_wp2_with (at_builtin; refine wpList_pushE _ rfl _ _ rfl w1.heap.size _ es rfl (hO3.alloc _) w3.heap.size (st', .slice A1 ss.length k1, .slice A2 bs.length k2) rfl (by simp) (by simp) (by simp) rfl rfl (by omega) (by simp; omega) ?_; intro v4 w4 hO4 hg4 _)
        have b4 : Below w1.heap.size w1 w4 := (b3.alloc z3 _).grown hg4 (by simp; omega) (fun k hk => (hO3.lt k hk).1)
        go_roundw
        case rel => exact ⟨j + 1, v4, by omega, by go_num, rfl, by rw [HY1.out]; exact hO4, b4⟩
        case measure => simp [intOf]; omega
      · have HN1 := Lib.hid (HN.out (by rw [HF.out]; exact decide_eq_false he))
        have hO3 := hO2.below hb3 (Nat.le_refl _)
        have b3 := b2.trans (hb3.mono b2.size)
        clear k3 hb3 X3 p0 p1 p2 q0 q1 q2 r0 r1 r2
        go_wp2_with fail
        go_roundw
        case rel => exact ⟨j + 1, _, by omega, by go_num, rfl, by rw [HN1.out]; exact hO3, b3⟩
        case measure => simp [intOf]; omega
    · obtain rfl : j = L.length := by omega
      go_wp2_with fail
      go_ret
      exact ⟨_, rfl, by rw [List.take_length] at hown; exact hown.mono (by omega), Bw⟩

end Go.Proofs.YtohimcljobpkjaaDoor
