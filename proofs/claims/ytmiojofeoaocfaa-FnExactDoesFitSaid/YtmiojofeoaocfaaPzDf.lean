/- Contracts of DoesFit: the model's and the program's. -/
import Derived.Test.YtmiojofeoaocfaaPzF
import Derived.Test.YtmiojofeoaocfaaPzL
import Derived.Test.YtmiojofeoaocfaaPzO
namespace Go.Proofs.Ytmiojofeoaocfaa
open Go.RowKit
set_option maxRecDepth 100000

def dfB (k a b st : Int) (ss bs : List Int) : Bool := hidB st ss bs && clueB k a b
def dfR (k a b st : Int) (ss bs : List Int) : Bool := dfB k a b st ss bs && decide (toldV k a st ss bs = b)

set_option maxHeartbeats 1000000 in
theorem specDoesFit_any (k a b st : Int) (A A' : Option Addr) (c c' : Nat) (ss bs : List Int) (B : Nat) (w : World) (h : St w B st A A' c c' ss bs) (hB : B ≤ w.heap.size) :
    Calls Try.prog 24 #[.agg #[.int .i64 k, .int .i64 a, .int .i64 b], stv st A A' c c' ss bs] w (Plain (.tuple #[.bool (dfR k a b st ss bs), .bool (dfB k a b st ss bs)]) w) := by
  have X0 : Blk (w.alloc (.cells #[.int .i64 k, .int .i64 a, .int .i64 b] 25)) w.heap.size 25 #[.int .i64 k, .int .i64 a, .int .i64 b] := Blk.new _ _ _
  have X1 := X0.alloc (.cells #[.int .i64 st, .slice A ss.length c, .slice A' bs.length c'] 45)
  have Y1 : Blk ((w.alloc (.cells #[.int .i64 k, .int .i64 a, .int .i64 b] 25)).alloc (.cells #[.int .i64 st, .slice A ss.length c, .slice A' bs.length c'] 45)) (w.heap.size + 1) 45 #[.int .i64 st, .slice A ss.length c, .slice A' bs.length c'] := Blk.new' (by simp)
  have hs := (h.alloc hB (.cells #[.int .i64 k, .int .i64 a, .int .i64 b] 25)).alloc (by simp; omega) (.cells #[.int .i64 st, .slice A ss.length c, .slice A' bs.length c'] 45)
  have b0 : Below w.heap.size w ((w.alloc (.cells #[.int .i64 k, .int .i64 a, .int .i64 b] 25)).alloc (.cells #[.int .i64 st, .slice A ss.length c, .slice A' bs.length c'] 45)) := (below_alloc _ _).alloc (by simp) _
  have z0 : B ≤ ((w.alloc (.cells #[.int .i64 k, .int .i64 a, .int .i64 b] 25)).alloc (.cells #[.int .i64 st, .slice A ss.length c, .slice A' bs.length c'] 45)).heap.size := by simp; omega
  have z1 : w.heap.size + 2 ≤ ((w.alloc (.cells #[.int .i64 k, .int .i64 a, .int .i64 b] 25)).alloc (.cells #[.int .i64 st, .slice A ss.length c, .slice A' bs.length c'] 45)).heap.size := by simp
  clear X0
  have HV := Lib.hid (fun u (hu : St u B st A A' c c' ss bs) (hBu : B ≤ u.heap.size) (hh : hidB st ss bs = true) (h0 : 0 ≤ k) (h5 : k ≤ 5) => pzFits_any k a b st A A' c c' ss bs B u hu hBu hh h0 h5)
  cases hh : hidB st ss bs
  · have HP := Lib.hid (show dfB k a b st ss bs = false ∧ dfR k a b st ss bs = false by simp [dfB, dfR, hh])
    have HH := Lib.hid hh
    clear hh HV
    go_enter Try.func24, Try.ntmps24
    go_wp2_with fail
    generalize hu : ((w.alloc (.cells #[.int .i64 k, .int .i64 a, .int .i64 b] 25)).alloc (.cells #[.int .i64 st, .slice A ss.length c, .slice A' bs.length c'] 45)) = u at *
    clear hu
    obtain ⟨p0, p1, p2⟩ := X1.three
    obtain ⟨q0, q1, q2⟩ := Y1.three
    refine (pzHidden_any st A A' c c' ss bs B u hs z0).mono ?_
    rintro e w1 ⟨rfl, k1⟩
    rw [HH.out]
    go_wp2_with fail
    go_ret2
    exact ⟨by rw [HP.out.1, HP.out.2]; rfl, b0.trans (k1.mono b0.size)⟩
  · have HH := Lib.hid hh
    cases hc : clueB k a b
    · have HP := Lib.hid (show dfB k a b st ss bs = false ∧ dfR k a b st ss bs = false by simp [dfB, dfR, hc])
      have HC := Lib.hid hc
      clear hh hc HV
      go_enter Try.func24, Try.ntmps24
      go_wp2_with fail
      generalize hu : ((w.alloc (.cells #[.int .i64 k, .int .i64 a, .int .i64 b] 25)).alloc (.cells #[.int .i64 st, .slice A ss.length c, .slice A' bs.length c'] 45)) = u at *
      clear hu
      obtain ⟨p0, p1, p2⟩ := X1.three
      obtain ⟨q0, q1, q2⟩ := Y1.three
      refine (pzHidden_any st A A' c c' ss bs B u hs z0).mono ?_
      rintro e w1 ⟨rfl, k1⟩
      have X2 := X1.below k1 X1.lt
      obtain ⟨r0, r1, r2⟩ := X2.three
      clear p0 p1 p2 q0 q1 q2
      rw [HH.out]
      go_wp2_with fail
      refine (pzClue_any k a b w1).mono ?_
      rintro e w2 ⟨rfl, k2⟩
      rw [HC.out]
      go_wp2_with fail
      go_ret2
      exact ⟨by rw [HP.out.1, HP.out.2]; rfl, b0.trans ((k1.trans (k2.mono k1.size)).mono b0.size)⟩
    · have HP := Lib.hid (show dfB k a b st ss bs = true ∧ dfR k a b st ss bs = decide (toldV k a st ss bs = b) by simp [dfB, dfR, hh, hc])
      have HC := Lib.hid hc
      have HK := Lib.hid (clueB_kind hc)
      clear hh hc
      go_enter Try.func24, Try.ntmps24
      generalize hv : decide (toldV k a st ss bs = b) = v at *
      clear hv
      go_wp2_with fail
      generalize hu : ((w.alloc (.cells #[.int .i64 k, .int .i64 a, .int .i64 b] 25)).alloc (.cells #[.int .i64 st, .slice A ss.length c, .slice A' bs.length c'] 45)) = u at *
      clear hu
      obtain ⟨p0, p1, p2⟩ := X1.three
      obtain ⟨q0, q1, q2⟩ := Y1.three
      refine (pzHidden_any st A A' c c' ss bs B u hs z0).mono ?_
      rintro e w1 ⟨rfl, k1⟩
      have X2 := X1.below k1 X1.lt
      obtain ⟨r0, r1, r2⟩ := X2.three
      have Y2 := Y1.below k1 Y1.lt
      obtain ⟨s0, s1, s2⟩ := Y2.three
      have h2 := hs.below k1 z0
      have z2 := Nat.le_trans z0 k1.size
      clear p0 p1 p2 q0 q1 q2
      rw [HH.out]
      go_wp2_with fail
      refine (pzClue_any k a b w1).mono ?_
      rintro e w2 ⟨rfl, k2⟩
      have X3 := X2.below k2 X2.lt
      obtain ⟨p0, p1, p2⟩ := X3.three
      have Y3 := Y2.below k2 Y2.lt
      obtain ⟨q0, q1, q2⟩ := Y3.three
      have h3 := h2.below k2 z2
      have z3' := Nat.le_trans z2 k2.size
      clear r0 r1 r2 s0 s1 s2
      rw [HC.out]
      go_wp2_with fail
      refine (HV.out w2 h3 z3' HH.out HK.out.1 HK.out.2.1).mono ?_
      rintro e w4 ⟨rfl, k3⟩
      go_wp2_with fail
      go_ret2
      exact ⟨by rw [HP.out.1, HP.out.2]; rfl, b0.trans ((k1.trans ((k2.trans (k3.mono k2.size)).mono k1.size)).mono b0.size)⟩

theorem blk_rdT1 {w : World} {g : Nat} {x y z : Int} (h : Blk w g 25 #[.int .i64 x, .int .i64 y, .int .i64 z]) : RdF w w.heap.size (some ⟨g, 0, none⟩) 1 [(x, y, z)] := by
  obtain ⟨h0, h1, h2⟩ := h.three
  refine ⟨by simp, fun j hj => ?_⟩
  have : j = 0 := by simp at hj; omega
  subst this
  exact ⟨g, 0, rfl, h.lt, by simpa using h0, by simpa using h1, by simpa using h2⟩
theorem blk_rdE1 {w : World} {g : Nat} {st : Int} {v v' : Value} (h : Blk w g 45 #[.int .i64 st, v, v']) (c : Nat) (hc : 1 ≤ c) : RdE w (g + 1) (some ⟨g, 0, none⟩) c [(st, v, v')] := by
  obtain ⟨p0, p1, p2⟩ := h.three
  refine ⟨hc, fun k hk => ?_⟩
  obtain rfl : k = 0 := by simpa using hk
  exact ⟨g, 0, rfl, by omega, p0, p1, p2⟩

set_option maxHeartbeats 1000000 in
theorem implDoesFit_any (k a b st : Int) (A A' : Option Addr) (c c' : Nat) (ss bs : List Int) (B : Nat) (w : World) (h : St w B st A A' c c' ss bs) (hB : B ≤ w.heap.size) :
    Calls Try.prog 26 #[.agg #[.int .i64 k, .int .i64 a, .int .i64 b], stv st A A' c c' ss bs] w (Plain (.tuple #[.bool (dfR k a b st ss bs), .bool (dfB k a b st ss bs)]) w) := by
  have X0 : Blk (w.alloc (.cells #[.int .i64 k, .int .i64 a, .int .i64 b] 25)) w.heap.size 25 #[.int .i64 k, .int .i64 a, .int .i64 b] := Blk.new _ _ _
  have X1 := X0.alloc (.cells #[.int .i64 st, .slice A ss.length c, .slice A' bs.length c'] 45)
  have Y1 : Blk ((w.alloc (.cells #[.int .i64 k, .int .i64 a, .int .i64 b] 25)).alloc (.cells #[.int .i64 st, .slice A ss.length c, .slice A' bs.length c'] 45)) (w.heap.size + 1) 45 #[.int .i64 st, .slice A ss.length c, .slice A' bs.length c'] := Blk.new' (by simp)
  have hs := (h.alloc hB (.cells #[.int .i64 k, .int .i64 a, .int .i64 b] 25)).alloc (by simp; omega) (.cells #[.int .i64 st, .slice A ss.length c, .slice A' bs.length c'] 45)
  have b0 : Below w.heap.size w ((w.alloc (.cells #[.int .i64 k, .int .i64 a, .int .i64 b] 25)).alloc (.cells #[.int .i64 st, .slice A ss.length c, .slice A' bs.length c'] 45)) := (below_alloc _ _).alloc (by simp) _
  have z0 : B ≤ ((w.alloc (.cells #[.int .i64 k, .int .i64 a, .int .i64 b] 25)).alloc (.cells #[.int .i64 st, .slice A ss.length c, .slice A' bs.length c'] 45)).heap.size := by simp; omega
  have z1 : w.heap.size + 2 ≤ ((w.alloc (.cells #[.int .i64 k, .int .i64 a, .int .i64 b] 25)).alloc (.cells #[.int .i64 st, .slice A ss.length c, .slice A' bs.length c'] 45)).heap.size := by simp
  clear X0
  cases hh : hidB st ss bs
  · have HP := Lib.hid (show dfB k a b st ss bs = false ∧ dfR k a b st ss bs = false by simp [dfB, dfR, hh])
    have HH := Lib.hid hh
    clear hh
    go_enter Try.func26, Try.ntmps26
    go_wp2_with fail
    generalize hu : ((w.alloc (.cells #[.int .i64 k, .int .i64 a, .int .i64 b] 25)).alloc (.cells #[.int .i64 st, .slice A ss.length c, .slice A' bs.length c'] 45)) = u at *
    clear hu
    obtain ⟨p0, p1, p2⟩ := X1.three
    obtain ⟨q0, q1, q2⟩ := Y1.three
    refine (areHidden_any st A A' c c' ss bs B u hs z0).mono ?_
    rintro e w1 ⟨rfl, k1⟩
    rw [HH.out]
    go_wp2_with fail
    go_ret2
    exact ⟨by rw [HP.out.1, HP.out.2]; rfl, b0.trans (k1.mono b0.size)⟩
  · have HH := Lib.hid hh
    have HP := Lib.hid (show dfB k a b st ss bs = clueB k a b ∧ dfR k a b st ss bs = (clueB k a b && decide (toldV k a st ss bs = b)) by simp [dfB, dfR, hh])
    clear hh
    go_enter Try.func26, Try.ntmps26
    go_wp2_with fail
    generalize hu : ((w.alloc (.cells #[.int .i64 k, .int .i64 a, .int .i64 b] 25)).alloc (.cells #[.int .i64 st, .slice A ss.length c, .slice A' bs.length c'] 45)) = u at *
    clear hu
    obtain ⟨p0, p1, p2⟩ := X1.three
    obtain ⟨q0, q1, q2⟩ := Y1.three
    refine (areHidden_any st A A' c c' ss bs B u hs z0).mono ?_
    rintro e w1 ⟨rfl, k1⟩
    have X2 := X1.below k1 X1.lt
    obtain ⟨r0, r1, r2⟩ := X2.three
    have Y2 := Y1.below k1 Y1.lt
    obtain ⟨s0, s1, s2⟩ := Y2.three
    have h2 := hs.below k1 z0
    have z2 := Nat.le_trans z0 k1.size
    clear p0 p1 p2 q0 q1 q2
    rw [HH.out]
    have zz : w.heap.size + 2 ≤ w1.heap.size := Nat.le_trans z1 k1.size
    have Y3 := Y2.alloc (.cells #[.int .i64 k, .int .i64 a, .int .i64 b] 25)
    obtain ⟨t0, t1, t2⟩ := Y3.three
    go_wp2_with fail
    have hU : Hid ((w1.alloc (.cells #[.int .i64 k, .int .i64 a, .int .i64 b] 25)).alloc (.cells #[.int .i64 st, .slice A ss.length c, .slice A' bs.length c'] 45) = (w1.alloc (.cells #[.int .i64 k, .int .i64 a, .int .i64 b] 25)).alloc (.cells #[.int .i64 st, .slice A ss.length c, .slice A' bs.length c'] 45)) := Lib.hid rfl
    have N1 : Blk ((w1.alloc (.cells #[.int .i64 k, .int .i64 a, .int .i64 b] 25)).alloc (.cells #[.int .i64 st, .slice A ss.length c, .slice A' bs.length c'] 45)) w1.heap.size 25 #[.int .i64 k, .int .i64 a, .int .i64 b] := (Blk.new' (by simp)).alloc _
    have N2 : Blk ((w1.alloc (.cells #[.int .i64 k, .int .i64 a, .int .i64 b] 25)).alloc (.cells #[.int .i64 st, .slice A ss.length c, .slice A' bs.length c'] 45)) (w1.heap.size + 1) 45 #[.int .i64 st, .slice A ss.length c, .slice A' bs.length c'] := Blk.new' (by simp)
    have h4 := (h2.alloc z2 (.cells #[.int .i64 k, .int .i64 a, .int .i64 b] 25)).alloc (by simp; omega) (.cells #[.int .i64 st, .slice A ss.length c, .slice A' bs.length c'] 45)
    have b4 : Below w1.heap.size w1 ((w1.alloc (.cells #[.int .i64 k, .int .i64 a, .int .i64 b] 25)).alloc (.cells #[.int .i64 st, .slice A ss.length c, .slice A' bs.length c'] 45)) := (below_alloc _ _).alloc (by simp) _
    have z4 : w1.heap.size + 2 ≤ ((w1.alloc (.cells #[.int .i64 k, .int .i64 a, .int .i64 b] 25)).alloc (.cells #[.int .i64 st, .slice A ss.length c, .slice A' bs.length c'] 45)).heap.size := by simp
    clear t0 t1 t2 Y3 hU
    generalize (w1.alloc (.cells #[.int .i64 k, .int .i64 a, .int .i64 b] 25)).alloc (.cells #[.int .i64 st, .slice A ss.length c, .slice A' bs.length c'] 45) = u2 at *
    have HL : Calls Try.prog 61 #[.slice (some ⟨w1.heap.size, 0, none⟩) 1 1, .slice (some ⟨w1.heap.size + 1, 0, none⟩) 1 1] u2 _ := leftBy_any _ 1 [(k, a, b)] (some ⟨w1.heap.size + 1, 0, none⟩) 1 [((st, .slice A ss.length c, .slice A' bs.length c'), (st, ss, bs))] u2.heap.size u2 (blk_rdT1 N1) ((blk_rdE1 N2 1 (Nat.le_refl _)).more (by omega)) (fun x hx => by obtain rfl := List.mem_singleton.1 hx; exact ⟨rfl, A, A', c, c', rfl, rfl, h4.more (by omega)⟩) (Nat.le_refl _) (by simp) (by simp)
    refine HL.mono ?_
    rintro e w5 ⟨hb5, h5⟩
    have hb := b0.trans ((k1.trans ((b4.trans (hb5.mono b4.size)).mono k1.size)).mono b0.size)
    have hpz : puzB [(k, a, b)] = clueB k a b := by simp [puzB, clB]
    rw [hpz] at h5
    clear HL hpz N1 N2 h4 X2 Y2 r0 r1 r2 s0 s1 s2
    rcases h5 with ⟨hc, rfl⟩ | ⟨hc, v, rfl, h5⟩
    · have HC := Lib.hid hc
      clear hc
      go_wp2_with fail
      go_ret2
      exact ⟨by rw [HP.out.1, HP.out.2, HC.out]; rfl, hb⟩
    · have HC := Lib.hid hc
      clear hc
      rcases h5 with ⟨h0, _⟩ | h5
      · exact absurd h0 (by simp)
      by_cases hf : toldV k a st ss bs = b
      · have HF := Lib.hid hf
        have hl : fitsL [(k, a, b)] [((st, .slice A ss.length c, .slice A' bs.length c'), (st, ss, bs))] = [((st, .slice A ss.length c, .slice A' bs.length c'), (st, ss, bs))] := by simp [fitsL, fitsB, fitB, hf]
        rw [hl] at h5
        obtain ⟨A5, c5, rfl⟩ := h5.form
        clear hl hf h5
        rw [show (elsL [((st, Value.slice A ss.length c, Value.slice A' bs.length c'), (st, ss, bs))]).length = 1 from rfl]
        go_wp2_with fail
        go_ret2
        exact ⟨by rw [HP.out.1, HP.out.2, HC.out, decide_eq_true HF.out]; rfl, hb⟩
      · have HF := Lib.hid hf
        have hl : fitsL [(k, a, b)] [((st, .slice A ss.length c, .slice A' bs.length c'), (st, ss, bs))] = [] := by simp [fitsL, fitsB, fitB, hf]
        rw [hl] at h5
        obtain ⟨A5, c5, rfl⟩ := h5.form
        clear hl hf h5
        rw [show (elsL []).length = 0 from rfl]
        go_wp2_with fail
        go_ret2
        exact ⟨by rw [HP.out.1, HP.out.2, HC.out, decide_eq_false HF.out]; rfl, hb⟩

end Go.Proofs.Ytmiojofeoaocfaa
