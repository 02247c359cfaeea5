/- Contracts: the steps of a climb on the model's side. -/
import Derived.Test.YtdiiedekodeahaaPush
namespace Go.Proofs.Ytdiiedekodeahaa
open Go.RowKit

set_option maxHeartbeats 400000 in
theorem clBoth_any (st : Int) (A A' Z : Option Addr) (c c' d : Nat) (ss bs xs : List Int) (B : Nat) (w : World) (h : St w B st A A' c c' ss bs) (hB : B ≤ w.heap.size) (hx : Rd w B Z d xs) (hn : xs.length ≤ 1048576) :
    Calls Try.prog 35 #[stv st A A' c c' ss bs, .slice Z xs.length d] w fun e w' => e = .returned (.bool (goodB st ss bs && climbB st ss bs 0 xs)) ∧ Below w.heap.size w w' := by
  have X0 : Blk (w.alloc (.cells #[.int .i64 st, .slice A ss.length c, .slice A' bs.length c'] 27)) w.heap.size 27 #[.int .i64 st, .slice A ss.length c, .slice A' bs.length c'] := Blk.new _ _ _
  have h1 := h.alloc hB
  cases hg : goodB st ss bs
  · rw [Bool.false_and]
    go_enter Try.func35, Try.ntmps35
    go_wp2_with fail
    refine (clGood_any _ _ _ _ _ _ _ B _ (h1 _) (by simp; omega)).mono ?_
    rintro e w1 ⟨rfl, hb⟩
    rw [hg]
    go_wp2_with fail
    go_ret
    exact ⟨rfl, (below_alloc _ _).trans (hb.mono (by simp))⟩
  · rw [Bool.true_and]
    have G := good_of hg
    have HG := Lib.hid hg
    clear hg
    go_enter Try.func35, Try.ntmps35
    go_wp2_with fail
    refine (clGood_any _ _ _ _ _ _ _ B _ (h1 _) (by simp; omega)).mono ?_
    rintro e w1 ⟨rfl, hb⟩
    rw [HG.out]
    have X1 := X0.below hb (by simp)
    have B1 : Below w.heap.size w w1 := (below_alloc _ _).trans (hb.mono (by simp))
    have hz : w.heap.size < w1.heap.size := by have := hb.size; simp at this; omega
    obtain ⟨p0, p1, p2⟩ := X1.three
    clear hb
    go_wp2_with fail
    refine (clIs_any _ _ _ _ _ _ _ _ _ _ B _ (h.below B1 hB) (by omega) (hx.below B1 hB) hn G).mono ?_
    rintro e w2 ⟨rfl, hb⟩
    go_wp2_with fail
    go_ret
    exact ⟨rfl, B1.trans (hb.mono (by omega))⟩

set_option maxHeartbeats 400000 in
theorem specIs_any (st : Int) (A A' Z : Option Addr) (c c' d : Nat) (ss bs xs : List Int) (B : Nat) (w : World) (h : St w B st A A' c c' ss bs) (hB : B ≤ w.heap.size) (hx : Rd w B Z d xs) (hn : xs.length ≤ 1048576) :
    Calls Try.prog 14 #[stv st A A' c c' ss bs, .slice Z xs.length d] w fun e w' => e = .returned (.tuple #[.bool (goodB st ss bs && climbB st ss bs 0 xs), .bool (goodB st ss bs)]) ∧ Below w.heap.size w w' := by
  have X0 : Blk (w.alloc (.cells #[.int .i64 st, .slice A ss.length c, .slice A' bs.length c'] 27)) w.heap.size 27 #[.int .i64 st, .slice A ss.length c, .slice A' bs.length c'] := Blk.new _ _ _
  have h1 := h.alloc hB
  cases hg : goodB st ss bs
  · rw [Bool.false_and]
    go_enter Try.func14, Try.ntmps14
    go_wp2_with fail
    refine (clGood_any _ _ _ _ _ _ _ B _ (h1 _) (by simp; omega)).mono ?_
    rintro e w1 ⟨rfl, hb⟩
    rw [hg]
    go_wp2_with fail
    go_ret2
    exact ⟨rfl, (below_alloc _ _).trans (hb.mono (by simp))⟩
  · rw [Bool.true_and]
    have G := good_of hg
    have HG := Lib.hid hg
    clear hg
    go_enter Try.func14, Try.ntmps14
    go_wp2_with fail
    refine (clGood_any _ _ _ _ _ _ _ B _ (h1 _) (by simp; omega)).mono ?_
    rintro e w1 ⟨rfl, hb⟩
    rw [HG.out]
    have X1 := X0.below hb (by simp)
    have B1 : Below w.heap.size w w1 := (below_alloc _ _).trans (hb.mono (by simp))
    have hz : w.heap.size < w1.heap.size := by have := hb.size; simp at this; omega
    obtain ⟨p0, p1, p2⟩ := X1.three
    clear hb
    go_wp2_with fail
    refine (clIs_any _ _ _ _ _ _ _ _ _ _ B _ (h.below B1 hB) (by omega) (hx.below B1 hB) hn G).mono ?_
    rintro e w2 ⟨rfl, hb⟩
    go_wp2_with fail
    go_ret2
    exact ⟨rfl, B1.trans (hb.mono (by omega))⟩

/-- the steps, if b holds -/
def stepsF (b : Bool) (xs : List Int) : List Int := if b = true then sumsL 0 xs else []
theorem stepsF_true (xs : List Int) : stepsF true xs = sumsL 0 xs := rfl
theorem stepsF_false (xs : List Int) : stepsF false xs = [] := rfl

/-- a climb has at most as many strides as there are steps -/
theorem climb_len (st : Int) (ss bs : List Int) (hs : ∀ x ∈ ss, 1 ≤ x ∧ x ≤ 9) : ∀ (v : Int) (xs : List Int), climbB st ss bs v xs = true → v ≤ st → (xs.length : Int) ≤ st - v
  | v, [], _, h => by simp; omega
  | v, x :: r, h, _ => by
    simp only [climbB, Bool.and_eq_true] at h
    have h2 := stand_le h.2.1
    have := climb_len st ss bs hs (v + x) r h.2.2 h2.2
    have := hs x (mem_of_hasB h.1)
    simp; omega

set_option maxHeartbeats 1000000 in
theorem specSteps_any (st : Int) (A A' Z : Option Addr) (c c' d : Nat) (ss bs xs : List Int) (B : Nat) (w : World) (h : St w B st A A' c c' ss bs) (hB : B ≤ w.heap.size) (hx : Rd w B Z d xs) (hn : xs.length ≤ 1048576) :
    Calls Try.prog 18 #[stv st A A' c c' ss bs, .slice Z xs.length d] w
      (Lists w (stepsF (goodB st ss bs && climbB st ss bs 0 xs) xs) (goodB st ss bs && climbB st ss bs 0 xs)) := by
  have h1 := h.alloc hB
  have hx1 := hx.below (below_alloc w (.cells #[.int .i64 st, .slice A ss.length c, .slice A' bs.length c'] 27)) hB
  cases hg : goodB st ss bs && climbB st ss bs 0 xs
  · rw [stepsF_false]
    go_enter Try.func18, Try.ntmps18
    go_wp2_with fail
    refine (clBoth_any _ _ _ _ _ _ _ _ _ _ B _ (h1 _) (by simp; omega) hx1 hn).mono ?_
    rintro e w1 ⟨rfl, hb⟩
    rw [hg]
    go_wp2_with fail
    go_ret2
    exact ⟨_, rfl, OwnI.nil _ _, (below_alloc _ _).trans (hb.mono (by simp))⟩
  · rw [stepsF_true]
    have HG := Lib.hid hg
    clear hg
    have hg := HG.out
    simp only [Bool.and_eq_true] at hg
    have G := good_of hg.1
    have HC := Lib.hid hg.2
    have g2 := G.st2
    clear hg
    go_enter Try.func18, Try.ntmps18
    go_wp2_with fail
    refine (clBoth_any _ _ _ _ _ _ _ _ _ _ B _ (h1 _) (by simp; omega) hx1 hn).mono ?_
    rintro e w1 ⟨rfl, hb⟩
    rw [HG.out]
    have B1 : Below w.heap.size w w1 := (below_alloc _ _).trans (hb.mono (by simp))
    have hz : w.heap.size ≤ w1.heap.size := B1.size
    have hxw := hx.below B1 hB
    clear hb h1 hx1
    go_wp2_with fail
    go_loopw [6, 7, 16] (fun o a i wr => ∃ (k : Nat) (v : Int) (zs : List Int), k ≤ xs.length ∧ 0 ≤ v ∧ v ≤ st ∧ zs.length = k ∧ i = .int .i64 k ∧ a = .int .i64 v ∧ OwnI wr w1.heap.size o zs ∧ Hid (climbB st ss bs v (xs.drop k) = true) ∧ Hid (sumsL 0 xs = zs ++ sumsL v (xs.drop k)) ∧ Below w1.heap.size w1 wr) (fun _ _ i _ => xs.length - (intOf i).toNat)
    case atStart => exact ⟨0, 0, [], Nat.zero_le _, Int.le_refl _, by have := G.st1; omega, rfl, rfl, rfl, OwnI.nil _ _, HC.out, rfl, Below.refl _ _⟩
    case round =>
      obtain ⟨k, v, zs, hk, hv0, hv1, hzl, rfl, rfl, hown, HK, HS, hbw⟩ := hrel
      by_cases hlt : k < xs.length
      · obtain ⟨b, o, rfl, hb, hcell⟩ := (hxw.below hbw (by omega)).at_ hlt
        have hlen := hbw.size
        have EC := climbB_go st ss bs v xs k hlt
        have ES := Lib.hid (sumsL_go v xs k hlt)
        generalize xs.getD k 0 = x at *
        have HK' := HK.out
        rw [EC] at HK'
        simp only [Bool.and_eq_true] at HK'
        obtain ⟨c1, c2, c3⟩ := HK'
        have hx1 := G.hs x (mem_of_hasB c1)
        have hs := stand_le c2
        have hx2 : 1 ≤ x := hx1.1
        have hx3 : x ≤ 9 := hx1.2
        have hs1 : v + x ≤ st := hs.2
        have HK2 := Lib.hid c3
        have HB := Lib.hid hbw
        clear EC c1 c2 c3 hx1 hs HK hbw
        go_wp2_with (at_builtin; refine wpList_push _ rfl _ _ rfl w1.heap.size _ zs rfl (hown.alloc _) wr.heap.size (v + x) rfl (by simp) (by omega) (by simp; omega) ?_; intro v1 w2 hown1 hg1)
        go_roundw
        case rel => exact ⟨k + 1, v + x, zs ++ [v + x], by omega, by omega, hs1, by simp [hzl], by go_num, rfl, hown1, HK2.out, by rw [Hid, HS.out, ES.out]; simp, (HB.out.alloc (by omega) _).trans hg1⟩
        case measure => simp [intOf]; omega
      · have HE := Lib.hid (sumsL_end v xs k hlt)
        go_wp2_with fail
        go_ret2
        refine ⟨_, rfl, ?_, B1.trans (hbw.mono hz)⟩
        rw [HS.out, HE.out, List.append_nil]
        exact hown.mono hz

end Go.Proofs.Ytdiiedekodeahaa
