/- Contracts: the climb with a rank, on the program's side; the first climb. -/
import Derived.Test.YtimgnollnnepbaaStCl
namespace Go.Proofs.Ytimgnollnnepbaa
open Go.RowKit

/-- the stride that a rank chooses, and the rank behind it -/
def pick (g : Int → Int) : List Int → Int → Option (Int × Int)
  | [], _ => none
  | s :: ss, r => if r < g s then some (s, r) else pick g ss (r - g s)
theorem pick_yes {g : Int → Int} {xs : List Int} {k : Nat} {r : Int} (h : k < xs.length) (h2 : r < g (xs.getD k 0)) : pick g (xs.drop k) r = some (xs.getD k 0, r) := by
  rw [drop_at xs k h, pick, if_pos h2]
theorem pick_no {g : Int → Int} {xs : List Int} {k : Nat} {r : Int} (h : k < xs.length) (h2 : ¬ r < g (xs.getD k 0)) : pick g (xs.drop k) r = pick g (xs.drop (k + 1)) (r - g (xs.getD k 0)) := by
  rw [drop_at xs k h, pick, if_neg h2]
/-- the climb from a distance that a rank chooses -/
def climbR (st : Int) (ss bs : List Int) : Nat → Nat → Int → List Int
  | 0, _, _ => []
  | _ + 1, 0, _ => []
  | f + 1, d + 1, r => match pick (sS st ss bs d) ss r with
    | none => []
    | some p => p.1 :: climbR st ss bs f (d + 1 - p.1.toNat) p.2
theorem climbR_top {st : Int} {ss bs : List Int} {f : Nat} {r : Int} : climbR st ss bs (f + 1) 0 r = [] := rfl
theorem climbR_step {st : Int} {ss bs : List Int} {f d : Nat} {r s r' : Int} (h : pick (sS st ss bs d) ss r = some (s, r')) : climbR st ss bs (f + 1) (d + 1) r = s :: climbR st ss bs f (d + 1 - s.toNat) r' := by
  simp only [climbR, h]
theorem climbR_length {st : Int} {ss bs : List Int} : ∀ (f d : Nat) (r : Int), (climbR st ss bs f d r).length ≤ f
  | 0, _, _ => by simp [climbR]
  | f + 1, 0, _ => by simp [climbR]
  | f + 1, d + 1, r => by
    unfold climbR
    split
    · simp
    · have := climbR_length (st := st) (ss := ss) (bs := bs) f (d + 1 - (by assumption : Int × Int).1.toNat) (by assumption : Int × Int).2
      simp; omega
theorem wS_some {st : Int} {ss bs : List Int} {d : Nat} {r : Int} (h0 : 0 ≤ r) (h : r < wS st ss bs (d + 1)) : wS st ss bs (d + 1) = pS st ss bs d ss.length := by
  refine wS_alive ?_
  cases e : hasB bs (st - (d + 1 : Nat))
  · rfl
  · rw [wS_dead e] at h; omega
theorem onL_up {n : Nat} {ss bs : List Int} {m a s : Nat} (h : a + (m + 1) = n) (hs : 1 ≤ s) (hs9 : s ≤ 9) : (onL n ss bs).getD (a + s) 0 = sS n ss bs m (s : Int) := by
  unfold onL
  rw [tell_getD _ _ _ (by omega)]
  unfold onS sS
  rw [Int.toNat_natCast]
  by_cases h1 : s ≤ m + 1
  · rw [if_pos (by omega), if_pos h1]; congr 1; omega
  · rw [if_neg (by omega), if_neg h1]
theorem sS_pos {st : Int} {ss bs : List Int} {d s : Nat} {r : Int} (h0 : 0 ≤ r) (h : r < sS st ss bs d (s : Int)) : s ≤ d + 1 ∧ sS st ss bs d (s : Int) = wS st ss bs (d + 1 - s) := by
  unfold sS at *
  rw [Int.toNat_natCast] at *
  by_cases h1 : s ≤ d + 1
  · rw [if_pos h1]; exact ⟨h1, rfl⟩
  · rw [if_neg h1] at h; omega
def atB (n : Nat) (ss bs : List Int) (r : Int) : Bool := decide (0 ≤ r) && decide (r < wS n ss bs n)
def atR (n : Nat) (ss bs : List Int) (r : Int) : List Int := if atB n ss bs r then climbR n ss bs (n + 1) n r else []

set_option maxRecDepth 100000 in
set_option maxHeartbeats 4000000 in
theorem climbAt_any (n : Nat) (A A' : Option Addr) (c c' : Nat) (ss bs : List Int) (r : Int) (g : Nat) (B : Nat) (w : World) (h : St w B n A A' c c' ss bs) (hB : B ≤ w.heap.size) (G : Good n ss bs) (hblk : Blk w g 3 (ints (onL n ss bs))) :
    Calls Try.prog 70 #[stv n A A' c c' ss bs, .slice (some ⟨g, 0, none⟩) (n + 10) (n + 10), .int .i64 r] w (Lists w (atR n ss bs r) (atB n ss bs r)) := by
  have g1 : 1 ≤ n := by have := G.st1; omega
  have g2 : n ≤ 60 := by have := G.st2; omega
  have GH := Lib.hid G
  have X0 : Blk (w.alloc (.cells #[.int .i64 (n : Int), .slice A ss.length c, .slice A' bs.length c'] 28)) w.heap.size 28 #[.int .i64 (n : Int), .slice A ss.length c, .slice A' bs.length c'] := Blk.new _ _ _
  have hgl := hblk.lt
  have hl2 : ss.length ≤ 5 := G.l2
  have bd := wS_bd G (d := n) (by omega)
  have k0 := (hblk.alloc (.cells #[.int .i64 (n : Int), .slice A ss.length c, .slice A' bs.length c'] 28)).int_at (k := 0) (by unfold onL; rw [tell_length]; omega)
  rw [onL_zero] at k0
  have HBlk := Lib.hid hblk
  clear hblk G
  by_cases hr0 : r < 0
  · rw [show atB n ss bs r = false by simp [atB]; omega, show atR n ss bs r = [] by simp [atR, atB]; omega]
    go_enter Try.func70, Try.ntmps70
    go_wp2_with fail
    go_ret2
    exact ⟨_, rfl, OwnI.nil _ _, below_alloc _ _⟩
  · by_cases hr1 : wS n ss bs n ≤ r
    · rw [show atB n ss bs r = false by simp [atB]; omega, show atR n ss bs r = [] by simp [atR, atB]; omega]
      generalize wS n ss bs n = v at *
      go_enter Try.func70, Try.ntmps70
      go_wp2_with fail
      go_ret2
      exact ⟨_, rfl, OwnI.nil _ _, below_alloc _ _⟩
    · have hb : atB n ss bs r = true := by simp [atB]; omega
      rw [show atR n ss bs r = climbR n ss bs (n + 1) n r by simp [atR, hb], hb]
      have hr2 : 0 ≤ r := by omega
      have hr3 : r < wS n ss bs n := by omega
      have hr4 : r ≤ 1152921504606846976 := by omega
      have HR := Lib.hid hr3
      clear hb hr0 hr1
      generalize hv0 : wS n ss bs n = v at k0 hr3
      clear bd hv0
      go_enter Try.func70, Try.ntmps70
      go_wp2_with fail
      clear k0 hr3
      go_loopw [2, 8, 9] (fun q o i wr => ∃ (ys : List Int) (a d f : Nat) (x : Int), a + d = n ∧ q = .int .i64 x ∧ i = .int .i64 a ∧ 0 ≤ x ∧ x ≤ 1152921504606846976 ∧ Hid (x < wS n ss bs d) ∧ d + 1 ≤ f ∧ ys.length + f ≤ n + 1 ∧ Hid (climbR n ss bs (n + 1) n r = ys ++ climbR n ss bs f d x) ∧ OwnI wr (w.heap.size + 1) o ys ∧ Below (w.heap.size + 1) (w.alloc (.cells #[.int .i64 (n : Int), .slice A ss.length c, .slice A' bs.length c'] 28)) wr) (fun _ _ i _ => (61 - intOf i).toNat)
      case atStart => exact ⟨[], 0, n, n + 1, r, by omega, rfl, rfl, hr2, hr4, HR, by omega, by simp, Lib.hid rfl, OwnI.nil _ _, Below.refl _ _⟩
      case round =>
        obtain ⟨ys, a, d, f, x, had, rfl, rfl, hx0, hx1, HX, hf, hyl, HC, hown, hbw⟩ := hrel
        have X := X0.below hbw (by omega)
        have hz : w.heap.size < wr.heap.size := by have := hbw.size; simp at this; omega
        have B1 : Below w.heap.size w wr := (below_alloc _ _).trans (hbw.mono (by omega))
        have hw := h.below B1 hB
        have hon := HBlk.out.below B1 hgl
        obtain ⟨p0, p1, p2⟩ := X.three
        have HW := Lib.hid hbw
        have HB1 := Lib.hid B1
        obtain ⟨f, rfl⟩ : ∃ f', f = f' + 1 := ⟨f - 1, by omega⟩
        clear X hbw B1
        by_cases hd : d = 0
        · subst hd
          have HY := Lib.hid (by rw [HC.out, climbR_top, List.append_nil] : climbR n ss bs (n + 1) n r = ys)
          obtain rfl : a = n := by omega
          go_wp2_with fail
          go_ret2
          exact ⟨_, rfl, by rw [HY.out]; exact hown.mono (by omega), HB1.out⟩
        · obtain ⟨m, rfl⟩ : ∃ m, d = m + 1 := ⟨d - 1, by omega⟩
          have HA := Lib.hid had
          have han : a < n := by omega
          have HS := Lib.hid (wS_some hx0 HX.out)
          go_wp2_with fail
          go_loop [2, 8, 9, 28] (fun q v8 v9 i => ∃ (k : Nat) (y : Int), k ≤ ss.length ∧ v9 = .int .i64 (a : Int) ∧ OwnI wr (w.heap.size + 1) v8 ys ∧ i = .int .i64 (k : Int) ∧ q = .int .i64 y ∧ 0 ≤ y ∧ y ≤ 1152921504606846976 ∧ Hid (y = x - pS n ss bs m k) ∧ Hid (pick (sS n ss bs m) ss x = pick (sS n ss bs m) (ss.drop k) y)) (fun _ _ _ i => ss.length - (intOf i).toNat)
          case atStart => exact ⟨0, x, Nat.zero_le _, rfl, hown, rfl, rfl, hx0, hx1, Lib.hid (by rw [pS_zero]; omega), Lib.hid (by simp)⟩
          case round =>
            clear hown
            obtain ⟨k, y, hk, rfl, hown, rfl, rfl, hy0, hy1, HY, HP⟩ := hrel
            by_cases hkl : k < ss.length
            · obtain ⟨bb, o, rfl, hb, hcell⟩ := hw.rs.at_ hkl
              obtain ⟨s, hs⟩ : ∃ s : Nat, ss.getD k 0 = (s : Int) := ⟨(ss.getD k 0).toNat, by have := GH.out.hs _ (getD_mem hkl); omega⟩
              have hsb : 1 ≤ s ∧ s ≤ 9 := by have := GH.out.hs _ (getD_mem hkl); rw [hs] at this; omega
              have hs1 := hsb.1
              have hs2 := hsb.2
              have k2 := hon.int_at (k := a + s) (by unfold onL; rw [tell_length]; omega)
              rw [onL_up HA.out hs1 hs2] at k2
              have bd2 := sS_bd GH.out (d := m) (by omega) (s : Int)
              have HKL := Lib.hid hkl
              rw [hs] at hcell
              have HSS := Lib.hid hs
              clear hsb hs
              by_cases hlt : y < sS n ss bs m (s : Int)
              · have HN := Lib.hid (HP.out.trans (pick_yes HKL.out (by rw [HSS.out]; exact hlt)))
                rw [HSS.out] at HN
                have hps := sS_pos hy0 hlt
                have hsd : s ≤ m + 1 := hps.1
                have HLT : Hid (y < wS n ss bs (m + 1 - s)) := Lib.hid (by rw [← hps.2]; exact hlt)
                have HST := Lib.hid (climbR_step (f := f) HN.out)
                clear hps
                generalize sS n ss bs m (s : Int) = v at *
                go_wp2_with (at_builtin; refine wpList_push _ rfl _ _ rfl (w.heap.size + 1) _ ys rfl (hown.alloc _) wr.heap.size (s : Int) rfl (by simp) (by omega) (by simp; omega) ?_; intro v1 w2 hown1 hg1)
                go_roundw
                case rel => exact ⟨ys ++ [(s : Int)], a + s, m + 1 - s, f, y, by omega, rfl, by go_num, hy0, hy1, HLT, by omega, by simp; omega, Lib.hid (by rw [HC.out, HST.out, List.append_assoc, Int.toNat_natCast]; rfl), hown1, (HW.out.alloc (by omega) _).trans hg1⟩
                case measure => simp [intOf]; omega
              · have HN := Lib.hid (HP.out.trans (pick_no HKL.out (by rw [HSS.out]; exact hlt)))
                rw [HSS.out] at HN
                have HYN : Hid (y - sS n ss bs m (s : Int) = x - pS n ss bs m (k + 1)) := Lib.hid (by rw [pS_succ HKL.out (by rw [HSS.out]; omega), HSS.out, HY.out]; omega)
                generalize sS n ss bs m (s : Int) = v at *
                go_wp2_with fail
                go_round
                case rel => exact ⟨k + 1, y - v, by omega, rfl, hown, by go_num, by first | rfl | go_num, by omega, by omega, HYN, HN⟩
                case measure => simp [intOf]; omega
            · exfalso
              obtain rfl : k = ss.length := by omega
              have h1 := HY.out
              have h2 := HX.out
              rw [HS.out] at h2
              omega

def firstB (st : Int) (ss bs : List Int) : Bool := goodB st ss bs && decide (0 < wS st ss bs st.toNat)
def firstR (st : Int) (ss bs : List Int) : List Int := if firstB st ss bs then climbR st ss bs (st.toNat + 1) st.toNat 0 else []
theorem firstR_length (st : Int) (ss bs : List Int) : (firstR st ss bs).length ≤ 1048576 := by
  unfold firstR
  split
  · next h =>
    have hg : goodB st ss bs = true := by simp only [firstB, Bool.and_eq_true] at h; exact h.1
    have := (good_of hg).st2
    have := climbR_length (st := st) (ss := ss) (bs := bs) (st.toNat + 1) st.toNat 0
    omega
  · simp
theorem at_zero {n : Nat} {ss bs : List Int} (hg : goodB n ss bs = true) : atB n ss bs 0 = firstB n ss bs ∧ atR n ss bs 0 = firstR n ss bs := by
  have : atB n ss bs 0 = firstB n ss bs := by simp [atB, firstB, hg]
  exact ⟨this, by simp [atR, firstR, this]⟩


end Go.Proofs.Ytimgnollnnepbaa
