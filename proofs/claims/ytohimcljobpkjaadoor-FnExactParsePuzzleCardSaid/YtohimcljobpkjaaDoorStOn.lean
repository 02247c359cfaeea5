/- Contracts: the ways on to the top, on the program's side; how many climbs there are. -/
import Derived.Test.YtohimcljobpkjaaDoorStWays
namespace Go.Proofs.YtohimcljobpkjaaDoor
set_option maxRecDepth 100000
open Go.RowKit

def SBox (n : Nat) (A A' : Option Addr) (c c' : Nat) (ss bs : List Int) : Array Value := #[.int .i64 n, .slice A ss.length c, .slice A' bs.length c']
/-- WHAT THE PROGRAM's waysOn LEAVES -/
def OnPost (n : Nat) (ss bs : List Int) (T : TypeId) (w : World) (e : Ending) (w' : World) : Prop :=
  ∃ g, e = .returned (.slice (some ⟨g, 0, none⟩) (n + 10) (n + 10)) ∧ w.heap.size ≤ g ∧ Blk w' g T (ints (onL n ss bs)) ∧ Below w.heap.size w w'

set_option maxRecDepth 100000 in
set_option maxHeartbeats 4000000 in
theorem waysOn_any (n : Nat) (A A' : Option Addr) (c c' : Nat) (ss bs : List Int) (B : Nat) (w : World) (h : St w B n A A' c c' ss bs) (hB : B ≤ w.heap.size) (G : Good n ss bs) :
    Calls Tryd.prog 94 #[stv n A A' c c' ss bs] w (OnPost n ss bs 3 w) := by
  have g1 : 1 ≤ n := by have := G.st1; omega
  have g2 : n ≤ 60 := by have := G.st2; omega
  have GH := Lib.hid G
  have X0 : Blk (w.alloc (.cells #[.int .i64 (n : Int), .slice A ss.length c, .slice A' bs.length c'] 84)) w.heap.size 84 #[.int .i64 (n : Int), .slice A ss.length c, .slice A' bs.length c'] := Blk.new _ _ _
  have hmk : ∀ u : World, (Instr.makeSlice 46 (.int .i64 ((n : Int) + 9 + 1)) (.int .i64 ((n : Int) + 9 + 1))).run Tryd.prog u = .ok (.slice (some ⟨u.heap.size, 0, none⟩) (n + 10) (n + 10)) (u.alloc (.cells (ints (List.replicate (n + 10) 0)) 3)) := fun u => by
    rw [show (n : Int) + 9 + 1 = ((n + 10 : Nat) : Int) by omega]
    exact make_run (n + 10) (by omega) u
  have Z := Lib.hid (tell_zero (n := n + 10) (f := fun _ => 0) (fun _ _ => rfl))
  have hf : (ints (List.replicate (n + 10) 0))[n]? = some (.int .i64 0) := by rw [ints_get _ _ (by simp)]; simp [List.getD_eq_getElem?_getD]
  have hg : (ints (List.replicate (n + 10) 0)).setIfInBounds n (.int .i64 1) = ints (tell (n + 10) (onS n ss bs 0)) := by
    rw [ints_set, Z.out, tell_set (g := onS n ss bs 0) (by omega) (onS_first _ _ _) (fun j h1 h2 => (onS_rest h2).symm)]
  have hns := h.ns
  have hl2 : ss.length ≤ 5 := G.l2
  clear G Z
  go_enter Tryd.func94, Tryd.ntmps94
  go_wp2_with fail
  refine (brokenSet_any _ _ _ _ _ _ _ B _ (St.below h (B' := w.heap.size) ?_ hB) ?_ (fun x hx => by have := GH.out.hb x hx; omega)).mono ?_
  case refine_1 => exact (below_alloc _ _).alloc (by simp) _
  case refine_2 => simp; omega
  rintro e w1 ⟨mb, rfl, hmb, hset, hb⟩
  have hmb2 : w.heap.size + 2 ≤ mb := by simp at hmb; omega
  have X1 := (X0.alloc (.cells (ints (tell (n + 10) (onS n ss bs 0))) 3)).below hb (by simp; try omega)
  have N1 : Blk w1 (w.heap.size + 1) 3 (ints (tell (n + 10) (onS n ss bs 0))) := (Blk.new' (by simp)).below hb (by simp; try omega)
  have B1 : Below w.heap.size w w1 := ((below_alloc _ _).alloc (by simp) _).trans (hb.mono (by simp; try omega))
  clear hb hmb hg hf hmk X0
  obtain ⟨p0, p1, p2⟩ := X1.three
  go_wp2_with fail
  clear p0 p1 p2
  go_loopw [5] (fun i wr => ∃ m : Nat, m ≤ n ∧ i = .int .i64 ((n : Int) - 1 - m) ∧ Blk wr (w.heap.size + 1) 3 (ints (tell (n + 10) (onS n ss bs m))) ∧ Blk wr w.heap.size 84 #[.int .i64 (n : Int), .slice A ss.length c, .slice A' bs.length c'] ∧ IsSet wr mb bs.length (hasB bs) ∧ Below w.heap.size w wr) (fun i _ => (intOf i + 1).toNat)
  case atStart => exact ⟨0, by omega, by go_num, N1, X1, hset, B1⟩
  case round =>
    clear N1 X1 hset B1
    obtain ⟨m, hm, rfl, hblk, hX, hset, hbel⟩ := hrel
    obtain ⟨p0, p1, p2⟩ := hX.three
    by_cases hlt : m < n
    · obtain ⟨a, ha⟩ : ∃ a, a + (m + 1) = n := ⟨n - (m + 1), by omega⟩
      rw [show (n : Int) - 1 - m = (a : Int) by omega]
      have hlook := hset.look (a : Int) (by omega) (by omega)
      have hna : ((n : Int) - (m + 1 : Nat)) = (a : Int) := by omega
      cases hd : hasB bs (a : Int)
      · rw [hd] at hlook
        have HK : Hid (∀ p, onT n ss bs m ss.length p = onS n ss bs (m + 1) p) := Lib.hid (fun p => onT_end (by rw [hna]; exact hd))
        have HA := Lib.hid ha
        have HNA := Lib.hid hna
        rw [← funext (fun p => onT_zero (n := n) (ss := ss) (bs := bs) (m := m) (p := p))] at hblk
        clear hd hna
        go_wp2_with fail
        go_loopw [32] (fun i wr => ∃ k : Nat, k ≤ ss.length ∧ i = .int .i64 (k : Int) ∧ Blk wr (w.heap.size + 1) 3 (ints (tell (n + 10) (onT n ss bs m k))) ∧ Blk wr w.heap.size 84 #[.int .i64 (n : Int), .slice A ss.length c, .slice A' bs.length c'] ∧ IsSet wr mb bs.length (hasB bs) ∧ Below w.heap.size w wr) (fun i _ => ss.length - (intOf i).toNat)
        case atStart => exact ⟨0, Nat.zero_le _, rfl, hblk, hX, hset, hbel⟩
        case round =>
          clear hblk hX hset hbel p0 p1 p2 hlook
          obtain ⟨k, hk, rfl, hblk, hX, hset, hbel⟩ := hrel
          by_cases hkl : k < ss.length
          · obtain ⟨bb, o, rfl, hb, hcell⟩ := (h.rs.below hbel hB).at_ hkl
            obtain ⟨s, hs⟩ : ∃ s : Nat, ss.getD k 0 = (s : Int) := ⟨(ss.getD k 0).toNat, by have := GH.out.hs _ (getD_mem hkl); omega⟩
            have hsb : 1 ≤ s ∧ s ≤ 9 := by have := GH.out.hs _ (getD_mem hkl); rw [hs] at this; omega
            have hs1 := hsb.1
            have hs2 := hsb.2
            have k1 := hblk.int_at (k := a) (by rw [tell_length]; omega)
            have k2 := hblk.int_at (k := a + s) (by rw [tell_length]; omega)
            rw [tell_getD _ _ _ (by omega)] at k1 k2
            rw [onT_at HA.out] at k1
            rw [onT_up HA.out hs1] at k2
            have f1 := hblk.frozen a
            have f2 := hblk.frozen (a + s)
            have bd1 := pS_bd GH.out (d := m) (by omega) k
            have bd2 := sS_bd GH.out (d := m) (by omega) (s : Int)
            have SE : Hid ((tell (n + 10) (onT n ss bs m k)).set a (pS n ss bs m k + sS n ss bs m (s : Int)) = tell (n + 10) (onT n ss bs m (k + 1))) := Lib.hid (tell_set (by omega) (by rw [onT_at HA.out, pS_succ hkl (by rw [hs]; omega), hs]) (fun p _ hp => onT_else HA.out hp))
            rw [hs] at hcell
            generalize pS n ss bs m k = u at *
            generalize sS n ss bs m (s : Int) = v at *
            clear hs hsb
            go_wp2
            go_region
            go_wp2
            go_roundw
            case rel => exact ⟨k + 1, by omega, by go_num, by rw [← SE.out]; exact (hblk.int_set a (u + v)), hX.far (by simp) _, (hset.far (by simp; omega) _), (hbel.setCell (by simp) _).drew⟩
            case measure => simp [intOf] <;> omega
          · obtain rfl : k = ss.length := by omega
            have HT := Lib.hid (tell_ext (n := n + 10) (fun p _ => HK.out p))
            rw [HT.out] at hblk
            go_wp2
            go_roundw
            case rel => exact ⟨m + 1, by omega, by go_num, hblk, hX, hset, hbel⟩
            case measure => simp [intOf] <;> omega
      · rw [hd] at hlook
        have HK : Hid (tell (n + 10) (onS n ss bs m) = tell (n + 10) (onS n ss bs (m + 1))) := Lib.hid (tell_ext (fun p _ => onS_dead (by rw [hna]; exact hd)))
        rw [HK.out] at hblk
        clear hd hna
        go_wp2
        go_roundw
        case rel => exact ⟨m + 1, by omega, by go_num, hblk, hX, hset, hbel⟩
        case measure => simp [intOf] <;> omega
    · obtain rfl : m = n := by omega
      go_wp2
      go_ret
      exact ⟨_, rfl, by omega, hblk, hbel⟩

def countB (st : Int) (ss bs : List Int) : Bool := goodB st ss bs && decide (wS st ss bs st.toNat ≤ 1000000000000000)
def countN (st : Int) (ss bs : List Int) : Int := if countB st ss bs then wS st ss bs st.toNat else 0
/-- WHAT THE PROGRAM's waysToRank LEAVES -/
def RankPost (st : Int) (ss bs : List Int) (T : TypeId) (w : World) (e : Ending) (w' : World) : Prop :=
  ∃ v, e = .returned (.tuple #[v, .bool (countB st ss bs)]) ∧ Below w.heap.size w w' ∧ (countB st ss bs = true → ∃ g, v = .slice (some ⟨g, 0, none⟩) (st.toNat + 10) (st.toNat + 10) ∧ w.heap.size ≤ g ∧ Blk w' g T (ints (onL st.toNat ss bs)))

set_option maxHeartbeats 1000000 in
theorem toRank_any (st : Int) (A A' : Option Addr) (c c' : Nat) (ss bs : List Int) (B : Nat) (w : World) (h : St w B st A A' c c' ss bs) (hB : B ≤ w.heap.size) :
    Calls Tryd.prog 80 #[stv st A A' c c' ss bs] w (RankPost st ss bs 3 w) := by
  have X0 : Blk (w.alloc (.cells #[.int .i64 st, .slice A ss.length c, .slice A' bs.length c'] 84)) w.heap.size 84 #[.int .i64 st, .slice A ss.length c, .slice A' bs.length c'] := Blk.new _ _ _
  have h1 := h.alloc hB
  cases hg : goodB st ss bs
  · have HC := Lib.hid (show countB st ss bs = false by simp [countB, hg])
    have HG := Lib.hid hg
    clear hg
    go_enter Tryd.func80, Tryd.ntmps80
    go_wp2_with fail
    refine (implAre_any _ _ _ _ _ _ _ B _ (h1 _) (by simp; omega)).mono ?_
    rintro e w1 ⟨rfl, hb⟩
    rw [HG.out]
    go_wp2_with fail
    go_ret2
    exact ⟨_, by rw [HC.out]; rfl, (below_alloc _ _).trans (hb.mono (by simp)), fun h => by rw [HC.out] at h; cases h⟩
  · have G := good_of hg
    obtain ⟨n, rfl⟩ : ∃ n : Nat, st = (n : Int) := ⟨st.toNat, by have := G.st1; omega⟩
    have g1 : 1 ≤ n := by have := G.st1; omega
    have g2 : n ≤ 60 := by have := G.st2; omega
    have bd := wS_bd G (d := n) (by omega)
    have E := Lib.hid (onL_zero n ss bs)
    have HC := Lib.hid (show countB (n : Int) ss bs = decide (wS n ss bs n ≤ 1000000000000000) by simp [countB, hg])
    have HG := Lib.hid hg
    have GH := Lib.hid G
    clear hg G
    go_enter Tryd.func80, Tryd.ntmps80
    go_wp2_with fail
    refine (implAre_any _ _ _ _ _ _ _ B _ (h1 _) (by simp; omega)).mono ?_
    rintro e w1 ⟨rfl, hb⟩
    rw [HG.out]
    have X1 := X0.below hb (by simp)
    have B1 : Below w.heap.size w w1 := (below_alloc _ _).trans (hb.mono (by simp))
    have hz : w.heap.size < w1.heap.size := by have := hb.size; simp at this; omega
    obtain ⟨p0, p1, p2⟩ := X1.three
    clear hb h1
    go_wp2_with fail
    refine (waysOn_any _ _ _ _ _ _ _ B _ (h.below B1 hB) (by omega) GH.out).mono ?_
    rintro e w2 ⟨g, rfl, hgg, hblk, hb2⟩
    have k := hblk.int_at (k := 0) (by unfold onL; rw [tell_length]; omega)
    rw [E.out] at k
    generalize wS n ss bs n = v at *
    have B2 : Below w.heap.size w w2 := B1.trans (hb2.mono (by omega))
    clear p0 p1 p2 X1 hb2
    by_cases hv : v ≤ 1000000000000000
    · have HV := Lib.hid (HC.out.trans (decide_eq_true hv))
      go_wp2_with fail
      go_ret2
      exact ⟨_, by rw [HV.out]; rfl, B2, fun _ => ⟨g, by simp, by omega, by simpa using hblk⟩⟩
    · have HV := Lib.hid (HC.out.trans (decide_eq_false hv))
      go_wp2_with fail
      go_ret2
      exact ⟨_, by rw [HV.out]; rfl, B2, fun h => by rw [HV.out] at h; cases h⟩

set_option maxHeartbeats 1000000 in
theorem implCount_any (st : Int) (A A' : Option Addr) (c c' : Nat) (ss bs : List Int) (B : Nat) (w : World) (h : St w B st A A' c c' ss bs) (hB : B ≤ w.heap.size) :
    Calls Tryd.prog 64 #[stv st A A' c c' ss bs] w (Plain (.tuple #[.int .i64 (countN st ss bs), .bool (countB st ss bs)]) w) := by
  have h1 := h.alloc hB
  cases hc : countB st ss bs
  · rw [show countN st ss bs = 0 by simp [countN, hc]]
    have HC := Lib.hid hc
    clear hc
    go_enter Tryd.func64, Tryd.ntmps64
    go_wp2_with fail
    refine (toRank_any _ _ _ _ _ _ _ B _ (h1 _) (by simp; omega)).mono ?_
    rintro e w1 ⟨v, rfl, hb, _⟩
    rw [HC.out]
    go_wp2_with fail
    go_ret2
    exact ⟨rfl, (below_alloc _ _).trans (hb.mono (by simp))⟩
  · have E := Lib.hid (onL_zero st.toNat ss bs)
    have HN := Lib.hid (show countN st ss bs = wS (st.toNat : Nat) ss bs st.toNat by
      have hp : 0 ≤ st := by
        have : goodB st ss bs = true := by simp only [countB, Bool.and_eq_true] at hc; exact hc.1
        have := (good_of this).st1; omega
      rw [countN, if_pos hc, Int.toNat_of_nonneg hp])
    rw [HN.out]
    have HC := Lib.hid hc
    clear hc
    generalize wS (st.toNat : Nat) ss bs st.toNat = x at *
    go_enter Tryd.func64, Tryd.ntmps64
    go_wp2_with fail
    refine (toRank_any _ _ _ _ _ _ _ B _ (h1 _) (by simp; omega)).mono ?_
    rintro e w1 ⟨v, rfl, hb, hv⟩
    obtain ⟨g, rfl, hgg, hblk⟩ := hv HC.out
    rw [HC.out]
    have k := hblk.int_at (k := 0) (by unfold onL; rw [tell_length]; omega)
    rw [E.out] at k
    generalize st.toNat = m at *
    go_wp2_with fail
    go_ret2
    exact ⟨rfl, (below_alloc _ _).trans (hb.mono (by simp))⟩

end Go.Proofs.YtohimcljobpkjaaDoor
