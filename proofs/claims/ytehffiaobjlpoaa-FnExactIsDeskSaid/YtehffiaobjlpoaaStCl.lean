/- Contracts: the ways on to the top, on the model's side; how many climbs there are. -/
import Derived.Test.YtehffiaobjlpoaaStOn
namespace Go.Proofs.Ytehffiaobjlpoaa
set_option maxRecDepth 100000
open Go.RowKit

theorem stand_in {n a : Nat} {bs : List Int} (h : a ≤ n) : standB (n : Int) bs (a : Int) = !hasB bs (a : Int) := by
  simp [standB, inB_yes (n := (a : Int)) (lo := 0) (hi := (n : Int)) (by omega) (by omega)]
theorem caS_first (n : Nat) (ss bs : List Int) : caS n ss bs 0 n = 1 := by unfold caS; rw [onS_first]; rfl
theorem caS_rest {n : Nat} {ss bs : List Int} {p : Nat} (h : p ≠ n) : caS n ss bs 0 p = 0 := by unfold caS; rw [onS_rest h]; rfl
theorem caT_zero {n : Nat} {ss bs : List Int} {m p : Nat} : caT n ss bs m 0 p = caS n ss bs m p := by unfold caT caS; rw [onT_zero]
theorem caT_at {n : Nat} {ss bs : List Int} {m k a : Nat} (h : a + (m + 1) = n) : caT n ss bs m k a = capI (pS n ss bs m k) := by unfold caT; rw [onT_at h]
theorem caT_up {n : Nat} {ss bs : List Int} {m k a s : Nat} (h : a + (m + 1) = n) (hs : 1 ≤ s) : caT n ss bs m k (a + s) = capI (sS n ss bs m (s : Int)) := by unfold caT; rw [onT_up h hs]
theorem caT_else {n : Nat} {ss bs : List Int} {m k a p : Nat} (h : a + (m + 1) = n) (hp : p ≠ a) : caT n ss bs m k p = caT n ss bs m (k + 1) p := by unfold caT; rw [onT_else h hp]
theorem caT_skip {n : Nat} {ss bs : List Int} {m k a s p : Nat} (h : a + (m + 1) = n) (hk : k < ss.length) (hs : ss.getD k 0 = (s : Int)) (h1 : 1 ≤ s) (h2 : n < a + s) : caT n ss bs m k p = caT n ss bs m (k + 1) p := by
  by_cases hp : p = a
  · subst hp
    rw [caT_at h, caT_at h, pS_succ hk (by rw [hs]; omega), hs]
    rw [show sS n ss bs m (s : Int) = 0 by unfold sS; rw [Int.toNat_natCast, if_neg (by omega)], Int.add_zero]
  · exact caT_else h hp
/-- WHAT THE MODEL's clWays LEAVES -/
def CaPost (n : Nat) (ss bs : List Int) (T : TypeId) (w : World) (e : Ending) (w' : World) : Prop :=
  ∃ g, e = .returned (.slice (some ⟨g, 0, none⟩) (n + 1) (n + 1)) ∧ w.heap.size ≤ g ∧ Blk w' g T (ints (caL n ss bs)) ∧ Below w.heap.size w w'

set_option maxRecDepth 100000 in
set_option maxHeartbeats 4000000 in
theorem clWays_any (n : Nat) (A A' : Option Addr) (c c' : Nat) (ss bs : List Int) (B : Nat) (w : World) (h : St w B n A A' c c' ss bs) (hB : B ≤ w.heap.size) (G : Good n ss bs) :
    Calls Try.prog 84 #[stv n A A' c c' ss bs] w (CaPost n ss bs 3 w) := by
  have g1 : 1 ≤ n := by have := G.st1; omega
  have g2 : n ≤ 60 := by have := G.st2; omega
  have GH := Lib.hid G
  have X0 : Blk (w.alloc (.cells #[.int .i64 (n : Int), .slice A ss.length c, .slice A' bs.length c'] 24)) w.heap.size 24 #[.int .i64 (n : Int), .slice A ss.length c, .slice A' bs.length c'] := Blk.new _ _ _
  have hmk : ∀ u : World, (Instr.makeSlice 22 (.int .i64 ((n : Int) + 1)) (.int .i64 ((n : Int) + 1))).run Try.prog u = .ok (.slice (some ⟨u.heap.size, 0, none⟩) (n + 1) (n + 1)) (u.alloc (.cells (ints (List.replicate (n + 1) 0)) 3)) := fun u => by
    rw [show (n : Int) + 1 = ((n + 1 : Nat) : Int) by omega]
    exact make_run (n + 1) (by omega) u
  have Z := Lib.hid (tell_zero (n := n + 1) (f := fun _ => 0) (fun _ _ => rfl))
  have hf : (ints (List.replicate (n + 1) 0))[n]? = some (.int .i64 0) := by rw [ints_get _ _ (by simp)]; simp [List.getD_eq_getElem?_getD]
  have hg : (ints (List.replicate (n + 1) 0)).setIfInBounds n (.int .i64 1) = ints (tell (n + 1) (caS n ss bs 0)) := by
    rw [ints_set, Z.out, tell_set (g := caS n ss bs 0) (by omega) (caS_first _ _ _) (fun j h1 h2 => (caS_rest h2).symm)]
  have hns := h.ns
  have hl2 : ss.length ≤ 5 := G.l2
  have X1 := X0.alloc (.cells (ints (tell (n + 1) (caS n ss bs 0))) 3)
  have N1 : Blk ((w.alloc (.cells #[.int .i64 (n : Int), .slice A ss.length c, .slice A' bs.length c'] 24)).alloc (.cells (ints (tell (n + 1) (caS n ss bs 0))) 3)) (w.heap.size + 1) 3 (ints (tell (n + 1) (caS n ss bs 0))) := Blk.new' (by simp)
  have B1 : Below w.heap.size w ((w.alloc (.cells #[.int .i64 (n : Int), .slice A ss.length c, .slice A' bs.length c'] 24)).alloc (.cells (ints (tell (n + 1) (caS n ss bs 0))) 3)) := (below_alloc _ _).alloc (by simp) _
  clear G Z X0
  go_enter Try.func84, Try.ntmps84
  go_wp2_with fail
  clear hg hf hmk
  go_loopw [4] (fun i wr => ∃ m : Nat, m ≤ n ∧ i = .int .i64 ((n : Int) - 1 - m) ∧ Blk wr (w.heap.size + 1) 3 (ints (tell (n + 1) (caS n ss bs m))) ∧ Blk wr w.heap.size 24 #[.int .i64 (n : Int), .slice A ss.length c, .slice A' bs.length c'] ∧ Below w.heap.size w wr) (fun i _ => (intOf i + 1).toNat)
  case atStart => exact ⟨0, by omega, by go_num, N1, X1, B1⟩
  case round =>
    clear N1 X1 B1
    obtain ⟨m, hm, rfl, hblk, hX, hbel⟩ := hrel
    obtain ⟨p0, p1, p2⟩ := hX.three
    have hz := hblk.lt
    by_cases hlt : m < n
    · obtain ⟨a, ha⟩ : ∃ a, a + (m + 1) = n := ⟨n - (m + 1), by omega⟩
      rw [show (n : Int) - 1 - m = (a : Int) by omega]
      have hna : ((n : Int) - (m + 1 : Nat)) = (a : Int) := by omega
      have hst := stand_in (n := n) (a := a) (bs := bs) (by omega)
      cases hd : hasB bs (a : Int)
      · rw [hd] at hst
        have HS := Lib.hid hst
        have HK : Hid (∀ p, caT n ss bs m ss.length p = caS n ss bs (m + 1) p) := Lib.hid (fun p => by unfold caT caS; rw [onT_end (by rw [hna]; exact hd)])
        have HA := Lib.hid ha
        rw [← funext (fun p => caT_zero (n := n) (ss := ss) (bs := bs) (m := m) (p := p))] at hblk
        clear hd hna hst
        go_wp2_with fail
        refine (clStands_any _ _ _ _ _ _ _ _ B _ (h.below hbel hB) (by omega)).mono ?_
        rintro e w2 ⟨rfl, hb2⟩
        rw [HS.out]
        have hblk2 := hblk.below hb2 hz
        have hX2 := hX.below hb2 (by omega)
        have hbel2 : Below w.heap.size w w2 := hbel.trans (hb2.mono (by omega))
        clear hblk hX hbel hb2 p0 p1 p2
        obtain ⟨p0, p1, p2⟩ := hX2.three
        go_wp2_with fail
        go_loopw [29] (fun i wr => ∃ k : Nat, k ≤ ss.length ∧ i = .int .i64 (k : Int) ∧ Blk wr (w.heap.size + 1) 3 (ints (tell (n + 1) (caT n ss bs m k))) ∧ Blk wr w.heap.size 24 #[.int .i64 (n : Int), .slice A ss.length c, .slice A' bs.length c'] ∧ Below w.heap.size w wr) (fun i _ => ss.length - (intOf i).toNat)
        case atStart => exact ⟨0, Nat.zero_le _, rfl, hblk2, hX2, hbel2⟩
        case round =>
          clear hblk2 hX2 hbel2 p0 p1 p2
          obtain ⟨k, hk, rfl, hblk, hX, hbel⟩ := hrel
          obtain ⟨p0, p1, p2⟩ := hX.three
          by_cases hkl : k < ss.length
          · obtain ⟨bb, o, rfl, hb, hcell⟩ := (h.rs.below hbel hB).at_ hkl
            obtain ⟨s, hs⟩ : ∃ s : Nat, ss.getD k 0 = (s : Int) := ⟨(ss.getD k 0).toNat, by have := GH.out.hs _ (getD_mem hkl); omega⟩
            have hsb : 1 ≤ s ∧ s ≤ 9 := by have := GH.out.hs _ (getD_mem hkl); rw [hs] at this; omega
            have hs1 := hsb.1
            have hs2 := hsb.2
            clear hsb
            by_cases htop : a + s ≤ n
            · have k1 := hblk.int_at (k := a) (by rw [tell_length]; omega)
              have k2 := hblk.int_at (k := a + s) (by rw [tell_length]; omega)
              rw [tell_getD _ _ _ (by omega)] at k1 k2
              rw [caT_at HA.out] at k1
              rw [caT_up HA.out hs1] at k2
              have f1 := hblk.frozen a
              have f2 := hblk.frozen (a + s)
              have b1 := pS_bd GH.out (d := m) (by omega) k
              have b2 := sS_bd GH.out (d := m) (by omega) (s : Int)
              have bd1 := cap_bd b1.1
              have bd2 := cap_bd b2.1
              have E2 := cap_add b1.1 b2.1
              have SE : Hid ((tell (n + 1) (caT n ss bs m k)).set a (capI (pS n ss bs m k + sS n ss bs m (s : Int))) = tell (n + 1) (caT n ss bs m (k + 1))) := Lib.hid (tell_set (by omega) (by rw [caT_at HA.out, pS_succ hkl (by rw [hs]; omega), hs]) (fun p _ hp => caT_else HA.out hp))
              rw [hs] at hcell
              clear b1 b2
              generalize capI (pS n ss bs m k + sS n ss bs m (s : Int)) = z at *
              generalize capI (pS n ss bs m k) = u at *
              generalize capI (sS n ss bs m (s : Int)) = v at *
              have E1 : IntKind.i64.wrap (u + v) = u + v := IntWalk.i64_in _ (by omega)
              have ht : (a : Int) + (s : Int) ≤ (n : Int) := by omega
              have hc3 : (a : Int) < (n : Int) + 1 := by omega
              have hc4 : (a : Int) + (s : Int) < (n : Int) + 1 := by omega
              have hc5 : a < n + 1 := by omega
              have hc6 : a + s < n + 1 := by omega
              have hc7 : (0 : Int) ≤ (a : Int) + (s : Int) := by omega
              have hc8 : ¬ ((a : Int) + (s : Int) < 0) := by omega
              have hc9 : ((a : Int) + (s : Int)).toNat = a + s := by omega
              have E3 : IntKind.i64.wrap ((a : Int) + (s : Int)) = (a : Int) + (s : Int) := IntWalk.i64_in _ (by omega)
              clear hs htop
              go_wp2
              go_region_with (go_at_call 94; refine (l1Least_any _ _ _).mono ?_; rintro e w' ⟨rfl, rfl⟩)
              all_goals
                go_wp2
                go_roundw
                case rel => exact ⟨k + 1, by omega, by go_num, by rw [← SE.out]; exact (hblk.int_set a z), hX.far (by simp) _, (hbel.setCell (by simp) _).drew⟩
                case measure => simp [intOf] <;> omega
            · have ht : (n : Int) < (a : Int) + (s : Int) := by omega
              have HT := Lib.hid (tell_ext (n := n + 1) (f := caT n ss bs m k) (g := caT n ss bs m (k + 1)) (fun p _ => caT_skip (p := p) HA.out hkl hs hs1 (by omega)))
              rw [HT.out] at hblk
              rw [hs] at hcell
              clear hs htop
              go_wp2
              go_roundw
              case rel => exact ⟨k + 1, by omega, by go_num, hblk, hX, hbel⟩
              case measure => simp [intOf] <;> omega
          · obtain rfl : k = ss.length := by omega
            have HT := Lib.hid (tell_ext (n := n + 1) (fun p _ => HK.out p))
            rw [HT.out] at hblk
            go_wp2
            go_roundw
            case rel => exact ⟨m + 1, by omega, by go_num, hblk, hX, hbel⟩
            case measure => simp [intOf] <;> omega
      · rw [hd] at hst
        have HS := Lib.hid hst
        have HK : Hid (tell (n + 1) (caS n ss bs m) = tell (n + 1) (caS n ss bs (m + 1))) := Lib.hid (tell_ext (fun p _ => by unfold caS; rw [onS_dead (by rw [hna]; exact hd)]))
        rw [HK.out] at hblk
        clear hd hna hst
        go_wp2_with fail
        refine (clStands_any _ _ _ _ _ _ _ _ B _ (h.below hbel hB) (by omega)).mono ?_
        rintro e w2 ⟨rfl, hb2⟩
        rw [HS.out]
        have hblk2 := hblk.below hb2 hz
        have hX2 := hX.below hb2 (by omega)
        have hbel2 : Below w.heap.size w w2 := hbel.trans (hb2.mono (by omega))
        clear hblk hX hbel hb2 p0 p1 p2
        go_wp2
        go_roundw
        case rel => exact ⟨m + 1, by omega, by go_num, hblk2, hX2, hbel2⟩
        case measure => simp [intOf] <;> omega
    · obtain rfl : m = n := by omega
      go_wp2
      go_ret
      exact ⟨_, rfl, by omega, hblk, hbel⟩


end Go.Proofs.Ytehffiaobjlpoaa
