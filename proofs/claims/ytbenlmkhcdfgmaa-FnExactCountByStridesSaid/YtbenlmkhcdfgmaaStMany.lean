/- Contracts: climbs with just so many strides, on both sides. -/
import Derived.Test.YtbenlmkhcdfgmaaStCut
import Derived.Test.YtbenlmkhcdfgmaaStByW
namespace Go.Proofs.Ytbenlmkhcdfgmaa
open Go.RowKit

set_option maxRecDepth 100000 in
set_option maxHeartbeats 6000000 in
theorem clMany_any (n m0 : Nat) (A A' : Option Addr) (c c' : Nat) (ss bs : List Int) (B : Nat) (w : World) (h : St w B n A A' c c' ss bs) (hB : B ≤ w.heap.size) (G : Good n ss bs) (hm0 : m0 ≤ n) :
    Calls Try.prog 30 #[stv n A A' c c' ss bs, .int .i64 (m0 : Int)] w (Plain (.int .i64 (fC n ss bs m0 n)) w) := by
  have g1 : 1 ≤ n := by have := G.st1; omega
  have g2 : n ≤ 60 := by have := G.st2; omega
  have GH := Lib.hid G
  have X0 : Blk (w.alloc (.cells #[.int .i64 (n : Int), .slice A ss.length c, .slice A' bs.length c'] 28)) w.heap.size 28 #[.int .i64 (n : Int), .slice A ss.length c, .slice A' bs.length c'] := Blk.new _ _ _
  have hmk : ∀ u : World, (Instr.makeSlice 22 (.int .i64 ((n : Int) + 1)) (.int .i64 ((n : Int) + 1))).run Try.prog u = .ok (.slice (some ⟨u.heap.size, 0, none⟩) (n + 1) (n + 1)) (u.alloc (.cells (ints (List.replicate (n + 1) 0)) 3)) := fun u => by
    rw [show (n : Int) + 1 = ((n + 1 : Nat) : Int) by omega]
    exact make_run (n + 1) (by omega) u
  have Z := Lib.hid (tell_zero (n := n + 1) (f := fun _ => 0) (fun _ _ => rfl))
  have hf : (ints (List.replicate (n + 1) 0))[0]? = some (.int .i64 0) := by rw [ints_get _ _ (by simp)]; simp [List.getD_eq_getElem?_getD]
  have hg : (ints (List.replicate (n + 1) 0)).setIfInBounds 0 (.int .i64 1) = ints (tell (n + 1) (fC n ss bs 0)) := by
    rw [ints_set, Z.out, tell_set (g := fC n ss bs 0) (by omega) (by rw [fC_first]; rfl) (fun j h1 h2 => by rw [fC_first, if_neg h2])]
  have hns := h.ns
  have hl2 : ss.length ≤ 5 := G.l2
  have X1 := X0.alloc (.cells (ints (tell (n + 1) (fC n ss bs 0))) 3)
  have N1 : Blk ((w.alloc (.cells #[.int .i64 (n : Int), .slice A ss.length c, .slice A' bs.length c'] 28)).alloc (.cells (ints (tell (n + 1) (fC n ss bs 0))) 3)) (w.heap.size + 1) 3 (ints (tell (n + 1) (fC n ss bs 0))) := Blk.new' (by simp)
  have B1 : Below w.heap.size w ((w.alloc (.cells #[.int .i64 (n : Int), .slice A ss.length c, .slice A' bs.length c'] 28)).alloc (.cells (ints (tell (n + 1) (fC n ss bs 0))) 3)) := (below_alloc _ _).alloc (by simp) _
  clear G X0
  go_enter Try.func30, Try.ntmps30
  go_wp2_with fail
  clear hg hf
  go_loopw [1, 5] (fun mv nv wr => ∃ (j g : Nat), j ≤ m0 ∧ mv = .int .i64 ((m0 : Int) - j) ∧ nv = .slice (some ⟨g, 0, none⟩) (n + 1) (n + 1) ∧ w.heap.size < g ∧ Blk wr g 3 (ints (tell (n + 1) (fC n ss bs j))) ∧ Blk wr w.heap.size 28 #[.int .i64 (n : Int), .slice A ss.length c, .slice A' bs.length c'] ∧ Below w.heap.size w wr) (fun mv _ _ => (intOf mv).toNat)
  case atStart => exact ⟨0, w.heap.size + 1, by omega, by go_num, rfl, by omega, N1, X1, B1⟩
  case round =>
    clear N1 X1 B1
    obtain ⟨j, g, hj, rfl, rfl, hgl, hblk, hX, hbel⟩ := hrel
    obtain ⟨p0, p1, p2⟩ := hX.three
    have hz := hblk.lt
    by_cases hlt : j < m0
    · have hpos : (0 : Int) < (m0 : Int) - j := by omega
      have HZ := Lib.hid (tell_zero (n := n + 1) (f := nC n ss bs j 0 0) (fun p _ => nC_first n ss bs j p))
      have N2 : Blk (wr.alloc (.cells (ints (List.replicate (n + 1) 0)) 3)) wr.heap.size 3 (ints (tell (n + 1) (nC n ss bs j 0 0))) := by rw [HZ.out]; exact Blk.new _ _ _
      have M2 := hblk.alloc (.cells (ints (List.replicate (n + 1) 0)) 3)
      have S2 := hX.alloc (.cells (ints (List.replicate (n + 1) 0)) 3)
      have B2 := hbel.alloc (by omega) (.cells (ints (List.replicate (n + 1) 0)) 3)
      go_wp2_with fail
      generalize hg' : wr.heap.size = g' at *
      clear hblk hX hbel p0 p1 p2
      generalize (wr.alloc (.cells (ints (List.replicate (n + 1) 0)) 3)) = w2 at *
      go_loopw [27] (fun i wr => ∃ a : Nat, a ≤ n + 1 ∧ i = .int .i64 (a : Int) ∧ Blk wr g' 3 (ints (tell (n + 1) (nC n ss bs j a 0))) ∧ Blk wr g 3 (ints (tell (n + 1) (fC n ss bs j))) ∧ Blk wr w.heap.size 28 #[.int .i64 (n : Int), .slice A ss.length c, .slice A' bs.length c'] ∧ Below w.heap.size w wr) (fun i _ => n + 1 - (intOf i).toNat)
      case atStart => exact ⟨0, by omega, rfl, N2, M2, S2, B2⟩
      case round =>
        clear N2 M2 S2 B2
        obtain ⟨a, ha, rfl, hN, hM, hX, hbel⟩ := hrel
        obtain ⟨p0, p1, p2⟩ := hX.three
        by_cases hal : a < n + 1
        · have q1 := hM.int_at (k := a) (by rw [tell_length]; omega)
          rw [tell_getD _ _ _ (by omega)] at q1
          have hc3 : (a : Int) < (n : Int) + 1 := by omega
          have bdF := fC_bd n ss bs j a
          have HNN := Lib.hid (fun k hk s hs hp => nC_none (n := n) (ss := ss) (bs := bs) (m := j) (a := a) (k := k) (s := s) hk hs hp)
          have HND := Lib.hid (fun k hk s hs hp p (hp2 : p ≤ n) => nC_dead (n := n) (ss := ss) (bs := bs) (m := j) (a := a) (k := k) (s := s) hk hs hp hp2)
          have HNH := Lib.hid (fun k hk s hs hp => nC_here (n := n) (ss := ss) (bs := bs) (m := j) (a := a) (k := k) (s := s) hk hs hp)
          generalize hv : fC n ss bs j a = v at *
          go_wp2_with fail
          go_loopw [35] (fun i wr => ∃ k : Nat, k ≤ ss.length ∧ i = .int .i64 (k : Int) ∧ Blk wr g' 3 (ints (tell (n + 1) (nC n ss bs j a k))) ∧ Blk wr g 3 (ints (tell (n + 1) (fC n ss bs j))) ∧ Blk wr w.heap.size 28 #[.int .i64 (n : Int), .slice A ss.length c, .slice A' bs.length c'] ∧ Below w.heap.size w wr) (fun i _ => ss.length - (intOf i).toNat)
          case atStart => exact ⟨0, Nat.zero_le _, rfl, hN, hM, hX, hbel⟩
          case round =>
            clear hN hM hX hbel p0 p1 p2 q1
            obtain ⟨k, hk, rfl, hN, hM, hX, hbel⟩ := hrel
            obtain ⟨p0, p1, p2⟩ := hX.three
            by_cases hkl : k < ss.length
            · obtain ⟨bb, o, rfl, hb, hcell⟩ := (h.rs.below hbel hB).at_ hkl
              obtain ⟨s, hs⟩ : ∃ s : Nat, ss.getD k 0 = (s : Int) := ⟨(ss.getD k 0).toNat, by have := GH.out.hs _ (getD_mem hkl); omega⟩
              have hsb : 1 ≤ s ∧ s ≤ 9 := by have := GH.out.hs _ (getD_mem hkl); rw [hs] at this; omega
              have hs1 := hsb.1
              have hs2 := hsb.2
              clear hsb
              have HNN' := Lib.hid (HNN.out k hkl s hs)
              have HND' := Lib.hid (HND.out k hkl s hs)
              have HNH' := Lib.hid (HNH.out k hkl s hs)
              have HEL := Lib.hid (fun p (hp : p ≠ a + s) => nC_else (n := n) (bs := bs) (m := j) hkl hs hp)
              rw [hs] at hcell
              clear hs
              have E3 : IntKind.i64.wrap ((a : Int) + (s : Int)) = (a : Int) + (s : Int) := IntWalk.i64_in _ (by omega)
              by_cases hvp : 0 < v
              · cases hst : standB (n : Int) bs ((a : Int) + (s : Int))
                · have HS := Lib.hid hst
                  have HT := Lib.hid (tell_ext (n := n + 1) (f := nC n ss bs j a k) (g := nC n ss bs j a (k + 1)) (fun p hp => HND'.out hst p (by omega)))
                  rw [HT.out] at hN
                  have hN0 := hN.lt
                  have hM0 := hM.lt
                  have hX0 := hX.lt
                  clear hst
                  go_wp2_with fail
                  refine (clStands_any _ _ _ _ _ _ _ _ B _ (h.below hbel hB) (by omega)).mono ?_
                  rintro e w3 ⟨rfl, hb3⟩
                  rw [HS.out]
                  go_wp2_with fail
                  go_roundw
                  case rel => exact ⟨k + 1, by omega, by go_num, hN.below hb3 hN0, hM.below hb3 hM0, hX.below hb3 hX0, hbel.trans (hb3.mono (by omega))⟩
                  case measure => simp [intOf] <;> omega
                · have hst2 : a + s ≤ n := by
                    simp only [standB, Bool.and_eq_true] at hst
                    have := inB_le hst.1
                    omega
                  have HS := Lib.hid hst
                  have HE := Lib.hid (HNH'.out hst)
                  have hN0 := hN.lt
                  have hM0 := hM.lt
                  have hX0 := hX.lt
                  clear hst
                  go_wp2_with fail
                  refine (clStands_any _ _ _ _ _ _ _ _ B _ (h.below hbel hB) (by omega)).mono ?_
                  rintro e w3 ⟨rfl, hb3⟩
                  rw [HS.out]
                  replace hN := hN.below hb3 hN0
                  replace hM := hM.below hb3 hM0
                  replace hX := hX.below hb3 hX0
                  replace hbel : Below w.heap.size w w3 := hbel.trans (hb3.mono (by omega))
                  clear p0 p1 p2 hb3 hcell
                  obtain ⟨p0, p1, p2⟩ := hX.three
                  have k2 := hN.int_at (k := a + s) (by rw [tell_length]; omega)
                  rw [tell_getD _ _ _ (by omega)] at k2
                  have f2 := hN.frozen (a + s)
                  have bd := nC_bd n ss bs j a k (a + s)
                  have SE : Hid ((tell (n + 1) (nC n ss bs j a k)).set (a + s) (nC n ss bs j a (k + 1) (a + s)) = tell (n + 1) (nC n ss bs j a (k + 1))) := Lib.hid (tell_set (by omega) rfl (fun p _ hp => HEL.out p hp))
                  rw [HE.out] at SE
                  generalize nC n ss bs j a k (a + s) = u at *
                  have E1 : IntKind.i64.wrap (u + v) = u + v := IntWalk.i64_in _ (by omega)
                  have hc4 : (a : Int) + (s : Int) < (n : Int) + 1 := by omega
                  have hc6 : a + s < n + 1 := by omega
                  have hc7 : (0 : Int) ≤ (a : Int) + (s : Int) := by omega
                  have hc8 : ¬ ((a : Int) + (s : Int) < 0) := by omega
                  have hc9 : ((a : Int) + (s : Int)).toNat = a + s := by omega
                  have EL := Lib.hid (fun x => l1Least_any (u + v) 1000000000000001 x)
                  generalize leastI (u + v) 1000000000000001 = z at *
                  go_wp2_with fail
                  refine (EL.out _).mono ?_
                  rintro e w' ⟨rfl, rfl⟩
                  go_wp2_with fail
                  go_roundw
                  case rel => exact ⟨k + 1, by omega, by go_num, by rw [← SE.out]; exact (hN.int_set (a + s) z), hM.far (by simp; omega) _, hX.far (by simp; omega) _, (hbel.setCell (by simp; omega) _)⟩
                  case measure => simp [intOf] <;> omega
              · have HT := Lib.hid (tell_ext (n := n + 1) (f := nC n ss bs j a k) (g := nC n ss bs j a (k + 1)) (fun p _ => HNN'.out (by omega) p))
                rw [HT.out] at hN
                go_wp2_with fail
                go_roundw
                case rel => exact ⟨k + 1, by omega, by go_num, hN, hM, hX, hbel⟩
                case measure => simp [intOf] <;> omega
            · obtain rfl : k = ss.length := by omega
              have HT := Lib.hid (tell_ext (n := n + 1) (f := nC n ss bs j a ss.length) (g := nC n ss bs j (a + 1) 0) (fun p _ => nC_next n ss bs j a p))
              rw [HT.out] at hN
              go_wp2_with fail
              go_roundw
              case rel => exact ⟨a + 1, by omega, by go_num, hN, hM, hX, hbel⟩
              case measure => simp [intOf] <;> omega
        · obtain rfl : a = n + 1 := by omega
          have HT := Lib.hid (tell_ext (n := n + 1) (f := nC n ss bs j (n + 1) 0) (g := fC n ss bs (j + 1)) (fun p hp => nC_end (by omega)))
          rw [HT.out] at hN
          go_wp2_with fail
          go_roundw
          case rel => exact ⟨j + 1, g', by omega, by go_num, rfl, by omega, hN, hX, hbel⟩
          case measure => simp [intOf] <;> omega
    · obtain rfl : j = m0 := by omega
      have q1 := hblk.int_at (k := n) (by rw [tell_length]; omega)
      rw [tell_getD _ _ _ (by omega)] at q1
      have hc3 : (n : Int) < (n : Int) + 1 := by omega
      have hneg : ¬ (0 : Int) < (j : Int) - j := by omega
      go_wp2_with fail
      go_ret
      exact ⟨rfl, hbel⟩

end Go.Proofs.Ytbenlmkhcdfgmaa
