/- Contracts: the program's waysByStrides. -/
import Derived.Test.YtohimcljobpkjaaDoorStByT
import Derived.Test.YtohimcljobpkjaaDoorStCl
namespace Go.Proofs.YtohimcljobpkjaaDoor
set_option maxRecDepth 100000
open Go.RowKit

/-- all rows, in a memory -/
structure ByRows (n gb : Nat) (gs : Nat → Nat) (f : Nat → Nat → Int) (w : World) : Prop where
  o : Blk w gb 46 (rowsA n gs (n + 1))
  r : ∀ j, j ≤ n → Blk w (gs j) 3 (ints (tell (n + 10) (f j)))
  lo : ∀ j, j ≤ n → gb < gs j
  ne : ∀ i j, i ≤ n → j ≤ n → gs i = gs j → i = j
theorem ByRows.below {n gb B : Nat} {gs : Nat → Nat} {f : Nat → Nat → Int} {w w' : World} (h : ByRows n gb gs f w) (hb : Below B w w') (hB : w.heap.size ≤ B) : ByRows n gb gs f w' :=
  ⟨h.o.below hb (by have := h.o.lt; omega), fun j hj => (h.r j hj).below hb (by have := (h.r j hj).lt; omega), h.lo, h.ne⟩
theorem ByRows.congr {n gb : Nat} {gs : Nat → Nat} {f g : Nat → Nat → Int} {w : World} (h : ByRows n gb gs f w) (e : ∀ j q, j ≤ n → f j q = g j q) : ByRows n gb gs g w :=
  ⟨h.o, fun j hj => by rw [← tell_ext (n := n + 10) (fun q _ => e j q hj)]; exact h.r j hj, h.lo, h.ne⟩
theorem ByRows.out {n gb : Nat} {gs : Nat → Nat} {f : Nat → Nat → Int} {w : World} (h : ByRows n gb gs f w) {j : Nat} (hj : j ≤ n) : w.cell? ⟨gb, j, none⟩ = some (.slice (some ⟨gs j, 0, none⟩) (n + 10) (n + 10)) := by
  rw [h.o.cell, rowsA_get (by omega)]
  simp [rowV, show j < n + 1 by omega]
theorem ByRows.at_ {n gb : Nat} {gs : Nat → Nat} {f : Nat → Nat → Int} {w : World} (h : ByRows n gb gs f w) {j q : Nat} (hj : j ≤ n) (hq : q < n + 10) : w.cell? ⟨gs j, q, none⟩ = some (.int .i64 (f j q)) := by
  rw [(h.r j hj).int_at (by rw [tell_length]; exact hq), tell_getD _ _ _ hq]
theorem ByRows.set {n gb : Nat} {gs : Nat → Nat} {f g : Nat → Nat → Int} {w : World} (h : ByRows n gb gs f w) {j q : Nat} (hj : j ≤ n) (hq : q < n + 10) (v : Int) (hv : g j q = v) (e : ∀ i p, i ≤ n → ¬ (i = j ∧ p = q) → f i p = g i p) : ByRows n gb gs g (w.setCell ⟨gs j, q, none⟩ (.int .i64 v)) :=
  ⟨h.o.far (by have := h.lo j hj; simp; omega) _, fun i hi => by
    by_cases hij : i = j
    · subst hij
      have := (h.r i hi).int_set q v
      rw [tell_set (g := g i) hq hv (fun p _ hp => e i p hi (fun k => hp k.2))] at this
      exact this
    · rw [← tell_ext (n := n + 10) (fun p _ => e i p hi (fun k => hij k.1))]
      exact (h.r i hi).far (fun k => hij (h.ne i j hi hj k)) _, h.lo, h.ne⟩
/-- WHAT THE PROGRAM's waysByStrides LEAVES -/
def ByPost (n : Nat) (ss bs : List Int) (w : World) (e : Ending) (w' : World) : Prop :=
  ∃ g gs f, e = .returned (.slice (some ⟨g, 0, none⟩) (n + 1) (n + 1)) ∧ w.heap.size ≤ g ∧ ByRows n g gs f w' ∧ (∀ j q, j ≤ n → f j q = bY n ss bs j q) ∧ Below w.heap.size w w'

set_option maxRecDepth 100000 in
set_option maxHeartbeats 6000000 in
theorem byStrides_any (n : Nat) (A A' : Option Addr) (c c' : Nat) (ss bs : List Int) (B : Nat) (w : World) (h : St w B n A A' c c' ss bs) (hB : B ≤ w.heap.size) (G : Good n ss bs) :
    Calls Tryd.prog 82 #[stv n A A' c c' ss bs] w (ByPost n ss bs w) := by
  have g1 : 1 ≤ n := by have := G.st1; omega
  have g2 : n ≤ 60 := by have := G.st2; omega
  have GH := Lib.hid G
  have X0 : Blk (w.alloc (.cells #[.int .i64 (n : Int), .slice A ss.length c, .slice A' bs.length c'] 84)) w.heap.size 84 #[.int .i64 (n : Int), .slice A ss.length c, .slice A' bs.length c'] := Blk.new _ _ _
  have hmk : ∀ u : World, (Instr.makeSlice 46 (.int .i64 ((n : Int) + 9 + 1)) (.int .i64 ((n : Int) + 9 + 1))).run Tryd.prog u = .ok (.slice (some ⟨u.heap.size, 0, none⟩) (n + 10) (n + 10)) (u.alloc (.cells (ints (tell (n + 10) fun _ => 0)) 3)) := fun u => by
    rw [← tell_zero (n := n + 10) (f := fun _ => 0) (fun _ _ => rfl), show (n : Int) + 9 + 1 = ((n + 10 : Nat) : Int) by omega]
    exact make_run (n + 10) (by omega) u
  have hmr := makeR_run n (fun _ => 0) (by omega)
  have hns := h.ns
  have hl2 : ss.length ≤ 5 := G.l2
  have X1 := X0.alloc (.cells (rowsA n (fun _ => 0) 0) 46)
  have N1 : Blk ((w.alloc (.cells #[.int .i64 (n : Int), .slice A ss.length c, .slice A' bs.length c'] 84)).alloc (.cells (rowsA n (fun _ => 0) 0) 46)) (w.heap.size + 1) 46 (rowsA n (fun _ => 0) 0) := Blk.new' (by simp)
  have B1 : Below w.heap.size w ((w.alloc (.cells #[.int .i64 (n : Int), .slice A ss.length c, .slice A' bs.length c'] 84)).alloc (.cells (rowsA n (fun _ => 0) 0) 46)) := (below_alloc _ _).alloc (by simp) _
  clear G X0
  go_enter Tryd.func82, Tryd.ntmps82
  go_wp2_with fail
  clear hmr
  go_loopw [16] (fun i wr => ∃ (k : Nat) (gs : Nat → Nat), k ≤ n + 1 ∧ i = .int .i64 (k : Int) ∧ Blk wr (w.heap.size + 1) 46 (rowsA n gs k) ∧ (∀ j, j < k → Blk wr (gs j) 3 (ints (tell (n + 10) fun _ => 0))) ∧ (∀ j, j < k → w.heap.size + 1 < gs j) ∧ (∀ i j, i < k → j < k → gs i = gs j → i = j) ∧ Blk wr w.heap.size 84 #[.int .i64 (n : Int), .slice A ss.length c, .slice A' bs.length c'] ∧ Below w.heap.size w wr) (fun i _ => (62 - intOf i).toNat)
  case atStart => exact ⟨0, fun _ => 0, by omega, rfl, N1, fun j hj => by omega, fun j hj => by omega, fun i j hi => by omega, X1, B1⟩
  case round =>
    clear N1 X1 B1
    obtain ⟨k, gs, hk, rfl, hO, hR, hlo, hne, hX, hbel⟩ := hrel
    obtain ⟨p0, p1, p2⟩ := hX.three
    have hz := hO.lt
    by_cases hlt : k < n + 1
    · have c1 : wr.cell? ⟨w.heap.size + 1, k, none⟩ = some (.slice none 0 0) := by
        rw [hO.cell, rowsA_get hlt]
        simp [rowV]
      have f1 := hO.frozen k
      have hc1 : (k : Int) < (n : Int) + 1 := by omega
      obtain ⟨gk, hgk⟩ : ∃ gk, gk = fun j => if j = k then wr.heap.size else gs j := ⟨_, rfl⟩
      have e1 : gk k = wr.heap.size := by rw [hgk]; simp
      have e2 : ∀ j, j ≠ k → gk j = gs j := fun j hj => by rw [hgk]; simp [hj]
      have E1 := Lib.hid e1
      have E2 := Lib.hid e2
      have hO2 := hO.set_ k (.slice (some ⟨gk k, 0, none⟩) (n + 10) (n + 10))
      rw [rowsA_set hlt (fun j hj => e2 j (by omega)), e1] at hO2
      clear hgk e1 e2
      go_wp2
      go_roundw
      case rel =>
        refine ⟨k + 1, gk, by omega, by go_num, hO2.alloc _, fun j hj => ?_, fun j hj => ?_, fun i j hi hj he => ?_, (hX.far (by simp) _).alloc _, (hbel.setCell (by simp) _).alloc (by simp [World.setCell]; omega) _⟩
        · by_cases e : j = k
          · rw [e, E1.out]
            exact Blk.new' (by simp [World.setCell])
          · rw [E2.out j e]
            have := hlo j (by omega)
            exact ((hR j (by omega)).far (by show gs j ≠ w.heap.size + 1; omega) _).alloc _
        · by_cases e : j = k
          · rw [e, E1.out]; omega
          · rw [E2.out j e]; exact hlo j (by omega)
        · by_cases e : i = k
          · by_cases e2 : j = k
            · omega
            · rw [e, E1.out, E2.out j e2] at he
              have := (hR j (by omega)).lt
              omega
          · by_cases e2 : j = k
            · rw [e2, E1.out, E2.out i e] at he
              have := (hR i (by omega)).lt
              omega
            · rw [E2.out i e, E2.out j e2] at he
              exact hne i j (by omega) (by omega) he
      case measure => simp [intOf] <;> omega
    · obtain rfl : k = n + 1 := by omega
      have RW : ByRows n (w.heap.size + 1) gs (fun _ _ => 0) wr := ⟨hO, fun j hj => hR j (by omega), fun j hj => hlo j (by omega), fun i j hi hj => hne i j (by omega) (by omega)⟩
      clear hO hR hlo hne hmk
      have c0 := RW.out (j := 0) (by omega)
      have c1 := RW.at_ (j := 0) (q := n) (by omega) (by omega)
      have f1 := (RW.r 0 (by omega)).frozen n
      have RW2 := RW.set (g := bF n ss bs 0 0 0) (j := 0) (q := n) (by omega) (by omega) 1 (by rw [bF_first, if_pos ⟨rfl, rfl⟩]) (fun i p _ hp => by rw [bF_first, if_neg hp])
      have hl0 := RW.lo 0 (by omega)
      generalize gs 0 = r0 at *
      have hX2 := hX.far (p := ⟨r0, n, none⟩) (by show w.heap.size ≠ r0; omega) (.int .i64 1)
      have hbel2 := hbel.setCell (p := ⟨r0, n, none⟩) (by show w.heap.size ≤ r0; omega) (.int .i64 1)
      have hz2 : w.heap.size + 1 < (wr.setCell ⟨r0, n, none⟩ (.int .i64 1)).heap.size := RW2.o.lt
      have HLO := Lib.hid RW2.lo
      go_wp2
      go_region
      go_wp2_with fail
      refine (brokenSet_any _ _ _ _ _ _ _ B _ (by first | exact h.below hbel2.drew hB | exact h.below hbel2 hB) (by show B ≤ (wr.setCell ⟨r0, n, none⟩ (.int .i64 1)).heap.size; omega) (fun x hx => by have := GH.out.hb x hx; omega)).mono ?_
      rintro e w1 ⟨mb, rfl, hmb, hset, hb0⟩
      have hb : Below (wr.setCell ⟨r0, n, none⟩ (.int .i64 1)).heap.size (wr.setCell ⟨r0, n, none⟩ (.int .i64 1)) w1 := by first | exact hb0 | exact below_undrew hb0
      have hmb2 : (wr.setCell ⟨r0, n, none⟩ (.int .i64 1)).heap.size ≤ mb := hmb
      have HGM : Hid (∀ j, j ≤ n → gs j < mb) := Lib.hid (fun j hj => by have := (RW2.r j hj).lt; omega)
      have RW3 := RW2.below hb (Nat.le_refl _)
      have X3 := hX2.below hb (by omega)
      have B3 : Below w.heap.size w w1 := hbel2.trans (hb.mono (by omega))
      have hmb3 : w.heap.size + 1 < mb := by omega
      clear hb hb0 hmb hmb2 RW RW2 hX2 hbel2 hX hbel c0 c1 f1 p0 p1 p2 hz2 hz
      obtain ⟨p0, p1, p2⟩ := X3.three
      go_wp2_with fail
      go_loopw [6] (fun i wr => ∃ m : Nat, m ≤ n ∧ i = .int .i64 ((m : Int) + 1) ∧ ByRows n (w.heap.size + 1) gs (bF n ss bs m 0 0) wr ∧ Blk wr w.heap.size 84 #[.int .i64 (n : Int), .slice A ss.length c, .slice A' bs.length c'] ∧ IsSet wr mb bs.length (hasB bs) ∧ Below w.heap.size w wr) (fun i _ => (62 - intOf i).toNat)
      case atStart => exact ⟨0, by omega, rfl, RW3, X3, hset, B3⟩
      case round =>
        clear RW3 X3 hset B3 p0 p1 p2
        obtain ⟨m, hm, rfl, RW, hX, hset, hbel⟩ := hrel
        obtain ⟨p0, p1, p2⟩ := hX.three
        by_cases hlt : m < n
        · have hmn : (m : Int) + 1 ≤ (n : Int) := by omega
          go_wp2_with fail
          go_loopw [44] (fun i wr => ∃ p : Nat, p ≤ n ∧ i = .int .i64 (p : Int) ∧ ByRows n (w.heap.size + 1) gs (bF n ss bs m p 0) wr ∧ Blk wr w.heap.size 84 #[.int .i64 (n : Int), .slice A ss.length c, .slice A' bs.length c'] ∧ IsSet wr mb bs.length (hasB bs) ∧ Below w.heap.size w wr) (fun i _ => (62 - intOf i).toNat)
          case atStart => exact ⟨0, by omega, rfl, RW, hX, hset, hbel⟩
          case round =>
            clear RW hX hset hbel p0 p1 p2
            obtain ⟨p, hp, rfl, RW, hX, hset, hbel⟩ := hrel
            obtain ⟨p0, p1, p2⟩ := hX.three
            by_cases hpn : p < n
            · have hlook := hset.look (p : Int) (by omega) (by omega)
              cases hd : hasB bs (p : Int)
              · rw [hd] at hlook
                have HK : Hid (∀ j q, j ≤ n → bF n ss bs m p ss.length j q = bF n ss bs m (p + 1) 0 j q) := Lib.hid (fun j q _ => bF_alive hpn hd)
                clear hd
                go_wp2_with fail
                go_loopw [53] (fun i wr => ∃ k : Nat, k ≤ ss.length ∧ i = .int .i64 (k : Int) ∧ ByRows n (w.heap.size + 1) gs (bF n ss bs m p k) wr ∧ Blk wr w.heap.size 84 #[.int .i64 (n : Int), .slice A ss.length c, .slice A' bs.length c'] ∧ IsSet wr mb bs.length (hasB bs) ∧ Below w.heap.size w wr) (fun i _ => ss.length - (intOf i).toNat)
                case atStart => exact ⟨0, Nat.zero_le _, rfl, RW, hX, hset, hbel⟩
                case round =>
                  clear RW hX hset hbel p0 p1 p2 hlook
                  obtain ⟨k, hk, rfl, RW, hX, hset, hbel⟩ := hrel
                  by_cases hkl : k < ss.length
                  · obtain ⟨bb, o, rfl, hb, hcell⟩ := (h.rs.below hbel hB).at_ hkl
                    obtain ⟨s, hs⟩ : ∃ s : Nat, ss.getD k 0 = (s : Int) := ⟨(ss.getD k 0).toNat, by have := GH.out.hs _ (getD_mem hkl); omega⟩
                    have hsb : 1 ≤ s ∧ s ≤ 9 := by have := GH.out.hs _ (getD_mem hkl); rw [hs] at this; omega
                    have hs1 := hsb.1
                    have hs2 := hsb.2
                    have a1 := RW.out (j := m + 1) (by omega)
                    have a2 := RW.out (j := m) (by omega)
                    have k1 := RW.at_ (j := m + 1) (q := p) (by omega) (by omega)
                    have k2 := RW.at_ (j := m) (q := p + s) (by omega) (by omega)
                    have f1 := (RW.r (m + 1) (by omega)).frozen p
                    have b1 := bP_bd GH.out m (d := n - p - 1) (by omega) k
                    have b2 := bP_bd GH.out m (d := n - p - 1) (by omega) (k + 1)
                    rw [show n - p - 1 + 1 = n - p by omega, ← bF_here n ss bs m p] at b1 b2
                    have es := bF_step (n := n) (ss := ss) (bs := bs) (m := m) (p := p) hkl hs hpn
                    have b3 := b1.1
                    have b4 := b1.2
                    have b5 := b2.1
                    have b6 := b2.2
                    have RS := RW.set (g := bF n ss bs m p (k + 1)) (j := m + 1) (q := p) (by omega) (by omega) _ es (fun i q _ hq => bF_else hq)
                    have l1 := RW.lo (m + 1) (by omega)
                    have l2 := HGM.out (m + 1) (by omega)
                    rw [es] at b5 b6
                    rw [hs] at hcell
                    clear es b1 b2 hs hsb
                    generalize bF n ss bs m p k (m + 1) p = u at *
                    generalize bF n ss bs m p k m (p + s) = v at *
                    generalize hr1 : gs (m + 1) = r1 at *
                    generalize hr2 : gs m = r2 at *
                    have e0 : IntKind.i64.wrap (u + v) = u + v := IntWalk.i64_in _ (by omega)
                    have e1 : IntKind.i64.wrap ((m : Int) + 1 - 1) = (m : Int) := by rw [IntWalk.i64_in _ (by omega)]; omega
                    have e2 : IntKind.i64.wrap ((p : Int) + (s : Int)) = (p : Int) + (s : Int) := IntWalk.i64_in _ (by omega)
                    have e3 : ((p : Int) + (s : Int)).toNat = p + s := by omega
                    have e4 : (0 : Int) ≤ (p : Int) + (s : Int) := by omega
                    have e5 : (p : Int) + (s : Int) < (n : Int) + 10 := by omega
                    have e6 : p + s < n + 10 := by omega
                    have e7 : ((m : Int) + 1).toNat = m + 1 := by omega
                    have e8 : (m : Int) + 1 < (n : Int) + 1 := by omega
                    have e9 : (m : Int) < (n : Int) + 1 := by omega
                    have e10 : (p : Int) < (n : Int) + 10 := by omega
                    have e11 : m + 1 < n + 1 := by omega
                    have e12 : m < n + 1 := by omega
                    have e13 : p < n + 10 := by omega
                    have hX2 := hX.far (p := ⟨r1, p, none⟩) (by show w.heap.size ≠ r1; omega) (.int .i64 (u + v))
                    have hbel2 := hbel.setCell (p := ⟨r1, p, none⟩) (by show w.heap.size ≤ r1; omega) (.int .i64 (u + v))
                    have hset2 := hset.far (p := ⟨r1, p, none⟩) (by show mb ≠ r1; omega) (.int .i64 (u + v))
                    have HR1 := Lib.hid hr1
                    clear hr1 hr2 RW hX hset hbel b3 b4 b5 b6
                    go_wp2
                    go_region
                    go_wp2
                    go_roundw
                    case rel => exact ⟨k + 1, by omega, by go_num, ⟨RS.o, RS.r, RS.lo, RS.ne⟩, hX2, hset2, hbel2.drew⟩
                    case measure => simp [intOf] <;> omega
                  · obtain rfl : k = ss.length := by omega
                    have RW2 := RW.congr HK.out
                    go_wp2
                    go_roundw
                    case rel => exact ⟨p + 1, by omega, by go_num, RW2, hX, hset, hbel⟩
                    case measure => simp [intOf] <;> omega
              · rw [hd] at hlook
                have RW2 := RW.congr (fun j q _ => bF_dead (j := j) (q := q) (m := m) (ss := ss) hpn hd)
                clear hd
                go_wp2
                go_roundw
                case rel => exact ⟨p + 1, by omega, by go_num, RW2, hX, hset, hbel⟩
                case measure => simp [intOf] <;> omega
            · obtain rfl : p = n := by omega
              have RW2 := RW.congr (fun j q _ => bF_next (ss := ss) (bs := bs) (m := m) (j := j) (q := q))
              go_wp2
              go_roundw
              case rel => exact ⟨m + 1, by omega, by go_num, RW2, hX, hset, hbel⟩
              case measure => simp [intOf] <;> omega
        · obtain rfl : m = n := by omega
          go_wp2
          go_ret
          exact ⟨_, gs, _, rfl, by omega, RW, fun j q hj => by unfold bF; rw [if_pos hj], hbel⟩

end Go.Proofs.YtohimcljobpkjaaDoor
