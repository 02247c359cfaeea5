/- Contracts: steps that are reached and stuck, on both sides. -/
import Derived.Test.YtimgnollnnepbaaStTo
import Derived.Test.YtimgnollnnepbaaStCl
namespace Go.Proofs.Ytimgnollnnepbaa
open Go.RowKit

/-- a row of bools told by its places -/
def bls (n : Nat) (f : Nat → Bool) : Array Value := ((List.range n).map fun k => Value.bool (f k)).toArray
theorem bls_get {n : Nat} {f : Nat → Bool} {k : Nat} (h : k < n) : (bls n f)[k]? = some (.bool (f k)) := by simp [bls, h]
theorem bls_set {n : Nat} {f g : Nat → Bool} {k : Nat} {b : Bool} (_hk : k < n) (hb : g k = b) (h : ∀ j, j < n → j ≠ k → f j = g j) : (bls n f).setIfInBounds k (.bool b) = bls n g := by
  apply Array.ext_getElem?
  intro i
  simp only [bls, Array.getElem?_setIfInBounds, List.getElem?_toArray, List.getElem?_map, List.size_toArray, List.length_map, List.length_range]
  by_cases hi : i < n
  · rw [List.getElem?_range hi]
    by_cases hki : k = i
    · subst hki
      simp [hi, hb]
    · rw [if_neg hki]
      simp [h i hi (fun e => hki e.symm)]
  · have e : (List.range n)[i]? = none := by simp; omega
    rw [e]
    by_cases hki : k = i
    · rw [if_pos hki, if_neg (by omega)]; rfl
    · rw [if_neg hki]; rfl
theorem bls_ext {n : Nat} {f g : Nat → Bool} (h : ∀ k, k < n → f k = g k) : bls n f = bls n g := by
  unfold bls
  congr 1
  apply List.map_congr_left
  intro k hk
  rw [h k (List.mem_range.1 hk)]
theorem bool_info : (Try.prog.info? 4).map (fun i => (i.zero, i.size, i.bytes)) = some (some (.bool false), 1, 1) := by kernel_rfl
theorem made_bools (n : Nat) : madeCells (Value.bool false).cells (n * 1) = bls n (fun _ => false) := by
  apply Array.ext_getElem?
  intro i
  simp only [bls, madeCells, Value.cells]
  by_cases h : i < n <;> simp [h, Nat.mod_one]
theorem makeB_run (n : Nat) (hn : n ≤ 1048576) (u : World) : (Instr.makeSlice 54 (.int .i64 (n : Int)) (.int .i64 (n : Int))).run Try.prog u = .ok (.slice (some ⟨u.heap.size, 0, none⟩) n n) (u.alloc (.cells (bls n (fun _ => false)) 4)) := by
  obtain ⟨i0, hi, hz, hs, hby⟩ := info_parts bool_info
  have := run_make (P := Try.prog) u 54 4 i0 (.bool false) Try.underlying54 hi hz .i64 .i64 n n (by omega) (Int.le_refl _) (by rw [hby]; omega) (by omega)
  rw [Int.toNat_natCast, hs, made_bools] at this
  exact this

/-- a step is reached -/
def rB (n : Nat) (ss bs : List Int) (k : Nat) : Bool := decide (0 < tS n ss bs k)
/-- what the row tells at step d + 1 behind the first i strides -/
def rP (n : Nat) (ss bs : List Int) (d i : Nat) : Bool := !hasB bs ((d + 1 : Nat) : Int) && decide (0 < pS n ss (turnL n bs) d i)
theorem rP_zero (n : Nat) (ss bs : List Int) (d : Nat) : rP n ss bs d 0 = false := by simp [rP, pS_zero]
theorem rP_end {n : Nat} {ss bs : List Int} {d : Nat} : rP n ss bs d ss.length = rB n ss bs (d + 1) := by
  unfold rP rB
  cases h : hasB bs ((d + 1 : Nat) : Int)
  · rw [tS_alive h]; simp
  · rw [tS_dead h]; simp
theorem sS_turn {n : Nat} {ss bs : List Int} {d s : Nat} : sS n ss (turnL n bs) d (s : Int) = if s ≤ d + 1 then tS n ss bs (d + 1 - s) else 0 := by
  unfold sS tS
  rw [Int.toNat_natCast]
theorem rP_no {n : Nat} {ss bs : List Int} {d i s : Nat} (G : Good n ss bs) (hi : i < ss.length) (hs : ss.getD i 0 = (s : Int)) (h : ¬ s ≤ d + 1 ∨ rB n ss bs (d + 1 - s) = false) (hd : d + 1 ≤ 60) : rP n ss bs d (i + 1) = rP n ss bs d i := by
  have h1 := pS_succ (st := n) (bs := turnL n bs) (d := d) (k := i) hi (by have := G.hs _ (getD_mem hi); omega)
  rw [hs, sS_turn] at h1
  have h2 : (if s ≤ d + 1 then tS n ss bs (d + 1 - s) else 0) = 0 := by
    rcases h with h | h
    · rw [if_neg h]
    · by_cases hsd : s ≤ d + 1
      · rw [if_pos hsd]
        have := (tS_bd G (k := d + 1 - s) (by omega)).1
        simp [rB] at h
        omega
      · rw [if_neg hsd]
  rw [h2, Int.add_zero] at h1
  unfold rP
  rw [h1]
theorem rP_dead {n : Nat} {ss bs : List Int} {d : Nat} (h : hasB bs ((d + 1 : Nat) : Int) = true) (i : Nat) : rP n ss bs d i = false := by simp only [rP, h, Bool.not_true, Bool.false_and]
theorem rP_yes {n : Nat} {ss bs : List Int} {d i s : Nat} (G : Good n ss bs) (hi : i < ss.length) (hs : ss.getD i 0 = (s : Int)) (h1 : s ≤ d + 1) (h2 : rB n ss bs (d + 1 - s) = true) (h3 : hasB bs ((d + 1 : Nat) : Int) = false) (hd : d ≤ 60) : rP n ss bs d (i + 1) = true := by
  have e := pS_succ (st := n) (bs := turnL n bs) (d := d) (k := i) hi (by have := G.hs _ (getD_mem hi); omega)
  rw [hs, sS_turn, if_pos h1] at e
  have hp := (pS_bd G.turn (d := d) hd i).1
  simp only [rB, decide_eq_true_eq] at h2
  unfold rP
  rw [h3, e]
  simp
  omega
/-- the row of steps up to k, and what step k + 1 tells behind i strides -/
def rowB (n : Nat) (ss bs : List Int) (k i j : Nat) : Bool := if j ≤ k then rB n ss bs j else if j = k + 1 then rP n ss bs k i else false
theorem rowB_first (n : Nat) (ss bs : List Int) (j : Nat) : rowB n ss bs 0 0 j = if j = 0 then true else false := by
  unfold rowB
  by_cases h : j = 0
  · subst h; rw [if_pos (by omega)]; simp [rB, tS_zero]
  · rw [if_neg (by omega), if_neg h]
    split
    · exact rP_zero _ _ _ _
    · rfl
theorem rowB_next (n : Nat) (ss bs : List Int) (k j : Nat) : rowB n ss bs k ss.length j = rowB n ss bs (k + 1) 0 j := by
  unfold rowB
  by_cases h1 : j ≤ k
  · rw [if_pos h1, if_pos (by omega)]
  · by_cases h2 : j = k + 1
    · subst h2; rw [if_neg (by omega), if_pos rfl, if_pos (by omega)]; exact rP_end
    · rw [if_neg h1, if_neg h2, if_neg (by omega)]
      split
      · exact (rP_zero _ _ _ _).symm
      · rfl
theorem rowB_same {n : Nat} {ss bs : List Int} {k i : Nat} (h : rP n ss bs k (i + 1) = rP n ss bs k i) (j : Nat) : rowB n ss bs k i j = rowB n ss bs k (i + 1) j := by
  unfold rowB; rw [h]

/-- WHAT THE MODEL's clReached LEAVES -/
def ReBPost (n : Nat) (ss bs : List Int) (T : TypeId) (w : World) (e : Ending) (w' : World) : Prop :=
  ∃ g, e = .returned (.slice (some ⟨g, 0, none⟩) (n + 1) (n + 1)) ∧ w.heap.size ≤ g ∧ Blk w' g T (bls (n + 1) (rB n ss bs)) ∧ Below w.heap.size w w'
set_option maxHeartbeats 2000000 in
theorem clReached_any (n : Nat) (A A' : Option Addr) (c c' : Nat) (ss bs : List Int) (B : Nat) (w : World) (h : St w B n A A' c c' ss bs) (hB : B ≤ w.heap.size) (G : Good n ss bs) :
    Calls Try.prog 60 #[stv n A A' c c' ss bs] w (ReBPost n ss bs 4 w) := by
  have g1 : 1 ≤ n := by have := G.st1; omega
  have g2 : n ≤ 60 := by have := G.st2; omega
  have hl5 := G.l2
  have hmk := makeB_run (n + 1) (by omega)
  have GH := Lib.hid G
  have X0 : Blk (w.alloc (.cells #[.int .i64 (n : Int), .slice A ss.length c, .slice A' bs.length c'] 28)) w.heap.size 28 #[.int .i64 (n : Int), .slice A ss.length c, .slice A' bs.length c'] := Blk.new _ _ _
  have XB : Blk ((w.alloc (.cells #[.int .i64 (n : Int), .slice A ss.length c, .slice A' bs.length c'] 28)).alloc (.cells (bls (n + 1) fun _ => false) 4)) (w.heap.size + 1) 4 (bls (n + 1) fun _ => false) := Blk.new' (by simp)
  have B0 : Below w.heap.size w ((w.alloc (.cells #[.int .i64 (n : Int), .slice A ss.length c, .slice A' bs.length c'] 28)).alloc (.cells (bls (n + 1) fun _ => false) 4)) := (below_alloc _ _).alloc (by simp) _
  have e0 : (bls (n + 1) fun _ => false).setIfInBounds 0 (.bool true) = bls (n + 1) (rowB n ss bs 0 0) := bls_set (by omega) (by rw [rowB_first]; rfl) fun j _ hj => by rw [rowB_first, if_neg hj]
  have XB2 : Blk ((w.alloc (.cells #[.int .i64 (n : Int), .slice A ss.length c, .slice A' bs.length c'] 28)).alloc (.cells ((bls (n + 1) fun _ => false).setIfInBounds 0 (.bool true)) 4)) (w.heap.size + 1) 4 (bls (n + 1) (rowB n ss bs 0 0)) := by rw [e0]; exact Blk.new' (by simp)
  have X2 := X0.alloc (.cells ((bls (n + 1) fun _ => false).setIfInBounds 0 (.bool true)) 4)
  have B2 : Below w.heap.size w ((w.alloc (.cells #[.int .i64 (n : Int), .slice A ss.length c, .slice A' bs.length c'] 28)).alloc (.cells ((bls (n + 1) fun _ => false).setIfInBounds 0 (.bool true)) 4)) := (below_alloc _ _).alloc (by simp) _
  have c0 : ((w.alloc (.cells #[.int .i64 (n : Int), .slice A ss.length c, .slice A' bs.length c'] 28)).alloc (.cells (bls (n + 1) fun _ => false) 4)).cell? ⟨w.heap.size + 1, 0, none⟩ = some (.bool false) := by rw [XB.cell]; exact bls_get (by omega)
  have c1 := XB.frozen 0
  have E1 : (((n + 1 : Nat) : Int)) = (n : Int) + 1 := by omega
  rw [E1] at hmk
  clear XB e0 G E1
  go_enter Try.func60, Try.ntmps60
  go_wp2_with fail
  go_loopw [4] (fun s wr => ∃ k : Nat, k ≤ n ∧ s = .int .i64 ((k : Int) + 1) ∧ Blk wr (w.heap.size + 1) 4 (bls (n + 1) (rowB n ss bs k 0)) ∧ Blk wr w.heap.size 28 #[.int .i64 (n : Int), .slice A ss.length c, .slice A' bs.length c'] ∧ Below w.heap.size w wr) (fun s _ => (62 - intOf s).toNat)
  case atStart => exact ⟨0, by omega, rfl, XB2, X2, B2⟩
  case round =>
    clear XB2 X2 B2 X0 B0 c0 c1 hmk
    obtain ⟨k, hk, rfl, hR, hX, hbw⟩ := hrel
    obtain ⟨p0, p1, p2⟩ := hX.three
    by_cases hlt : k < n
    · have hkn : (k : Int) + 1 ≤ (n : Int) := by omega
      go_wp2_with fail
      go_loopw [22] (fun i wr => ∃ i0 : Nat, i0 ≤ ss.length ∧ i = .int .i64 i0 ∧ Blk wr (w.heap.size + 1) 4 (bls (n + 1) (rowB n ss bs k i0)) ∧ Blk wr w.heap.size 28 #[.int .i64 (n : Int), .slice A ss.length c, .slice A' bs.length c'] ∧ Below w.heap.size w wr) (fun i _ => ss.length - (intOf i).toNat)
      case atStart => exact ⟨0, by omega, rfl, hR, hX, hbw⟩
      case round =>
        clear hR hX hbw p0 p1 p2
        obtain ⟨i, hi, rfl, hR, hX, hbw⟩ := hrel
        have hRl := hR.lt
        have hXl := hX.lt
        obtain ⟨p0, p1, p2⟩ := hX.three
        by_cases hil : i < ss.length
        · obtain ⟨b, o, rfl, hb0, hcell⟩ := (h.below hbw hB).rs.at_ hil
          have hs := GH.out.hs _ (getD_mem hil)
          obtain ⟨s, hss⟩ : ∃ s : Nat, ss.getD i 0 = (s : Int) := ⟨(ss.getD i 0).toNat, by omega⟩
          rw [hss] at hcell hs
          have HSS := Lib.hid hss
          clear hss
          by_cases hsk : (s : Int) ≤ (k : Int) + 1
          · have hc1 : wr.cell? ⟨w.heap.size + 1, k + 1 - s, none⟩ = some (.bool (rB n ss bs (k + 1 - s))) := by
              rw [hR.cell, bls_get (by omega)]
              unfold rowB
              rw [if_pos (by omega)]
            have hi1 : (0 : Int) ≤ (k : Int) + 1 - (s : Int) := by omega
            have hi2 : ((k : Int) + 1 - (s : Int)).toNat = k + 1 - s := by omega
            have hi3 : ((k : Int) + 1 - (s : Int)) < (n : Int) + 1 := by omega
            have HNo := Lib.hid (fun hh => rP_no (n := n) (bs := bs) (d := k) GH.out hil HSS.out (.inr hh) (by omega))
            have HYe := Lib.hid (fun h2 h3 => rP_yes (n := n) (bs := bs) (d := k) GH.out hil HSS.out (by omega) h2 h3 (by omega))
            cases hrb : rB n ss bs (k + 1 - s)
            · rw [hrb] at hc1
              have HT := Lib.hid (HNo.out hrb)
              have HE := Lib.hid (bls_ext (n := n + 1) (fun j _ => rowB_same HT.out j))
              rw [HE.out] at hR
              go_wp2_with fail
              go_roundw
              case rel => exact ⟨i + 1, by omega, by go_num, hR, hX, hbw⟩
              case measure => simp [intOf] <;> omega
            · rw [hrb] at hc1
              go_wp2_with fail
              refine (clStands_any _ _ _ _ _ _ _ _ B _ (h.below hbw hB) (by omega)).mono ?_
              rintro e w2 ⟨rfl, hb⟩
              have hR2 := hR.below hb hRl
              have hX2 := hX.below hb hXl
              have hbw2 := hbw.trans (hb.mono (by omega))
              have HST : Hid (standB n bs ((k : Int) + 1) = !hasB bs ((k + 1 : Nat) : Int)) := by
                have e1 : (k : Int) + 1 = ((k + 1 : Nat) : Int) := by omega
                rw [e1]
                exact stand_in (by omega)
              rw [HST.out]
              clear hb p0 p1 p2 hc1
              cases hbr : hasB bs ((k + 1 : Nat) : Int)
              · have HT := Lib.hid (HYe.out hrb hbr)
                have hc3 : w2.cell? ⟨w.heap.size + 1, k + 1, none⟩ = some (.bool (rowB n ss bs k i (k + 1))) := by rw [hR2.cell, bls_get (by omega)]
                have hc4 := hR2.frozen (k + 1)
                have HE := Lib.hid (bls_set (n := n + 1) (f := rowB n ss bs k i) (g := rowB n ss bs k (i + 1)) (k := k + 1) (b := true) (by omega) (by unfold rowB; rw [if_neg (by omega), if_pos rfl]; exact HT.out) (fun j _ hj => by unfold rowB; rw [if_neg hj, if_neg hj]))
                have hR3 := hR2.set_ (k + 1) (.bool true)
                rw [HE.out] at hR3
                generalize rowB n ss bs k i (k + 1) = y at *
                clear hR hR2
                go_wp2_with fail
                go_roundw
                case rel => exact ⟨i + 1, by omega, by go_num, hR3, hX2.far (by simp) _, hbw2.setCell (by simp) _⟩
                case measure => simp [intOf] <;> omega
              · have HE := Lib.hid (bls_ext (n := n + 1) (fun j _ => rowB_same (n := n) (ss := ss) (bs := bs) (k := k) (i := i) (by rw [rP_dead hbr, rP_dead hbr]) j))
                rw [HE.out] at hR2
                go_wp2_with fail
                go_roundw
                case rel => exact ⟨i + 1, by omega, by go_num, hR2, hX2, hbw2⟩
                case measure => simp [intOf] <;> omega
          · have HT := Lib.hid (rP_no (n := n) (bs := bs) (d := k) GH.out hil HSS.out (.inl (by omega)) (by omega))
            have HE := Lib.hid (bls_ext (n := n + 1) (fun j _ => rowB_same HT.out j))
            rw [HE.out] at hR
            go_wp2_with fail
            go_roundw
            case rel => exact ⟨i + 1, by omega, by go_num, hR, hX, hbw⟩
            case measure => simp [intOf] <;> omega
        · obtain rfl : i = ss.length := by omega
          have HE := Lib.hid (bls_ext (n := n + 1) (fun j _ => rowB_next n ss bs k j))
          rw [HE.out] at hR
          go_wp2_with fail
          go_roundw
          case rel => exact ⟨k + 1, by omega, by go_num, hR, hX, hbw⟩
          case measure => simp [intOf] <;> omega
    · obtain rfl : k = n := by omega
      have HE := Lib.hid (bls_ext (n := k + 1) (f := rowB k ss bs k 0) (g := rB k ss bs) (fun j hj => by unfold rowB; rw [if_pos (by omega)]))
      rw [HE.out] at hR
      go_wp2_with fail
      go_ret
      exact ⟨_, rfl, by omega, hR, hbw⟩

/-- the reached steps up to k -/
def reaL (n : Nat) (ss bs : List Int) : Nat → List Int
  | 0 => []
  | k + 1 => if rB n ss bs (k + 1) = true then reaL n ss bs k ++ [(k : Int) + 1] else reaL n ss bs k
theorem reaL_yes {n : Nat} {ss bs : List Int} {k : Nat} (h : rB n ss bs (k + 1) = true) : reaL n ss bs (k + 1) = reaL n ss bs k ++ [(k : Int) + 1] := by rw [reaL, if_pos h]
theorem reaL_no {n : Nat} {ss bs : List Int} {k : Nat} (h : rB n ss bs (k + 1) = false) : reaL n ss bs (k + 1) = reaL n ss bs k := by rw [reaL, if_neg (by simp [h])]
theorem reaL_length (n : Nat) (ss bs : List Int) : ∀ k, (reaL n ss bs k).length ≤ k
  | 0 => Nat.le_refl _
  | k + 1 => by
    have := reaL_length n ss bs k
    unfold reaL
    split
    · simp; omega
    · omega
def reachR (st : Int) (ss bs : List Int) : List Int := if goodB st ss bs then reaL st.toNat ss bs st.toNat else []
theorem reachR_length (st : Int) (ss bs : List Int) : (reachR st ss bs).length ≤ 1048576 := by
  unfold reachR
  split
  · next h =>
    have := (good_of h).st2
    have := reaL_length st.toNat ss bs st.toNat
    omega
  · simp

set_option maxHeartbeats 2000000 in
theorem implReached_any (st : Int) (A A' : Option Addr) (c c' : Nat) (ss bs : List Int) (B : Nat) (w : World) (h : St w B st A A' c c' ss bs) (hB : B ≤ w.heap.size) :
    Calls Try.prog 33 #[stv st A A' c c' ss bs] w (fun e w' => Lists w (reachR st ss bs) (goodB st ss bs) e w') := by
  cases g : goodB st ss bs
  · rw [show reachR st ss bs = [] by simp [reachR, g]]
    have H := Lib.hid g
    clear g
    have h1 := h.alloc hB (.cells #[.int .i64 st, .slice A ss.length c, .slice A' bs.length c'] 28)
    have X0 : Blk (w.alloc (.cells #[.int .i64 st, .slice A ss.length c, .slice A' bs.length c'] 28)) w.heap.size 28 #[.int .i64 st, .slice A ss.length c, .slice A' bs.length c'] := Blk.new _ _ _
    go_enter Try.func33, Try.ntmps33
    go_wp2_with fail
    refine (implAre_any _ _ _ _ _ _ _ B _ h1 (by simp; omega)).mono ?_
    rintro e w1 ⟨rfl, hb⟩
    have Bt : Below w.heap.size w w1 := (below_alloc _ _).trans (hb.mono (by simp))
    have hs : w.heap.size + 1 ≤ w1.heap.size := by have := hb.size; simp at this; omega
    replace h1 := h1.below hb (by simp; omega)
    replace X0 := X0.below hb (by simp)
    clear hb
    obtain ⟨p0, p1, p2⟩ := X0.three
    rw [H.out]
    go_wp2_with fail
    go_ret2
    exact ⟨_, rfl, OwnI.nil _ _, Bt⟩
  · have G := good_of g
    obtain ⟨n, rfl⟩ : ∃ n : Nat, st = (n : Int) := ⟨st.toNat, by have := G.st1; omega⟩
    have g1 : 1 ≤ n := by have := G.st1; omega
    have g2 : n ≤ 60 := by have := G.st2; omega
    rw [show reachR n ss bs = reaL n ss bs n by simp [reachR, g]]
    have GH := Lib.hid G
    have H := Lib.hid g
    clear g
    have h1 := h.alloc hB (.cells #[.int .i64 (n : Int), .slice A ss.length c, .slice A' bs.length c'] 28)
    have X0 : Blk (w.alloc (.cells #[.int .i64 (n : Int), .slice A ss.length c, .slice A' bs.length c'] 28)) w.heap.size 28 #[.int .i64 (n : Int), .slice A ss.length c, .slice A' bs.length c'] := Blk.new _ _ _
    go_enter Try.func33, Try.ntmps33
    go_wp2_with fail
    refine (implAre_any _ _ _ _ _ _ _ B _ h1 (by simp; omega)).mono ?_
    rintro e w1 ⟨rfl, hb⟩
    have Bt : Below w.heap.size w w1 := (below_alloc _ _).trans (hb.mono (by simp))
    have hs : w.heap.size + 1 ≤ w1.heap.size := by have := hb.size; simp at this; omega
    replace h1 := h1.below hb (by simp; omega)
    replace X0 := X0.below hb (by simp)
    clear hb
    obtain ⟨p0, p1, p2⟩ := X0.three
    rw [H.out]
    go_wp2_with fail
    refine (waysTo_any n _ _ _ _ _ _ B _ h1 (by omega) G).mono ?_
    rintro e w2 ⟨g, ys, rfl, hgg, hblk, hyl, hys, hb⟩
    have HYL := Lib.hid hyl
    have HYS := Lib.hid hys
    clear hyl hys G
    replace Bt := Bt.trans (hb.mono (by omega))
    replace h1 := h1.below hb (by omega)
    replace X0 := X0.below hb (by omega)
    replace hs : w.heap.size + 1 ≤ w2.heap.size := by have := hb.size; omega
    clear p0 p1 p2
    clear hb
    obtain ⟨p0, p1, p2⟩ := X0.three
    go_wp2_with fail
    go_loopw [5, 6] (fun v i wr => ∃ k : Nat, k ≤ n ∧ i = .int .i64 ((k : Int) + 1) ∧ OwnI wr w2.heap.size v (reaL n ss bs k) ∧ Below w2.heap.size w2 wr) (fun _ i _ => (62 - intOf i).toNat)
    case atStart => exact ⟨0, by omega, rfl, OwnI.nil _ _, Below.refl _ _⟩
    case round =>
      obtain ⟨k, hk, rfl, hown, hbw⟩ := hrel
      have hz0 := hbw.size
      obtain ⟨p0, p1, p2⟩ := (X0.below hbw (by omega)).three
      have hblk2 := hblk.below hbw hblk.lt
      by_cases hlt : k < n
      · have hkn : (k : Int) + 1 ≤ (n : Int) := by omega
        have hc := hblk2.int_at (k := k + 1) (by rw [HYL.out]; omega)
        rw [HYS.out (k + 1) (by omega)] at hc
        have HY := Lib.hid (reaL_yes (n := n) (ss := ss) (bs := bs) (k := k))
        have HN := Lib.hid (reaL_no (n := n) (ss := ss) (bs := bs) (k := k))
        have hrl := reaL_length n ss bs k
        have hi2 : ((k : Int) + 1).toNat = k + 1 := by omega
        by_cases hp : 0 < tS n ss bs (k + 1)
        · have HT := Lib.hid (HY.out (by simp [rB, hp]))
          generalize tS n ss bs (k + 1) = t at *
          generalize reaL n ss bs k = zs at *
          go_wp2_with (at_builtin; refine wpList_push _ rfl _ _ rfl w2.heap.size _ zs rfl (hown.alloc _) wr.heap.size ((k : Int) + 1) rfl (by simp) (by omega) (by simp; omega) ?_; intro v1 w3 hown1 hg1)
          go_roundw
          case rel => exact ⟨k + 1, by omega, by go_num, by rw [HT.out]; exact hown1, (hbw.alloc hz0 _).trans hg1⟩
          case measure => simp [intOf] <;> omega
        · have HT := Lib.hid (HN.out (by simp [rB]; omega))
          generalize tS n ss bs (k + 1) = t at *
          go_wp2_with fail
          go_roundw
          case rel => exact ⟨k + 1, by omega, by go_num, by rw [HT.out]; exact hown, hbw⟩
          case measure => simp [intOf] <;> omega
      · obtain rfl : k = n := by omega
        go_wp2_with fail
        go_ret2
        exact ⟨_, rfl, hown.mono (by omega), Bt.trans (hbw.mono (by omega))⟩

set_option maxHeartbeats 2000000 in
theorem specReached_any (st : Int) (A A' : Option Addr) (c c' : Nat) (ss bs : List Int) (B : Nat) (w : World) (h : St w B st A A' c c' ss bs) (hB : B ≤ w.heap.size) :
    Calls Try.prog 32 #[stv st A A' c c' ss bs] w (fun e w' => Lists w (reachR st ss bs) (goodB st ss bs) e w') := by
  cases g : goodB st ss bs
  · rw [show reachR st ss bs = [] by simp [reachR, g]]
    have H := Lib.hid g
    clear g
    have h1 := h.alloc hB (.cells #[.int .i64 st, .slice A ss.length c, .slice A' bs.length c'] 28)
    have X0 : Blk (w.alloc (.cells #[.int .i64 st, .slice A ss.length c, .slice A' bs.length c'] 28)) w.heap.size 28 #[.int .i64 st, .slice A ss.length c, .slice A' bs.length c'] := Blk.new _ _ _
    go_enter Try.func32, Try.ntmps32
    go_wp2_with fail
    refine (clGood_any _ _ _ _ _ _ _ B _ h1 (by simp; omega)).mono ?_
    rintro e w1 ⟨rfl, hb⟩
    have Bt : Below w.heap.size w w1 := (below_alloc _ _).trans (hb.mono (by simp))
    have hs : w.heap.size + 1 ≤ w1.heap.size := by have := hb.size; simp at this; omega
    replace h1 := h1.below hb (by simp; omega)
    replace X0 := X0.below hb (by simp)
    clear hb
    obtain ⟨p0, p1, p2⟩ := X0.three
    rw [H.out]
    go_wp2_with fail
    go_ret2
    exact ⟨_, rfl, OwnI.nil _ _, Bt⟩
  · have G := good_of g
    obtain ⟨n, rfl⟩ : ∃ n : Nat, st = (n : Int) := ⟨st.toNat, by have := G.st1; omega⟩
    have g1 : 1 ≤ n := by have := G.st1; omega
    have g2 : n ≤ 60 := by have := G.st2; omega
    rw [show reachR n ss bs = reaL n ss bs n by simp [reachR, g]]
    have GH := Lib.hid G
    have H := Lib.hid g
    clear g
    have h1 := h.alloc hB (.cells #[.int .i64 (n : Int), .slice A ss.length c, .slice A' bs.length c'] 28)
    have X0 : Blk (w.alloc (.cells #[.int .i64 (n : Int), .slice A ss.length c, .slice A' bs.length c'] 28)) w.heap.size 28 #[.int .i64 (n : Int), .slice A ss.length c, .slice A' bs.length c'] := Blk.new _ _ _
    go_enter Try.func32, Try.ntmps32
    go_wp2_with fail
    refine (clGood_any _ _ _ _ _ _ _ B _ h1 (by simp; omega)).mono ?_
    rintro e w1 ⟨rfl, hb⟩
    have Bt : Below w.heap.size w w1 := (below_alloc _ _).trans (hb.mono (by simp))
    have hs : w.heap.size + 1 ≤ w1.heap.size := by have := hb.size; simp at this; omega
    replace h1 := h1.below hb (by simp; omega)
    replace X0 := X0.below hb (by simp)
    clear hb
    obtain ⟨p0, p1, p2⟩ := X0.three
    rw [H.out]
    go_wp2_with fail
    refine (clReached_any n _ _ _ _ _ _ B _ h1 (by omega) G).mono ?_
    rintro e w2 ⟨g, rfl, hgg, hblk, hb⟩
    clear G
    replace Bt := Bt.trans (hb.mono (by omega))
    replace h1 := h1.below hb (by omega)
    replace X0 := X0.below hb (by omega)
    replace hs : w.heap.size + 1 ≤ w2.heap.size := by have := hb.size; omega
    clear p0 p1 p2
    clear hb
    obtain ⟨p0, p1, p2⟩ := X0.three
    go_wp2_with fail
    go_loopw [4, 13] (fun v i wr => ∃ k : Nat, k ≤ n + 1 ∧ i = .int .i64 (k : Int) ∧ OwnI wr w2.heap.size v (reaL n ss bs (k - 1)) ∧ Below w2.heap.size w2 wr) (fun _ i _ => (62 - intOf i).toNat)
    case atStart => exact ⟨0, by omega, rfl, OwnI.nil _ _, Below.refl _ _⟩
    case round =>
      obtain ⟨k, hk, rfl, hown, hbw⟩ := hrel
      have hz0 := hbw.size
      have hblk2 := hblk.below hbw hblk.lt
      by_cases hlt : k < n + 1
      · have hkn : (k : Int) < (n : Int) + 1 := by omega
        have hc : wr.cell? ⟨g, k, none⟩ = some (.bool (rB n ss bs k)) := by rw [hblk2.cell]; exact bls_get hlt
        have hrl := reaL_length n ss bs (k - 1)
        by_cases hk0 : k = 0
        · subst hk0
          cases hrb : rB n ss bs 0
          all_goals
            rw [hrb] at hc
            go_wp2_with fail
            go_roundw
            case rel => exact ⟨1, by omega, rfl, hown, hbw⟩
            case measure => simp [intOf] <;> omega
        · obtain ⟨m, rfl⟩ : ∃ m, k = m + 1 := ⟨k - 1, by omega⟩
          simp only [Nat.add_sub_cancel] at hown hrl
          have HY := Lib.hid (reaL_yes (n := n) (ss := ss) (bs := bs) (k := m))
          have HN := Lib.hid (reaL_no (n := n) (ss := ss) (bs := bs) (k := m))
          have hm0 : (0 : Int) < (m : Int) + 1 := by omega
          have hm1 : (m : Int) + 1 < (n : Int) + 1 := by omega
          cases hrb : rB n ss bs (m + 1)
          · have HT := Lib.hid (HN.out hrb)
            rw [hrb] at hc
            go_wp2_with fail
            go_roundw
            case rel => exact ⟨m + 2, by omega, by go_num, by show OwnI _ _ _ (reaL n ss bs (m + 1)); rw [HT.out]; exact hown, hbw⟩
            case measure => simp [intOf] <;> omega
          · have HT := Lib.hid (HY.out hrb)
            rw [hrb] at hc
            generalize reaL n ss bs m = zs at *
            go_wp2_with (at_builtin; refine wpList_push _ rfl _ _ rfl w2.heap.size _ zs rfl (hown.alloc _) wr.heap.size ((m : Int) + 1) rfl (by simp) (by omega) (by simp; omega) ?_; intro v1 w3 hown1 hg1)
            go_roundw
            case rel => exact ⟨m + 2, by omega, by go_num, by show OwnI _ _ _ (reaL n ss bs (m + 1)); rw [HT.out]; exact hown1, (hbw.alloc hz0 _).trans hg1⟩
            case measure => simp [intOf] <;> omega
      · obtain rfl : k = n + 1 := by omega
        go_wp2_with fail
        go_ret2
        exact ⟨_, rfl, hown.mono (by omega), Bt.trans (hbw.mono (by omega))⟩

/-- the stuck steps up to k -/
def stkB (n : Nat) (ss bs : List Int) (k : Nat) : Bool := rB n ss bs k && decide (wS n ss bs (n - k) = 0)
def stuL (n : Nat) (ss bs : List Int) : Nat → List Int
  | 0 => []
  | k + 1 => if stkB n ss bs (k + 1) = true then stuL n ss bs k ++ [(k : Int) + 1] else stuL n ss bs k
theorem stuL_yes {n : Nat} {ss bs : List Int} {k : Nat} (h : stkB n ss bs (k + 1) = true) : stuL n ss bs (k + 1) = stuL n ss bs k ++ [(k : Int) + 1] := by rw [stuL, if_pos h]
theorem stuL_no {n : Nat} {ss bs : List Int} {k : Nat} (h : stkB n ss bs (k + 1) = false) : stuL n ss bs (k + 1) = stuL n ss bs k := by rw [stuL, if_neg (by simp [h])]
theorem stuL_length (n : Nat) (ss bs : List Int) : ∀ k, (stuL n ss bs k).length ≤ k
  | 0 => Nat.le_refl _
  | k + 1 => by
    have := stuL_length n ss bs k
    unfold stuL
    split
    · simp; omega
    · omega
def stuckR (st : Int) (ss bs : List Int) : List Int := if goodB st ss bs then stuL st.toNat ss bs st.toNat else []
theorem stuckR_length (st : Int) (ss bs : List Int) : (stuckR st ss bs).length ≤ 1048576 := by
  unfold stuckR
  split
  · next h =>
    have := (good_of h).st2
    have := stuL_length st.toNat ss bs st.toNat
    omega
  · simp
/-- the stuck ones of a list of steps -/
def dead (n : Nat) (ss bs : List Int) (xs : List Int) : List Int := xs.filter fun x => decide (wS n ss bs (n - x.toNat) = 0)
theorem stuL_dead (n : Nat) (ss bs : List Int) : ∀ k, dead n ss bs (reaL n ss bs k) = stuL n ss bs k
  | 0 => rfl
  | k + 1 => by
    have h := stuL_dead n ss bs k
    have e : ((k : Int) + 1).toNat = k + 1 := by omega
    cases hr : rB n ss bs (k + 1)
    · rw [reaL_no hr, stuL_no (by simp [stkB, hr]), h]
    · rw [reaL_yes hr]
      unfold dead at h ⊢
      rw [List.filter_append, h]
      by_cases hw : wS n ss bs (n - (k + 1)) = 0
      · rw [stuL_yes (by simp [stkB, hr, hw])]
        simp [e, hw]
      · rw [stuL_no (by simp [stkB, hr, hw])]
        simp [e, hw]
theorem reaL_in (n : Nat) (ss bs : List Int) : ∀ k x, x ∈ reaL n ss bs k → 1 ≤ x ∧ x ≤ k
  | 0, x, h => absurd h (by simp [reaL])
  | k + 1, x, h => by
    unfold reaL at h
    split at h
    · rcases List.mem_append.1 h with h | h
      · have := reaL_in n ss bs k x h; omega
      · simp at h; omega
    · have := reaL_in n ss bs k x h; omega
theorem dead_go {n : Nat} {ss bs xs : List Int} {k : Nat} (hk : k < xs.length) : dead n ss bs (xs.take (k + 1)) = if wS n ss bs (n - (xs.getD k 0).toNat) = 0 then dead n ss bs (xs.take k) ++ [xs.getD k 0] else dead n ss bs (xs.take k) := by
  rw [take_succ_getD hk]
  generalize xs.getD k 0 = y
  unfold dead
  rw [List.filter_append]
  split
  · next h => simp [h]
  · next h => simp [h]
theorem dead_length (n : Nat) (ss bs xs : List Int) : (dead n ss bs xs).length ≤ xs.length := List.length_filter_le _ _

set_option maxHeartbeats 2000000 in
theorem implStuck_any (st : Int) (A A' : Option Addr) (c c' : Nat) (ss bs : List Int) (B : Nat) (w : World) (h : St w B st A A' c c' ss bs) (hB : B ≤ w.heap.size) :
    Calls Try.prog 35 #[stv st A A' c c' ss bs] w (fun e w' => Lists w (stuckR st ss bs) (goodB st ss bs) e w') := by
  cases g : goodB st ss bs
  · rw [show stuckR st ss bs = [] by simp [stuckR, g]]
    have H := Lib.hid g
    clear g
    have h1 := h.alloc hB (.cells #[.int .i64 st, .slice A ss.length c, .slice A' bs.length c'] 28)
    have X0 : Blk (w.alloc (.cells #[.int .i64 st, .slice A ss.length c, .slice A' bs.length c'] 28)) w.heap.size 28 #[.int .i64 st, .slice A ss.length c, .slice A' bs.length c'] := Blk.new _ _ _
    go_enter Try.func35, Try.ntmps35
    go_wp2_with fail
    refine (implReached_any _ _ _ _ _ _ _ B _ h1 (by simp; omega)).mono ?_
    rintro e w1 ⟨v, rfl, hown, hb⟩
    obtain ⟨Z1, d1, rfl, _⟩ := hown.form
    rw [H.out]
    have Bt : Below w.heap.size w w1 := (below_alloc _ _).trans (hb.mono (by simp))
    have hs : w.heap.size + 1 ≤ w1.heap.size := by have := hb.size; simp at this; omega
    replace h1 := h1.below hb (by simp; omega)
    replace X0 := X0.below hb (by simp)
    clear hb
    obtain ⟨p0, p1, p2⟩ := X0.three
    go_wp2_with fail
    go_ret2
    exact ⟨_, rfl, OwnI.nil _ _, Bt⟩
  · have G := good_of g
    obtain ⟨n, rfl⟩ : ∃ n : Nat, st = (n : Int) := ⟨st.toNat, by have := G.st1; omega⟩
    have g1 : 1 ≤ n := by have := G.st1; omega
    have g2 : n ≤ 60 := by have := G.st2; omega
    rw [show stuckR n ss bs = stuL n ss bs n by simp [stuckR, g]]
    have HR := Lib.hid (show reachR n ss bs = reaL n ss bs n by simp [reachR, g])
    have H := Lib.hid g
    clear g
    have h1 := h.alloc hB (.cells #[.int .i64 (n : Int), .slice A ss.length c, .slice A' bs.length c'] 28)
    have X0 : Blk (w.alloc (.cells #[.int .i64 (n : Int), .slice A ss.length c, .slice A' bs.length c'] 28)) w.heap.size 28 #[.int .i64 (n : Int), .slice A ss.length c, .slice A' bs.length c'] := Blk.new _ _ _
    go_enter Try.func35, Try.ntmps35
    go_wp2_with fail
    refine (implReached_any _ _ _ _ _ _ _ B _ h1 (by simp; omega)).mono ?_
    rintro e w1 ⟨v, rfl, hown, hb⟩
    rw [HR.out] at hown
    obtain ⟨Z1, d1, rfl, hrd⟩ := hown.form
    rw [H.out]
    have Bt : Below w.heap.size w w1 := (below_alloc _ _).trans (hb.mono (by simp))
    have hs : w.heap.size + 1 ≤ w1.heap.size := by have := hb.size; simp at this; omega
    replace h1 := h1.below hb (by simp; omega)
    replace X0 := X0.below hb (by simp)
    clear hb
    obtain ⟨p0, p1, p2⟩ := X0.three
    go_wp2_with fail
    refine (waysOn_any n _ _ _ _ _ _ B _ h1 (by omega) G).mono ?_
    rintro e w2 ⟨g, rfl, hgg, hblk, hb⟩
    replace hrd := hrd.below hb (Nat.le_refl _)
    have hz12 : w1.heap.size ≤ w2.heap.size := hb.size
    clear hown G
    replace Bt := Bt.trans (hb.mono (by omega))
    replace h1 := h1.below hb (by omega)
    replace X0 := X0.below hb (by omega)
    replace hs : w.heap.size + 1 ≤ w2.heap.size := by have := hb.size; omega
    clear p0 p1 p2
    clear hb
    obtain ⟨p0, p1, p2⟩ := X0.three
    have hin := Lib.hid (fun x hx => reaL_in n ss bs n x hx)
    have hrl := reaL_length n ss bs n
    have HSD := Lib.hid (stuL_dead n ss bs n)
    have hol := Lib.hid (show (onL n ss bs).length = n + 10 from tell_length _ _)
    generalize reaL n ss bs n = xs at *
    go_wp2_with fail
    go_loopw [7, 21] (fun v i wr => ∃ k : Nat, k ≤ xs.length ∧ i = .int .i64 (k : Int) ∧ OwnI wr w2.heap.size v (dead n ss bs (xs.take k)) ∧ Below w2.heap.size w2 wr) (fun _ i _ => (62 - intOf i).toNat)
    case atStart => exact ⟨0, by omega, rfl, OwnI.nil _ _, Below.refl _ _⟩
    case round =>
      obtain ⟨k, hk, rfl, hown, hbw⟩ := hrel
      have hz0 := hbw.size
      have hblk2 := hblk.below hbw hblk.lt
      by_cases hlt : k < xs.length
      · obtain ⟨b, o, rfl, hb0, hcell⟩ := (hrd.below hbw (by omega)).at_ hlt
        have hx := hin.out _ (getD_mem hlt)
        have HD := Lib.hid (dead_go (n := n) (ss := ss) (bs := bs) hlt)
        have hdl : (dead n ss bs (xs.take k)).length ≤ k := Nat.le_trans (dead_length n ss bs _) (by simp; omega)
        generalize xs.getD k 0 = x at *
        obtain ⟨s, rfl⟩ : ∃ s : Nat, x = (s : Int) := ⟨x.toNat, by omega⟩
        simp only [Int.toNat_natCast] at HD
        have hc := hblk2.int_at (k := s) (by rw [hol.out]; omega)
        rw [onL_at (by omega)] at hc
        generalize dead n ss bs (xs.take k) = zs at *
        by_cases hw : wS n ss bs (n - s) = 0
        · rw [if_pos hw] at HD
          rw [hw] at hc
          go_wp2_with (at_builtin; refine wpList_push _ rfl _ _ rfl w2.heap.size _ zs rfl (hown.alloc _) wr.heap.size (s : Int) rfl (by simp) (by omega) (by simp; omega) ?_; intro v1 w3 hown1 hg1)
          go_roundw
          case rel => exact ⟨k + 1, by omega, by go_num, by rw [HD.out]; exact hown1, (hbw.alloc hz0 _).trans hg1⟩
          case measure => simp [intOf] <;> omega
        · rw [if_neg hw] at HD
          have hx0 : (wS n ss bs (n - s) == 0) = false := by simpa using hw
          generalize wS n ss bs (n - s) = t at hc hx0 hw
          go_wp2_with fail
          go_roundw
          case rel => exact ⟨k + 1, by omega, by go_num, by rw [HD.out]; exact hown, hbw⟩
          case measure => simp [intOf] <;> omega
      · obtain rfl : k = xs.length := by omega
        rw [List.take_length, HSD.out] at hown
        go_wp2_with fail
        go_ret2
        exact ⟨_, rfl, hown.mono (by omega), Bt.trans (hbw.mono (by omega))⟩

theorem caL_at {n : Nat} {ss bs : List Int} {p : Nat} (h : p ≤ n) : (caL n ss bs).getD p 0 = capI (wS n ss bs (n - p)) := by
  unfold caL
  rw [tell_getD _ _ _ (by omega)]
  unfold caS onS
  rw [if_pos (by omega)]

set_option maxHeartbeats 2000000 in
theorem specStuck_any (st : Int) (A A' : Option Addr) (c c' : Nat) (ss bs : List Int) (B : Nat) (w : World) (h : St w B st A A' c c' ss bs) (hB : B ≤ w.heap.size) :
    Calls Try.prog 34 #[stv st A A' c c' ss bs] w (fun e w' => Lists w (stuckR st ss bs) (goodB st ss bs) e w') := by
  cases g : goodB st ss bs
  · rw [show stuckR st ss bs = [] by simp [stuckR, g]]
    have H := Lib.hid g
    clear g
    have h1 := h.alloc hB (.cells #[.int .i64 st, .slice A ss.length c, .slice A' bs.length c'] 28)
    have X0 : Blk (w.alloc (.cells #[.int .i64 st, .slice A ss.length c, .slice A' bs.length c'] 28)) w.heap.size 28 #[.int .i64 st, .slice A ss.length c, .slice A' bs.length c'] := Blk.new _ _ _
    go_enter Try.func34, Try.ntmps34
    go_wp2_with fail
    refine (clGood_any _ _ _ _ _ _ _ B _ h1 (by simp; omega)).mono ?_
    rintro e w1 ⟨rfl, hb⟩
    have Bt : Below w.heap.size w w1 := (below_alloc _ _).trans (hb.mono (by simp))
    have hs : w.heap.size + 1 ≤ w1.heap.size := by have := hb.size; simp at this; omega
    replace h1 := h1.below hb (by simp; omega)
    replace X0 := X0.below hb (by simp)
    clear hb
    obtain ⟨p0, p1, p2⟩ := X0.three
    rw [H.out]
    go_wp2_with fail
    go_ret2
    exact ⟨_, rfl, OwnI.nil _ _, Bt⟩
  · have G := good_of g
    obtain ⟨n, rfl⟩ : ∃ n : Nat, st = (n : Int) := ⟨st.toNat, by have := G.st1; omega⟩
    have g1 : 1 ≤ n := by have := G.st1; omega
    have g2 : n ≤ 60 := by have := G.st2; omega
    rw [show stuckR n ss bs = stuL n ss bs n by simp [stuckR, g]]
    have H := Lib.hid g
    clear g
    have h1 := h.alloc hB (.cells #[.int .i64 (n : Int), .slice A ss.length c, .slice A' bs.length c'] 28)
    have X0 : Blk (w.alloc (.cells #[.int .i64 (n : Int), .slice A ss.length c, .slice A' bs.length c'] 28)) w.heap.size 28 #[.int .i64 (n : Int), .slice A ss.length c, .slice A' bs.length c'] := Blk.new _ _ _
    go_enter Try.func34, Try.ntmps34
    go_wp2_with fail
    refine (clGood_any _ _ _ _ _ _ _ B _ h1 (by simp; omega)).mono ?_
    rintro e w1 ⟨rfl, hb⟩
    have Bt : Below w.heap.size w w1 := (below_alloc _ _).trans (hb.mono (by simp))
    have hs : w.heap.size + 1 ≤ w1.heap.size := by have := hb.size; simp at this; omega
    replace h1 := h1.below hb (by simp; omega)
    replace X0 := X0.below hb (by simp)
    clear hb
    obtain ⟨p0, p1, p2⟩ := X0.three
    rw [H.out]
    go_wp2_with fail
    refine (clWays_any n _ _ _ _ _ _ B _ h1 (by omega) G).mono ?_
    rintro e w2 ⟨gw, rfl, hgw, hway, hb⟩
    replace Bt := Bt.trans (hb.mono (by omega))
    replace h1 := h1.below hb (by omega)
    replace X0 := X0.below hb (by omega)
    replace hs : w.heap.size + 1 ≤ w2.heap.size := by have := hb.size; omega
    clear p0 p1 p2
    clear hb
    obtain ⟨p0, p1, p2⟩ := X0.three
    go_wp2_with fail
    refine (clReached_any n _ _ _ _ _ _ B _ h1 (by omega) G).mono ?_
    rintro e w3 ⟨g, rfl, hgg, hblk, hb⟩
    replace hway := hway.below hb hway.lt
    have hcl := Lib.hid (show (caL n ss bs).length = n + 1 from tell_length _ _)
    have HWN := Lib.hid (fun d => wS_nonneg n ss bs d)
    clear G
    replace Bt := Bt.trans (hb.mono (by omega))
    replace h1 := h1.below hb (by omega)
    replace X0 := X0.below hb (by omega)
    replace hs : w.heap.size + 1 ≤ w3.heap.size := by have := hb.size; omega
    clear p0 p1 p2
    clear hb
    obtain ⟨p0, p1, p2⟩ := X0.three
    go_wp2_with fail
    go_loopw [5, 16] (fun v i wr => ∃ k : Nat, k ≤ n + 1 ∧ i = .int .i64 (k : Int) ∧ OwnI wr w3.heap.size v (stuL n ss bs (k - 1)) ∧ Below w3.heap.size w3 wr) (fun _ i _ => (62 - intOf i).toNat)
    case atStart => exact ⟨0, by omega, rfl, OwnI.nil _ _, Below.refl _ _⟩
    case round =>
      obtain ⟨k, hk, rfl, hown, hbw⟩ := hrel
      have hz0 := hbw.size
      have hblk2 := hblk.below hbw hblk.lt
      by_cases hlt : k < n + 1
      · have hkn : (k : Int) < (n : Int) + 1 := by omega
        have hc : wr.cell? ⟨g, k, none⟩ = some (.bool (rB n ss bs k)) := by rw [hblk2.cell]; exact bls_get hlt
        have hcw := (hway.below hbw hway.lt).int_at (k := k) (by rw [hcl.out]; exact hlt)
        have hrl := stuL_length n ss bs (k - 1)
        by_cases hk0 : k = 0
        · subst hk0
          cases hrb : rB n ss bs 0
          all_goals
            rw [hrb] at hc
            generalize (caL n ss bs).getD 0 0 = t at *
            go_wp2_with fail
            go_roundw
            case rel => exact ⟨1, by omega, rfl, hown, hbw⟩
            case measure => simp [intOf] <;> omega
        · obtain ⟨m, rfl⟩ : ∃ m, k = m + 1 := ⟨k - 1, by omega⟩
          simp only [Nat.add_sub_cancel] at hown hrl
          rw [show (caL n ss bs).getD (m + 1) 0 = capI (wS n ss bs (n - (m + 1))) by rw [caL_at (by omega)]] at hcw
          have HY := Lib.hid (stuL_yes (n := n) (ss := ss) (bs := bs) (k := m))
          have HN := Lib.hid (stuL_no (n := n) (ss := ss) (bs := bs) (k := m))
          have hm0 : (0 : Int) < (m : Int) + 1 := by omega
          have hm1 : (m : Int) + 1 < (n : Int) + 1 := by omega
          cases hrb : rB n ss bs (m + 1)
          · have HT := Lib.hid (HN.out (by simp [stkB, hrb]))
            rw [hrb] at hc
            generalize capI (wS n ss bs (n - (m + 1))) = t at *
            go_wp2_with fail
            go_roundw
            case rel => exact ⟨m + 2, by omega, by go_num, by show OwnI _ _ _ (stuL n ss bs (m + 1)); rw [HT.out]; exact hown, hbw⟩
            case measure => simp [intOf] <;> omega
          · rw [hrb] at hc
            have hi2 : ((m : Int) + 1).toNat = m + 1 := by omega
            have hwn := HWN.out (n - (m + 1))
            by_cases hw : wS n ss bs (n - (m + 1)) = 0
            · have HT := Lib.hid (HY.out (by simp [stkB, hrb, hw]))
              rw [show capI (wS n ss bs (n - (m + 1))) = 0 by rw [hw]; rfl] at hcw
              generalize stuL n ss bs m = zs at *
              go_wp2_with (at_builtin; refine wpList_push _ rfl _ _ rfl w3.heap.size _ zs rfl (hown.alloc _) wr.heap.size ((m : Int) + 1) rfl (by simp) (by omega) (by simp; omega) ?_; intro v1 w4 hown1 hg1)
              go_roundw
              case rel => exact ⟨m + 2, by omega, by go_num, by show OwnI _ _ _ (stuL n ss bs (m + 1)); rw [HT.out]; exact hown1, (hbw.alloc hz0 _).trans hg1⟩
              case measure => simp [intOf] <;> omega
            · have HT := Lib.hid (HN.out (by simp [stkB, hw]))
              have hx0 : (capI (wS n ss bs (n - (m + 1))) == 0) = false := by
                have : ¬ capI (wS n ss bs (n - (m + 1))) = 0 := by unfold capI leastI; split <;> omega
                simpa using this
              have hx1 : ¬ capI (wS n ss bs (n - (m + 1))) = 0 := by unfold capI leastI; split <;> omega
              generalize capI (wS n ss bs (n - (m + 1))) = t at hcw hx0 hx1
              go_wp2_with fail
              go_roundw
              case rel => exact ⟨m + 2, by omega, by go_num, by show OwnI _ _ _ (stuL n ss bs (m + 1)); rw [HT.out]; exact hown, hbw⟩
              case measure => simp [intOf] <;> omega
      · obtain rfl : k = n + 1 := by omega
        go_wp2_with fail
        go_ret2
        exact ⟨_, rfl, hown.mono (by omega), Bt.trans (hbw.mono (by omega))⟩

end Go.Proofs.Ytimgnollnnepbaa
