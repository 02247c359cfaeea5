/- Contracts: the fewest and the most strides to the top, on the model's side. -/
import Derived.Test.YtehffiaobjlpoaaStLeftP
import Derived.Test.YtehffiaobjlpoaaStCl
namespace Go.Proofs.Ytehffiaobjlpoaa
set_option maxRecDepth 100000
open Go.RowKit

/-- the model's row: m distances done -/
def leS (most : Bool) (n : Nat) (ss bs : List Int) (m p : Nat) : Int := if p ≤ n ∧ n ≤ p + m then lv most n ss bs (n - p) else 0
/-- the same while the place at distance m + 1 is being told, k strides done -/
def leT (most : Bool) (n : Nat) (ss bs : List Int) (m k p : Nat) : Int := if p + (m + 1) = n then lP most n ss bs m k else leS most n ss bs m p
theorem leS_first (most : Bool) (n : Nat) (ss bs : List Int) (p : Nat) : leS most n ss bs 0 p = 0 := by
  unfold leS
  split
  · rw [show n - p = 0 by omega]; rfl
  · rfl
theorem leT_at {most : Bool} {n : Nat} {ss bs : List Int} {m k a : Nat} (h : a + (m + 1) = n) : leT most n ss bs m k a = lP most n ss bs m k := by unfold leT; rw [if_pos h]
theorem leT_else {most : Bool} {n : Nat} {ss bs : List Int} {m k a p : Nat} (h : a + (m + 1) = n) (hp : p ≠ a) : leT most n ss bs m k p = leT most n ss bs m (k + 1) p := by unfold leT; rw [if_neg (by omega), if_neg (by omega)]
theorem leT_else0 {most : Bool} {n : Nat} {ss bs : List Int} {m a p : Nat} (h : a + (m + 1) = n) (hp : p ≠ a) : leS most n ss bs m p = leT most n ss bs m 0 p := by unfold leT; rw [if_neg (by omega)]
theorem leT_up {most : Bool} {n : Nat} {ss bs : List Int} {m k a s : Nat} (h : a + (m + 1) = n) (hs : 1 ≤ s) (h2 : a + s ≤ n) : leT most n ss bs m k (a + s) = lT most n ss bs m (s : Int) := by
  unfold leT leS lT
  rw [if_neg (by omega), if_pos (by omega), Int.toNat_natCast, if_pos (by omega)]
  congr 1
  omega
theorem leT_same {most : Bool} {n : Nat} {ss bs : List Int} {m k a p : Nat} (h : a + (m + 1) = n) (e : lP most n ss bs m (k + 1) = lP most n ss bs m k) : leT most n ss bs m k p = leT most n ss bs m (k + 1) p := by
  by_cases hp : p = a
  · subst hp; rw [leT_at h, leT_at h, e]
  · exact leT_else h hp
theorem leT_end {most : Bool} {n : Nat} {ss bs : List Int} {m p : Nat} (h : hasB bs ((n : Int) - (m + 1 : Nat)) = false) : leT most n ss bs m ss.length p = leS most n ss bs (m + 1) p := by
  unfold leT
  by_cases h0 : p + (m + 1) = n
  · rw [if_pos h0]; unfold leS; rw [if_pos (by omega), show n - p = m + 1 by omega, lv_alive h]
  · rw [if_neg h0]; unfold leS
    by_cases h1 : p ≤ n ∧ n ≤ p + m
    · rw [if_pos h1, if_pos (by omega)]
    · rw [if_neg h1, if_neg (by omega)]
theorem leT_dead {most : Bool} {n : Nat} {ss bs : List Int} {m p : Nat} (h : hasB bs ((n : Int) - (m + 1 : Nat)) = true) : leT most n ss bs m 0 p = leS most n ss bs (m + 1) p := by
  unfold leT
  by_cases h0 : p + (m + 1) = n
  · rw [if_pos h0]; unfold leS; rw [if_pos (by omega), show n - p = m + 1 by omega, lv_dead h]; rfl
  · rw [if_neg h0]; unfold leS
    by_cases h1 : p ≤ n ∧ n ≤ p + m
    · rw [if_pos h1, if_pos (by omega)]
    · rw [if_neg h1, if_neg (by omega)]
theorem lP_bd {most : Bool} {n : Nat} {ss bs : List Int} (hs : ∀ s ∈ ss, 1 ≤ s) (d : Nat) : ∀ k, k ≤ ss.length → -1 ≤ lP most n ss bs d k ∧ lP most n ss bs d k ≤ (d : Int) + 1
  | 0, _ => by rw [lP_zero]; omega
  | k + 1, hk => by
    have ih := lP_bd (most := most) (n := n) (bs := bs) hs d k (by omega)
    have h1 := hs _ (getD_mem (xs := ss) (k := k) (by omega))
    rw [lP_succ (by omega) h1]
    have ht : -1 ≤ lT most n ss bs d (ss.getD k 0) ∧ lT most n ss bs d (ss.getD k 0) ≤ d := by
      unfold lT
      split
      · have := lv_bd (most := most) (n := n) (bs := bs) hs (d + 1 - (ss.getD k 0).toNat)
        omega
      · omega
    unfold fewer
    split
    · exact ih
    · split <;> omega
def leL (most : Bool) (n : Nat) (ss bs : List Int) : List Int := tell (n + 1) (leS most n ss bs n)
theorem leL_zero (most : Bool) (n : Nat) (ss bs : List Int) : (leL most n ss bs).getD 0 0 = lv most n ss bs n := by
  unfold leL; rw [tell_getD _ _ _ (by omega)]; unfold leS; rw [if_pos (by omega), Nat.sub_zero]
theorem fewer_no {most : Bool} {v t : Int} (h : t < 0) : fewer most v t = v := by unfold fewer; rw [if_pos h]
theorem fewer_neg {most : Bool} {v t : Int} (h : ¬ t < 0) (h2 : v < 0) : fewer most v t = t + 1 := by unfold fewer; rw [if_neg h, if_pos (.inl h2)]
theorem fewer_lt {v t : Int} (h : ¬ t < 0) (h2 : t + 1 < v) : fewer false v t = t + 1 := by unfold fewer; rw [if_neg h, if_pos (.inr (.inl ⟨rfl, h2⟩))]
theorem fewer_ge {v t : Int} (h2 : ¬ v < 0) (h3 : ¬ t + 1 < v) : fewer false v t = v := by
  unfold fewer
  split
  · rfl
  · rw [if_neg]
    rintro (h | h | h)
    · exact h2 h
    · exact h3 h.2
    · cases h.1
theorem fewer_gt {v t : Int} (h : ¬ t < 0) (h2 : v < t + 1) : fewer true v t = t + 1 := by unfold fewer; rw [if_neg h, if_pos (.inr (.inr ⟨rfl, h2⟩))]
theorem fewer_le {v t : Int} (h2 : ¬ v < 0) (h3 : ¬ v < t + 1) : fewer true v t = v := by
  unfold fewer
  split
  · rfl
  · rw [if_neg]
    rintro (h | h | h)
    · exact h2 h
    · cases h.1
    · exact h3 h.2
/-- WHAT THE MODEL's clLeft LEAVES -/
def LePost (most : Bool) (n : Nat) (ss bs : List Int) (T : TypeId) (w : World) (e : Ending) (w' : World) : Prop :=
  ∃ g, e = .returned (.slice (some ⟨g, 0, none⟩) (n + 1) (n + 1)) ∧ w.heap.size ≤ g ∧ Blk w' g T (ints (leL most n ss bs)) ∧ Below w.heap.size w w'

set_option maxRecDepth 100000 in
set_option maxHeartbeats 4000000 in
theorem clLeft_few (n : Nat) (A A' : Option Addr) (c c' : Nat) (ss bs : List Int) (B : Nat) (w : World) (h : St w B n A A' c c' ss bs) (hB : B ≤ w.heap.size) (G : Good n ss bs) :
    Calls Try.prog 95 #[stv n A A' c c' ss bs, .bool false] w (LePost false n ss bs 3 w) := by
  have g1 : 1 ≤ n := by have := G.st1; omega
  have g2 : n ≤ 60 := by have := G.st2; omega
  have GH := Lib.hid G
  have HS1 := Lib.hid (fun s hs => (G.hs s hs).1)
  have X0 : Blk (w.alloc (.cells #[.int .i64 (n : Int), .slice A ss.length c, .slice A' bs.length c'] 24)) w.heap.size 24 #[.int .i64 (n : Int), .slice A ss.length c, .slice A' bs.length c'] := Blk.new _ _ _
  have hmk : ∀ u : World, (Instr.makeSlice 22 (.int .i64 ((n : Int) + 1)) (.int .i64 ((n : Int) + 1))).run Try.prog u = .ok (.slice (some ⟨u.heap.size, 0, none⟩) (n + 1) (n + 1)) (u.alloc (.cells (ints (List.replicate (n + 1) 0)) 3)) := fun u => by
    rw [show (n : Int) + 1 = ((n + 1 : Nat) : Int) by omega]
    exact make_run (n + 1) (by omega) u
  have Z : List.replicate (n + 1) (0 : Int) = tell (n + 1) (leS false n ss bs 0) := (tell_zero (n := n + 1) (f := fun _ => 0) (fun _ _ => rfl)).trans (tell_ext (fun p _ => (leS_first _ _ _ _ _).symm))
  rw [Z] at hmk
  have hns := h.ns
  have hl2 : ss.length ≤ 5 := G.l2
  have X1 := X0.alloc (.cells (ints (tell (n + 1) (leS false n ss bs 0))) 3)
  have N1 : Blk ((w.alloc (.cells #[.int .i64 (n : Int), .slice A ss.length c, .slice A' bs.length c'] 24)).alloc (.cells (ints (tell (n + 1) (leS false n ss bs 0))) 3)) (w.heap.size + 1) 3 (ints (tell (n + 1) (leS false n ss bs 0))) := Blk.new' (by simp)
  have B1 : Below w.heap.size w ((w.alloc (.cells #[.int .i64 (n : Int), .slice A ss.length c, .slice A' bs.length c'] 24)).alloc (.cells (ints (tell (n + 1) (leS false n ss bs 0))) 3)) := (below_alloc _ _).alloc (by simp) _
  clear G Z X0
  go_enter Try.func95, Try.ntmps95
  go_wp2_with fail
  clear hmk
  go_loopw [6] (fun i wr => ∃ m : Nat, m ≤ n ∧ i = .int .i64 ((n : Int) - 1 - m) ∧ Blk wr (w.heap.size + 1) 3 (ints (tell (n + 1) (leS false n ss bs m))) ∧ Blk wr w.heap.size 24 #[.int .i64 (n : Int), .slice A ss.length c, .slice A' bs.length c'] ∧ Below w.heap.size w wr) (fun i _ => (intOf i + 1).toNat)
  case atStart => exact ⟨0, by omega, by go_num, N1, X1, B1⟩
  case round =>
    clear N1 X1 B1
    obtain ⟨m, hm, rfl, hblk, hX, hbel⟩ := hrel
    obtain ⟨p0, p1, p2⟩ := hX.three
    have hz := hblk.lt
    by_cases hlt : m < n
    · obtain ⟨a, ha⟩ : ∃ a, a + (m + 1) = n := ⟨n - (m + 1), by omega⟩
      rw [show (n : Int) - 1 - m = (a : Int) by omega]
      have hna : ((n : Int) - (m + 1 : Nat)) = (a : Int) := by omega
      have hst := stand_in (n := n) (a := a) (bs := bs) (by omega)
      have k0 := hblk.int_at (k := a) (by rw [tell_length]; omega)
      have f0 := hblk.frozen a
      have hblk0 := hblk.int_set a (-1)
      rw [tell_set (g := leT false n ss bs m 0) (by omega) (by rw [leT_at ha, lP_zero]) (fun p _ hp => leT_else0 ha hp)] at hblk0
      have hX0 := hX.far (p := ⟨w.heap.size + 1, a, none⟩) (by simp) (.int .i64 (-1))
      have hbel0 := hbel.setCell (p := ⟨w.heap.size + 1, a, none⟩) (by simp) (.int .i64 (-1))
      have hz0 : w.heap.size + 1 < (wr.setCell ⟨w.heap.size + 1, a, none⟩ (.int .i64 (-1))).heap.size := hblk0.lt
      have hc3 : (a : Int) < (n : Int) + 1 := by omega
      have hc5 : a < n + 1 := by omega
      have HA := Lib.hid ha
      generalize (tell (n + 1) (leS false n ss bs m)).getD a 0 = z0 at *
      obtain ⟨q0, q1, q2⟩ := hX0.three
      cases hd : hasB bs (a : Int)
      · rw [hd] at hst
        have HS := Lib.hid hst
        have HK : Hid (∀ p, leT false n ss bs m ss.length p = leS false n ss bs (m + 1) p) := Lib.hid (fun p => leT_end (by rw [hna]; exact hd))
        clear hd hna hst hblk hX ha
        go_wp2_with fail
        refine (clStands_any _ _ _ _ _ _ _ _ B _ (h.below hbel0 hB) (by omega)).mono ?_
        rintro e w2 ⟨rfl, hb2⟩
        rw [HS.out]
        have hblk2 := hblk0.below hb2 hz0
        have hX2 := hX0.below hb2 (by omega)
        have hbel2 : Below w.heap.size w w2 := hbel0.trans (hb2.mono (by omega))
        clear hblk0 hX0 hbel0 hbel hb2 p0 p1 p2 q0 q1 q2 k0 f0 hz0
        obtain ⟨p0, p1, p2⟩ := hX2.three
        go_wp2_with fail
        go_loopw [31] (fun i wr => ∃ k : Nat, k ≤ ss.length ∧ i = .int .i64 (k : Int) ∧ Blk wr (w.heap.size + 1) 3 (ints (tell (n + 1) (leT false n ss bs m k))) ∧ Blk wr w.heap.size 24 #[.int .i64 (n : Int), .slice A ss.length c, .slice A' bs.length c'] ∧ Below w.heap.size w wr) (fun i _ => ss.length - (intOf i).toNat)
        case atStart => exact ⟨0, Nat.zero_le _, rfl, hblk2, hX2, hbel2⟩
        case round =>
          clear hblk2 hX2 hbel2 p0 p1 p2
          obtain ⟨k, hk, rfl, hblk, hX, hbel⟩ := hrel
          obtain ⟨p0, p1, p2⟩ := hX.three
          by_cases hkl : k < ss.length
          · obtain ⟨bb, o, rfl, hb, hcell⟩ := (h.rs.below hbel hB).at_ hkl
            obtain ⟨s, hs⟩ : ∃ s : Nat, ss.getD k 0 = (s : Int) := ⟨(ss.getD k 0).toNat, by have := GH.out.hs _ (getD_mem hkl); omega⟩
            have hsb : 1 ≤ s ∧ s ≤ 9 := by have := GH.out.hs _ (getD_mem hkl); rw [hs] at this; omega
            have hs1 := hsb.1
            have hs2 := hsb.2
            have hsucc : lP false n ss bs m (k + 1) = fewer false (lP false n ss bs m k) (lT false n ss bs m (s : Int)) := by rw [lP_succ hkl (by rw [hs]; omega), hs]
            have HA1 := HA.out
            clear hsb
            rw [hs] at hcell
            clear hs
            by_cases htop : a + s ≤ n
            · have k1 := hblk.int_at (k := a) (by rw [tell_length]; omega)
              have k2 := hblk.int_at (k := a + s) (by rw [tell_length]; omega)
              rw [tell_getD _ _ _ (by omega)] at k1 k2
              rw [leT_at HA.out] at k1
              rw [leT_up HA.out hs1 htop] at k2
              have f1 := hblk.frozen a
              have b1 := lP_bd (most := false) (n := n) (bs := bs) HS1.out m k hk
              have b2 : -1 ≤ lT false n ss bs m (s : Int) ∧ lT false n ss bs m (s : Int) ≤ (m : Int) := by
                unfold lT
                split
                · have := lv_bd (most := false) (n := n) (bs := bs) HS1.out (m + 1 - (s : Int).toNat)
                  rw [Int.toNat_natCast] at this
                  rw [Int.toNat_natCast]
                  omega
                · omega
              have ht : (a : Int) + (s : Int) ≤ (n : Int) := by omega
              have hc4 : (a : Int) + (s : Int) < (n : Int) + 1 := by omega
              have hc6 : a + s < n + 1 := by omega
              have hc7 : (0 : Int) ≤ (a : Int) + (s : Int) := by omega
              have hc9 : ((a : Int) + (s : Int)).toNat = a + s := by omega
              have b3 := b2.1
              have b4 := b2.2
              have b5 := b1.1
              have b6 := b1.2
              clear b1 b2 HA1
              generalize hv : lP false n ss bs m k = v at *
              generalize hvt : lT false n ss bs m (s : Int) = t at *
              have HVE := Lib.hid hv
              clear hv hvt
              have HSU := Lib.hid hsucc
              clear hsucc
              by_cases ht0 : t < 0
              · have HT := Lib.hid (tell_ext (n := n + 1) (f := leT false n ss bs m k) (g := leT false n ss bs m (k + 1)) (fun p _ => leT_same (p := p) HA.out (by rw [HSU.out, HVE.out]; exact fewer_no ht0)))
                rw [HT.out] at hblk
                clear htop
                go_wp2
                go_roundw
                case rel => exact ⟨k + 1, by omega, by go_num, hblk, hX, hbel⟩
                case measure => simp [intOf] <;> omega
              · by_cases hv0 : v < 0
                · have SE : Hid ((tell (n + 1) (leT false n ss bs m k)).set a (t + 1) = tell (n + 1) (leT false n ss bs m (k + 1))) := Lib.hid (tell_set (by omega) (by rw [leT_at HA.out, HSU.out]; exact fewer_neg ht0 hv0) (fun p _ hp => leT_else HA.out hp))
                  clear htop
                  go_wp2
                  go_roundw
                  case rel => exact ⟨k + 1, by omega, by go_num, by rw [← SE.out]; exact (hblk.int_set a (t + 1)), hX.far (by simp) _, hbel.setCell (by simp) _⟩
                  case measure => simp [intOf] <;> omega
                · by_cases hcm : t + 1 < v
                  · have SE : Hid ((tell (n + 1) (leT false n ss bs m k)).set a (t + 1) = tell (n + 1) (leT false n ss bs m (k + 1))) := Lib.hid (tell_set (by omega) (by rw [leT_at HA.out, HSU.out]; exact fewer_lt ht0 hcm) (fun p _ hp => leT_else HA.out hp))
                    clear htop
                    go_wp2
                    go_roundw
                    case rel => exact ⟨k + 1, by omega, by go_num, by rw [← SE.out]; exact (hblk.int_set a (t + 1)), hX.far (by simp) _, hbel.setCell (by simp) _⟩
                    case measure => simp [intOf] <;> omega
                  · have HT := Lib.hid (tell_ext (n := n + 1) (f := leT false n ss bs m k) (g := leT false n ss bs m (k + 1)) (fun p _ => leT_same (p := p) HA.out (by rw [HSU.out, HVE.out]; exact fewer_ge hv0 hcm)))
                    rw [HT.out] at hblk
                    clear htop
                    go_wp2
                    go_roundw
                    case rel => exact ⟨k + 1, by omega, by go_num, hblk, hX, hbel⟩
                    case measure => simp [intOf] <;> omega
            · have ht : (n : Int) < (a : Int) + (s : Int) := by omega
              have HT := Lib.hid (tell_ext (n := n + 1) (f := leT false n ss bs m k) (g := leT false n ss bs m (k + 1)) (fun p _ => leT_same (p := p) HA.out (by rw [hsucc]; rw [show lT false n ss bs m (s : Int) = -1 by unfold lT; rw [Int.toNat_natCast, if_neg (by omega)]]; exact fewer_no (by omega))))
              rw [HT.out] at hblk
              clear htop hsucc HA1
              go_wp2
              go_roundw
              case rel => exact ⟨k + 1, by omega, by go_num, hblk, hX, hbel⟩
              case measure => simp [intOf] <;> omega
          · obtain rfl : k = ss.length := by omega
            have HT := Lib.hid (tell_ext (n := n + 1) (fun p _ => HK.out p))
            rw [HT.out] at hblk
            go_wp2
            go_roundw
            case rel => have ha := HA.out; exact ⟨m + 1, by omega, by go_num, hblk, hX, hbel⟩
            case measure => simp [intOf] <;> omega
      · rw [hd] at hst
        have HS := Lib.hid hst
        have HK : Hid (tell (n + 1) (leT false n ss bs m 0) = tell (n + 1) (leS false n ss bs (m + 1))) := Lib.hid (tell_ext (fun p _ => leT_dead (by rw [hna]; exact hd)))
        rw [HK.out] at hblk0
        clear hd hna hst hblk hX ha
        go_wp2_with fail
        refine (clStands_any _ _ _ _ _ _ _ _ B _ (h.below hbel0 hB) (by omega)).mono ?_
        rintro e w2 ⟨rfl, hb2⟩
        rw [HS.out]
        have hblk2 := hblk0.below hb2 hz0
        have hX2 := hX0.below hb2 (by omega)
        have hbel2 : Below w.heap.size w w2 := hbel0.trans (hb2.mono (by omega))
        clear hblk0 hX0 hbel0 hbel hb2 p0 p1 p2 q0 q1 q2 k0 f0 hz0
        go_wp2
        go_roundw
        case rel => have ha := HA.out; exact ⟨m + 1, by omega, by go_num, hblk2, hX2, hbel2⟩
        case measure => simp [intOf] <;> omega
    · obtain rfl : m = n := by omega
      go_wp2
      go_ret
      exact ⟨_, rfl, by omega, hblk, hbel⟩

set_option maxRecDepth 100000 in
set_option maxHeartbeats 4000000 in
theorem clLeft_most (n : Nat) (A A' : Option Addr) (c c' : Nat) (ss bs : List Int) (B : Nat) (w : World) (h : St w B n A A' c c' ss bs) (hB : B ≤ w.heap.size) (G : Good n ss bs) :
    Calls Try.prog 95 #[stv n A A' c c' ss bs, .bool true] w (LePost true n ss bs 3 w) := by
  have g1 : 1 ≤ n := by have := G.st1; omega
  have g2 : n ≤ 60 := by have := G.st2; omega
  have GH := Lib.hid G
  have HS1 := Lib.hid (fun s hs => (G.hs s hs).1)
  have X0 : Blk (w.alloc (.cells #[.int .i64 (n : Int), .slice A ss.length c, .slice A' bs.length c'] 24)) w.heap.size 24 #[.int .i64 (n : Int), .slice A ss.length c, .slice A' bs.length c'] := Blk.new _ _ _
  have hmk : ∀ u : World, (Instr.makeSlice 22 (.int .i64 ((n : Int) + 1)) (.int .i64 ((n : Int) + 1))).run Try.prog u = .ok (.slice (some ⟨u.heap.size, 0, none⟩) (n + 1) (n + 1)) (u.alloc (.cells (ints (List.replicate (n + 1) 0)) 3)) := fun u => by
    rw [show (n : Int) + 1 = ((n + 1 : Nat) : Int) by omega]
    exact make_run (n + 1) (by omega) u
  have Z : List.replicate (n + 1) (0 : Int) = tell (n + 1) (leS true n ss bs 0) := (tell_zero (n := n + 1) (f := fun _ => 0) (fun _ _ => rfl)).trans (tell_ext (fun p _ => (leS_first _ _ _ _ _).symm))
  rw [Z] at hmk
  have hns := h.ns
  have hl2 : ss.length ≤ 5 := G.l2
  have X1 := X0.alloc (.cells (ints (tell (n + 1) (leS true n ss bs 0))) 3)
  have N1 : Blk ((w.alloc (.cells #[.int .i64 (n : Int), .slice A ss.length c, .slice A' bs.length c'] 24)).alloc (.cells (ints (tell (n + 1) (leS true n ss bs 0))) 3)) (w.heap.size + 1) 3 (ints (tell (n + 1) (leS true n ss bs 0))) := Blk.new' (by simp)
  have B1 : Below w.heap.size w ((w.alloc (.cells #[.int .i64 (n : Int), .slice A ss.length c, .slice A' bs.length c'] 24)).alloc (.cells (ints (tell (n + 1) (leS true n ss bs 0))) 3)) := (below_alloc _ _).alloc (by simp) _
  clear G Z X0
  go_enter Try.func95, Try.ntmps95
  go_wp2_with fail
  clear hmk
  go_loopw [6] (fun i wr => ∃ m : Nat, m ≤ n ∧ i = .int .i64 ((n : Int) - 1 - m) ∧ Blk wr (w.heap.size + 1) 3 (ints (tell (n + 1) (leS true n ss bs m))) ∧ Blk wr w.heap.size 24 #[.int .i64 (n : Int), .slice A ss.length c, .slice A' bs.length c'] ∧ Below w.heap.size w wr) (fun i _ => (intOf i + 1).toNat)
  case atStart => exact ⟨0, by omega, by go_num, N1, X1, B1⟩
  case round =>
    clear N1 X1 B1
    obtain ⟨m, hm, rfl, hblk, hX, hbel⟩ := hrel
    obtain ⟨p0, p1, p2⟩ := hX.three
    have hz := hblk.lt
    by_cases hlt : m < n
    · obtain ⟨a, ha⟩ : ∃ a, a + (m + 1) = n := ⟨n - (m + 1), by omega⟩
      rw [show (n : Int) - 1 - m = (a : Int) by omega]
      have hna : ((n : Int) - (m + 1 : Nat)) = (a : Int) := by omega
      have hst := stand_in (n := n) (a := a) (bs := bs) (by omega)
      have k0 := hblk.int_at (k := a) (by rw [tell_length]; omega)
      have f0 := hblk.frozen a
      have hblk0 := hblk.int_set a (-1)
      rw [tell_set (g := leT true n ss bs m 0) (by omega) (by rw [leT_at ha, lP_zero]) (fun p _ hp => leT_else0 ha hp)] at hblk0
      have hX0 := hX.far (p := ⟨w.heap.size + 1, a, none⟩) (by simp) (.int .i64 (-1))
      have hbel0 := hbel.setCell (p := ⟨w.heap.size + 1, a, none⟩) (by simp) (.int .i64 (-1))
      have hz0 : w.heap.size + 1 < (wr.setCell ⟨w.heap.size + 1, a, none⟩ (.int .i64 (-1))).heap.size := hblk0.lt
      have hc3 : (a : Int) < (n : Int) + 1 := by omega
      have hc5 : a < n + 1 := by omega
      have HA := Lib.hid ha
      generalize (tell (n + 1) (leS true n ss bs m)).getD a 0 = z0 at *
      obtain ⟨q0, q1, q2⟩ := hX0.three
      cases hd : hasB bs (a : Int)
      · rw [hd] at hst
        have HS := Lib.hid hst
        have HK : Hid (∀ p, leT true n ss bs m ss.length p = leS true n ss bs (m + 1) p) := Lib.hid (fun p => leT_end (by rw [hna]; exact hd))
        clear hd hna hst hblk hX ha
        go_wp2_with fail
        refine (clStands_any _ _ _ _ _ _ _ _ B _ (h.below hbel0 hB) (by omega)).mono ?_
        rintro e w2 ⟨rfl, hb2⟩
        rw [HS.out]
        have hblk2 := hblk0.below hb2 hz0
        have hX2 := hX0.below hb2 (by omega)
        have hbel2 : Below w.heap.size w w2 := hbel0.trans (hb2.mono (by omega))
        clear hblk0 hX0 hbel0 hbel hb2 p0 p1 p2 q0 q1 q2 k0 f0 hz0
        obtain ⟨p0, p1, p2⟩ := hX2.three
        go_wp2_with fail
        go_loopw [31] (fun i wr => ∃ k : Nat, k ≤ ss.length ∧ i = .int .i64 (k : Int) ∧ Blk wr (w.heap.size + 1) 3 (ints (tell (n + 1) (leT true n ss bs m k))) ∧ Blk wr w.heap.size 24 #[.int .i64 (n : Int), .slice A ss.length c, .slice A' bs.length c'] ∧ Below w.heap.size w wr) (fun i _ => ss.length - (intOf i).toNat)
        case atStart => exact ⟨0, Nat.zero_le _, rfl, hblk2, hX2, hbel2⟩
        case round =>
          clear hblk2 hX2 hbel2 p0 p1 p2
          obtain ⟨k, hk, rfl, hblk, hX, hbel⟩ := hrel
          obtain ⟨p0, p1, p2⟩ := hX.three
          by_cases hkl : k < ss.length
          · obtain ⟨bb, o, rfl, hb, hcell⟩ := (h.rs.below hbel hB).at_ hkl
            obtain ⟨s, hs⟩ : ∃ s : Nat, ss.getD k 0 = (s : Int) := ⟨(ss.getD k 0).toNat, by have := GH.out.hs _ (getD_mem hkl); omega⟩
            have hsb : 1 ≤ s ∧ s ≤ 9 := by have := GH.out.hs _ (getD_mem hkl); rw [hs] at this; omega
            have hs1 := hsb.1
            have hs2 := hsb.2
            have hsucc : lP true n ss bs m (k + 1) = fewer true (lP true n ss bs m k) (lT true n ss bs m (s : Int)) := by rw [lP_succ hkl (by rw [hs]; omega), hs]
            have HA1 := HA.out
            clear hsb
            rw [hs] at hcell
            clear hs
            by_cases htop : a + s ≤ n
            · have k1 := hblk.int_at (k := a) (by rw [tell_length]; omega)
              have k2 := hblk.int_at (k := a + s) (by rw [tell_length]; omega)
              rw [tell_getD _ _ _ (by omega)] at k1 k2
              rw [leT_at HA.out] at k1
              rw [leT_up HA.out hs1 htop] at k2
              have f1 := hblk.frozen a
              have b1 := lP_bd (most := true) (n := n) (bs := bs) HS1.out m k hk
              have b2 : -1 ≤ lT true n ss bs m (s : Int) ∧ lT true n ss bs m (s : Int) ≤ (m : Int) := by
                unfold lT
                split
                · have := lv_bd (most := true) (n := n) (bs := bs) HS1.out (m + 1 - (s : Int).toNat)
                  rw [Int.toNat_natCast] at this
                  rw [Int.toNat_natCast]
                  omega
                · omega
              have ht : (a : Int) + (s : Int) ≤ (n : Int) := by omega
              have hc4 : (a : Int) + (s : Int) < (n : Int) + 1 := by omega
              have hc6 : a + s < n + 1 := by omega
              have hc7 : (0 : Int) ≤ (a : Int) + (s : Int) := by omega
              have hc9 : ((a : Int) + (s : Int)).toNat = a + s := by omega
              have b3 := b2.1
              have b4 := b2.2
              have b5 := b1.1
              have b6 := b1.2
              clear b1 b2 HA1
              generalize hv : lP true n ss bs m k = v at *
              generalize hvt : lT true n ss bs m (s : Int) = t at *
              have HVE := Lib.hid hv
              clear hv hvt
              have HSU := Lib.hid hsucc
              clear hsucc
              by_cases ht0 : t < 0
              · have HT := Lib.hid (tell_ext (n := n + 1) (f := leT true n ss bs m k) (g := leT true n ss bs m (k + 1)) (fun p _ => leT_same (p := p) HA.out (by rw [HSU.out, HVE.out]; exact fewer_no ht0)))
                rw [HT.out] at hblk
                clear htop
                go_wp2
                go_roundw
                case rel => exact ⟨k + 1, by omega, by go_num, hblk, hX, hbel⟩
                case measure => simp [intOf] <;> omega
              · by_cases hv0 : v < 0
                · have SE : Hid ((tell (n + 1) (leT true n ss bs m k)).set a (t + 1) = tell (n + 1) (leT true n ss bs m (k + 1))) := Lib.hid (tell_set (by omega) (by rw [leT_at HA.out, HSU.out]; exact fewer_neg ht0 hv0) (fun p _ hp => leT_else HA.out hp))
                  clear htop
                  go_wp2
                  go_roundw
                  case rel => exact ⟨k + 1, by omega, by go_num, by rw [← SE.out]; exact (hblk.int_set a (t + 1)), hX.far (by simp) _, hbel.setCell (by simp) _⟩
                  case measure => simp [intOf] <;> omega
                · by_cases hcm : v < t + 1
                  · have SE : Hid ((tell (n + 1) (leT true n ss bs m k)).set a (t + 1) = tell (n + 1) (leT true n ss bs m (k + 1))) := Lib.hid (tell_set (by omega) (by rw [leT_at HA.out, HSU.out]; exact fewer_gt ht0 hcm) (fun p _ hp => leT_else HA.out hp))
                    clear htop
                    go_wp2
                    go_roundw
                    case rel => exact ⟨k + 1, by omega, by go_num, by rw [← SE.out]; exact (hblk.int_set a (t + 1)), hX.far (by simp) _, hbel.setCell (by simp) _⟩
                    case measure => simp [intOf] <;> omega
                  · have HT := Lib.hid (tell_ext (n := n + 1) (f := leT true n ss bs m k) (g := leT true n ss bs m (k + 1)) (fun p _ => leT_same (p := p) HA.out (by rw [HSU.out, HVE.out]; exact fewer_le hv0 hcm)))
                    rw [HT.out] at hblk
                    clear htop
                    go_wp2
                    go_roundw
                    case rel => exact ⟨k + 1, by omega, by go_num, hblk, hX, hbel⟩
                    case measure => simp [intOf] <;> omega
            · have ht : (n : Int) < (a : Int) + (s : Int) := by omega
              have HT := Lib.hid (tell_ext (n := n + 1) (f := leT true n ss bs m k) (g := leT true n ss bs m (k + 1)) (fun p _ => leT_same (p := p) HA.out (by rw [hsucc]; rw [show lT true n ss bs m (s : Int) = -1 by unfold lT; rw [Int.toNat_natCast, if_neg (by omega)]]; exact fewer_no (by omega))))
              rw [HT.out] at hblk
              clear htop hsucc HA1
              go_wp2
              go_roundw
              case rel => exact ⟨k + 1, by omega, by go_num, hblk, hX, hbel⟩
              case measure => simp [intOf] <;> omega
          · obtain rfl : k = ss.length := by omega
            have HT := Lib.hid (tell_ext (n := n + 1) (fun p _ => HK.out p))
            rw [HT.out] at hblk
            go_wp2
            go_roundw
            case rel => have ha := HA.out; exact ⟨m + 1, by omega, by go_num, hblk, hX, hbel⟩
            case measure => simp [intOf] <;> omega
      · rw [hd] at hst
        have HS := Lib.hid hst
        have HK : Hid (tell (n + 1) (leT true n ss bs m 0) = tell (n + 1) (leS true n ss bs (m + 1))) := Lib.hid (tell_ext (fun p _ => leT_dead (by rw [hna]; exact hd)))
        rw [HK.out] at hblk0
        clear hd hna hst hblk hX ha
        go_wp2_with fail
        refine (clStands_any _ _ _ _ _ _ _ _ B _ (h.below hbel0 hB) (by omega)).mono ?_
        rintro e w2 ⟨rfl, hb2⟩
        rw [HS.out]
        have hblk2 := hblk0.below hb2 hz0
        have hX2 := hX0.below hb2 (by omega)
        have hbel2 : Below w.heap.size w w2 := hbel0.trans (hb2.mono (by omega))
        clear hblk0 hX0 hbel0 hbel hb2 p0 p1 p2 q0 q1 q2 k0 f0 hz0
        go_wp2
        go_roundw
        case rel => have ha := HA.out; exact ⟨m + 1, by omega, by go_num, hblk2, hX2, hbel2⟩
        case measure => simp [intOf] <;> omega
    · obtain rfl : m = n := by omega
      go_wp2
      go_ret
      exact ⟨_, rfl, by omega, hblk, hbel⟩

end Go.Proofs.Ytehffiaobjlpoaa
