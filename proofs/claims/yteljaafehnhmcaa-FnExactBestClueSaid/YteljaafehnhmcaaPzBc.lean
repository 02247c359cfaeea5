/- Contracts: the clue that the fewest stairs fit, on both sides. -/
import Derived.Test.YteljaafehnhmcaaPzLb
namespace Go.Proofs.Yteljaafehnhmcaa
open Go.RowKit
set_option maxRecDepth 100000

theorem RdF.one {w : World} {B g o c k : Nat} {ps : List Tri} (h : RdF w B (some ⟨g, o, none⟩) c ps) (hk : k < ps.length) {c' : Nat} (hc : 1 ≤ c') : RdF w B (some ⟨g, o + k * 3, none⟩) c' [ps.getD k z3] := by
  rw [show z3 = ((0, 0, 0) : Tri) from rfl]
  refine ⟨by simpa using hc, fun j hj => ?_⟩
  have : j = 0 := by simp at hj; omega
  subst this
  obtain ⟨b, o', e, hb, r0, r1, r2⟩ := h.2 k hk
  injection e with e
  injection e with e1 e2
  subst e1 e2
  exact ⟨_, _, rfl, hb, by simpa using r0, by simpa using r1, by simpa using r2⟩
theorem puzB_one {ps : List Tri} (h : puzB ps = true) {k : Nat} (hk : k < ps.length) : puzB [ps.getD k z3] = true := by
  simp only [puzB, Bool.and_eq_true, List.all_eq_true, decide_eq_true_eq] at h ⊢
  exact ⟨by simp, fun p hp => by rw [show p = ps.getD k z3 by simpa using hp]; exact h.2 _ (by simp [List.getD_eq_getElem?_getD, hk])⟩
def oneN (ps : List Tri) (k : Nat) : Int := ((solL [ps.getD k z3]).length : Int)
/-- the best clue of the first k, and how many fit it -/
def bcS (ps : List Tri) : Nat → Int × Int
  | 0 => (0, 0)
  | k + 1 => if k = 0 ∨ oneN ps k < (bcS ps k).2 then ((k : Int), oneN ps k) else bcS ps k
theorem bc_new {ps : List Tri} {k : Nat} (h : k = 0 ∨ oneN ps k < (bcS ps k).2) : bcS ps (k + 1) = ((k : Int), oneN ps k) := by rw [bcS, if_pos h]
theorem bc_old {ps : List Tri} {k : Nat} (h : ¬ (k = 0 ∨ oneN ps k < (bcS ps k).2)) : bcS ps (k + 1) = bcS ps k := by rw [bcS, if_neg h]
theorem oneN_bd (ps : List Tri) (k : Nat) : 0 ≤ oneN ps k ∧ oneN ps k ≤ 196 := by
  have := solL_le [ps.getD k z3]
  unfold oneN; omega
def bcB (ps : List Tri) : Bool := puzB ps && !ps.isEmpty
def bcR (ps : List Tri) : Int := if bcB ps then (bcS ps ps.length).1 else 0
theorem bcB_no {ps : List Tri} (h : puzB ps = false) : bcB ps = false ∧ bcR ps = 0 := by simp [bcR, bcB, h]
theorem bcB_nil {ps : List Tri} (h : ps = []) : bcB ps = false ∧ bcR ps = 0 := by simp [bcR, bcB, h]
theorem bcB_yes {ps : List Tri} (h : puzB ps = true) (h2 : 0 < ps.length) : bcB ps = true ∧ bcR ps = (bcS ps ps.length).1 := by
  have : bcB ps = true := by
    simp [bcB, h]
    intro e; rw [e] at h2; simp at h2
  simp [bcR, this]

set_option maxHeartbeats 1000000 in
theorem specBest_any (A : Option Addr) (c : Nat) (ps : List Tri) (B : Nat) (w : World) (hr : RdF w B A c ps) (hB : B ≤ w.heap.size) (hn : ps.length ≤ 1048576) :
    Calls Try.prog 7 #[pzv A ps.length c] w (Plain (.tuple #[.int .i64 (bcR ps), .bool (bcB ps)]) w) := by
  have X0 : Blk (w.alloc (.cells #[.slice A ps.length c] 30)) w.heap.size 30 #[.slice A ps.length c] := Blk.new _ _ _
  have b0 : Below w.heap.size w (w.alloc (.cells #[.slice A ps.length c] 30)) := below_alloc _ _
  have hr0 := hr.below b0 hB
  have p0 := X0.cell 0
  have z0 : B ≤ (w.alloc (.cells #[.slice A ps.length c] 30)).heap.size := by simp; omega
  have hN := Lib.hid hn
  cases hp : puzB ps
  · have HP := Lib.hid hp
    rw [(bcB_no hp).1, (bcB_no hp).2]
    clear hp hr
    go_enter Try.func7, Try.ntmps7
    go_wp2_with fail
    refine (pzGood_any A c ps B _ hr0 z0 hn).mono ?_
    rintro e w1 ⟨rfl, hb1⟩
    rw [HP.out]
    go_wp2_with fail
    go_ret2
    exact ⟨rfl, b0.trans (hb1.mono b0.size)⟩
  by_cases hl : ps.length = 0
  · have HP := Lib.hid hp
    have hnil : ps = [] := List.eq_nil_of_length_eq_zero hl
    rw [(bcB_nil hnil).1, (bcB_nil hnil).2]
    subst hnil
    clear hp hr hl
    go_enter Try.func7, Try.ntmps7
    go_wp2_with fail
    refine (pzGood_any A c [] B _ hr0 z0 hn).mono ?_
    rintro e w1 ⟨rfl, hb1⟩
    rw [HP.out]
    have p1 := (X0.below hb1 X0.lt).cell 0
    clear p0
    go_wp2_with fail
    go_ret2
    exact ⟨rfl, b0.trans (hb1.mono b0.size)⟩
  · have hl1 : 0 < ps.length := by omega
    have HP := Lib.hid hp
    have hcc := hr.1
    have hl6 := puzB_len hp
    obtain ⟨g, o, hA, _⟩ := hr.2 0 hl1
    subst hA
    have H1 := Lib.hid (fun k (hk : k < ps.length) => puz_kinds (puzB_one hp hk))
    rw [(bcB_yes hp hl1).1, (bcB_yes hp hl1).2]
    have hzb : ((ps.length : Int) == 0) = false := by rw [beq_eq_false_iff_ne]; omega
    clear hp hr
    go_enter Try.func7, Try.ntmps7
    go_wp2_with fail
    generalize hu : w.alloc (.cells #[.slice (some ⟨g, o, none⟩) ps.length c] 30) = u at *
    have hU := Lib.hid hu
    clear hu
    refine (pzGood_any _ c ps B _ hr0 z0 hn).mono ?_
    rintro e w1 ⟨rfl, hb1⟩
    rw [HP.out]
    have bw1 := b0.trans (hb1.mono b0.size)
    have hr1 := (hr0.below hb1 z0).more (Nat.le_trans z0 hb1.size)
    have X1 := X0.below hb1 X0.lt
    have p1 := X1.cell 0
    have zw1 : w.heap.size < w1.heap.size := X1.lt
    clear p0 hr0 X0 hb1 b0 z0
    go_wp2_with fail
    clear p1
    go_loopw [4, 5, 20] (fun b l i wr => ∃ k : Nat, k ≤ ps.length ∧ i = .int .i64 k ∧ b = .int .i64 (bcS ps k).1 ∧ l = .int .i64 (bcS ps k).2 ∧ Below w1.heap.size w1 wr) (fun _ _ i _ => ps.length - (intOf i).toNat)
    case atStart => exact ⟨0, by omega, rfl, rfl, rfl, Below.refl _ _⟩
    case round =>
      obtain ⟨k, hk, rfl, rfl, rfl, hbw⟩ := hrel
      have hzw := hbw.size
      have p1 := (X1.below hbw zw1).cell 0
      by_cases hlt : k < ps.length
      · have HC := Lib.hid (show Calls Try.prog 23 #[.slice (some ⟨g, o + k * 3, none⟩) 1 (c - k)] wr _ from pzAll_any _ (c - k) [ps.getD k z3] w1.heap.size wr ((hr1.below hbw (Nat.le_refl _)).one hlt (by omega)) hzw (by simp) (H1.out k hlt))
        have hkc : k + 1 ≤ c := by omega
        have hki : (k : Int) + 1 ≤ (c : Int) := by omega
        have hckk : ¬ c = k := by omega
        have hone := oneN_bd ps k
        have hN1 := Lib.hid (@bc_new ps k)
        have hO1 := Lib.hid (@bc_old ps k)
        have hdef := Lib.hid (show oneN ps k = ((solL [ps.getD k z3]).length : Int) from rfl)
        have hdef := Lib.hid hdef.out.symm
        by_cases hc0 : k = 0
        · have EE := Lib.hid (hN1.out (.inl hc0))
          subst hc0
          generalize oneN ps 0 = m at *
          generalize (bcS ps 0).1 = b1 at *
          generalize (bcS ps 0).2 = b2 at *
          go_wp2_with fail
          refine HC.out.mono ?_
          rintro e w2 ⟨v2, L2, rfl, hL2, hst2, hb2⟩
          have hl2 : ((elsL L2).length : Int) = m := by rw [elsL_len, ← hdef.out, ← recL_len, hL2]; rfl
          obtain ⟨A2, c2, hv2⟩ := hst2.row.form
          subst hv2
          generalize (elsL L2).length = ll at *
          subst hl2
          clear hL2 hst2
          have hbw2 := hbw.trans (hb2.mono hzw)
          go_wp2_with fail
          go_roundw
          case rel => exact ⟨0 + 1, by omega, by go_num, by rw [EE.out]; rfl, by rw [EE.out], hbw2⟩
          case measure => simp [intOf]; omega
        · have hk0 : ¬ (k : Int) = 0 := by omega
          by_cases hc1 : oneN ps k < (bcS ps k).2
          · have EE := Lib.hid (hN1.out (.inr hc1))
            generalize oneN ps k = m at *
            generalize (bcS ps k).1 = b1 at *
            generalize (bcS ps k).2 = b2 at *
            go_wp2_with fail
            refine HC.out.mono ?_
            rintro e w2 ⟨v2, L2, rfl, hL2, hst2, hb2⟩
            have hl2 : ((elsL L2).length : Int) = m := by rw [elsL_len, ← hdef.out, ← recL_len, hL2]; rfl
            obtain ⟨A2, c2, hv2⟩ := hst2.row.form
            subst hv2
            generalize (elsL L2).length = ll at *
            subst hl2
            clear hL2 hst2
            have hbw2 := hbw.trans (hb2.mono hzw)
            go_wp2_with fail
            go_roundw
            case rel => exact ⟨k + 1, by omega, by go_num, by rw [EE.out], by rw [EE.out], hbw2⟩
            case measure => simp [intOf]; omega
          · have EE := Lib.hid (hO1.out (fun h => h.elim hc0 hc1))
            have E1 := Lib.hid (congrArg Prod.fst EE.out)
            have E2 := Lib.hid (congrArg Prod.snd EE.out)
            clear EE
            generalize oneN ps k = m at *
            generalize (bcS ps k).1 = b1 at *
            generalize (bcS ps k).2 = b2 at *
            go_wp2_with fail
            refine HC.out.mono ?_
            rintro e w2 ⟨v2, L2, rfl, hL2, hst2, hb2⟩
            have hl2 : ((elsL L2).length : Int) = m := by rw [elsL_len, ← hdef.out, ← recL_len, hL2]; rfl
            obtain ⟨A2, c2, hv2⟩ := hst2.row.form
            subst hv2
            generalize (elsL L2).length = ll at *
            subst hl2
            have hd : decide ((ll : Int) < b2) = false := decide_eq_false (by omega)
            have hge : ¬ (ll : Int) < b2 := by omega
            clear hL2 hst2
            have hbw2 := hbw.trans (hb2.mono hzw)
            go_wp2_with fail
            go_roundw
            case rel => exact ⟨k + 1, by omega, by go_num, by rw [E1.out], by rw [E2.out], hbw2⟩
            case measure => simp [intOf]; omega
      · obtain rfl : k = ps.length := by omega
        go_wp2_with fail
        go_ret2
        exact ⟨rfl, bw1.trans (hbw.mono (by omega))⟩

def fwS (ps : List Tri) : Nat → Int
  | 0 => 196
  | k + 1 => (bcS ps (k + 1)).2
theorem fw_new {ps : List Tri} {k : Nat} (h : oneN ps k < fwS ps k) : bcS ps (k + 1) = ((k : Int), oneN ps k) := by
  cases k with
  | zero => exact bc_new (.inl rfl)
  | succ k => exact bc_new (.inr h)
theorem fw_old {ps : List Tri} {k : Nat} (h : ¬ oneN ps k < fwS ps k) : (bcS ps (k + 1)).1 = (bcS ps k).1 ∧ fwS ps (k + 1) = fwS ps k := by
  cases k with
  | zero =>
    have h1 := oneN_bd ps 0
    have h2 : ¬ oneN ps 0 < 196 := h
    have h3 : bcS ps (0 + 1) = (((0 : Nat) : Int), oneN ps 0) := bc_new (.inl rfl)
    rw [show fwS ps (0 + 1) = (bcS ps (0 + 1)).2 from rfl, h3]
    exact ⟨rfl, show oneN ps 0 = 196 by omega⟩
  | succ k =>
    have h3 : bcS ps (k + 1 + 1) = bcS ps (k + 1) := bc_old (fun e => e.elim (by omega) h)
    rw [show fwS ps (k + 1 + 1) = (bcS ps (k + 1 + 1)).2 from rfl, h3]
    exact ⟨rfl, rfl⟩

theorem blk_rd1 {w : World} {g : Nat} {x y z : Int} (h : Blk w g 54 #[.int .i64 x, .int .i64 y, .int .i64 z]) : RdF w w.heap.size (some ⟨g, 0, none⟩) 1 [(x, y, z)] := by
  obtain ⟨h0, h1, h2⟩ := h.three
  refine ⟨by simp, fun j hj => ?_⟩
  have : j = 0 := by simp at hj; omega
  subst this
  exact ⟨g, 0, rfl, h.lt, by simpa using h0, by simpa using h1, by simpa using h2⟩

set_option maxHeartbeats 2000000 in
theorem implBest_any (A : Option Addr) (c : Nat) (ps : List Tri) (B : Nat) (w : World) (hr : RdF w B A c ps) (hB : B ≤ w.heap.size) (hn : ps.length ≤ 1048576) :
    Calls Try.prog 9 #[pzv A ps.length c] w (Plain (.tuple #[.int .i64 (bcR ps), .bool (bcB ps)]) w) := by
  have X0 : Blk (w.alloc (.cells #[.slice A ps.length c] 30)) w.heap.size 30 #[.slice A ps.length c] := Blk.new _ _ _
  have b0 : Below w.heap.size w (w.alloc (.cells #[.slice A ps.length c] 30)) := below_alloc _ _
  have hr0 := hr.below b0 hB
  have p0 := X0.cell 0
  have z0 : B ≤ (w.alloc (.cells #[.slice A ps.length c] 30)).heap.size := by simp; omega
  have hN := Lib.hid hn
  cases hp : puzB ps
  · have HP := Lib.hid hp
    rw [(bcB_no hp).1, (bcB_no hp).2]
    clear hp hr
    go_enter Try.func9, Try.ntmps9
    go_wp2_with fail
    refine (implIsPuzzle_any A c ps B _ hr0 z0 hn).mono ?_
    rintro e w1 ⟨rfl, hb1⟩
    rw [HP.out]
    go_wp2_with fail
    go_ret2
    exact ⟨rfl, b0.trans (hb1.mono b0.size)⟩
  by_cases hl : ps.length = 0
  · have HP := Lib.hid hp
    have hnil : ps = [] := List.eq_nil_of_length_eq_zero hl
    rw [(bcB_nil hnil).1, (bcB_nil hnil).2]
    subst hnil
    clear hp hr hl
    go_enter Try.func9, Try.ntmps9
    go_wp2_with fail
    refine (implIsPuzzle_any A c [] B _ hr0 z0 hn).mono ?_
    rintro e w1 ⟨rfl, hb1⟩
    rw [HP.out]
    have p1 := (X0.below hb1 X0.lt).cell 0
    clear p0
    go_wp2_with fail
    go_ret2
    exact ⟨rfl, b0.trans (hb1.mono b0.size)⟩
  · have hl1 : 0 < ps.length := by omega
    have HP := Lib.hid hp
    have hcc := hr.1
    have hl6 := puzB_len hp
    obtain ⟨g, o, hA, _⟩ := hr.2 0 hl1
    subst hA
    have H1 := Lib.hid (fun k (hk : k < ps.length) => puzB_one hp hk)
    rw [(bcB_yes hp hl1).1, (bcB_yes hp hl1).2]
    have hzb : ((ps.length : Int) == 0) = false := by rw [beq_eq_false_iff_ne]; omega
    clear hp hr
    go_enter Try.func9, Try.ntmps9
    go_wp2_with fail
    generalize hu : w.alloc (.cells #[.slice (some ⟨g, o, none⟩) ps.length c] 30) = u at *
    have hU := Lib.hid hu
    clear hu
    refine (implIsPuzzle_any _ c ps B _ hr0 z0 hn).mono ?_
    rintro e w1 ⟨rfl, hb1⟩
    rw [HP.out]
    have p1 := (X0.below hb1 X0.lt).cell 0
    clear p0
    go_wp2_with fail
    refine (hidden_any w1).mono ?_
    rintro e w2 ⟨v2, L2, rfl, hL2, hst2, hb2⟩
    have hl2 : (elsL L2).length = 196 := by rw [elsL_len, ← recL_len, hL2, hidL_len]
    obtain ⟨A2, c2, hv2⟩ := hst2.row.form
    subst hv2
    rw [hl2]
    have bw2 := (b0.trans (hb1.mono b0.size)).trans (hb2.mono (Nat.le_trans b0.size hb1.size))
    have hr2 := ((hr0.below hb1 z0).below hb2 (Nat.le_trans z0 hb1.size)).more (show B ≤ w2.heap.size by have := hb1.size; have := hb2.size; omega)
    have X2 := (X0.below hb1 X0.lt).below hb2 (Nat.lt_of_lt_of_le X0.lt hb1.size)
    have p2 := X2.cell 0
    have zw2 : w.heap.size < w2.heap.size := X2.lt
    clear p1 hr0 X0 hb1 b0 z0 hL2 hst2 hl2 hb2
    go_wp2_with fail
    clear p2
    go_loopw [4, 5, 24] (fun b l i wr => ∃ k : Nat, k ≤ ps.length ∧ i = .int .i64 k ∧ b = .int .i64 (bcS ps k).1 ∧ l = .int .i64 (fwS ps k) ∧ Below w2.heap.size w2 wr) (fun _ _ i _ => ps.length - (intOf i).toNat)
    case atStart => exact ⟨0, by omega, rfl, rfl, rfl, Below.refl _ _⟩
    case round =>
      obtain ⟨k, hk, rfl, rfl, rfl, hbw⟩ := hrel
      have hzw := hbw.size
      by_cases hlt : k < ps.length
      · obtain ⟨w3, rfl⟩ : ∃ w3, w3 = wr := ⟨_, rfl⟩
        obtain ⟨g', o', hA, hg', a0, a1, a2⟩ := (hr2.below hbw (Nat.le_refl _)).2 k hlt
        injection hA with hA
        injection hA with hA1 hA2
        subst hA1 hA2
        have HPk := H1.out k hlt
        have hone := oneN_bd ps k
        have hN1 := Lib.hid (@fw_new ps k)
        have hO1 := Lib.hid (@fw_old ps k)
        have hF1 := Lib.hid (show fwS ps (k + 1) = (bcS ps (k + 1)).2 from rfl)
        have hdef := Lib.hid (show ((solL [ps.getD k z3]).length : Int) = oneN ps k from rfl)
        obtain ⟨⟨x, y, z⟩, hxyz⟩ : ∃ q : Tri, ps.getD k z3 = q := ⟨_, rfl⟩
        have hq : ps.getD k (0, 0, 0) = (x, y, z) := hxyz
        rw [hq] at a0 a1 a2
        rw [hxyz] at hdef HPk
        dsimp only at a0 a1 a2
        have HPK := Lib.hid HPk
        clear hq hxyz HPk
        have X3 : Blk (w3.alloc (.cells #[.int .i64 x, .int .i64 y, .int .i64 z] 54)) w3.heap.size 54 #[.int .i64 x, .int .i64 y, .int .i64 z] := Blk.new _ _ _
        have b3 : Below w3.heap.size w3 (w3.alloc (.cells #[.int .i64 x, .int .i64 y, .int .i64 z] 54)) := below_alloc _ _
        generalize oneN ps k = m at *
        generalize (bcS ps k).1 = b1 at *
        generalize fwS ps k = b2 at *
        go_wp2_with fail
        generalize hU3 : w3.alloc (.cells #[.int .i64 x, .int .i64 y, .int .i64 z] 54) = u3 at *
        have HU3 := Lib.hid hU3
        clear hU3
        obtain ⟨s0, s1, s2⟩ := X3.three
        go_region_with (first | (go_at_call 26; (refine (hidden_any u3.drew).mono ?_); rintro e w4 ⟨v4, L4, rfl, hL4, hst4, k4⟩; obtain ⟨A4, c4, hv4, hrd4, hall4⟩ := hst4.read (hid_all hL4); subst hv4; have hlen4 : L4.length = 196 := (by rw [← recL_len, hL4, hidL_len]); have hb4 : Below u3.heap.size u3 w4 := below_undrew k4; have T4 := X3.below hb4 X3.lt; obtain ⟨t0, t1, t2⟩ := T4.three; have N4 : Blk (w4.alloc (.cells #[.int .i64 x, .int .i64 y, .int .i64 z] 54)) w4.heap.size 54 #[.int .i64 x, .int .i64 y, .int .i64 z] := Blk.new _ _ _; have ba4 : Below w4.heap.size w4 (w4.alloc (.cells #[.int .i64 x, .int .i64 y, .int .i64 z] 54)) := below_alloc _ _; have HL := Lib.hid (show Calls Try.prog 27 #[.slice (some ⟨w4.heap.size, 0, none⟩) 1 1, .slice A4 196 c4] (w4.alloc (.cells #[.int .i64 x, .int .i64 y, .int .i64 z] 54)) _ from hlen4 ▸ leftBy_any _ 1 [(x, y, z)] A4 c4 L4 (w4.alloc (.cells #[.int .i64 x, .int .i64 y, .int .i64 z] 54)).heap.size _ (blk_rd1 N4) ((hrd4.below ba4 (Nat.le_refl _)).more ba4.size) (fun q hq => ((hall4 q hq).below ba4 (Nat.le_refl _)).more ba4.size) (Nat.le_refl _) (hid_len hL4) (by simp)); have HS := Lib.hid (fun e w5 (h : LeftPost (w4.alloc (.cells #[.int .i64 x, .int .i64 y, .int .i64 z] 54)) (.slice A4 196 c4) [(x, y, z)] L4 e w5) => left_sol (w := u3) (hb4.alloc hb4.size _) (hst4.below ba4 (Nat.le_refl _)) hL4 (hlen4 ▸ h))) | (go_at_call 26; (refine (hidden_any (u3.drew.alloc (.cells #[.int .i64 x, .int .i64 y, .int .i64 z] 54))).mono ?_); rintro e w4 ⟨v4, L4, rfl, hL4, hst4, k4⟩; obtain ⟨A4, c4, hv4, hrd4, hall4⟩ := hst4.read (hid_all hL4); subst hv4; have hlen4 : L4.length = 196 := (by rw [← recL_len, hL4, hidL_len]); have ba3 : Below u3.heap.size u3 (u3.alloc (.cells #[.int .i64 x, .int .i64 y, .int .i64 z] 54)) := below_alloc _ _; have k5 : Below (u3.alloc (.cells #[.int .i64 x, .int .i64 y, .int .i64 z] 54)).heap.size (u3.alloc (.cells #[.int .i64 x, .int .i64 y, .int .i64 z] 54)) w4 := ⟨k4.os, k4.tape, k4.output, k4.size, k4.block⟩; have hb4 : Below u3.heap.size u3 w4 := ba3.trans (k5.mono ba3.size); have N4 : Blk w4 u3.heap.size 54 #[.int .i64 x, .int .i64 y, .int .i64 z] := (Blk.new u3 54 _).below k5 (by simp); have HL := Lib.hid (show Calls Try.prog 27 #[.slice (some ⟨u3.heap.size, 0, none⟩) 1 1, .slice A4 196 c4] w4 _ from hlen4 ▸ leftBy_any _ 1 [(x, y, z)] A4 c4 L4 w4.heap.size _ (blk_rd1 N4) hrd4 hall4 (Nat.le_refl _) (hid_len hL4) (by simp)); have HS := Lib.hid (fun e w5 (h : LeftPost w4 (.slice A4 196 c4) [(x, y, z)] L4 e w5) => left_sol (w := u3) hb4 (hst4.mono (show u3.heap.size ≤ (u3.drew.alloc (.cells #[.int .i64 x, .int .i64 y, .int .i64 z] 54)).heap.size from ba3.size)) hL4 (hlen4 ▸ h))) | (go_at_call 27; (refine HL.out.mono ?_); rintro e w5 h5; obtain ⟨hb5, v5, L5, rfl, hL5, hst5⟩ := HS.out _ _ h5; obtain ⟨A5, c5, hv5⟩ := hst5.row.form; subst hv5))
        all_goals
          have hl5 : ((elsL L5).length : Int) = m := by rw [elsL_len, ← hdef.out, ← recL_len, hL5]; simp [solR, HPK.out]
          have hbw5 := hbw.trans ((b3.trans (hb5.mono b3.size)).mono hzw)
          generalize (elsL L5).length = ll at *
          subst hl5
          clear hL5 hst5 HL HS hst4 hall4 hrd4 hL4 s0 s1 s2 X3 b3
          by_cases hc : (ll : Int) < b2
          · have EE := Lib.hid (hN1.out hc)
            go_wp2_with fail
            go_roundw
            case rel => exact ⟨k + 1, by omega, by go_num, by rw [EE.out], by rw [hF1.out, EE.out], hbw5⟩
            case measure => simp [intOf]; omega
          · have EE := Lib.hid (hO1.out (by omega))
            have hd : decide ((ll : Int) < b2) = false := decide_eq_false hc
            have hge : ¬ (ll : Int) < b2 := hc
            go_wp2_with fail
            go_roundw
            case rel => exact ⟨k + 1, by omega, by go_num, by rw [EE.out.1], by rw [EE.out.2], hbw5⟩
            case measure => simp [intOf]; omega
      · obtain rfl : k = ps.length := by omega
        go_wp2_with fail
        go_ret2
        exact ⟨rfl, bw2.trans (hbw.mono (by omega))⟩

end Go.Proofs.Yteljaafehnhmcaa
