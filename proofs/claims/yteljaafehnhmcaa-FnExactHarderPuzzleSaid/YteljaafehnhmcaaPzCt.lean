/- slices.Grow of nil, slices.Concat of two lists of clues; a puzzle without a clue, the program. -/
import Derived.Test.YteljaafehnhmcaaPzAp
import Derived.Lib.AppendZerosOnto
import Derived.Lib.SliceRun
set_option linter.unusedSimpArgs false
namespace Go.Proofs.Yteljaafehnhmcaa
open Go.RowKit
set_option maxRecDepth 100000

set_option maxHeartbeats 1000000 in
theorem grow_posF (n : Nat) (w : World) (h1 : 1 ≤ n) (h2 : n ≤ 100000) :
    Calls Try.prog 71 #[.slice none 0 0, .int .i64 (n : Int)] w fun e w' => ∃ pv, e = .returned pv ∧ OwnF w' w.heap.size pv [] ∧ Below w.heap.size w w' := by
  obtain ⟨i0, hi, hz, hs, hby⟩ := info_parts fl_info
  have hrun := fun ty => Lib.run_append_grow_zeros w 28 3 ty 54 i0 (.agg #[.int .i64 0, .int .i64 0, .int .i64 0]) .i64 .i64 Try.underlying28 Try.underlying3 hi hz none 0 0 [] (run_firstCells_none w.drew i0.size 0 0 0) n (by omega) (by omega) (by omega) (by omega) (by rw [hby]; omega) (growslice_fits (by omega) (by rw [hby]; omega))
  have hGn := grownCap_ge w (0 + n) 0 54
  have hGm := grownCap_le_maxLen w (0 + n) 0 54 (by unfold maxLen; omega)
  have hown := fun cs (h : cs.size = grownCap w (0 + n) 0 54 * 3) => World.ownsRow_made (base := w.heap.size) (e := 54) w.drew cs (grownCap w (0 + n) 0 54) (Nat.le_refl _) hGm h
  generalize grownCap w (0 + n) 0 54 = G at *
  simp only [Nat.zero_add] at hrun hGn
  have hsz : (#[] ++ Builtin.zeroCells (Value.agg #[.int .i64 0, .int .i64 0, .int .i64 0]).cells n ++ Builtin.zeroCells (Value.agg #[.int .i64 0, .int .i64 0, .int .i64 0]).cells (G - n)).size = G * 3 := by
    simp [Builtin.zeroCells, Value.cells]
    omega
  generalize (#[] ++ Builtin.zeroCells (Value.agg #[.int .i64 0, .int .i64 0, .int .i64 0]).cells n ++ Builtin.zeroCells (Value.agg #[.int .i64 0, .int .i64 0, .int .i64 0]).cells (G - n)) = CS at *
  have hO := Lib.hid (hown _ hsz)
  have hB := Lib.hid (below_undrew (a := w) (below_alloc w.drew (.cells CS 54)))
  have n1 : ¬ (n : Int) < 0 := by omega
  have n2 : (n : Int) > 0 := by omega
  have n3 : wrap64 (n : Int) = n := by unfold wrap64; omega
  have n4 : ((G : Nat) : Int) ≤ 9223372036854775807 := by unfold maxLen at hGm; omega
  clear hown hsz hi hz hs hby
  go_enter Try.func71, Try.ntmps71
  go_wp2_with (at_builtin; refine Lib.wpList_append_run _ rfl _ _ _ _ rfl _ _ rfl rfl _ _ (hrun _) ?_)
  all_goals go_ret
  all_goals exact ⟨_, rfl, hO.out, hB.out⟩

set_option maxHeartbeats 1000000 in
theorem grow_nilF (n : Nat) (w : World) (h2 : n ≤ 100000) :
    Calls Try.prog 71 #[.slice none 0 0, .int .i64 (n : Int)] w fun e w' => ∃ pv, e = .returned pv ∧ OwnF w' w.heap.size pv [] ∧ Below w.heap.size w w' := by
  rcases Nat.eq_zero_or_pos n with rfl | hp
  · rw [show ((0 : Nat) : Int) = 0 from rfl]
    go_enter Try.func71, Try.ntmps71
    go_wp2_with fail
    go_ret
    exact ⟨_, rfl, OwnF.nil _ _, Below.refl _ _⟩
  · exact grow_posF n w hp h2

/-- the length of the first k of two lists -/
def lenF (a b : Nat) : Nat → Nat
  | 0 => 0
  | 1 => a
  | _ => a + b
/-- the first k of two lists, joined -/
def catF (xs ys : List Tri) : Nat → List Tri
  | 0 => []
  | 1 => xs
  | _ => xs ++ ys


set_option maxHeartbeats 4000000 in
theorem concat2F (g B : Nat) (A1 A2 : Option Addr) (c1 c2 n1 n2 : Nat) (xs ys : List Tri) (w : World) (hl1 : n1 = xs.length) (hl2 : n2 = ys.length)
    (hg : Blk w g 28 #[.slice A1 n1 c1, .slice A2 n2 c2]) (h1 : RdF w B A1 c1 xs) (h2 : RdF w B A2 c2 ys) (hB : B ≤ w.heap.size) (hn : n1 + n2 ≤ 100000) :
    Calls Try.prog 59 #[.slice (some ⟨g, 0, none⟩) 2 2] w fun e w' => ∃ pv, e = .returned pv ∧ OwnF w' w.heap.size pv (xs ++ ys) ∧ Below w.heap.size w w' := by
  have HK := Lib.hid (fun (k : Nat) (h : k < 2) => show ∃ A n c zs, (∀ u, Below w.heap.size w u → u.cell? ⟨g, k, none⟩ = some (.slice A n c)) ∧ n = zs.length ∧ RdF w B A c zs ∧ lenF n1 n2 (k + 1) = lenF n1 n2 k + n ∧ catF xs ys (k + 1) = catF xs ys k ++ zs ∧ (catF xs ys k).length = lenF n1 n2 k ∧ lenF n1 n2 k + n ≤ 100000 by
    obtain rfl | rfl : k = 0 ∨ k = 1 := by omega
    · exact ⟨A1, n1, c1, xs, fun u hb => (hg.below hb hg.lt).cell 0, hl1, h1, by simp [lenF], by simp [catF], by simp [catF, lenF], by simp [lenF]; omega⟩
    · exact ⟨A2, n2, c2, ys, fun u hb => (hg.below hb hg.lt).cell 1, hl2, h2, by simp [lenF], by simp [catF], by simp [catF, lenF, hl1], by simp [lenF]; omega⟩)
  clear hl1 hl2 hg h1 h2
  go_enter Try.func59, Try.ntmps59
  go_wp2_with fail
  go_loop [3, 11] (fun m i => ∃ k : Nat, k ≤ 2 ∧ i = .int .i64 (k : Int) ∧ m = .int .i64 ((lenF n1 n2 k : Nat) : Int)) (fun _ i => 2 - (intOf i).toNat)
  case atStart => exact ⟨0, by omega, rfl, rfl⟩
  case round =>
    obtain ⟨k, hk, rfl, rfl⟩ := hrel
    by_cases hlt : k < 2
    · obtain ⟨A, n, c, zs, hcell, x1, x2, hst, x3, x4, hbd⟩ := HK.out k hlt
      clear x1 x2 x3 x4
      have hc := hcell w (Below.refl _ _)
      have HST := Lib.hid hst
      clear hst hcell
      generalize lenF n1 n2 k = m at *
      have z6 : wrap64 ((m : Int) + (n : Int)) = ((m + n : Nat) : Int) := by unfold wrap64; omega
      have z8 : ¬ ((m + n : Nat) : Int) < 0 := by omega
      have k1 : (k : Int) < 2 := by omega
      have k0 : (0 : Int) ≤ (k : Int) := by omega
      go_wp2_with fail
      go_round
      case rel => exact ⟨k + 1, by omega, by go_num, by rw [HST.out]; first | rfl | simp⟩
      case measure => simp [intOf]; omega
    · obtain rfl : k = 2 := by omega
      have e2 : lenF n1 n2 2 = n1 + n2 := rfl
      rw [e2]
      clear hlt hk
      go_wp2_with fail
      refine (grow_nilF (n1 + n2) w (by omega)).mono ?_
      rintro e w1 ⟨pv, rfl, hown, hb1⟩
      go_wp2_with fail
      go_loopw [6, 27] (fun m i wr => ∃ k : Nat, k ≤ 2 ∧ i = .int .i64 (k : Int) ∧ OwnF wr w.heap.size m (catF xs ys k) ∧ Below w.heap.size w wr) (fun _ i _ => 2 - (intOf i).toNat)
      case atStart => exact ⟨0, by omega, rfl, hown, hb1⟩
      case round =>
        obtain ⟨k, hk, rfl, ho, hb⟩ := hrel
        by_cases hlt : k < 2
        · obtain ⟨A, n, c, zs, hcell, hnz, hrz, hst, hct, hcl, hbd⟩ := HK.out k hlt
          have hc := hcell wr hb
          have HZ := Lib.hid hnz
          have HCT := Lib.hid hct
          have HL := Lib.hid (show (catF xs ys k).length + zs.length ≤ 4194304 by rw [hcl, ← hnz]; omega)
          have hrw := hrz.below hb hB
          clear hnz hct hcell hst hcl hrz
          have k1 : (k : Int) < 2 := by omega
          have k0 : (0 : Int) ≤ (k : Int) := by omega
          generalize catF xs ys k = L at *
          go_wp2_with (at_builtin; refine wpList_append_rdF _ rfl _ _ rfl w.heap.size B _ L zs rfl ho A n c rfl HZ.out hrw HL.out hb.size ?_; intro v1 w3 hown1 hb3)
          go_roundw
          case rel => exact ⟨k + 1, by omega, by go_num, by rw [HCT.out]; exact hown1, hb.trans hb3⟩
          case measure => simp [intOf]; omega
        · obtain rfl : k = 2 := by omega
          go_wp2_with fail
          go_ret
          exact ⟨_, rfl, ho, hb⟩


theorem below_set (w : World) {g : Nat} {v : Value} : Below g w (w.setCell ⟨g, 0, none⟩ v) := (Below.refl g w).setCell (p := ⟨g, 0, none⟩) (Nat.le_refl g) _
set_option maxHeartbeats 1000000 in
theorem withoutClue_any (A : Option Addr) (c : Nat) (ps : List Tri) (k : Nat) (B : Nat) (w : World) (hr : RdF w B A c ps) (hB : B ≤ w.heap.size) (hn : ps.length ≤ 6) (hk : k < ps.length) :
    Calls Try.prog 33 #[pzv A ps.length c, .int .i64 (k : Int)] w fun e w' => ∃ v, e = .returned (.agg #[v]) ∧ OwnF w' w.heap.size v (wo ps k) ∧ Below w.heap.size w w' := by
  have X0 : Blk (w.alloc (.cells #[.slice A ps.length c] 30)) w.heap.size 30 #[.slice A ps.length c] := Blk.new _ _ _
  have b0 : Below w.heap.size w (w.alloc (.cells #[.slice A ps.length c] 30)) := below_alloc _ _
  have hc := hr.1
  have hr0 := hr.below b0 hB
  have p0 := X0.cell 0
  have hd := Lib.hid (hr0.dropAt (k := k + 1) (by omega))
  have ht := Lib.hid (hr0.take (k := k) (by omega) (c' := c) (by omega))
  have hwk : wrap64 ((k : Int) + 1) = ((k + 1 : Nat) : Int) := by unfold wrap64; omega
  have hwi : IntKind.i64.wrap ((k : Int) + 1) = ((k + 1 : Nat) : Int) := by rw [IntWalk.i64_in _ (by omega)]; rfl
  have e1 : (k : Int) ≤ (c : Int) := by omega
  have e2 : k ≤ c := by omega
  have e3 : (k : Int) + 1 ≤ (ps.length : Int) := by omega
  have e5 : (0 : Int) ≤ (k : Int) + 1 := by omega
  have e4 : k + 1 ≤ ps.length := by omega
  have l1 := Lib.hid (show k = (ps.take k).length by simp; omega)
  have l2 := Lib.hid (show ps.length - (k + 1) = (ps.drop (k + 1)).length by simp)
  clear hr hr0
  obtain ⟨A2, hA2⟩ : ∃ A2, (if c = k + 1 then A else A.map (fun x => x.add ((k + 1) * 3))) = A2 := ⟨_, rfl⟩
  rw [hA2] at hd
  replace X0 := X0.alloc (.cells #[.slice none 0 0] 30)
  have R0 : Blk ((w.alloc (.cells #[.slice A ps.length c] 30)).alloc (.cells #[.slice none 0 0] 30)) (w.heap.size + 1) 30 #[.slice none 0 0] := Blk.new' (by simp)
  have b1 : Below w.heap.size w ((w.alloc (.cells #[.slice A ps.length c] 30)).alloc (.cells #[.slice none 0 0] 30)) := (below_alloc _ _).alloc (by simp) _
  have z1 : w.heap.size + 2 ≤ ((w.alloc (.cells #[.slice A ps.length c] 30)).alloc (.cells #[.slice none 0 0] 30)).heap.size := by simp
  have hd1 := Lib.hid (hd.out.below ((Below.refl B _).alloc (by simp; omega) (.cells #[.slice none 0 0] 30)) (Nat.le_refl _))
  have ht1 := Lib.hid (ht.out.below ((Below.refl B _).alloc (by simp; omega) (.cells #[.slice none 0 0] 30)) (Nat.le_refl _))
  clear p0 hd ht b0
  go_enter Try.func33, Try.ntmps33
  go_wp2_with fail
  generalize hu : (w.alloc (.cells #[.slice A ps.length c] 30)).alloc (.cells #[.slice none 0 0] 30) = u at *
  clear hu
  have p0 := X0.cell 0
  have N1 : Blk (u.drew.alloc (.cells #[.slice A k c, .slice A2 (ps.length - (k + 1)) (c - (k + 1))] 28)) u.heap.size 28 #[.slice A k c, .slice A2 (ps.length - (k + 1)) (c - (k + 1))] := Blk.new' (by simp)
  have b2 : Below u.heap.size u (u.drew.alloc (.cells #[.slice A k c, .slice A2 (ps.length - (k + 1)) (c - (k + 1))] 28)) := below_undrew (below_alloc u.drew _)
  have HC := Lib.hid (concat2F u.heap.size B A A2 c (c - (k + 1)) k (ps.length - (k + 1)) _ _ _ l1.out l2.out N1 (ht1.out.below b2 (by omega)) (hd1.out.below b2 (by omega)) (by have := b2.size; omega) (by omega))
  go_region_with (go_at_call 59; (refine HC.out.mono ?_); rintro e w1 ⟨v, rfl, o1, hb1⟩; have b3 : Below u.heap.size u w1 := b2.trans (hb1.mono b2.size); have R1 := R0.below b3 R0.lt; have f0 := R1.frozen 0; have g0 := R1.cell 0; obtain ⟨A5, c5, hv5⟩ := o1.form; subst hv5)
  all_goals
    go_wp2_with fail
    refine bodyPost_ret (v := .agg #[.slice A5 (ps.take k ++ ps.drop (k + 1)).length c5]) (by simp [results, Try.results33, go_sem, g0]) rfl ?_
    have lt1 := fun i h => (o1.lt i h).1
    have hz2 : u.heap.size + 1 ≤ (u.drew.alloc (.cells #[.slice A k c, .slice A2 (ps.length - (k + 1)) (c - (k + 1))] 28)).heap.size := by simp
    refine ⟨_, rfl, ?_, (b1.trans (b3.mono (by omega))).setCell (p := ⟨w.heap.size + 1, 0, none⟩) (by simp) _⟩
    exact OwnF.turned (o1.mono (by omega)) (L := [w.heap.size + 1]) ⟨(below_set w1).os, (below_set w1).tape, (below_set w1).output, (below_set w1).size, fun i _ hi => Below.heap_setCell w1 _ _ i (by simpa using hi)⟩ (fun i hi h2 => by have := lt1 i hi; simp at h2; omega)

end Go.Proofs.Yteljaafehnhmcaa
