/- Contracts: the laws' own helpers over puzzles. -/
import Derived.Test.YtohimcljobpkjaaDoorPzC
namespace Go.Proofs.YtohimcljobpkjaaDoor
open Go.RowKit
set_option maxRecDepth 100000

set_option maxHeartbeats 400000 in
theorem szClueS_any (A : Option Addr) (n c : Nat) (left : Int) (w : World) (hn : n ≤ 9223372036854775807) (h0 : 0 ≤ left) (h1 : left ≤ 1048576) :
    Calls Tryd.prog 14 #[.slice A n c, .int .i64 left] w fun e w' => e = .returned (.int .i64 (szF left n)) ∧ w = w' := by
  by_cases h : left - n < 0
  · rw [szF_neg h]
    go_enter Tryd.func14, Tryd.ntmps14
    go_wp2
    go_ret
    exact ⟨rfl, rfl⟩
  · rw [szF_pos (by omega)]
    go_enter Tryd.func14, Tryd.ntmps14
    go_wp2
    go_ret
    exact ⟨rfl, rfl⟩

set_option maxHeartbeats 400000 in
theorem szPuzzle_yes (A : Option Addr) (n c : Nat) (w : World) (h1 : n ≤ 1048576) :
    Calls Tryd.prog 5 #[pzv A n c, .int .i64 1048576] w fun e w' => e = .returned (.int .i64 (1048576 - n)) ∧ Below w.heap.size w w' := by
  have e1 := Lib.hid (szF_pos (left := 1048576) (n := (n : Int)) (by omega))
  go_enter Tryd.func5, Tryd.ntmps5
  go_wp2_with fail
  refine (szClueS_any _ _ _ _ _ (by omega) (by omega) (by omega)).mono ?_
  rintro e w1 ⟨rfl, rfl⟩
  rw [e1.out]
  go_wp2_with fail
  go_ret
  exact ⟨rfl, below_alloc _ _⟩
set_option maxHeartbeats 400000 in
theorem szPuzzle_no (A : Option Addr) (n c : Nat) (w : World) (hn : n ≤ 9223372036854775807) (h1 : 1048576 < n) :
    Calls Tryd.prog 5 #[pzv A n c, .int .i64 1048576] w fun e w' => e = .returned (.int .i64 (-1)) ∧ Below w.heap.size w w' := by
  have e1 := Lib.hid (szF_neg (left := 1048576) (n := (n : Int)) (by omega))
  go_enter Tryd.func5, Tryd.ntmps5
  go_wp2_with fail
  refine (szClueS_any _ _ _ _ _ (by omega) (by omega) (by omega)).mono ?_
  rintro e w1 ⟨rfl, rfl⟩
  rw [e1.out]
  go_wp2_with fail
  go_ret
  exact ⟨rfl, below_alloc _ _⟩

set_option maxHeartbeats 2000000 in
theorem toClueS_any (A : Option Addr) (c : Nat) (ps : List Tri) (B : Nat) (w : World) (hr : RdF w B A c ps) (hB : B ≤ w.heap.size) (hn : ps.length ≤ 1048576) :
    Calls Tryd.prog 17 #[.slice A ps.length c] w fun e w' => ∃ g, e = .returned (.slice (some ⟨g, 0, none⟩) ps.length ps.length) ∧ w.heap.size ≤ g ∧ Blk w' g 44 (cellsF ps).toArray ∧ Below w.heap.size w w' := by
  obtain ⟨i0, hi, hz, hs, hby⟩ := info_parts fl_info
  have hmk : ∀ u : World, (Instr.makeSlice 28 (.int .i64 (ps.length : Int)) (.int .i64 (ps.length : Int))).run Tryd.prog u = .ok (.slice (some ⟨u.heap.size, 0, none⟩) ps.length ps.length) (u.alloc (.cells (fillF ps 0) 44)) := fun u => by
    have := run_make (P := Tryd.prog) u 28 44 i0 (.agg #[.int .i64 0, .int .i64 0, .int .i64 0]) Tryd.underlying28 hi hz .i64 .i64 ps.length ps.length (by omega) (Int.le_refl _) (by rw [hby]; omega) (by omega)
    rw [Int.toNat_natCast, hs, fillF_zero] at this
    exact this
  have HR := Lib.hid hr
  have HZ := Lib.hid (fun k (hk : k < ps.length) => fillF_set ps k hk)
  clear hi hz hs hby hr
  have N0 : Blk (w.alloc (.cells (fillF ps 0) 44)) w.heap.size 44 (fillF ps 0) := Blk.new _ _ _
  go_enter Tryd.func17, Tryd.ntmps17
  go_wp2_with fail
  clear hmk
  go_loopw [4] (fun i wr => ∃ k : Nat, k ≤ ps.length ∧ i = .int .i64 k ∧ Blk wr w.heap.size 44 (fillF ps k) ∧ Below w.heap.size w wr) (fun i _ => ps.length - (intOf i).toNat)
  case atStart => exact ⟨0, Nat.zero_le _, rfl, N0, below_alloc _ _⟩
  case round =>
    clear N0
    obtain ⟨k, hk, rfl, hX, hbw⟩ := hrel
    have hzz : w.heap.size < wr.heap.size := hX.lt
    by_cases hlt : k < ps.length
    · obtain ⟨g, o, rfl, hg, a0, a1, a2⟩ := (HR.out.below hbw hB).2 k hlt
      have HZ1 := Lib.hid (HZ.out k hlt)
      obtain ⟨⟨x, y, z⟩, hxyz⟩ : ∃ q : Tri, ps.getD k z3 = q := ⟨_, rfl⟩
      have hq : ps.getD k (0, 0, 0) = (x, y, z) := hxyz
      rw [hq] at a0 a1 a2
      rw [hxyz] at HZ1
      dsimp only at a0 a1 a2 HZ1
      clear hq hxyz
      have hsz : (fillF ps k).size = ps.length * 3 := by simp [fillF, cellsF_len]; omega
      have HSZ := Lib.hid hsz
      have k0 : ∃ v, (fillF ps k)[k * 3]? = some v := ⟨_, Array.getElem?_eq_getElem (by omega)⟩
      have k1 : ∃ v, (fillF ps k)[k * 3 + 1]? = some v := ⟨_, Array.getElem?_eq_getElem (by omega)⟩
      have k2 : ∃ v, (fillF ps k)[k * 3 + 2]? = some v := ⟨_, Array.getElem?_eq_getElem (by omega)⟩
      obtain ⟨v0, k0⟩ := k0
      obtain ⟨v1, k1⟩ := k1
      obtain ⟨v2, k2⟩ := k2
      clear hsz
      go_wp2_with (go_at_call 29; (refine (toClue_any x y z _).mono ?_); rintro e w2 ⟨rfl, hb2⟩; have X2 := hX.below hb2 hzz; have d0 := (X2.cell (k * 3)).trans k0; have d1 := (X2.cell (k * 3 + 1)).trans k1; have d2 := (X2.cell (k * 3 + 2)).trans k2; have f0 := X2.frozen (k * 3); have f1 := X2.frozen (k * 3 + 1); have f2 := X2.frozen (k * 3 + 2))
      have hbw2 : Below w.heap.size w w2 := hbw.trans (hb2.mono (by omega))
      go_roundw
      case rel => exact ⟨k + 1, by omega, by go_num, by rw [← HZ1.out]; exact ((X2.set_ _ _).set_ _ _).set_ _ _, ((hbw2.setCell (p := ⟨w.heap.size, k * 3, none⟩) (Nat.le_refl _) _).setCell (p := ⟨w.heap.size, k * 3 + 1, none⟩) (Nat.le_refl _) _).setCell (p := ⟨w.heap.size, k * 3 + 2, none⟩) (Nat.le_refl _) _⟩
      case measure => simp [intOf]; omega
    · obtain rfl : k = ps.length := by omega
      rw [fillF_end] at hX
      go_wp2_with fail
      go_ret
      exact ⟨_, rfl, Nat.le_refl _, hX, hbw⟩

set_option maxHeartbeats 400000 in
theorem toPuzzle_any (A : Option Addr) (c : Nat) (ps : List Tri) (B : Nat) (w : World) (hr : RdF w B A c ps) (hB : B ≤ w.heap.size) (hn : ps.length ≤ 1048576) :
    Calls Tryd.prog 7 #[pzv A ps.length c] w fun e w' => ∃ g, e = .returned (pzv (some ⟨g, 0, none⟩) ps.length ps.length) ∧ w.heap.size ≤ g ∧ Blk w' g 44 (cellsF ps).toArray ∧ Below w.heap.size w w' := by
  have b3 : Below w.heap.size w (((w.alloc (.cells #[.slice A ps.length c] 24)).alloc (.cells #[.slice none 0 0] 30)).alloc (.cells #[.slice none 0 0] 30)) := ((below_alloc _ _).alloc (by simp) _).alloc (by simp; omega) _
  have Y1 : Blk (((w.alloc (.cells #[.slice A ps.length c] 24)).alloc (.cells #[.slice none 0 0] 30)).alloc (.cells #[.slice none 0 0] 30)) (w.heap.size + 1) 30 #[.slice none 0 0] := (Blk.new' (by simp)).alloc _
  have Y2 : Blk (((w.alloc (.cells #[.slice A ps.length c] 24)).alloc (.cells #[.slice none 0 0] 30)).alloc (.cells #[.slice none 0 0] 30)) (w.heap.size + 1 + 1) 30 #[.slice none 0 0] := Blk.new' (by simp)
  have hr3 := hr.below b3 hB
  have hB3 : B ≤ (((w.alloc (.cells #[.slice A ps.length c] 24)).alloc (.cells #[.slice none 0 0] 30)).alloc (.cells #[.slice none 0 0] 30)).heap.size := by simp; omega
  clear hr
  go_enter Tryd.func7, Tryd.ntmps7
  go_wp2_with fail
  refine (toClueS_any A c ps B _ hr3 hB3 hn).mono ?_
  rintro e w1 ⟨g, rfl, hg, hblk, hb⟩
  have hz1 := Y2.lt
  have hgg : w.heap.size + 1 + 1 < g := by omega
  have Z1 := Y1.below hb Y1.lt
  have Z2 := Y2.below hb Y2.lt
  have B1 := b3.trans (hb.mono b3.size)
  have f1 := Z1.frozen 0
  have f2 := Z2.frozen 0
  have p1 := Z1.cell 0
  have p2 := Z2.cell 0
  have S1 := Z1.far (p := ⟨w.heap.size + 1 + 1, 0, none⟩) (by simp) (.slice (some ⟨g, 0, none⟩) ps.length ps.length)
  have S2 := Z2.set_ 0 (.slice (some ⟨g, 0, none⟩) ps.length ps.length)
  have q1 := S1.cell 0
  have q2 := (S2.cell 0).trans (show _ = some (Value.slice (some ⟨g, 0, none⟩) ps.length ps.length) by simp)
  have g1 := S1.frozen 0
  have T1 := S1.set_ 0 (.slice (some ⟨g, 0, none⟩) ps.length ps.length)
  have r1 := (T1.cell 0).trans (show _ = some (Value.slice (some ⟨g, 0, none⟩) ps.length ps.length) by simp)
  clear hb hg Y1 Y2 b3 hr3 hB3 hz1
  go_wp2_with fail
  refine bodyPost_ret (v := pzv (some ⟨g, 0, none⟩) ps.length ps.length) (by simp [results, Tryd.results7, go_sem, r1]) rfl ⟨g, rfl, by omega, ?_, ?_⟩
  · exact (hblk.far (p := ⟨w.heap.size + 1 + 1, 0, none⟩) (by simp; omega) _).far (p := ⟨w.heap.size + 1, 0, none⟩) (by simp; omega) _
  · exact (B1.setCell (p := ⟨w.heap.size + 1 + 1, 0, none⟩) (by simp; omega) _).setCell (p := ⟨w.heap.size + 1, 0, none⟩) (by simp) _

set_option maxHeartbeats 400000 in
theorem eqPuzzle_rd (A A' : Option Addr) (c c' : Nat) (ps : List Tri) (B B' : Nat) (w : World) (ho : RdF w B A c ps) (ho' : RdF w B' A' c' ps) (hB : B ≤ w.heap.size) (hB' : B' ≤ w.heap.size) (hn : ps.length ≤ 1048576) :
    Calls Tryd.prog 9 #[pzv A ps.length c, pzv A' ps.length c'] w fun e w' => e = .returned (.bool true) ∧ Below w.heap.size w w' := by
  have b2 : ∀ o o', Below w.heap.size w ((w.alloc o).alloc o') := fun o o' => (below_alloc _ _).alloc (by simp) _
  have HO := Lib.hid (fun o o' => ho.below (b2 o o') hB)
  have HO' := Lib.hid (fun o o' => ho'.below (b2 o o') hB')
  have HB := Lib.hid b2
  clear ho ho' b2
  go_enter Tryd.func9, Tryd.ntmps9
  go_wp2_with fail
  refine (eqClueS_rd _ _ _ _ ps B B' _ (HO.out _ _) (HO'.out _ _) (by simp; omega) (by simp; omega) hn).mono ?_
  rintro e w1 ⟨rfl, hb⟩
  go_wp2_with fail
  go_ret
  exact ⟨rfl, (HB.out _ _).trans (hb.mono (by simp; omega))⟩

set_option maxHeartbeats 400000 in
theorem markPz_new (v : Value) (xs : List Tri) (k : Int) (B : Nat) (w : World) (ho : OwnF w B v xs) (hn : xs.length ≤ 1048576) (hk0 : 0 ≤ k) (hk1 : k ≤ 4194304) :
    Calls Tryd.prog 12 #[.agg #[v], .int .i64 k] w fun e w' => e = .returned (.int .i64 (k + 3 * (xs.length : Int))) ∧ OwnF w' B v (marksT k xs.length) ∧ Turned w w' (rowL v) := by
  have HO := Lib.hid (fun o => ho.alloc o)
  obtain ⟨A, c, rfl⟩ := ho.form
  clear ho
  go_enter Tryd.func12, Tryd.ntmps12
  go_wp2_with fail
  refine (markFl_new _ xs k B _ (HO.out _) hn hk0 hk1).mono ?_
  rintro e w1 ⟨rfl, h1, h2⟩
  go_wp2_with fail
  go_ret
  exact ⟨rfl, h1, (Turned.of_below (below_alloc _ _) _).trans h2⟩

set_option maxHeartbeats 400000 in
theorem heldPz_any (v : Value) (n : Nat) (k : Int) (B : Nat) (w : World) (ho : OwnF w B v (marksT k n)) (hn : n ≤ 1048576) (hk0 : 0 ≤ k) (hk1 : k ≤ 4194304) :
    Calls Tryd.prog 13 #[.agg #[v], .int .i64 k] w fun e w' => e = .returned (.int .i64 (k + 3 * (n : Int))) ∧ Below w.heap.size w w' := by
  have HO := Lib.hid (fun o => ho.alloc o)
  obtain ⟨A, c, rfl⟩ := ho.form
  clear ho
  go_enter Tryd.func13, Tryd.ntmps13
  go_wp2_with fail
  refine (heldFl_any _ n k B _ (HO.out _) hn hk0 hk1).mono ?_
  rintro e w1 ⟨rfl, rfl⟩
  go_wp2_with fail
  go_ret
  exact ⟨rfl, below_alloc _ _⟩

end Go.Proofs.YtohimcljobpkjaaDoor
