/- Contracts of DropClue: the model's and the program's. -/
import Derived.Test.YtmiojofeoaocfaaPzCt
import Derived.Test.YtmiojofeoaocfaaPzM
namespace Go.Proofs.Ytmiojofeoaocfaa
open Go.RowKit
set_option maxRecDepth 100000

def dcB (ps : List Tri) (k : Int) : Bool := puzB ps && inB k 0 ((ps.length : Int) - 1)
def dcL (ps : List Tri) (k : Int) : List Tri := if dcB ps k then wo ps k.toNat else []
theorem dcL_len (ps : List Tri) (k : Int) (h : ps.length ≤ 1048576) : (dcL ps k).length ≤ 1048576 := by
  unfold dcL
  split
  · simp [wo]; omega
  · simp
theorem puz_six {ps : List Tri} (h : puzB ps = true) : ps.length ≤ 6 := by
  simp only [puzB, Bool.and_eq_true, decide_eq_true_eq] at h
  exact h.1

set_option maxHeartbeats 1000000 in
theorem specDrop9_any (A : Option Addr) (c : Nat) (ps : List Tri) (k : Int) (B : Nat) (w : World) (hr : RdF w B A c ps) (hB : B ≤ w.heap.size) (hn : ps.length ≤ 1048576) (hk0 : -9223372036854775808 ≤ k) (hk1 : k ≤ 9223372036854775807) :
    Calls Try.prog 49 #[pzv A ps.length c, .int .i64 k] w (NewP w (dcL ps k) (dcB ps k)) := by
  have X0 : Blk ((w.alloc (.cells #[.slice A ps.length c] 35)).alloc (.cells #[.slice none 0 0] 35)) w.heap.size 35 #[.slice A ps.length c] := (Blk.new' (by simp)).alloc _
  have R0 : Blk ((w.alloc (.cells #[.slice A ps.length c] 35)).alloc (.cells #[.slice none 0 0] 35)) (w.heap.size + 1) 35 #[.slice none 0 0] := Blk.new' (by simp)
  have b0 : Below w.heap.size w ((w.alloc (.cells #[.slice A ps.length c] 35)).alloc (.cells #[.slice none 0 0] 35)) := (below_alloc _ _).alloc (by simp) _
  have hr0 := hr.below ((Below.refl B w).alloc hB (.cells #[.slice A ps.length c] 35) |>.alloc (by simp; omega) (.cells #[.slice none 0 0] 35)) (Nat.le_refl _)
  have z0 : B ≤ ((w.alloc (.cells #[.slice A ps.length c] 35)).alloc (.cells #[.slice none 0 0] 35)).heap.size := by simp; omega
  have zz : w.heap.size + 2 ≤ ((w.alloc (.cells #[.slice A ps.length c] 35)).alloc (.cells #[.slice none 0 0] 35)).heap.size := by simp
  clear hr
  cases hp : puzB ps
  · have HD := Lib.hid (show dcB ps k = false ∧ dcL ps k = [] by simp [dcB, dcL, hp])
    have HP := Lib.hid hp
    go_enter Try.func49, Try.ntmps49
    go_wp2_with fail
    generalize hu : ((w.alloc (.cells #[.slice A ps.length c] 35)).alloc (.cells #[.slice none 0 0] 35)) = u at *
    have hU := Lib.hid hu
    clear hu hp
    have p0 := X0.cell 0
    have q0 := R0.cell 0
    have f0 := R0.frozen 0
    refine (pzGood_any A c ps B u hr0 z0 hn).mono ?_
    rintro e w1 ⟨rfl, hb1⟩
    rw [HP.out]
    have X1 := X0.below hb1 X0.lt
    have R1 := R0.below hb1 R0.lt
    have hr1 := hr0.below hb1 z0
    have z1 := Nat.le_trans z0 hb1.size
    clear p0 q0 f0
    have p0 := X1.cell 0
    have q0 := R1.cell 0
    have f0 := R1.frozen 0
    go_wp2_with fail
    have r0 := (R1.set_ 0 (.slice none 0 0)).cell 0
    refine bodyPost_ret (v := .tuple #[.agg #[.slice none 0 0], .bool false]) (by simp [results, Try.results49, go_sem, r0]) rfl ?_
    exact ⟨_, by rw [HD.out.1], by rw [HD.out.2]; exact OwnF.nil _ _, (b0.trans (hb1.mono b0.size)).setCell (p := ⟨w.heap.size + 1, 0, none⟩) (by simp) _⟩
  · have h6 := puz_six hp
    have hwl : IntKind.i64.wrap ((ps.length : Int) - 1) = (ps.length : Int) - 1 := IntWalk.i64_in _ (by omega)
    have hww : wrap64 ((ps.length : Int) - 1) = (ps.length : Int) - 1 := by unfold wrap64; omega
    cases hi : inB k 0 ((ps.length : Int) - 1)
    · have HI := Lib.hid hi
      have HD := Lib.hid (show dcB ps k = false ∧ dcL ps k = [] by simp [dcB, dcL, hi])
      clear hi
      have HP := Lib.hid hp
      go_enter Try.func49, Try.ntmps49
      go_wp2_with fail
      generalize hu : ((w.alloc (.cells #[.slice A ps.length c] 35)).alloc (.cells #[.slice none 0 0] 35)) = u at *
      have hU := Lib.hid hu
      clear hu hp
      have p0 := X0.cell 0
      have q0 := R0.cell 0
      have f0 := R0.frozen 0
      refine (pzGood_any A c ps B u hr0 z0 hn).mono ?_
      rintro e w1 ⟨rfl, hb1⟩
      rw [HP.out]
      have X1 := X0.below hb1 X0.lt
      have R1 := R0.below hb1 R0.lt
      have hr1 := hr0.below hb1 z0
      have z1 := Nat.le_trans z0 hb1.size
      clear p0 q0 f0
      have p0 := X1.cell 0
      have q0 := R1.cell 0
      have f0 := R1.frozen 0
      go_wp2_with fail
      refine (l1In_any _ _ _ _).mono ?_
      rintro e w2 ⟨rfl, rfl⟩
      rw [HI.out]
      go_wp2_with fail
      have r0 := (R1.set_ 0 (.slice none 0 0)).cell 0
      refine bodyPost_ret (v := .tuple #[.agg #[.slice none 0 0], .bool false]) (by simp [results, Try.results49, go_sem, r0]) rfl ?_
      exact ⟨_, by rw [HD.out.1], by rw [HD.out.2]; exact OwnF.nil _ _, (b0.trans (hb1.mono b0.size)).setCell (p := ⟨w.heap.size + 1, 0, none⟩) (by simp) _⟩
    · have HI := Lib.hid hi
      have hi2 := inB_le hi
      obtain ⟨j, rfl⟩ : ∃ j : Nat, k = (j : Int) := ⟨k.toNat, by omega⟩
      have hj : j < ps.length := by omega
      have HD := Lib.hid (show dcB ps j = true ∧ dcL ps j = wo ps j by simp [dcB, dcL, hp, hi])
      clear hi hi2
      have HP := Lib.hid hp
      go_enter Try.func49, Try.ntmps49
      go_wp2_with fail
      generalize hu : ((w.alloc (.cells #[.slice A ps.length c] 35)).alloc (.cells #[.slice none 0 0] 35)) = u at *
      have hU := Lib.hid hu
      clear hu hp
      have p0 := X0.cell 0
      have q0 := R0.cell 0
      have f0 := R0.frozen 0
      refine (pzGood_any A c ps B u hr0 z0 hn).mono ?_
      rintro e w1 ⟨rfl, hb1⟩
      rw [HP.out]
      have X1 := X0.below hb1 X0.lt
      have R1 := R0.below hb1 R0.lt
      have hr1 := hr0.below hb1 z0
      have z1 := Nat.le_trans z0 hb1.size
      clear p0 q0 f0
      have p0 := X1.cell 0
      have q0 := R1.cell 0
      have f0 := R1.frozen 0
      go_wp2_with fail
      refine (l1In_any _ _ _ _).mono ?_
      rintro e w2 ⟨rfl, rfl⟩
      rw [HI.out]
      go_wp2_with fail
      refine (pzWithout_any A c ps j w1.heap.size w1 (hr1.more z1) (Nat.le_refl _) hn hj).mono ?_
      rintro e w2 ⟨v, rfl, o2, hb2⟩
      have R2 := R1.below hb2 R1.lt
      have l2 := R1.lt
      clear p0 q0 f0
      have q0 := R2.cell 0
      have f0 := R2.frozen 0
      have B2 := b0.trans ((hb1.trans (hb2.mono hb1.size)).mono b0.size)
      have lt1 := fun i h => (o2.lt i h).1
      obtain ⟨A5, c5, hv5⟩ := o2.form
      subst hv5
      go_wp2_with fail
      have r0 := (R2.set_ 0 (.slice A5 (wo ps j).length c5)).cell 0
      refine bodyPost_ret (v := .tuple #[.agg #[.slice A5 (wo ps j).length c5], .bool true]) (by simp [results, Try.results49, go_sem, r0]) rfl ?_
      refine ⟨_, by rw [HD.out.1], ?_, B2.setCell (p := ⟨w.heap.size + 1, 0, none⟩) (by simp) _⟩
      rw [HD.out.2]
      exact OwnF.turned (o2.mono (by omega)) (L := [w.heap.size + 1]) ⟨(below_set w2).os, (below_set w2).tape, (below_set w2).output, (below_set w2).size, fun i _ hi => Below.heap_setCell w2 _ _ i (by simpa using hi)⟩ (fun i hi h2 => by have := lt1 i hi; simp at h2; omega)


set_option maxHeartbeats 1000000 in
theorem implDrop9_any (A : Option Addr) (c : Nat) (ps : List Tri) (k : Int) (B : Nat) (w : World) (hr : RdF w B A c ps) (hB : B ≤ w.heap.size) (hn : ps.length ≤ 1048576) (hk0 : -9223372036854775808 ≤ k) (hk1 : k ≤ 9223372036854775807) :
    Calls Try.prog 50 #[pzv A ps.length c, .int .i64 k] w (NewP w (dcL ps k) (dcB ps k)) := by
  have X0 : Blk ((w.alloc (.cells #[.slice A ps.length c] 35)).alloc (.cells #[.slice none 0 0] 35)) w.heap.size 35 #[.slice A ps.length c] := (Blk.new' (by simp)).alloc _
  have R0 : Blk ((w.alloc (.cells #[.slice A ps.length c] 35)).alloc (.cells #[.slice none 0 0] 35)) (w.heap.size + 1) 35 #[.slice none 0 0] := Blk.new' (by simp)
  have b0 : Below w.heap.size w ((w.alloc (.cells #[.slice A ps.length c] 35)).alloc (.cells #[.slice none 0 0] 35)) := (below_alloc _ _).alloc (by simp) _
  have hr0 := hr.below ((Below.refl B w).alloc hB (.cells #[.slice A ps.length c] 35) |>.alloc (by simp; omega) (.cells #[.slice none 0 0] 35)) (Nat.le_refl _)
  have z0 : B ≤ ((w.alloc (.cells #[.slice A ps.length c] 35)).alloc (.cells #[.slice none 0 0] 35)).heap.size := by simp; omega
  have zz : w.heap.size + 2 ≤ ((w.alloc (.cells #[.slice A ps.length c] 35)).alloc (.cells #[.slice none 0 0] 35)).heap.size := by simp
  clear hr
  cases hp : puzB ps
  · have HD := Lib.hid (show dcB ps k = false ∧ dcL ps k = [] by simp [dcB, dcL, hp])
    have HP := Lib.hid hp
    go_enter Try.func50, Try.ntmps50
    go_wp2_with fail
    generalize hu : ((w.alloc (.cells #[.slice A ps.length c] 35)).alloc (.cells #[.slice none 0 0] 35)) = u at *
    have hU := Lib.hid hu
    clear hu hp
    have p0 := X0.cell 0
    have q0 := R0.cell 0
    have f0 := R0.frozen 0
    refine (implIsPuzzle_any A c ps B u hr0 z0 hn).mono ?_
    rintro e w1 ⟨rfl, hb1⟩
    rw [HP.out]
    have X1 := X0.below hb1 X0.lt
    have R1 := R0.below hb1 R0.lt
    have hr1 := hr0.below hb1 z0
    have z1 := Nat.le_trans z0 hb1.size
    clear p0 q0 f0
    have p0 := X1.cell 0
    have q0 := R1.cell 0
    have f0 := R1.frozen 0
    go_wp2_with fail
    have r0 := (R1.set_ 0 (.slice none 0 0)).cell 0
    refine bodyPost_ret (v := .tuple #[.agg #[.slice none 0 0], .bool false]) (by simp [results, Try.results50, go_sem, r0]) rfl ?_
    exact ⟨_, by rw [HD.out.1], by rw [HD.out.2]; exact OwnF.nil _ _, (b0.trans (hb1.mono b0.size)).setCell (p := ⟨w.heap.size + 1, 0, none⟩) (by simp) _⟩
  · have h6 := puz_six hp
    have hwl : IntKind.i64.wrap ((ps.length : Int) - 1) = (ps.length : Int) - 1 := IntWalk.i64_in _ (by omega)
    have hww : wrap64 ((ps.length : Int) - 1) = (ps.length : Int) - 1 := by unfold wrap64; omega
    cases hi : inB k 0 ((ps.length : Int) - 1)
    · have HI := Lib.hid hi
      have HD := Lib.hid (show dcB ps k = false ∧ dcL ps k = [] by simp [dcB, dcL, hi])
      clear hi
      have HP := Lib.hid hp
      go_enter Try.func50, Try.ntmps50
      go_wp2_with fail
      generalize hu : ((w.alloc (.cells #[.slice A ps.length c] 35)).alloc (.cells #[.slice none 0 0] 35)) = u at *
      have hU := Lib.hid hu
      clear hu hp
      have p0 := X0.cell 0
      have q0 := R0.cell 0
      have f0 := R0.frozen 0
      refine (implIsPuzzle_any A c ps B u hr0 z0 hn).mono ?_
      rintro e w1 ⟨rfl, hb1⟩
      rw [HP.out]
      have X1 := X0.below hb1 X0.lt
      have R1 := R0.below hb1 R0.lt
      have hr1 := hr0.below hb1 z0
      have z1 := Nat.le_trans z0 hb1.size
      clear p0 q0 f0
      have p0 := X1.cell 0
      have q0 := R1.cell 0
      have f0 := R1.frozen 0
      go_wp2_with fail
      refine (isWithin_any _ _ _ _).mono ?_
      rintro e w2 ⟨rfl, rfl⟩
      rw [HI.out]
      go_wp2_with fail
      have r0 := (R1.set_ 0 (.slice none 0 0)).cell 0
      refine bodyPost_ret (v := .tuple #[.agg #[.slice none 0 0], .bool false]) (by simp [results, Try.results50, go_sem, r0]) rfl ?_
      exact ⟨_, by rw [HD.out.1], by rw [HD.out.2]; exact OwnF.nil _ _, (b0.trans (hb1.mono b0.size)).setCell (p := ⟨w.heap.size + 1, 0, none⟩) (by simp) _⟩
    · have HI := Lib.hid hi
      have hi2 := inB_le hi
      obtain ⟨j, rfl⟩ : ∃ j : Nat, k = (j : Int) := ⟨k.toNat, by omega⟩
      have hj : j < ps.length := by omega
      have HD := Lib.hid (show dcB ps j = true ∧ dcL ps j = wo ps j by simp [dcB, dcL, hp, hi])
      clear hi hi2
      have HP := Lib.hid hp
      go_enter Try.func50, Try.ntmps50
      go_wp2_with fail
      generalize hu : ((w.alloc (.cells #[.slice A ps.length c] 35)).alloc (.cells #[.slice none 0 0] 35)) = u at *
      have hU := Lib.hid hu
      clear hu hp
      have p0 := X0.cell 0
      have q0 := R0.cell 0
      have f0 := R0.frozen 0
      refine (implIsPuzzle_any A c ps B u hr0 z0 hn).mono ?_
      rintro e w1 ⟨rfl, hb1⟩
      rw [HP.out]
      have X1 := X0.below hb1 X0.lt
      have R1 := R0.below hb1 R0.lt
      have hr1 := hr0.below hb1 z0
      have z1 := Nat.le_trans z0 hb1.size
      clear p0 q0 f0
      have p0 := X1.cell 0
      have q0 := R1.cell 0
      have f0 := R1.frozen 0
      go_wp2_with fail
      refine (isWithin_any _ _ _ _).mono ?_
      rintro e w2 ⟨rfl, rfl⟩
      rw [HI.out]
      go_wp2_with fail
      refine (withoutClue_any A c ps j w1.heap.size w1 (hr1.more z1) (Nat.le_refl _) h6 hj).mono ?_
      rintro e w2 ⟨v, rfl, o2, hb2⟩
      have R2 := R1.below hb2 R1.lt
      have l2 := R1.lt
      clear p0 q0 f0
      have q0 := R2.cell 0
      have f0 := R2.frozen 0
      have B2 := b0.trans ((hb1.trans (hb2.mono hb1.size)).mono b0.size)
      have lt1 := fun i h => (o2.lt i h).1
      obtain ⟨A5, c5, hv5⟩ := o2.form
      subst hv5
      go_wp2_with fail
      have r0 := (R2.set_ 0 (.slice A5 (wo ps j).length c5)).cell 0
      refine bodyPost_ret (v := .tuple #[.agg #[.slice A5 (wo ps j).length c5], .bool true]) (by simp [results, Try.results50, go_sem, r0]) rfl ?_
      refine ⟨_, by rw [HD.out.1], ?_, B2.setCell (p := ⟨w.heap.size + 1, 0, none⟩) (by simp) _⟩
      rw [HD.out.2]
      exact OwnF.turned (o2.mono (by omega)) (L := [w.heap.size + 1]) ⟨(below_set w2).os, (below_set w2).tape, (below_set w2).output, (below_set w2).size, fun i _ hi => Below.heap_setCell w2 _ _ i (by simpa using hi)⟩ (fun i hi h2 => by have := lt1 i hi; simp at h2; omega)


end Go.Proofs.Ytmiojofeoaocfaa
