/- Contracts of HarderPuzzle: the model's and the program's. -/
import Derived.Test.YteljaafehnhmcaaPzCt
import Derived.Test.YteljaafehnhmcaaPzM
namespace Go.Proofs.Yteljaafehnhmcaa
open Go.RowKit
set_option maxRecDepth 100000

def vLen : Value → Nat
  | .slice _ n _ => n
  | _ => 0
def cLen (w : World) (g : Nat) : Nat := match w.cell? ⟨g, 0, none⟩ with
  | some v => vLen v
  | none => 0
def oneB (ps : List Tri) : Bool := decide ((solL ps).length = 1)
def hpF : Nat → List Tri → Nat → List Tri
  | 0, qs, _ => qs
  | n + 1, qs, k => if k < qs.length then (if oneB (wo qs k) then hpF n (wo qs k) k else hpF n qs (k + 1)) else qs
def hpR (ps : List Tri) : List Tri := if solvedB ps then hpF ps.length ps 0 else []
theorem hpF_len : ∀ (n : Nat) (qs : List Tri) (k : Nat), (hpF n qs k).length ≤ qs.length
  | 0, qs, _ => Nat.le_refl _
  | n + 1, qs, k => by
    unfold hpF
    split
    · next h =>
      split
      · have := hpF_len n (wo qs k) k
        rw [wo_len h] at this
        omega
      · exact hpF_len n qs (k + 1)
    · exact Nat.le_refl _
theorem hpR_len (ps : List Tri) (h : ps.length ≤ 1048576) : (hpR ps).length ≤ 1048576 := by
  unfold hpR
  have := hpF_len ps.length ps 0
  split
  · omega
  · simp
theorem hpF_end {n : Nat} {qs : List Tri} {k : Nat} (h : ¬ k < qs.length) : hpF n qs k = qs := by
  cases n with
  | zero => rfl
  | succ n => simp [hpF, h]
theorem hpF_yes {n : Nat} {qs : List Tri} {k : Nat} (h : k < qs.length) (hn : qs.length ≤ n + k) (ho : oneB (wo qs k) = true) : hpF n qs k = hpF (n - 1) (wo qs k) k := by
  cases n with
  | zero => omega
  | succ n => simp [hpF, h, ho]
theorem hpF_no {n : Nat} {qs : List Tri} {k : Nat} (h : k < qs.length) (hn : qs.length ≤ n + k) (ho : oneB (wo qs k) = false) : hpF n qs k = hpF (n - 1) qs (k + 1) := by
  cases n with
  | zero => omega
  | succ n => simp [hpF, h, ho]
theorem puz_wo9 {ps : List Tri} (h : puzB ps = true) {k : Nat} (hk : k < ps.length) : puzB (wo ps k) = true := by
  simp only [puzB, Bool.and_eq_true, decide_eq_true_eq, List.all_eq_true] at h ⊢
  refine ⟨by rw [wo_len hk]; omega, fun p hp => h.2 p ?_⟩
  unfold wo at hp
  rcases List.mem_append.1 hp with hp | hp
  · exact List.mem_of_mem_take hp
  · exact List.mem_of_mem_drop hp

set_option maxHeartbeats 1000000 in
theorem specHarder_any (A : Option Addr) (c : Nat) (ps : List Tri) (B : Nat) (w : World) (hr : RdF w B A c ps) (hB : B ≤ w.heap.size) (hn : ps.length ≤ 1048576) :
    Calls Try.prog 11 #[pzv A ps.length c] w (NewP w (hpR ps) (solvedB ps)) := by
  have X0 : Blk ((w.alloc (.cells #[.slice A ps.length c] 30)).alloc (.cells #[.slice none 0 0] 30)) w.heap.size 30 #[.slice A ps.length c] := (Blk.new' (by simp)).alloc _
  have R0 : Blk ((w.alloc (.cells #[.slice A ps.length c] 30)).alloc (.cells #[.slice none 0 0] 30)) (w.heap.size + 1) 30 #[.slice none 0 0] := Blk.new' (by simp)
  have b0 : Below w.heap.size w ((w.alloc (.cells #[.slice A ps.length c] 30)).alloc (.cells #[.slice none 0 0] 30)) := (below_alloc _ _).alloc (by simp) _
  have hr0 := hr.below ((Below.refl B w).alloc hB (.cells #[.slice A ps.length c] 30) |>.alloc (by simp; omega) (.cells #[.slice none 0 0] 30)) (Nat.le_refl _)
  have z0 : B ≤ ((w.alloc (.cells #[.slice A ps.length c] 30)).alloc (.cells #[.slice none 0 0] 30)).heap.size := by simp; omega
  have zz : w.heap.size + 2 ≤ ((w.alloc (.cells #[.slice A ps.length c] 30)).alloc (.cells #[.slice none 0 0] 30)).heap.size := by simp
  clear hr
  cases hp : puzB ps
  · have HP := Lib.hid hp
    have HD := Lib.hid (show solvedB ps = false ∧ hpR ps = [] by simp [solvedB, hpR, hp])
    clear hp
    go_enter Try.func11, Try.ntmps11
    go_wp2_with fail
    generalize hu : ((w.alloc (.cells #[.slice A ps.length c] 30)).alloc (.cells #[.slice none 0 0] 30)) = u at *
    have hU := Lib.hid hu
    clear hu
    have p0 := X0.cell 0
    refine (pzGood_any A c ps B u hr0 z0 hn).mono ?_
    rintro e w1 ⟨rfl, hb1⟩
    rw [HP.out]
    have R1 := R0.below hb1 R0.lt
    have q0 := R1.cell 0
    have f0 := R1.frozen 0
    go_wp2_with fail
    have r0 := (R1.set_ 0 (.slice none 0 0)).cell 0
    refine bodyPost_ret (v := .tuple #[.agg #[.slice none 0 0], .bool false]) (by simp [results, Try.results11, go_sem, r0]) rfl ?_
    exact ⟨_, by rw [HD.out.1], by rw [HD.out.2]; exact OwnF.nil _ _, (b0.trans (hb1.mono b0.size)).setCell (p := ⟨w.heap.size + 1, 0, none⟩) (by simp) _⟩
  · have HP := Lib.hid hp
    have HK := Lib.hid (puz_kinds hp)
    cases ho : oneB ps
    · have HO := Lib.hid (show decide ((solL ps).length = 1) = false from ho)
      have HD := Lib.hid (show solvedB ps = false ∧ hpR ps = [] by have h2 : decide ((solL ps).length = 1) = false := ho; simp only [solvedB, hpR, hp, h2]; simp)
      clear hp ho
      go_enter Try.func11, Try.ntmps11
      go_wp2_with fail
      generalize hu : ((w.alloc (.cells #[.slice A ps.length c] 30)).alloc (.cells #[.slice none 0 0] 30)) = u at *
      have hU := Lib.hid hu
      clear hu
      have p0 := X0.cell 0
      refine (pzGood_any A c ps B u hr0 z0 hn).mono ?_
      rintro e w1 ⟨rfl, hb1⟩
      rw [HP.out]
      have X1 := X0.below hb1 X0.lt
      have R1 := R0.below hb1 R0.lt
      have hr1 := hr0.below hb1 z0
      have z1 := Nat.le_trans z0 hb1.size
      clear p0
      have p0 := X1.cell 0
      go_wp2_with fail
      refine (pzSolved_any A c ps B w1 hr1 z1 hn HK.out).mono ?_
      rintro e w2 ⟨rfl, hb2⟩
      rw [HO.out]
      have R2 := R1.below hb2 R1.lt
      clear p0
      have q0 := R2.cell 0
      have f0 := R2.frozen 0
      go_wp2_with fail
      have r0 := (R2.set_ 0 (.slice none 0 0)).cell 0
      refine bodyPost_ret (v := .tuple #[.agg #[.slice none 0 0], .bool false]) (by simp [results, Try.results11, go_sem, r0]) rfl ?_
      exact ⟨_, by rw [HD.out.1], by rw [HD.out.2]; exact OwnF.nil _ _, (b0.trans ((hb1.trans (hb2.mono hb1.size)).mono b0.size)).setCell (p := ⟨w.heap.size + 1, 0, none⟩) (by simp) _⟩
    · have HO := Lib.hid (show decide ((solL ps).length = 1) = true from ho)
      have hsv : solvedB ps = true := by have h2 : decide ((solL ps).length = 1) = true := ho; simp only [solvedB, hp, h2]; rfl
      have HD := Lib.hid (show solvedB ps = true ∧ hpR ps = hpF ps.length ps 0 by simp only [hpR, hsv, if_true]; exact ⟨trivial, trivial⟩)
      have h6 := puzB_len hp
      clear hp ho hsv
      go_enter Try.func11, Try.ntmps11
      go_wp2_with fail
      generalize hu : ((w.alloc (.cells #[.slice A ps.length c] 30)).alloc (.cells #[.slice none 0 0] 30)) = u at *
      have hU := Lib.hid hu
      clear hu
      have p0 := X0.cell 0
      refine (pzGood_any A c ps B u hr0 z0 hn).mono ?_
      rintro e w1 ⟨rfl, hb1⟩
      rw [HP.out]
      have X1 := X0.below hb1 X0.lt
      have R1 := R0.below hb1 R0.lt
      have hr1 := hr0.below hb1 z0
      have z1 := Nat.le_trans z0 hb1.size
      clear p0
      have p0 := X1.cell 0
      go_wp2_with fail
      refine (pzSolved_any A c ps B w1 hr1 z1 hn HK.out).mono ?_
      rintro e w2 ⟨rfl, hb2⟩
      rw [HO.out]
      have R2 := R1.below hb2 R1.lt
      have X2 := X1.below hb2 X1.lt
      have hr2 := hr1.below hb2 z1
      have z2 := Nat.le_trans z1 hb2.size
      have bw2 := b0.trans ((hb1.trans (hb2.mono hb1.size)).mono b0.size)
      have l2 := R2.lt
      clear p0
      have p0 := X2.cell 0
      have t0 := (X2.alloc (.cells #[] 54)).cell 0
      have l3 : w.heap.size + 2 ≤ w2.heap.size := by omega
      go_wp2_with (at_builtin; refine wpList_append_rdF _ rfl _ _ rfl w2.heap.size B (.slice (some ⟨w2.heap.size, 0, none⟩) 0 0) [] ps rfl (OwnF.empty rfl) A ps.length c rfl rfl (hr2.below ((Below.refl B w2).alloc z2 _) (Nat.le_refl _)) (by simp; omega) (by simp) ?_; intro v3 w3 hv3 hb3)
      rw [List.nil_append] at hv3
      have R3 := (R2.alloc (.cells #[] 54)).below hb3 (by omega)
      have bw3 := (bw2.trans ((below_alloc w2 (.cells #[] 54)).mono (by omega))).trans (hb3.mono (by omega))
      go_wp2_with fail
      have hp0 := HP.out
      have z23 : w2.heap.size ≤ w3.heap.size := by have := hb3.size; simp at this; omega
      clear p0 t0 X0 X1 X2 hr0 hr1 hr2 R0 R1 R2 hb1 hb2 hb3
      go_loopw [4, 5, 6] (fun v i _ wr => ∃ (k n : Nat) (qs : List Tri) (Aq : Option Addr) (cq : Nat), i = .int .i64 k ∧ v = .slice Aq qs.length cq ∧ OwnF wr w2.heap.size v qs ∧ hpF n qs k = hpF ps.length ps 0 ∧ qs.length ≤ n + k ∧ k ≤ qs.length ∧ puzB qs = true ∧ Below w3.heap.size w3 wr) (fun v i _ _ => 2 * vLen v - (intOf i).toNat)
      case atStart =>
        obtain ⟨A3, c3, e3⟩ := hv3.form
        exact ⟨0, ps.length, ps, A3, c3, rfl, e3, hv3, rfl, by omega, by omega, hp0, Below.refl _ _⟩
      case round =>
        obtain ⟨k, n, qs, Aq, cq, rfl, rfl, hown, heq, hnk, hkq, hpq, hbw⟩ := hrel
        have hq6 := puzB_len hpq
        have hzw : w3.heap.size ≤ wr.heap.size := hbw.size
        have l4 := R3.lt
        by_cases hlt : k < qs.length
        · have HWo := Lib.hid (pzWithout_any Aq cq qs k wr.heap.size wr hown.rd (Nat.le_refl _) (by omega) hlt)
          have hpw := puz_wo9 hpq hlt
          have HWL := Lib.hid (wo_len hlt)
          have HE := Lib.hid heq
          clear heq
          go_wp2_with fail
          refine HWo.out.mono ?_
          rintro e w4 ⟨v4, rfl, o4, hb4⟩
          obtain ⟨A4, c4, hv4⟩ := o4.form
          subst hv4
          go_wp2_with fail
          refine (pzSolved_any A4 c4 (wo qs k) w4.heap.size w4 o4.rd (Nat.le_refl _) (by rw [HWL.out]; omega) (puz_kinds hpw)).mono ?_
          rintro e w5 ⟨rfl, hb5⟩
          have hbw5 := (hbw.trans (hb4.mono hzw)).trans (hb5.mono (Nat.le_trans hzw hb4.size))
          cases hs : oneB (wo qs k)
          · have hs2 : decide ((solL (wo qs k)).length = 1) = false := hs
            have HN := Lib.hid ((hpF_no hlt hnk hs).symm.trans HE.out)
            have hown5 := (hown.below hb4 (Nat.le_refl _)).below hb5 (Nat.le_refl _)
            rw [hs2]
            clear hs hs2 HE HWo hown o4 hb4 hb5 hpw hbw
            go_wp2_with fail
            go_roundw
            case rel => exact ⟨k + 1, n - 1, qs, Aq, cq, by go_num, rfl, hown5, HN.out, by omega, by omega, hpq, hbw5⟩
            case measure => simp [intOf, vLen]; omega
          · have hs2 : decide ((solL (wo qs k)).length = 1) = true := hs
            have HN := Lib.hid ((hpF_yes hlt hnk hs).symm.trans HE.out)
            have hown5 := (o4.below hb5 (Nat.le_refl _)).mono (show w2.heap.size ≤ wr.heap.size by omega)
            rw [hs2]
            clear hs hs2 HE HWo hown o4 hb4 hb5 hbw
            go_wp2_with fail
            go_roundw
            case rel => exact ⟨k, n - 1, wo qs k, A4, c4, rfl, rfl, hown5, HN.out, by have := HWL.out; omega, by have := HWL.out; omega, hpw, hbw5⟩
            case measure => have := HWL.out; simp [intOf, vLen]; omega
        · have R4 := R3.below hbw l4
          have q0 := R4.cell 0
          have f0 := R4.frozen 0
          have hqe : qs = hpF ps.length ps 0 := (hpF_end hlt).symm.trans heq
          have HQ := Lib.hid hqe
          have lt1 := fun i h => (hown.lt i h).1
          clear hqe heq
          go_wp2_with fail
          have r0 := (R4.set_ 0 (.slice Aq qs.length cq)).cell 0
          refine bodyPost_ret (v := .tuple #[.agg #[.slice Aq qs.length cq], .bool true]) (by simp [results, Try.results11, go_sem, r0]) rfl ?_
          refine ⟨_, by rw [HD.out.1], ?_, (bw3.trans (hbw.mono (by omega))).setCell (p := ⟨w.heap.size + 1, 0, none⟩) (by simp) _⟩
          rw [HD.out.2, ← HQ.out]
          exact OwnF.turned (hown.mono (by omega)) (L := [w.heap.size + 1]) ⟨(below_set wr).os, (below_set wr).tape, (below_set wr).output, (below_set wr).size, fun i _ hi => Below.heap_setCell wr _ _ i (by simpa using hi)⟩ (fun i hi h2 => by have := lt1 i hi; simp at h2; omega)

theorem clone9F_any (a : Addr) (c : Nat) (xs : List Tri) (B : Nat) (w : World) (hr : RdF w B (some a) c xs) (hB : B ≤ w.heap.size) (hn : xs.length ≤ 1048576) :
    Calls Try.prog 32 #[.slice (some a) xs.length c] w fun e w' => ∃ v, e = .returned v ∧ OwnF w' w.heap.size v xs ∧ Below w.heap.size w w' := by
  have hne : ∀ u : World, Sem.run Try.prog (binOp BinOp.eql 28 (.slice (some a) xs.length c) (.slice none 0 0)) u = .ok (.bool false) u := fun _ => by kernel_rfl
  go_enter Try.func32, Try.ntmps32
  go_wp2_with (at_builtin; refine wpList_append_rdF _ rfl _ _ rfl w.heap.size B (.slice (some ⟨w.heap.size, 0, none⟩) 0 0) [] xs rfl (OwnF.empty rfl) (some a) xs.length c rfl rfl (hr.below ((Below.refl B w).alloc hB _) (Nat.le_refl _)) (by simp; omega) (by simp) ?_; intro v1 w1 hv1 hb1)
  go_ret
  exact ⟨v1, rfl, by simpa using hv1, (below_alloc _ _).trans hb1⟩

set_option maxHeartbeats 1000000 in
theorem implHarder_any (A : Option Addr) (c : Nat) (ps : List Tri) (B : Nat) (w : World) (hr : RdF w B A c ps) (hB : B ≤ w.heap.size) (hn : ps.length ≤ 1048576) :
    Calls Try.prog 12 #[pzv A ps.length c] w (NewP w (hpR ps) (solvedB ps)) := by
  have X0 : Blk ((w.alloc (.cells #[.slice A ps.length c] 30)).alloc (.cells #[.slice none 0 0] 30)) w.heap.size 30 #[.slice A ps.length c] := (Blk.new' (by simp)).alloc _
  have R0 : Blk ((w.alloc (.cells #[.slice A ps.length c] 30)).alloc (.cells #[.slice none 0 0] 30)) (w.heap.size + 1) 30 #[.slice none 0 0] := Blk.new' (by simp)
  have b0 : Below w.heap.size w ((w.alloc (.cells #[.slice A ps.length c] 30)).alloc (.cells #[.slice none 0 0] 30)) := (below_alloc _ _).alloc (by simp) _
  have hr0 := hr.below ((Below.refl B w).alloc hB (.cells #[.slice A ps.length c] 30) |>.alloc (by simp; omega) (.cells #[.slice none 0 0] 30)) (Nat.le_refl _)
  have z0 : B ≤ ((w.alloc (.cells #[.slice A ps.length c] 30)).alloc (.cells #[.slice none 0 0] 30)).heap.size := by simp; omega
  have zz : w.heap.size + 2 ≤ ((w.alloc (.cells #[.slice A ps.length c] 30)).alloc (.cells #[.slice none 0 0] 30)).heap.size := by simp
  clear hr
  cases hp : solvedB ps
  · have HP := Lib.hid hp
    have HD := Lib.hid (show hpR ps = [] by simp [hpR, hp])
    clear hp
    go_enter Try.func12, Try.ntmps12
    go_wp2_with fail
    generalize hu : ((w.alloc (.cells #[.slice A ps.length c] 30)).alloc (.cells #[.slice none 0 0] 30)) = u at *
    have hU := Lib.hid hu
    clear hu
    have p0 := X0.cell 0
    refine (implSolved_any A c ps B u hr0 z0 hn).mono ?_
    rintro e w1 ⟨rfl, hb1⟩
    rw [HP.out]
    have R1 := R0.below hb1 R0.lt
    have q0 := R1.cell 0
    have f0 := R1.frozen 0
    generalize puzB ps = pb at *
    go_wp2_with fail
    have r0 := (R1.set_ 0 (.slice none 0 0)).cell 0
    refine bodyPost_ret (v := .tuple #[.agg #[.slice none 0 0], .bool false]) (by simp [results, Try.results12, go_sem, r0]) rfl ?_
    exact ⟨_, rfl, by rw [HD.out]; exact OwnF.nil _ _, (b0.trans (hb1.mono b0.size)).setCell (p := ⟨w.heap.size + 1, 0, none⟩) (by simp) _⟩
  · have HP := Lib.hid hp
    have hpz : puzB ps = true := by simp only [solvedB, Bool.and_eq_true] at hp; exact hp.1
    have HD := Lib.hid (show hpR ps = hpF ps.length ps 0 by simp [hpR, hp])
    have h6 := puzB_len hpz
    have HZ := Lib.hid hpz
    obtain ⟨a, rfl⟩ : ∃ a, A = some a := by
      cases A with
      | some a => exact ⟨a, rfl⟩
      | none =>
        have he : ps = [] := by
          cases ps with
          | nil => rfl
          | cons y r =>
            obtain ⟨b, o, e, _⟩ := hr0.2 0 (by simp)
            cases e
        subst he
        exact absurd hp (by decide +kernel)
    clear hp hpz
    go_enter Try.func12, Try.ntmps12
    go_wp2_with fail
    generalize hu : ((w.alloc (.cells #[.slice (some a) ps.length c] 30)).alloc (.cells #[.slice none 0 0] 30)) = u at *
    have hU := Lib.hid hu
    clear hu
    refine (implSolved_any (some a) c ps B u hr0 z0 hn).mono ?_
    rintro e w1 ⟨rfl, hb1⟩
    rw [HP.out, HZ.out]
    have X1 := X0.below hb1 X0.lt
    have R1 := R0.below hb1 R0.lt
    have hr1 := hr0.below hb1 z0
    have z1 := Nat.le_trans z0 hb1.size
    have l1 := R1.lt
    have p0 := X1.cell 0
    go_wp2_with fail
    refine (clone9F_any a c ps B w1 hr1 z1 hn).mono ?_
    rintro e w2 ⟨v2, rfl, o2, hb2⟩
    obtain ⟨A2, c2, hv2⟩ := o2.form
    subst hv2
    have bw2 := b0.trans ((hb1.trans (hb2.mono hb1.size)).mono b0.size)
    have R2 := R1.below hb2 R1.lt
    have zw2 := hb2.size
    have lo2 := fun i h => (o2.lt i h).2
    go_wp2_with fail
    have G0 : Blk (w2.alloc (.cells #[.slice A2 ps.length c2] 30)) w2.heap.size 30 #[.slice A2 ps.length c2] := Blk.new _ _ _
    have o3 : OwnF (w2.alloc (.cells #[.slice A2 ps.length c2] 30)) w1.heap.size (.slice A2 ps.length c2) ps := o2.alloc _
    have b3 : Below w2.heap.size w2 (w2.alloc (.cells #[.slice A2 ps.length c2] 30)) := below_alloc _ _
    generalize hu3 : w2.alloc (.cells #[.slice A2 ps.length c2] 30) = u3 at *
    have HU3 := Lib.hid hu3
    clear hu3 p0 X0 X1 hr0 hr1 R0 R1 hb1 hb2 o2
    have hp0 := HZ.out
    go_loopw [7, 8, 9, 10] (fun i _ _ _ wr => ∃ (k n : Nat) (qs : List Tri) (Aq : Option Addr) (cq : Nat), i = .int .i64 k ∧ Blk wr w2.heap.size 30 #[.slice Aq qs.length cq] ∧ OwnF wr w1.heap.size (.slice Aq qs.length cq) qs ∧ (Value.slice Aq qs.length cq).ownBlock ≠ some w2.heap.size ∧ hpF n qs k = hpF ps.length ps 0 ∧ qs.length ≤ n + k ∧ k ≤ qs.length ∧ puzB qs = true ∧ Below w2.heap.size w2 wr) (fun i _ _ _ wr => 2 * cLen wr w2.heap.size - (intOf i).toNat)
    case atStart => exact ⟨0, ps.length, ps, A2, c2, rfl, G0, o3, (fun h => by have := lo2 _ h; omega), rfl, by omega, by omega, hp0, b3⟩
    case round =>
      obtain ⟨k, n, qs, Aq, cq, rfl, hG, hown, hne, heq, hnk, hkq, hpq, hbw⟩ := hrel
      have hq6 := puzB_len hpq
      have hzw : w2.heap.size ≤ wr.heap.size := hbw.size
      have g0 := hG.cell 0
      have lG := hG.lt
      have cl0 : cLen wr w2.heap.size = qs.length := by simp [cLen, g0, vLen]
      by_cases hlt : k < qs.length
      · have HWo := Lib.hid (withoutClue_any Aq cq qs k wr.heap.size wr hown.rd (Nat.le_refl _) hq6 hlt)
        have hpw := puz_wo9 hpq hlt
        have HWL := Lib.hid (wo_len hlt)
        have HE := Lib.hid heq
        have HCL := Lib.hid cl0
        clear heq cl0
        go_wp2_with fail
        refine HWo.out.mono ?_
        rintro e w4 ⟨v4, rfl, o4, hb4⟩
        obtain ⟨A4, c4, hv4⟩ := o4.form
        subst hv4
        have hG4 := hG.below hb4 lG
        have g4 := hG4.cell 0
        have lo4 := fun i h => (o4.lt i h).1
        clear g0
        go_wp2_with fail
        have o5 := o4.alloc (.cells #[.slice A4 (wo qs k).length c4] 30)
        have N5 : Blk (w4.alloc (.cells #[.slice A4 (wo qs k).length c4] 30)) w4.heap.size 30 #[.slice A4 (wo qs k).length c4] := Blk.new _ _ _
        have b5 : Below w4.heap.size w4 (w4.alloc (.cells #[.slice A4 (wo qs k).length c4] 30)) := below_alloc _ _
        refine (implSolved_any A4 c4 (wo qs k) _ _ o5.rd (Nat.le_refl _) (by rw [HWL.out]; omega)).mono ?_
        rintro e w5 ⟨rfl, hb5⟩
        have b6 : Below w4.heap.size w4 w5 := b5.trans (hb5.mono b5.size)
        have hG5 := hG4.below b6 (hG4.lt)
        have N6 := N5.below hb5 N5.lt
        have o6 := o5.below hb5 (Nat.le_refl _)
        have hbw5 := (hbw.trans (hb4.mono hzw)).trans (b6.mono (Nat.le_trans hzw hb4.size))
        have hown5 := (hown.below hb4 (Nat.le_refl _)).below b6 (Nat.le_refl _)
        have e5 : solvedB (wo qs k) = oneB (wo qs k) := by simp [solvedB, oneB, hpw]
        rw [e5, hpw]
        have zb4 := hb4.size
        clear g4 N5 b5 hb5 o4 o5 hG hG4 hown e5 hb4 b6
        have g5 := hG5.cell 0
        have f5 := hG5.frozen 0
        have n5 := N6.cell 0
        cases hs : oneB (wo qs k)
        · have HN := Lib.hid ((hpF_no hlt hnk hs).symm.trans HE.out)
          have HC5 := Lib.hid (show cLen w5 w2.heap.size = qs.length by simp [cLen, g5, vLen])
          clear hs HE HWo
          go_wp2_with fail
          go_roundw
          case rel => exact ⟨k + 1, n - 1, qs, Aq, cq, by go_num, hG5, hown5, hne, HN.out, by omega, by omega, hpq, hbw5⟩
          case measure => rw [HCL.out, HC5.out]; simp [intOf]; omega
        · have HN := Lib.hid ((hpF_yes hlt hnk hs).symm.trans HE.out)
          have G7 := hG5.set_ 0 (.slice A4 (wo qs k).length c4)
          have HC5 := Lib.hid (show cLen (w5.setCell ⟨w2.heap.size, 0, none⟩ (.slice A4 (wo qs k).length c4)) w2.heap.size = (wo qs k).length by simp only [cLen, G7.cell 0]; simp [vLen])
          have hne7 : (Value.slice A4 (wo qs k).length c4).ownBlock ≠ some w2.heap.size := fun h => by have := lo4 _ h; omega
          have o7 : OwnF (w5.setCell ⟨w2.heap.size, 0, none⟩ (.slice A4 (wo qs k).length c4)) w1.heap.size (.slice A4 (wo qs k).length c4) (wo qs k) := OwnF.turned (o6.mono (by omega)) (L := [w2.heap.size]) ⟨(below_set w5).os, (below_set w5).tape, (below_set w5).output, (below_set w5).size, fun i _ hi => Below.heap_setCell w5 _ _ i (by simpa using hi)⟩ (fun i hi h2 => by simp at h2; subst h2; exact hne7 hi)
          have b7 := hbw5.setCell (p := ⟨w2.heap.size, 0, none⟩) (Nat.le_refl _) (.slice A4 (wo qs k).length c4)
          clear hs HE HWo
          go_wp2_with fail
          go_roundw
          case rel => exact ⟨k, n - 1, wo qs k, A4, c4, rfl, G7, o7, hne7, HN.out, by have := HWL.out; omega, by have := HWL.out; omega, hpw, b7⟩
          case measure => rw [HCL.out, HC5.out, HWL.out]; simp [intOf]; omega
      · have R4 := R2.below hbw R2.lt
        have q0 := R4.cell 0
        have f0 := R4.frozen 0
        have l4 := R2.lt
        have HQ := Lib.hid (show qs = hpF ps.length ps 0 from (hpF_end hlt).symm.trans heq)
        have lt1 := fun i h => (hown.lt i h).1
        clear heq cl0
        go_wp2_with fail
        have r0 := (R4.set_ 0 (.slice Aq qs.length cq)).cell 0
        refine bodyPost_ret (v := .tuple #[.agg #[.slice Aq qs.length cq], .bool true]) (by simp [results, Try.results12, go_sem, r0]) rfl ?_
        refine ⟨_, rfl, ?_, (bw2.trans (hbw.mono (by omega))).setCell (p := ⟨w.heap.size + 1, 0, none⟩) (by simp) _⟩
        rw [HD.out, ← HQ.out]
        exact OwnF.turned (hown.mono (by omega)) (L := [w.heap.size + 1]) ⟨(below_set wr).os, (below_set wr).tape, (below_set wr).output, (below_set wr).size, fun i _ hi => Below.heap_setCell wr _ _ i (by simpa using hi)⟩ (fun i hi h2 => by have := lt1 i hi; simp at h2; omega)

end Go.Proofs.Yteljaafehnhmcaa
