/- Contracts: the first solution, on both sides. -/
import Derived.Test.YtmiojofeoaocfaaPzO
namespace Go.Proofs.Ytmiojofeoaocfaa
open Go.RowKit
set_option maxRecDepth 100000

def fsR (ps : List Tri) : Rc := (solR ps).headD (0, [], [])
def fsB (ps : List Tri) : Bool := !(solR ps).isEmpty
theorem fs_nil {ps : List Tri} (h : solR ps = []) : fsR ps = (0, [], []) := by simp [fsR, h]
theorem fsB_nil {ps : List Tri} (h : solR ps = []) : fsB ps = false := by simp [fsB, h]
theorem fs_cons {ps : List Tri} {r : Rc} {rs : List Rc} (h : solR ps = r :: rs) : fsR ps = r := by simp [fsR, h]
theorem fsB_cons {ps : List Tri} {r : Rc} {rs : List Rc} (h : solR ps = r :: rs) : fsB ps = true := by simp [fsB, h]
theorem solR_hid {ps : List Tri} : ∀ r ∈ solR ps, hidB r.1 r.2.1 r.2.2 = true := by
  intro r hr
  unfold solR at hr
  split at hr
  · exact hidL_mem (List.mem_filter.1 hr).1
  · simp at hr
theorem fs_len (ps : List Tri) : (fsR ps).2.1.length ≤ 1048576 ∧ (fsR ps).2.2.length ≤ 1048576 := by
  cases h : solR ps with
  | nil => rw [fs_nil h]; simp
  | cons r rs =>
    rw [fs_cons h]
    have h1 := solR_hid (ps := ps) r (by rw [h]; simp)
    simp only [hidB, goodB, Bool.and_eq_true, decide_eq_true_eq] at h1
    have h2 := inB_le h1.1.2.1
    omega
theorem Stock.len_le {w : World} {B : Nat} {v : Value} {L : Lr} (_ : Stock w B v L) (h : (recL L).length ≤ 196) : (elsL L).length ≤ 196 := by
  rw [elsL_len, ← recL_len]; exact h

set_option maxHeartbeats 1000000 in
theorem implFirstSol_any (A : Option Addr) (c : Nat) (ps : List Tri) (B : Nat) (w : World) (hr : RdF w B A c ps) (hB : B ≤ w.heap.size) (hn : ps.length ≤ 1048576) :
    Calls Try.prog 37 #[pzv A ps.length c] w (NewSt (fsR ps).1 (fsR ps).2.1 (fsR ps).2.2 (fsB ps) w) := by
  have X0 : Blk ((w.alloc (.cells #[.slice A ps.length c] 35)).alloc (.cells #[.int .i64 0, .slice none 0 0, .slice none 0 0] 45)) w.heap.size 35 #[.slice A ps.length c] := (Blk.new _ _ _).alloc _
  have Y0 : Blk ((w.alloc (.cells #[.slice A ps.length c] 35)).alloc (.cells #[.int .i64 0, .slice none 0 0, .slice none 0 0] 45)) (w.heap.size + 1) 45 #[.int .i64 0, .slice none 0 0, .slice none 0 0] := Blk.new' (by simp)
  have b0 : Below w.heap.size w ((w.alloc (.cells #[.slice A ps.length c] 35)).alloc (.cells #[.int .i64 0, .slice none 0 0, .slice none 0 0] 45)) := (below_alloc _ _).alloc (by simp) _
  have hr0 := hr.below b0 hB
  have p0 := X0.cell 0
  have z0 : B ≤ ((w.alloc (.cells #[.slice A ps.length c] 35)).alloc (.cells #[.int .i64 0, .slice none 0 0, .slice none 0 0] 45)).heap.size := by simp; omega
  have zz : w.heap.size + 2 ≤ ((w.alloc (.cells #[.slice A ps.length c] 35)).alloc (.cells #[.int .i64 0, .slice none 0 0, .slice none 0 0] 45)).heap.size := by simp
  have hN := Lib.hid hn
  clear hr p0
  go_enter Try.func37, Try.ntmps37
  go_wp2_with fail
  refine (implSol_any A c ps B _ hr0 z0 hn).mono ?_
  rintro e w1 ⟨hb1, v, L, rfl, hL, hst⟩
  have Y1 := Y0.below hb1 Y0.lt
  have hbw := b0.trans (hb1.mono b0.size)
  clear X0 Y0 hb1 hr0 z0 b0
  generalize hPP : ((w.alloc (.cells #[.slice A ps.length c] 35)).alloc (.cells #[.int .i64 0, .slice none 0 0, .slice none 0 0] 45)).heap.size = PP at *
  have HPP := Lib.hid hPP
  clear hPP
  cases L with
  | nil =>
    have HR := Lib.hid (show solR ps = [] by rw [← hL]; rfl)
    obtain ⟨A2, c2, hv2⟩ := hst.row.form
    subst hv2
    obtain ⟨q0, f0, q1, f1, q2, f2⟩ := set3_mid (.int .i64 0) (.slice none 0 0) Y1
    obtain ⟨r0, r1, r2⟩ := (set3_blk (x := .int .i64 0) (y := .slice none 0 0) (z := .slice none 0 0) Y1).three
    have B3 := set3_below (x := .int .i64 0) (y := .slice none 0 0) (z := .slice none 0 0) hbw (show w.heap.size ≤ w.heap.size + 1 by omega)
    simp only [set3] at r0 r1 r2
    clear hst hL
    go_wp2_with fail
    refine bodyPost_ret (v := .tuple #[.agg #[.int .i64 0, .slice none 0 0, .slice none 0 0], .bool false]) (by simp [results, Try.results37, go_sem, r0, r1, r2]) rfl ?_
    exact ⟨_, _, by rw [fsB_nil HR.out, fs_nil HR.out], by rw [fs_nil HR.out]; exact OwnI.nil _ _, by rw [fs_nil HR.out]; exact OwnI.nil _ _, (fun k _ e2 => by cases e2), B3⟩
  | cons x L' =>
    obtain ⟨⟨st', v1, v2⟩, ⟨st, ss, bs⟩⟩ := x
    have HR := Lib.hid (show ∃ rs, solR ps = (st, ss, bs) :: rs from ⟨_, by rw [← hL]; rfl⟩)
    obtain ⟨rs, hrs⟩ := HR.out
    have HRS := Lib.hid hrs
    obtain ⟨h0, hO1, hO2, hap⟩ := hst.own ((st', v1, v2), (st, ss, bs)) (by simp)
    dsimp only at h0 hO1 hO2 hap
    subst h0
    obtain ⟨A2, c2, hv2⟩ := hst.row.form
    subst hv2
    obtain ⟨g, hA2, hg, ⟨c0', c1', c2'⟩, _⟩ := hst.row.at_ (k := 0) (by simp [elsL])
    subst hA2
    have c0' : w1.cell? ⟨g, 0, none⟩ = some (.int .i64 st') := c0'
    have c1' : w1.cell? ⟨g, 1, none⟩ = some v1 := c1'
    have c2' : w1.cell? ⟨g, 2, none⟩ = some v2 := c2'
    obtain ⟨A3, c3, hv3, _⟩ := hO1.form
    obtain ⟨A4, c4, hv4, _⟩ := hO2.form
    subst hv3
    subst hv4
    obtain ⟨q0, f0, q1, f1, q2, f2⟩ := set3_mid (.int .i64 st') (.slice A3 ss.length c3) Y1
    obtain ⟨r0, r1, r2⟩ := (set3_blk (x := .int .i64 st') (y := .slice A3 ss.length c3) (z := .slice A4 bs.length c4) Y1).three
    have B3 := set3_below (x := .int .i64 st') (y := .slice A3 ss.length c3) (z := .slice A4 bs.length c4) hbw (show w.heap.size ≤ w.heap.size + 1 by omega)
    have hF1 := (hO1.keep fun k hk => set3_heap (x := .int .i64 st') (y := .slice A3 ss.length c3) (z := .slice A4 bs.length c4) (show k ≠ w.heap.size + 1 by have := (hO1.lt k hk).1; omega)).mono (show w.heap.size ≤ PP by omega)
    have hF2 := (hO2.keep fun k hk => set3_heap (x := .int .i64 st') (y := .slice A3 ss.length c3) (z := .slice A4 bs.length c4) (show k ≠ w.heap.size + 1 by have := (hO2.lt k hk).1; omega)).mono (show w.heap.size ≤ PP by omega)
    have hlen := hst.len_le (by rw [hL]; exact solR_le ps)
    have hl2 : (elsL ((((st', .slice A3 ss.length c3, .slice A4 bs.length c4) : El), ((st', ss, bs) : Rc)) :: L')).length = L'.length + 1 := by simp [elsL]
    rw [hl2] at hlen
    rw [hl2]
    generalize L'.length = m at *
    simp only [set3] at r0 r1 r2
    clear hst hL hl2 hO1 hO2
    go_wp2_with fail
    refine bodyPost_ret (v := .tuple #[.agg #[.int .i64 st', .slice A3 ss.length c3, .slice A4 bs.length c4], .bool true]) (by simp [results, Try.results37, go_sem, r0, r1, r2]) rfl ?_
    exact ⟨_, _, by rw [fsB_cons HRS.out, fs_cons HRS.out], by rw [fs_cons HRS.out]; exact hF1, by rw [fs_cons HRS.out]; exact hF2, hap, B3⟩

set_option maxHeartbeats 1000000 in
theorem specFirstSol_any (A : Option Addr) (c : Nat) (ps : List Tri) (B : Nat) (w : World) (hr : RdF w B A c ps) (hB : B ≤ w.heap.size) (hn : ps.length ≤ 1048576) :
    Calls Try.prog 36 #[pzv A ps.length c] w (NewSt (fsR ps).1 (fsR ps).2.1 (fsR ps).2.2 (fsB ps) w) := by
  have X0 : Blk ((w.alloc (.cells #[.slice A ps.length c] 35)).alloc (.cells #[.int .i64 0, .slice none 0 0, .slice none 0 0] 45)) w.heap.size 35 #[.slice A ps.length c] := (Blk.new _ _ _).alloc _
  have Y0 : Blk ((w.alloc (.cells #[.slice A ps.length c] 35)).alloc (.cells #[.int .i64 0, .slice none 0 0, .slice none 0 0] 45)) (w.heap.size + 1) 45 #[.int .i64 0, .slice none 0 0, .slice none 0 0] := Blk.new' (by simp)
  have b0 : Below w.heap.size w ((w.alloc (.cells #[.slice A ps.length c] 35)).alloc (.cells #[.int .i64 0, .slice none 0 0, .slice none 0 0] 45)) := (below_alloc _ _).alloc (by simp) _
  have hr0 := hr.below b0 hB
  have p0 := X0.cell 0
  have z0 : B ≤ ((w.alloc (.cells #[.slice A ps.length c] 35)).alloc (.cells #[.int .i64 0, .slice none 0 0, .slice none 0 0] 45)).heap.size := by simp; omega
  have zz : w.heap.size + 2 ≤ ((w.alloc (.cells #[.slice A ps.length c] 35)).alloc (.cells #[.int .i64 0, .slice none 0 0, .slice none 0 0] 45)).heap.size := by simp
  have hN := Lib.hid hn
  clear hr
  cases hp : puzB ps
  · have HP := Lib.hid hp
    have HR := Lib.hid (show solR ps = [] by simp [solR, hp])
    clear hp p0
    go_enter Try.func36, Try.ntmps36
    go_wp2_with fail
    refine (pzGood_any A c ps B _ hr0 z0 hn).mono ?_
    rintro e w1 ⟨rfl, hb1⟩
    rw [HP.out]
    have Y1 := Y0.below hb1 Y0.lt
    have hbw := b0.trans (hb1.mono b0.size)
    obtain ⟨q0, f0, q1, f1, q2, f2⟩ := set3_mid (.int .i64 0) (.slice none 0 0) Y1
    obtain ⟨r0, r1, r2⟩ := (set3_blk (x := .int .i64 0) (y := .slice none 0 0) (z := .slice none 0 0) Y1).three
    have B3 := set3_below (x := .int .i64 0) (y := .slice none 0 0) (z := .slice none 0 0) hbw (show w.heap.size ≤ w.heap.size + 1 by omega)
    simp only [set3] at r0 r1 r2
    clear X0 Y0 hb1 hr0 z0 b0
    go_wp2_with fail
    refine bodyPost_ret (v := .tuple #[.agg #[.int .i64 0, .slice none 0 0, .slice none 0 0], .bool false]) (by simp [results, Try.results36, go_sem, r0, r1, r2]) rfl ?_
    exact ⟨_, _, by rw [fsB_nil HR.out, fs_nil HR.out], by rw [fs_nil HR.out]; exact OwnI.nil _ _, by rw [fs_nil HR.out]; exact OwnI.nil _ _, (fun k _ e2 => by cases e2), B3⟩
  · have HP := Lib.hid hp
    have HK := Lib.hid (puz_kinds hp)
    clear hp
    go_enter Try.func36, Try.ntmps36
    go_wp2_with fail
    generalize hu : ((w.alloc (.cells #[.slice A ps.length c] 35)).alloc (.cells #[.int .i64 0, .slice none 0 0, .slice none 0 0] 45)) = u at *
    have hU := Lib.hid hu
    clear hu
    refine (pzGood_any A c ps B _ hr0 z0 hn).mono ?_
    rintro e w1 ⟨rfl, hb1⟩
    rw [HP.out]
    have p1 := (X0.below hb1 X0.lt).cell 0
    clear p0
    go_wp2_with fail
    refine (pzAll_any A c ps w1.heap.size w1 ((hr0.below hb1 z0).more (Nat.le_trans z0 hb1.size)) (Nat.le_refl _) hN.out HK.out).mono ?_
    rintro e w2 ⟨v, L, rfl, hL, hst, hb2⟩
    have hL : recL L = solR ps := by rw [hL]; simp [solR, HP.out, solL]
    have zp : w.heap.size + 2 ≤ w1.heap.size := Nat.le_trans zz hb1.size
    have Y1 := (Y0.below hb1 Y0.lt).below hb2 (by omega)
    have hbw := (b0.trans (hb1.mono b0.size)).trans (hb2.mono (by omega))
    clear X0 Y0 hb1 hb2 hr0 z0 b0 p1
    cases L with
    | nil =>
      have HR := Lib.hid (show solR ps = [] by rw [← hL]; rfl)
      obtain ⟨A2, c2, hv2⟩ := hst.row.form
      subst hv2
      obtain ⟨q0, f0, q1, f1, q2, f2⟩ := set3_mid (.int .i64 0) (.slice none 0 0) Y1
      obtain ⟨r0, r1, r2⟩ := (set3_blk (x := .int .i64 0) (y := .slice none 0 0) (z := .slice none 0 0) Y1).three
      have B3 := set3_below (x := .int .i64 0) (y := .slice none 0 0) (z := .slice none 0 0) hbw (show w.heap.size ≤ w.heap.size + 1 by omega)
      simp only [set3] at r0 r1 r2
      clear hst hL
      go_wp2_with fail
      refine bodyPost_ret (v := .tuple #[.agg #[.int .i64 0, .slice none 0 0, .slice none 0 0], .bool false]) (by simp [results, Try.results36, go_sem, r0, r1, r2]) rfl ?_
      exact ⟨_, _, by rw [fsB_nil HR.out, fs_nil HR.out], by rw [fs_nil HR.out]; exact OwnI.nil _ _, by rw [fs_nil HR.out]; exact OwnI.nil _ _, (fun k _ e2 => by cases e2), B3⟩
    | cons x L' =>
      obtain ⟨⟨st', v1, v2⟩, ⟨st, ss, bs⟩⟩ := x
      have HR := Lib.hid (show ∃ rs, solR ps = (st, ss, bs) :: rs from ⟨_, by rw [← hL]; rfl⟩)
      obtain ⟨rs, hrs⟩ := HR.out
      have HRS := Lib.hid hrs
      obtain ⟨h0, hO1, hO2, hap⟩ := hst.own ((st', v1, v2), (st, ss, bs)) (by simp)
      dsimp only at h0 hO1 hO2 hap
      subst h0
      obtain ⟨A2, c2, hv2⟩ := hst.row.form
      subst hv2
      obtain ⟨g, hA2, hg, ⟨c0', c1', c2'⟩, _⟩ := hst.row.at_ (k := 0) (by simp [elsL])
      subst hA2
      have c0' : w2.cell? ⟨g, 0, none⟩ = some (.int .i64 st') := c0'
      have c1' : w2.cell? ⟨g, 1, none⟩ = some v1 := c1'
      have c2' : w2.cell? ⟨g, 2, none⟩ = some v2 := c2'
      obtain ⟨A3, c3, hv3, _⟩ := hO1.form
      obtain ⟨A4, c4, hv4, _⟩ := hO2.form
      subst hv3
      subst hv4
      obtain ⟨q0, f0, q1, f1, q2, f2⟩ := set3_mid (.int .i64 st') (.slice A3 ss.length c3) Y1
      obtain ⟨r0, r1, r2⟩ := (set3_blk (x := .int .i64 st') (y := .slice A3 ss.length c3) (z := .slice A4 bs.length c4) Y1).three
      have B3 := set3_below (x := .int .i64 st') (y := .slice A3 ss.length c3) (z := .slice A4 bs.length c4) hbw (show w.heap.size ≤ w.heap.size + 1 by omega)
      have hF1 := (hO1.keep fun k hk => set3_heap (x := .int .i64 st') (y := .slice A3 ss.length c3) (z := .slice A4 bs.length c4) (show k ≠ w.heap.size + 1 by have := (hO1.lt k hk).1; omega)).mono (show w.heap.size ≤ w1.heap.size by omega)
      have hF2 := (hO2.keep fun k hk => set3_heap (x := .int .i64 st') (y := .slice A3 ss.length c3) (z := .slice A4 bs.length c4) (show k ≠ w.heap.size + 1 by have := (hO2.lt k hk).1; omega)).mono (show w.heap.size ≤ w1.heap.size by omega)
      have hlen := hst.len_le (by rw [hL]; exact solR_le ps)
      have hl2 : (elsL ((((st', .slice A3 ss.length c3, .slice A4 bs.length c4) : El), ((st', ss, bs) : Rc)) :: L')).length = L'.length + 1 := by simp [elsL]
      rw [hl2] at hlen
      rw [hl2]
      generalize L'.length = m at *
      simp only [set3] at r0 r1 r2
      clear hst hL hl2 hO1 hO2
      go_wp2_with fail
      refine bodyPost_ret (v := .tuple #[.agg #[.int .i64 st', .slice A3 ss.length c3, .slice A4 bs.length c4], .bool true]) (by simp [results, Try.results36, go_sem, r0, r1, r2]) rfl ?_
      exact ⟨_, _, by rw [fsB_cons HRS.out, fs_cons HRS.out], by rw [fs_cons HRS.out]; exact hF1, by rw [fs_cons HRS.out]; exact hF2, hap, B3⟩

end Go.Proofs.Ytmiojofeoaocfaa
