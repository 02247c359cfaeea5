/- Contracts: a house without its last floor, the program. -/
import Derived.Test.YtddeeebjbbnalaaHoDrop
namespace Go.Proofs.Ytddeeebjbbnalaa
open Go.RowKit

theorem step_copyN (w : World) {ops : Array Oper} {o : Oper} {a : Act} {K : Act → World → Prop} {Q : Exit → Act → World → Prop} {E : Prop} (hgd : o.guard = none) (s x : Operand)
    (ho : o.op = .call { callee := .builtin .append, args := #[s, x], argTypes := #[22, 22] }) (B0 B : Nat) (hs : a.eval s = .slice none 0 0) (A : Option Addr) (n c : Nat) (ys : List Int) (hl : n = ys.length) (hx : a.eval x = .slice A n c)
    (hr : Rd w B A c ys) (hn : ys.length ≤ 1048576) (hB : B0 ≤ w.heap.size)
    (h : ∀ A1 c1 w', OwnI w' B0 (.slice A1 n c1) ys → Below B0 w w' → K (a.put o.dst (.slice A1 n c1)) w') :
    if Region.wanted o (yielded ops a.tmps) = true then Oper.wp Try.prog o a w K Q else E := by
  subst hl
  refine step_append_rd w hgd s x ho B0 B (.slice none 0 0) [] ys hs (OwnI.nil _ _) A c hx hr (by simp; omega) hB ?_
  intro v' w' h1 h2 _ _
  simp only [List.nil_append] at h1
  obtain ⟨A1, c1, rfl, _⟩ := h1.form
  exact h A1 c1 w' h1 h2

set_option maxRecDepth 100000 in
set_option maxHeartbeats 4000000 in
theorem implDrop_any (A A' : Option Addr) (c c' : Nat) (ss bs : List Int) (B : Nat) (w : World) (h : Ho w B A A' c c' ss bs) (hB : B ≤ w.heap.size) :
    Calls Try.prog 45 #[.agg #[.slice A ss.length c, .slice A' bs.length c']] w (NewHo (dropU ss bs) (dropV ss bs) (dropB ss bs) w) := by
  cases g : goodH ss bs
  · have hA : dropB ss bs = false := by simp [dropB, g]
    rw [show dropU ss bs = [] by simp [dropU, hA], show dropV ss bs = [] by simp [dropV, hA], hA]
    have H := Lib.hid g
    clear g hA
    obtain ⟨W2, hW⟩ : ∃ W, W = (w.alloc (.cells #[.slice A ss.length c, .slice A' bs.length c'] 27)).alloc (.cells #[.slice none 0 0, .slice none 0 0] 27) := ⟨_, rfl⟩
    have F0 := Fr.first h hB
    rw [← hW] at F0
    have HW := Lib.hid hW
    clear hW
    go_enter Try.func45, Try.ntmps45
    go_wp2_with fail
    rw [← HW.out]
    clear HW
    obtain ⟨p0, p1⟩ := F0.bx.two
    refine (impHouse_any _ _ _ _ _ _ B _ F0.ho (by have := F0.sz; omega)).mono ?_
    rintro e w1 ⟨rfl, hb⟩
    have F1 := F0.below hb F0.sz
    have hz1 := F1.sz
    clear p0 p1 F0 hb
    obtain ⟨p0, p1⟩ := F1.bx.two
    rw [H.out]
    obtain ⟨s0, s1, f0, f1⟩ := F1.rs.four
    go_wp2_with fail
    obtain ⟨t0, t1⟩ := (F1.rs.full2 (.slice none 0 0) (.slice none 0 0)).two
    refine bodyPost_ret (v := .tuple #[.agg #[.slice none 0 0, .slice none 0 0], .bool false]) (by simp [results, Try.results45, go_sem, t0, t1]) rfl ?_
    exact ⟨_, _, rfl, OwnI.nil _ _, OwnI.nil _ _, Apart.nil _, F1.be.trans ((turned_full2 _ _ _ _).frame (by omega) (by have := F1.sz; omega))⟩
  · have G := goodH_of g
    have hns := h.ns
    have hnb := h.nb
    have hcs := h.rs.1
    have hcb := h.rb.1
    have hl1 := G.n1
    have hl0 := G.n0
    have hl2 := G.nb
    have hl3 : ss.length + 1 ≤ bs.length := by omega
    have hl4 : bs.length ≤ ss.length + 1 := by omega
    clear hl2
    have H := Lib.hid g
    have hA : dropB ss bs = goodH (ss.take (ss.length - 1)) (bs.take ss.length) := by rw [drop_good g, dropB, g, Bool.true_and]
    have HY : Hid (goodH (ss.take (ss.length - 1)) (bs.take ss.length) = true → dropU ss bs = ss.take (ss.length - 1) ∧ dropV ss bs = bs.take ss.length ∧ dropB ss bs = true) := Lib.hid (fun h => by simp [dropU, dropV, hA, h])
    have HN : Hid (goodH (ss.take (ss.length - 1)) (bs.take ss.length) = false → dropU ss bs = [] ∧ dropV ss bs = [] ∧ dropB ss bs = false) := Lib.hid (fun h => by simp [dropU, dropV, hA, h])
    obtain ⟨m, hm⟩ : ∃ m, m = ss.length - 1 := ⟨_, rfl⟩
    rw [← hm] at HY HN
    have e0 : IntKind.i64.wrap ((bs.length : Int) - 1) = (ss.length : Int) := by rw [IntWalk.i64_in _ (by omega)]; omega
    have e1 : IntKind.i64.wrap ((ss.length : Int) - 1) = (m : Int) := by rw [IntWalk.i64_in _ (by omega)]; omega
    have e4 : (m : Int) ≤ (c : Int) := by omega
    have e5 : (ss.length : Int) ≤ (c' : Int) := by omega
    have e7 : m ≤ c := by omega
    have e8 : ss.length ≤ c' := by omega
    have l1 : m = (ss.take m).length := by simp; omega
    have l2 : ss.length = (bs.take ss.length).length := by simp; omega
    have L1 := Lib.hid l1
    have L2 := Lib.hid l2
    have T1 := Lib.hid (show m ≤ ss.length by omega)
    have T2 := Lib.hid (show ss.length ≤ bs.length by omega)
    have T3 := Lib.hid (show (ss.take m).length ≤ 1048576 by simp; omega)
    have T4 := Lib.hid (show (bs.take ss.length).length ≤ 1048576 by simp; omega)
    clear g hA G hm l1 l2
    obtain ⟨W2, hW⟩ : ∃ W, W = (w.alloc (.cells #[.slice A ss.length c, .slice A' bs.length c'] 27)).alloc (.cells #[.slice none 0 0, .slice none 0 0] 27) := ⟨_, rfl⟩
    have F0 := Fr.first h hB
    rw [← hW] at F0
    have HW := Lib.hid hW
    clear hW
    go_enter Try.func45, Try.ntmps45
    go_wp2_with fail
    rw [← HW.out]
    clear HW
    obtain ⟨p0, p1⟩ := F0.bx.two
    refine (impHouse_any _ _ _ _ _ _ B _ F0.ho (by have := F0.sz; omega)).mono ?_
    rintro e w1 ⟨rfl, hb⟩
    have F1 := F0.below hb F0.sz
    have hz1 := F1.sz
    clear p0 p1 F0 hb
    obtain ⟨p0, p1⟩ := F1.bx.two
    rw [H.out]
    have hBw := F1.bd
    go_upto_region 4 with fail
    go_cut [5] (fun s5 wx => HoCut (ss.take m) (bs.take ss.length) w B A A' c c' ss bs s5 wx)
    case first =>
      go_region_held3 (fun w' => w'.cell? ⟨w.heap.size, 0, none⟩ = some (.slice A ss.length c) ∧ w'.cell? ⟨w.heap.size, 1, none⟩ = some (.slice A' bs.length c'))
        (first | exact ⟨p0, p1⟩ | exact ⟨q0, q1⟩ | exact ⟨r0, r1⟩ | exact keepR F3.bx (by omega) _ _ | go_keep)
        (first | ((refine step_copyN _ (by rfl) _ _ (by rfl) w1.heap.size B (by rfl) A m c (ss.take m) L1.out (by rfl) (F1.drew.ho.rs.take T1.out) T3.out (by first | (show w1.heap.size ≤ w1.drew.heap.size; omega) | (simp; try omega)) ?_); intro A1 c1 w2 hv1 hb0; have hb2 : Below w1.heap.size w1 w2 := below_undrew hb0; have F2 := F1.below hb2 hz1; have fz2 := F2.sz; obtain ⟨q0, q1⟩ := F2.bx.two; have hz2 := hb2.size) | ((refine step_copyN _ (by rfl) _ _ (by rfl) (w1.alloc (.cells #[.slice none 0 0, .slice none 0 0] 27)).heap.size B (by rfl) A m c (ss.take m) L1.out (by rfl) ((F1.alloc (.cells #[.slice none 0 0, .slice none 0 0] 27)).drew.ho.rs.take T1.out) T3.out (by first | (show (w1.alloc (.cells #[.slice none 0 0, .slice none 0 0] 27)).heap.size ≤ (w1.alloc (.cells #[.slice none 0 0, .slice none 0 0] 27)).drew.heap.size; omega) | (simp; try omega)) ?_); intro A1 c1 w2 hv1 hb0; have hb3 : Below (w1.alloc (.cells #[.slice none 0 0, .slice none 0 0] 27)).heap.size (w1.alloc (.cells #[.slice none 0 0, .slice none 0 0] 27)) w2 := below_undrew hb0; have F2 := (F1.alloc (.cells #[.slice none 0 0, .slice none 0 0] 27)).below hb3 (by simp; omega); have fz2 := F2.sz; obtain ⟨q0, q1⟩ := F2.bx.two; have N2 : Blk w2 w1.heap.size 27 #[.slice none 0 0, .slice none 0 0] := (Blk.new _ _ _).below hb3 (by simp); obtain ⟨n0, n1, nf0, nf1⟩ := N2.four; replace hv1 := hv1.mono (B' := w1.heap.size + 1) (by show w1.heap.size + 1 ≤ (w1.alloc (.cells #[.slice none 0 0, .slice none 0 0] 27)).heap.size; simp); have hz2 : w1.heap.size + 1 ≤ w2.heap.size := by have := hb3.size; simp at this; omega) | ((refine step_copyN _ (by rfl) _ _ (by rfl) w2.heap.size B (by rfl) A' ss.length c' (bs.take ss.length) L2.out (by rfl) (F2.ho.rb.take T2.out) T4.out (by first | (show w2.heap.size ≤ w2.heap.size; omega) | (simp; try omega)) ?_); intro A2 c2 w3 hv2 hb4; have F3 := F2.below hb4 F2.sz; obtain ⟨r0, r1⟩ := F3.bx.two; have hap := apart_of hv1 hv2 (Nat.le_refl _); have hv3 := hv1.below hb4 (Nat.le_refl _); have hz3 := hb4.size; try (have N3 := N2.below hb4 (by omega); obtain ⟨m0, m1, mf0, mf1⟩ := N3.four)) | ((refine step_copyN _ (by rfl) _ _ (by rfl) (w2.alloc (.cells #[.slice none 0 0, .slice none 0 0] 27)).heap.size B (by rfl) A' ss.length c' (bs.take ss.length) L2.out (by rfl) ((F2.alloc (.cells #[.slice none 0 0, .slice none 0 0] 27)).ho.rb.take T2.out) T4.out (by first | (show (w2.alloc (.cells #[.slice none 0 0, .slice none 0 0] 27)).heap.size ≤ (w2.alloc (.cells #[.slice none 0 0, .slice none 0 0] 27)).heap.size; omega) | (simp; try omega)) ?_); intro A2 c2 w3 hv2 hb4; have F3 := (F2.alloc (.cells #[.slice none 0 0, .slice none 0 0] 27)).below hb4 (F2.alloc (.cells #[.slice none 0 0, .slice none 0 0] 27)).sz; obtain ⟨r0, r1⟩ := F3.bx.two; have N3 : Blk w3 w2.heap.size 27 #[.slice none 0 0, .slice none 0 0] := (Blk.new _ _ _).below hb4 (by simp); obtain ⟨m0, m1, mf0, mf1⟩ := N3.four; have hap := apart_of (hv1.alloc (.cells #[.slice none 0 0, .slice none 0 0] 27)) hv2 (Nat.le_refl _); have hv3 := (hv1.alloc (.cells #[.slice none 0 0, .slice none 0 0] 27)).below hb4 (Nat.le_refl _); replace hv2 := hv2.mono (B' := w2.heap.size + 1) (by simp); have hz3 : w2.heap.size + 1 ≤ w3.heap.size := by have := hb4.size; simp at this; omega))
      all_goals (go_wp2_with fail; go_meet; first | exact cut_new F3 (hv3.mono (by omega)) (hv2.mono (by omega)) hap | exact cut_set N3 F3 (by omega) (hv3.mono (by omega)) (hv2.mono (by omega)) (fun k hk => by have := hv1.lt k hk; omega) (fun k hk => by have := hv2.lt k hk; omega) hap)
    case rest =>
      obtain ⟨g, v1, v2, rfl, hgz, hG, o1, o2, hap, F⟩ := hcut
      have hul := T3.out
      have hvl := T4.out
      generalize ss.take m = us at *
      generalize bs.take ss.length = vs at *
      obtain ⟨A1, c1, hvv, _⟩ := o1.form
      subst hvv
      obtain ⟨A2, c2, hvv, _⟩ := o2.form
      subst hvv
      obtain ⟨k0, k1⟩ := hG.two
      go_wp2_with fail
      refine (impHouse_any A1 A2 c1 c2 us vs wc.heap.size _ ⟨o1.rd, o2.rd, hul, hvl⟩ (Nat.le_refl _)).mono ?_
      rintro e w5 ⟨rfl, hb⟩
      replace F := F.below hb F.sz
      replace o1 := o1.below hb (Nat.le_refl _)
      replace o2 := o2.below hb (Nat.le_refl _)
      replace hG := hG.below hb hG.lt
      have og1 := fun k h => (o1.lt k h).1
      have og2 := fun k h => (o2.lt k h).1
      clear k0 k1
      obtain ⟨k0, k1⟩ := hG.two
      cases hok : goodH us vs
      · have HE := Lib.hid (HN.out hok)
        clear HY HN
        obtain ⟨s0, s1, f0, f1⟩ := F.rs.four
        go_wp2_with fail
        obtain ⟨t0, t1⟩ := (F.rs.full2 (.slice none 0 0) (.slice none 0 0)).two
        refine bodyPost_ret (v := .tuple #[.agg #[.slice none 0 0, .slice none 0 0], .bool false]) (by simp [results, Try.results45, go_sem, t0, t1]) rfl ?_
        rw [HE.out.1, HE.out.2.1, HE.out.2.2]
        exact ⟨_, _, rfl, OwnI.nil _ _, OwnI.nil _ _, Apart.nil _, F.be.trans ((turned_full2 _ _ _ _).frame (by omega) (by have := F.sz; omega))⟩
      · have HE := Lib.hid (HY.out hok)
        clear HY HN
        obtain ⟨s0, s1, f0, f1⟩ := F.rs.four
        go_wp2_with fail
        obtain ⟨t0, t1⟩ := (F.rs.full2 (.slice A1 us.length c1) (.slice A2 vs.length c2)).two
        refine bodyPost_ret (v := .tuple #[.agg #[.slice A1 us.length c1, .slice A2 vs.length c2], .bool true]) (by simp [results, Try.results45, go_sem, t0, t1]) rfl ?_
        rw [HE.out.1, HE.out.2.1, HE.out.2.2]
        exact ⟨_, _, rfl, (o1.turned (turned_full2 _ (w.heap.size + 1) _ _) (fun k hk hm => by have := og1 k hk; simp at hm; omega)).mono (B' := w.heap.size) (by omega), (o2.turned (turned_full2 _ (w.heap.size + 1) _ _) (fun k hk hm => by have := og2 k hk; simp at hm; omega)).mono (B' := w.heap.size) (by omega), hap, F.be.trans ((turned_full2 _ _ _ _).frame (by omega) (by have := F.sz; omega))⟩
end Go.Proofs.Ytddeeebjbbnalaa
