/- Contracts: a floor more at the top, the program. -/
import Derived.Test.YtmamcjnehnknmaaHoNew
import Derived.Deep.DeepCutAuto
import Derived.Deep.RegionHeld3
import Derived.RegionTactic
import Derived.BigRegion
import Derived.ChangeAlike
namespace Go.Proofs.Ytmamcjnehnknmaa
open Go.RowKit

def addB (ss bs : List Int) (x y : Int) : Bool := goodH ss bs && goodH (ss ++ [x]) (bs ++ [y])
def addU (ss bs : List Int) (x y : Int) : List Int := if addB ss bs x y then ss ++ [x] else []
def addV (ss bs : List Int) (x y : Int) : List Int := if addB ss bs x y then bs ++ [y] else []
theorem addU_length (ss bs : List Int) (x y : Int) : (addU ss bs x y).length ≤ 1048576 := by
  unfold addU
  split
  · next h =>
    simp only [addB, Bool.and_eq_true] at h
    have := (goodH_of h.1).n1
    simp
    omega
  · simp
theorem addV_length (ss bs : List Int) (x y : Int) : (addV ss bs x y).length ≤ 1048576 := by
  unfold addV
  split
  · next h =>
    simp only [addB, Bool.and_eq_true] at h
    have := (goodH_of h.1).n1
    have := (goodH_of h.1).nb
    simp
    omega
  · simp

theorem keep2 {w : World} {g g' : Nat} {t : TypeId} {v0 v1 : Value} (h : Blk w g t #[v0, v1]) (hne : g ≠ g') (u0 u1 : Value) :
    ((w.setCell ⟨g', 0, none⟩ u0).setCell ⟨g', 1, none⟩ u1).cell? ⟨g, 0, none⟩ = some v0 ∧ ((w.setCell ⟨g', 0, none⟩ u0).setCell ⟨g', 1, none⟩ u1).cell? ⟨g, 1, none⟩ = some v1 :=
  ((h.far (p := ⟨g', 0, none⟩) hne u0).far (p := ⟨g', 1, none⟩) hne u1).two
theorem rd_one {w : World} {o : Nat} {x : Int} (h : o = w.heap.size) : Rd (w.alloc (.cells #[.int .i64 x] 3)) (o + 1) (some ⟨o, 0, none⟩) 1 [x] :=
  ⟨Nat.le_refl _, fun k hk => by
    obtain rfl : k = 0 := by simpa using hk
    exact ⟨o, 0, rfl, by omega, by rw [(Blk.new' h).cell]; rfl⟩⟩
set_option maxHeartbeats 1000000 in
theorem oneMore_any (A : Option Addr) (c : Nat) (xs : List Int) (x : Int) (B : Nat) (w : World) (hr : Rd w B A c xs) (_hB : B ≤ w.heap.size) (hn : xs.length ≤ 1048576) :
    Calls Try.prog 42 #[.slice A xs.length c, .int .i64 x] w fun e w' => ∃ A1 c1, e = .returned (.slice A1 (xs.length + 1) c1) ∧ OwnI w' w.heap.size (.slice A1 (xs.length + 1) c1) (xs ++ [x]) ∧ Below w.heap.size w w' := by
  go_enter Try.func42, Try.ntmps42
  go_wp2_with (first | (at_builtin; refine wpList_append_rd' _ rfl _ _ rfl w.heap.size B (.slice none 0 0) [] xs rfl (OwnI.nil _ _) A xs.length c rfl rfl hr (by simp; omega) (Nat.le_refl _) ?_; intro v1 w1 hv1 hb1; have hz1 := hb1.size; simp only [List.nil_append] at hv1) | (at_builtin; refine wpList_pushI _ rfl _ _ rfl w.heap.size _ xs rfl (hv1.alloc _) w1.heap.size x rfl (by simp) hn (by simp; omega) ?_; intro A1 c1 w2 hv2 hb2))
  go_ret
  exact ⟨A1, c1, rfl, hv2, (hb1.alloc hz1 _).trans hb2⟩

set_option maxRecDepth 100000 in
set_option maxHeartbeats 4000000 in
theorem implAdd_any (A A' : Option Addr) (c c' : Nat) (ss bs : List Int) (x y : Int) (B : Nat) (w : World) (h : Ho w B A A' c c' ss bs) (hB : B ≤ w.heap.size) :
    Calls Try.prog 13 #[.agg #[.slice A ss.length c, .slice A' bs.length c'], .int .i64 x, .int .i64 y] w (NewHo (addU ss bs x y) (addV ss bs x y) (addB ss bs x y) w) := by
  cases g : goodH ss bs
  · have hA : addB ss bs x y = false := by simp [addB, g]
    rw [show addU ss bs x y = [] by simp [addU, hA], show addV ss bs x y = [] by simp [addV, hA], hA]
    have H := Lib.hid g
    clear g hA
    obtain ⟨W2, hW⟩ : ∃ W, W = (w.alloc (.cells #[.slice A ss.length c, .slice A' bs.length c'] 26)).alloc (.cells #[.slice none 0 0, .slice none 0 0] 26) := ⟨_, rfl⟩
    have F0 := Fr.first h hB
    rw [← hW] at F0
    have HW := Lib.hid hW
    clear hW
    go_enter Try.func13, Try.ntmps13
    go_wp2_with fail
    rw [← HW.out]
    clear HW
    obtain ⟨p0, p1⟩ := F0.bx.two
    refine (impHouse_any _ _ _ _ _ _ B _ F0.ho (by have := F0.sz; omega)).mono ?_
    rintro e w1 ⟨rfl, hb⟩
    have F1 := F0.below hb F0.sz
    have hz1 := F1.sz
    clear p0 p1 F0 hb
    obtain ⟨p0, p1⟩ := F1.bx.two
    rw [H.out]
    obtain ⟨s0, s1, f0, f1⟩ := F1.rs.four
    go_wp2_with fail
    obtain ⟨t0, t1⟩ := (F1.rs.full2 (.slice none 0 0) (.slice none 0 0)).two
    refine bodyPost_ret (v := .tuple #[.agg #[.slice none 0 0, .slice none 0 0], .bool false]) (by simp [results, Try.results13, go_sem, t0, t1]) rfl ?_
    exact ⟨_, _, rfl, OwnI.nil _ _, OwnI.nil _ _, Apart.nil _, F1.be.trans ((turned_full2 _ _ _ _).frame (by omega) (by have := F1.sz; omega))⟩
  · have G := goodH_of g
    have hns := h.ns
    have hnb := h.nb
    have hl1 := G.n1
    have hl2 := G.nb
    have hl3 : ss.length + 1 ≤ 1048576 := by omega
    have hl4 : bs.length + 1 ≤ 1048576 := by omega
    have H := Lib.hid g
    have hAB : addB ss bs x y = goodH (ss ++ [x]) (bs ++ [y]) := by simp [addB, g]
    have HY : Hid (goodH (ss ++ [x]) (bs ++ [y]) = true → addU ss bs x y = ss ++ [x] ∧ addV ss bs x y = bs ++ [y] ∧ addB ss bs x y = true) := Lib.hid (fun h => by simp [addU, addV, hAB, h])
    have HN : Hid (goodH (ss ++ [x]) (bs ++ [y]) = false → addU ss bs x y = [] ∧ addV ss bs x y = [] ∧ addB ss bs x y = false) := Lib.hid (fun h => by simp [addU, addV, hAB, h])
    clear g hAB G hl1 hl2
    obtain ⟨W2, hW⟩ : ∃ W, W = (w.alloc (.cells #[.slice A ss.length c, .slice A' bs.length c'] 26)).alloc (.cells #[.slice none 0 0, .slice none 0 0] 26) := ⟨_, rfl⟩
    have F0 := Fr.first h hB
    rw [← hW] at F0
    have HW := Lib.hid hW
    clear hW
    go_enter Try.func13, Try.ntmps13
    go_wp2_with fail
    rw [← HW.out]
    clear HW
    obtain ⟨p0, p1⟩ := F0.bx.two
    refine (impHouse_any _ _ _ _ _ _ B _ F0.ho (by have := F0.sz; omega)).mono ?_
    rintro e w1 ⟨rfl, hb⟩
    have F1 := F0.below hb F0.sz
    have hz1 := F1.sz
    clear p0 p1 F0 hb
    obtain ⟨p0, p1⟩ := F1.bx.two
    rw [H.out]
    have hBw := F1.bd
    go_upto_region 3 with fail
    go_cut [8] (fun s8 wx => HoCut (ss ++ [x]) (bs ++ [y]) w B A A' c c' ss bs s8 wx)
    case first =>
      go_region_held3 (fun w' => w'.cell? ⟨w.heap.size, 0, none⟩ = some (.slice A ss.length c) ∧ w'.cell? ⟨w.heap.size, 1, none⟩ = some (.slice A' bs.length c'))
        (first | exact ⟨p0, p1⟩ | exact ⟨q0, q1⟩ | exact ⟨r0, r1⟩ | exact keep2 F3.bx (by omega) _ _ | go_keep)
        (first | (go_at_call 42; (refine (oneMore_any A c ss x B w1.drew F1.drew.ho.rs (by show B ≤ w1.heap.size; omega) hns).mono ?_); rintro e w2 ⟨A1, c1, rfl, hv1, hb0⟩; have hb2 : Below w1.heap.size w1 w2 := below_undrew hb0; replace hv1 : OwnI w2 w1.heap.size (.slice A1 (ss.length + 1) c1) (ss ++ [x]) := hv1; have F2 := F1.below hb2 hz1; have fz2 := F2.sz; obtain ⟨q0, q1⟩ := F2.bx.two; have hz2 := hb2.size) | (go_at_call 42; (refine (oneMore_any A c ss x B (w1.alloc (.cells #[.slice none 0 0, .slice none 0 0] 26)).drew (F1.alloc (.cells #[.slice none 0 0, .slice none 0 0] 26)).drew.ho.rs (by show B ≤ (w1.alloc (.cells #[.slice none 0 0, .slice none 0 0] 26)).heap.size; simp; omega) hns).mono ?_); rintro e w2 ⟨A1, c1, rfl, hv1, hb0⟩; have hb3 : Below (w1.alloc (.cells #[.slice none 0 0, .slice none 0 0] 26)).heap.size (w1.alloc (.cells #[.slice none 0 0, .slice none 0 0] 26)) w2 := below_undrew hb0; have F2 := (F1.alloc (.cells #[.slice none 0 0, .slice none 0 0] 26)).below hb3 (by simp; omega); have fz2 := F2.sz; obtain ⟨q0, q1⟩ := F2.bx.two; have N2 : Blk w2 w1.heap.size 26 #[.slice none 0 0, .slice none 0 0] := (Blk.new _ _ _).below hb3 (by simp); obtain ⟨n0, n1, nf0, nf1⟩ := N2.four; replace hv1 := hv1.mono (B' := w1.heap.size + 1) (by show w1.heap.size + 1 ≤ (w1.alloc (.cells #[.slice none 0 0, .slice none 0 0] 26)).heap.size; simp); have hz2 : w1.heap.size + 1 ≤ w2.heap.size := by have := hb3.size; simp at this; omega) | (go_at_call 42; (refine (oneMore_any A' c' bs y B w2 F2.ho.rb (by omega) hnb).mono ?_); rintro e w3 ⟨A2, c2, rfl, hv2, hb4⟩; have F3 := F2.below hb4 F2.sz; obtain ⟨r0, r1⟩ := F3.bx.two; have hap := apart_of hv1 hv2 (Nat.le_refl _); have hv3 := hv1.below hb4 (Nat.le_refl _); have hz3 := hb4.size; try (have N3 := N2.below hb4 (by omega); obtain ⟨m0, m1, mf0, mf1⟩ := N3.four)) | (go_at_call 42; (refine (oneMore_any A' c' bs y B (w2.alloc (.cells #[.slice none 0 0, .slice none 0 0] 26)) (F2.alloc (.cells #[.slice none 0 0, .slice none 0 0] 26)).ho.rb (by simp; omega) hnb).mono ?_); rintro e w3 ⟨A2, c2, rfl, hv2, hb4⟩; have F3 := (F2.alloc (.cells #[.slice none 0 0, .slice none 0 0] 26)).below hb4 (F2.alloc (.cells #[.slice none 0 0, .slice none 0 0] 26)).sz; obtain ⟨r0, r1⟩ := F3.bx.two; have N3 : Blk w3 w2.heap.size 26 #[.slice none 0 0, .slice none 0 0] := (Blk.new _ _ _).below hb4 (by simp); obtain ⟨m0, m1, mf0, mf1⟩ := N3.four; have hap := apart_of (hv1.alloc (.cells #[.slice none 0 0, .slice none 0 0] 26)) hv2 (Nat.le_refl _); have hv3 := (hv1.alloc (.cells #[.slice none 0 0, .slice none 0 0] 26)).below hb4 (Nat.le_refl _); replace hv2 := hv2.mono (B' := w2.heap.size + 1) (by simp); have hz3 : w2.heap.size + 1 ≤ w3.heap.size := by have := hb4.size; simp at this; omega))
      all_goals (go_wp2_with fail; go_meet; first | exact cut_new F3 (hv3.mono (by omega)) (hv2.mono (by omega)) hap | exact cut_set N3 F3 (by omega) (hv3.mono (by omega)) (hv2.mono (by omega)) (fun k hk => by have := hv1.lt k hk; omega) (fun k hk => by have := hv2.lt k hk; omega) hap)
    case rest =>
      obtain ⟨g, v1, v2, rfl, hgz, hG, o1, o2, hap, F⟩ := hcut
      have hul : (ss ++ [x]).length ≤ 1048576 := by simp; omega
      have hvl : (bs ++ [y]).length ≤ 1048576 := by simp; omega
      generalize ss ++ [x] = us at *
      generalize bs ++ [y] = vs at *
      obtain ⟨A1, c1, hvv, _⟩ := o1.form
      subst hvv
      obtain ⟨A2, c2, hvv, _⟩ := o2.form
      subst hvv
      obtain ⟨k0, k1⟩ := hG.two
      go_wp2_with fail
      refine (impHouse_any A1 A2 c1 c2 us vs wc.heap.size _ ⟨o1.rd, o2.rd, hul, hvl⟩ (Nat.le_refl _)).mono ?_
      rintro e w5 ⟨rfl, hb⟩
      replace F := F.below hb F.sz
      replace o1 := o1.below hb (Nat.le_refl _)
      replace o2 := o2.below hb (Nat.le_refl _)
      replace hG := hG.below hb hG.lt
      have og1 := fun k h => (o1.lt k h).1
      have og2 := fun k h => (o2.lt k h).1
      clear k0 k1
      obtain ⟨k0, k1⟩ := hG.two
      cases hok : goodH us vs
      · have HE := Lib.hid (HN.out hok)
        clear HY HN
        obtain ⟨s0, s1, f0, f1⟩ := F.rs.four
        go_wp2_with fail
        obtain ⟨t0, t1⟩ := (F.rs.full2 (.slice none 0 0) (.slice none 0 0)).two
        refine bodyPost_ret (v := .tuple #[.agg #[.slice none 0 0, .slice none 0 0], .bool false]) (by simp [results, Try.results13, go_sem, t0, t1]) rfl ?_
        rw [HE.out.1, HE.out.2.1, HE.out.2.2]
        exact ⟨_, _, rfl, OwnI.nil _ _, OwnI.nil _ _, Apart.nil _, F.be.trans ((turned_full2 _ _ _ _).frame (by omega) (by have := F.sz; omega))⟩
      · have HE := Lib.hid (HY.out hok)
        clear HY HN
        obtain ⟨s0, s1, f0, f1⟩ := F.rs.four
        go_wp2_with fail
        obtain ⟨t0, t1⟩ := (F.rs.full2 (.slice A1 us.length c1) (.slice A2 vs.length c2)).two
        refine bodyPost_ret (v := .tuple #[.agg #[.slice A1 us.length c1, .slice A2 vs.length c2], .bool true]) (by simp [results, Try.results13, go_sem, t0, t1]) rfl ?_
        rw [HE.out.1, HE.out.2.1, HE.out.2.2]
        exact ⟨_, _, rfl, (o1.turned (turned_full2 _ (w.heap.size + 1) _ _) (fun k hk hm => by have := og1 k hk; simp at hm; omega)).mono (B' := w.heap.size) (by omega), (o2.turned (turned_full2 _ (w.heap.size + 1) _ _) (fun k hk hm => by have := og2 k hk; simp at hm; omega)).mono (B' := w.heap.size) (by omega), hap, F.be.trans ((turned_full2 _ _ _ _).frame (by omega) (by have := F.sz; omega))⟩

end Go.Proofs.Ytmamcjnehnknmaa
