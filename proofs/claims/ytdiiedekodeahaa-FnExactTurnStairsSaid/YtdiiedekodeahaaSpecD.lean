/- Contracts: the model's MendStep and TurnStairs. -/
import Derived.Test.YtdiiedekodeahaaSpecC
namespace Go.Proofs.Ytdiiedekodeahaa
open Go.RowKit

theorem blk_three_set {w : World} {g : Nat} {t : TypeId} {v0 v1 v2 : Value} (h : Blk w g t #[v0, v1, v2]) (u : Value) : Blk (w.setCell ⟨g, 2, none⟩ u) g t #[v0, v1, u] := h.set_ 2 u
theorem keep_full {w : World} {g g' : Nat} {t : TypeId} {v0 v1 v2 : Value} (h : Blk w g t #[v0, v1, v2]) (hne : g ≠ g') (u0 u1 u2 : Value) :
    (((w.setCell ⟨g', 0, none⟩ u0).setCell ⟨g', 1, none⟩ u1).setCell ⟨g', 2, none⟩ u2).cell? ⟨g, 0, none⟩ = some v0 ∧ (((w.setCell ⟨g', 0, none⟩ u0).setCell ⟨g', 1, none⟩ u1).setCell ⟨g', 2, none⟩ u2).cell? ⟨g, 1, none⟩ = some v1 := by
  have h3 := ((h.far (p := ⟨g', 0, none⟩) hne u0).far (p := ⟨g', 1, none⟩) hne u1).far (p := ⟨g', 2, none⟩) hne u2
  exact ⟨h3.cell 0, h3.cell 1⟩
theorem turned_set (w : World) (g i : Nat) (u : Value) : Turned w (w.setCell ⟨g, i, none⟩ u) [g] :=
  ⟨rfl, rfl, rfl, by simp [World.setCell], fun k _ hk => Below.heap_setCell _ _ _ _ (fun e => hk (by simp [e]))⟩

set_option maxHeartbeats 2000000 in
theorem specMend_no1 (st : Int) (A A' : Option Addr) (c c' : Nat) (ss bs : List Int) (x : Int) (B : Nat) (w : World) (h : St w B st A A' c c' ss bs) (hB : B ≤ w.heap.size) (hg : goodB st ss bs = false) :
    Calls Try.prog 26 #[stv st A A' c c' ss bs, .int .i64 x] w (SomeSt 0 [] [] false w) := by
  obtain ⟨W2, hW⟩ : ∃ W, W = (w.alloc (.cells #[.int .i64 st, .slice A ss.length c, .slice A' bs.length c'] 27)).alloc (.cells #[.int .i64 0, .slice none 0 0, .slice none 0 0] 27) := ⟨_, rfl⟩
  have hWs : W2.heap.size = w.heap.size + 2 := by rw [hW]; simp
  have XB : Blk W2 w.heap.size 27 #[.int .i64 st, .slice A ss.length c, .slice A' bs.length c'] := by rw [hW]; exact (Blk.new _ _ _).alloc _
  have XR : Blk W2 (w.heap.size + 1) 27 #[.int .i64 0, .slice none 0 0, .slice none 0 0] := by rw [hW]; exact Blk.new' (by simp)
  have h2 : St W2 B st A A' c c' ss bs := by rw [hW]; exact (h.alloc (by omega) _).alloc (by simp; omega) _
  have B2 : Below w.heap.size w W2 := by rw [hW]; exact (below_alloc _ _).trans ((Below.refl _ _).alloc (by simp) _)
  have hWl : w.heap.size + 2 ≤ W2.heap.size := by omega
  have hWg : W2.heap.size ≤ w.heap.size + 2 := by omega
  have HW := Lib.hid hW
  clear hW hWs
  go_enter Try.func26, Try.ntmps26
  go_wp2_with fail
  rw [← HW.out]
  clear HW
  obtain ⟨p0, p1, p2⟩ := XB.three
  refine (clGood_any _ _ _ _ _ _ _ B _ h2 (by omega)).mono ?_
  rintro e w1 ⟨rfl, hb1⟩
  rw [hg]
  have z1 : W2.heap.size ≤ w1.heap.size := hb1.size
  have XB1 := XB.below hb1 (by omega)
  have XR1 := XR.below hb1 (by omega)
  have h1 := h2.below hb1 (by omega)
  have B1 := B2.trans (hb1.mono (by omega))
  clear XB XR hb1 h2 B2 p0 p1 p2
  obtain ⟨s0, s1, s2, f0, f1, f2⟩ := XR1.six
  go_wp2_with fail
  have XF := XR1.full (.int .i64 0) (.slice none 0 0) (.slice none 0 0)
  obtain ⟨t0, t1, t2⟩ := XF.three
  refine bodyPost_ret (v := .tuple #[.agg #[.int .i64 0, .slice none 0 0, .slice none 0 0], .bool false]) (by simp [results, Try.results26, go_sem, t0, t1, t2]) rfl ?_
  exact ⟨none, none, 0, 0, rfl, ⟨Rd.nil, Rd.nil, by simp, by simp⟩, B1.trans (((((Below.refl _ _).setCell (p := ⟨w.heap.size + 1, 0, none⟩) (by simp) _).setCell (p := ⟨w.heap.size + 1, 1, none⟩) (by simp) _).setCell (p := ⟨w.heap.size + 1, 2, none⟩) (by simp) _))⟩

set_option maxHeartbeats 2000000 in
theorem specMend_no2 (st : Int) (A A' : Option Addr) (c c' : Nat) (ss bs : List Int) (x : Int) (B : Nat) (w : World) (h : St w B st A A' c c' ss bs) (hB : B ≤ w.heap.size) (hg : goodB st ss bs = true) (hh : hasB bs x = false) :
    Calls Try.prog 26 #[stv st A A' c c' ss bs, .int .i64 x] w (SomeSt 0 [] [] false w) := by
  obtain ⟨W2, hW⟩ : ∃ W, W = (w.alloc (.cells #[.int .i64 st, .slice A ss.length c, .slice A' bs.length c'] 27)).alloc (.cells #[.int .i64 0, .slice none 0 0, .slice none 0 0] 27) := ⟨_, rfl⟩
  have hWs : W2.heap.size = w.heap.size + 2 := by rw [hW]; simp
  have XB : Blk W2 w.heap.size 27 #[.int .i64 st, .slice A ss.length c, .slice A' bs.length c'] := by rw [hW]; exact (Blk.new _ _ _).alloc _
  have XR : Blk W2 (w.heap.size + 1) 27 #[.int .i64 0, .slice none 0 0, .slice none 0 0] := by rw [hW]; exact Blk.new' (by simp)
  have h2 : St W2 B st A A' c c' ss bs := by rw [hW]; exact (h.alloc (by omega) _).alloc (by simp; omega) _
  have B2 : Below w.heap.size w W2 := by rw [hW]; exact (below_alloc _ _).trans ((Below.refl _ _).alloc (by simp) _)
  have hWl : w.heap.size + 2 ≤ W2.heap.size := by omega
  have hWg : W2.heap.size ≤ w.heap.size + 2 := by omega
  have HW := Lib.hid hW
  clear hW hWs
  go_enter Try.func26, Try.ntmps26
  go_wp2_with fail
  rw [← HW.out]
  clear HW
  obtain ⟨p0, p1, p2⟩ := XB.three
  refine (clGood_any _ _ _ _ _ _ _ B _ h2 (by omega)).mono ?_
  rintro e w1 ⟨rfl, hb1⟩
  rw [hg]
  have z1 : W2.heap.size ≤ w1.heap.size := hb1.size
  have XB1 := XB.below hb1 (by omega)
  have XR1 := XR.below hb1 (by omega)
  have h1 := h2.below hb1 (by omega)
  have B1 := B2.trans (hb1.mono (by omega))
  clear XB XR hb1 h2 B2 p0 p1 p2
  obtain ⟨p0, p1, p2⟩ := XB1.three
  go_wp2_with fail
  refine (l1Has_any _ _ _ _ _ _ h1.rb h1.nb).mono ?_
  rintro e wz ⟨rfl, rfl⟩
  rw [hh]
  obtain ⟨s0, s1, s2, f0, f1, f2⟩ := XR1.six
  go_wp2_with fail
  have XF := XR1.full (.int .i64 0) (.slice none 0 0) (.slice none 0 0)
  obtain ⟨t0, t1, t2⟩ := XF.three
  refine bodyPost_ret (v := .tuple #[.agg #[.int .i64 0, .slice none 0 0, .slice none 0 0], .bool false]) (by simp [results, Try.results26, go_sem, t0, t1, t2]) rfl ?_
  exact ⟨none, none, 0, 0, rfl, ⟨Rd.nil, Rd.nil, by simp, by simp⟩, B1.trans (((((Below.refl _ _).setCell (p := ⟨w.heap.size + 1, 0, none⟩) (by simp) _).setCell (p := ⟨w.heap.size + 1, 1, none⟩) (by simp) _).setCell (p := ⟨w.heap.size + 1, 2, none⟩) (by simp) _))⟩

set_option maxHeartbeats 2000000 in
theorem specMend_yes (st : Int) (A A' : Option Addr) (c c' : Nat) (ss bs : List Int) (x : Int) (B : Nat) (w : World) (h : St w B st A A' c c' ss bs) (hB : B ≤ w.heap.size) (hg : goodB st ss bs = true) (hh : hasB bs x = true) :
    Calls Try.prog 26 #[stv st A A' c c' ss bs, .int .i64 x] w (SomeSt st ss (bs.filter (fun k => k != x)) true w) := by
  obtain ⟨W2, hW⟩ : ∃ W, W = (w.alloc (.cells #[.int .i64 st, .slice A ss.length c, .slice A' bs.length c'] 27)).alloc (.cells #[.int .i64 0, .slice none 0 0, .slice none 0 0] 27) := ⟨_, rfl⟩
  have hWs : W2.heap.size = w.heap.size + 2 := by rw [hW]; simp
  have XB : Blk W2 w.heap.size 27 #[.int .i64 st, .slice A ss.length c, .slice A' bs.length c'] := by rw [hW]; exact (Blk.new _ _ _).alloc _
  have XR : Blk W2 (w.heap.size + 1) 27 #[.int .i64 0, .slice none 0 0, .slice none 0 0] := by rw [hW]; exact Blk.new' (by simp)
  have h2 : St W2 B st A A' c c' ss bs := by rw [hW]; exact (h.alloc (by omega) _).alloc (by simp; omega) _
  have B2 : Below w.heap.size w W2 := by rw [hW]; exact (below_alloc _ _).trans ((Below.refl _ _).alloc (by simp) _)
  have hWl : w.heap.size + 2 ≤ W2.heap.size := by omega
  have hWg : W2.heap.size ≤ w.heap.size + 2 := by omega
  have HW := Lib.hid hW
  clear hW hWs
  go_enter Try.func26, Try.ntmps26
  go_wp2_with fail
  rw [← HW.out]
  clear HW
  obtain ⟨p0, p1, p2⟩ := XB.three
  refine (clGood_any _ _ _ _ _ _ _ B _ h2 (by omega)).mono ?_
  rintro e w1 ⟨rfl, hb1⟩
  rw [hg]
  have z1 : W2.heap.size ≤ w1.heap.size := hb1.size
  have XB1 := XB.below hb1 (by omega)
  have XR1 := XR.below hb1 (by omega)
  have h1 := h2.below hb1 (by omega)
  have B1 := B2.trans (hb1.mono (by omega))
  clear XB XR hb1 h2 B2 p0 p1 p2
  obtain ⟨p0, p1, p2⟩ := XB1.three
  go_wp2_with fail
  refine (l1Has_any _ _ _ _ _ _ h1.rb h1.nb).mono ?_
  rintro e wz ⟨rfl, rfl⟩
  rw [hh]
  have hns := h1.ns
  have hnb := h1.nb
  have zw : w.heap.size < w1.heap.size := by omega
  have XZ : Blk (w1.alloc (.cells #[.int .i64 0, .slice none 0 0, .slice none 0 0] 27)) w1.heap.size 27 #[.int .i64 0, .slice none 0 0, .slice none 0 0] := Blk.new _ _ _
  go_wp2_with fail
  go_region_held3 (fun w' => w'.cell? ⟨w.heap.size, 0, none⟩ = some (.int .i64 st) ∧ w'.cell? ⟨w.heap.size, 1, none⟩ = some (.slice A ss.length c))
    (first | exact ⟨p0, p1⟩ | exact ⟨q0, q1⟩ | exact ⟨r0, r1⟩ | exact keep_full (XB1.below hb2 (by omega)) (by omega) _ _ _ | go_keep)
    (first
      | (go_at_call 41; (refine (l1Own_any A c ss B w1.drew h1.drew.rs (by show B ≤ w1.heap.size; omega) hns).mono ?_); rintro e w2 ⟨v1, he, hv1, hb0⟩; obtain ⟨A1, c1, hvv, _⟩ := hv1.form; subst hvv; subst he; have hb2 : Below w1.heap.size w1 w2 := below_undrew hb0; obtain ⟨q0, q1, q2⟩ := (XB1.below hb2 (by omega)).three; have zq := hb2.size; have zqq : w.heap.size < w2.heap.size := by omega)
      | (go_at_call 41; (refine (l1Own_any A c ss B (w1.alloc (.cells #[.int .i64 0, .slice none 0 0, .slice none 0 0] 27)).drew (h1.alloc (by omega) _).drew.rs (by show B ≤ (w1.alloc (.cells #[.int .i64 0, .slice none 0 0, .slice none 0 0] 27)).heap.size; simp; omega) hns).mono ?_); rintro e w2 ⟨v1, he, hv1, hb0⟩; obtain ⟨A1, c1, hvv, _⟩ := hv1.form; subst hvv; subst he; have hb3 : Below (w1.heap.size + 1) (w1.alloc (.cells #[.int .i64 0, .slice none 0 0, .slice none 0 0] 27)) w2 := (below_undrew hb0).mono (by show w1.heap.size + 1 ≤ (w1.alloc (.cells #[.int .i64 0, .slice none 0 0, .slice none 0 0] 27)).heap.size; simp); have hb2 : Below w1.heap.size w1 w2 := (below_alloc _ _).trans (hb3.mono (by omega)); obtain ⟨r0, r1, r2⟩ := (XB1.below hb2 (by omega)).three; have XO2 := XZ.below hb3 (by omega); obtain ⟨s0, s1, s2, f0, f1, f2⟩ := XO2.six))
  · obtain ⟨wN, hwN⟩ : ∃ W, W = w2.alloc (.cells #[.int .i64 st, .slice A1 ss.length c1, .slice none 0 0] 27) := ⟨_, rfl⟩
    have XO : Blk wN w2.heap.size 27 #[.int .i64 st, .slice A1 ss.length c1, .slice none 0 0] := by rw [hwN]; exact Blk.new _ _ _
    have XBN : Blk wN w.heap.size 27 #[.int .i64 st, .slice A ss.length c, .slice A' bs.length c'] := by rw [hwN]; exact (XB1.below hb2 (by omega)).alloc _
    have XRN : Blk wN (w.heap.size + 1) 27 #[.int .i64 0, .slice none 0 0, .slice none 0 0] := by rw [hwN]; exact (XR1.below hb2 (by omega)).alloc _
    have hvN : OwnI wN w1.heap.size (.slice A1 ss.length c1) ss := by rw [hwN]; exact hv1.alloc _
    have hN : St wN B st A A' c c' ss bs := by rw [hwN]; exact (h1.below hb2 (by omega)).alloc (by omega) _
    have BN : Below w.heap.size w wN := by rw [hwN]; exact (B1.trans (hb2.mono (by omega))).alloc (by omega) _
    have zN : w2.heap.size < wN.heap.size := by rw [hwN]; simp
    have zg : w1.heap.size ≤ w2.heap.size := by omega
    have hvg : ∀ k, (Value.slice A1 ss.length c1).ownBlock = some k → k ≠ w2.heap.size := fun k hk => by have := (hv1.lt k hk).2; omega
    rw [← hwN]
    clear hwN XB1 XR1 h1 B1 hv1 p0 p1 p2 q0 q1 q2 XZ hb0
    obtain ⟨p0, p1, p2⟩ := XBN.three
    go_wp2_with fail
    go_loopw [29] (fun i wr => ∃ (k : Nat) (v : Value), k ≤ bs.length ∧ i = .int .i64 k ∧ Blk wr (w2.heap.size) 27 #[.int .i64 st, .slice A1 ss.length c1, v] ∧ OwnI wr wN.heap.size v ((bs.take k).filter (fun y => y != x)) ∧ Turned wN wr [w2.heap.size]) (fun i _ => bs.length - (intOf i).toNat)
    case atStart => exact ⟨0, .slice none 0 0, Nat.zero_le _, rfl, XO, OwnI.nil _ _, Turned.refl _ _⟩
    case round =>
      obtain ⟨k, v, hk, rfl, hXO, hown, htl⟩ := hrel
      have hle2 := htl.size
      by_cases hlt : k < bs.length
      · obtain ⟨b, o, rfl, hb, hcell⟩ := (hN.turned htl (by omega) (by simp; omega)).rb.at_ hlt
        have E := Lib.hid (take_succ_getD hlt)
        have hfl : ((bs.take k).filter (fun y => y != x)).length ≤ 1048576 := by have h1 := List.length_filter_le (fun y => y != x) (bs.take k); have h2 := List.length_take_le k bs; have := hN.nb; omega
        generalize bs.getD k 0 = y at *
        by_cases hyx : y = x
        · have HE := Lib.hid hyx
          subst hyx
          go_wp2_with fail
          go_roundw
          case rel => exact ⟨k + 1, v, by omega, by go_num, hXO, by rw [E.out]; simpa using hown, htl⟩
          case measure => simp [intOf]; omega
        · have hne : (y != x) = true := by simp [hyx]
          have HN := Lib.hid hne
          clear hne
          obtain ⟨o0, o1, o2⟩ := hXO.three
          have lO := hXO.lt
          go_wp2_with (at_builtin; refine wpList_push _ rfl _ _ rfl wN.heap.size v _ rfl (hown.alloc _) wr.heap.size y rfl (by simp) hfl (by simp; omega) ?_; intro v9 w9 hown9 hb9; obtain ⟨A9, c9, hvv, _⟩ := hown9.form; subst hvv; simp only [List.length_append, List.length_cons, List.length_nil, Nat.zero_add] at hown9; have hX9 := (hXO.alloc (.cells #[.int .i64 y] 3)).below hb9 zN; obtain ⟨s0, s1, s2, f0, f1, f2⟩ := hX9.six)
          go_roundw
          case rel =>
            refine ⟨k + 1, _, by omega, by go_num, blk_three_set hX9 _, ?_, ?_⟩
            · rw [E.out, List.filter_append]
              have e1 : [y].filter (fun y => y != x) = [y] := by simp [hyx]
              rw [e1]
              exact hown9.turned (turned_set _ (w2.heap.size) 2 _) (fun k hk hm => by have := (hown9.lt k hk).1; simp at hm; omega)
            · exact ((htl.step_below (B := wN.heap.size) (((Below.refl _ _).alloc (by omega) _).trans hb9) (Nat.le_refl _))).trans' ((turned_set _ _ _ _))
          case measure => simp [intOf]; omega
      · obtain rfl : k = bs.length := by omega
        rw [List.take_length] at hown
        have hlen : (bs.filter (fun y => y != x)).length ≤ 1048576 := by have h1 := List.length_filter_le (fun y => y != x) bs; have := hN.nb; omega
        obtain ⟨Av, cv, hvv, _⟩ := hown.form
        subst hvv
        have XR5 := XRN.turned htl (by simp; omega)
        obtain ⟨s0, s1, s2, f0, f1, f2⟩ := XR5.six
        obtain ⟨o0, o1, o2⟩ := hXO.three
        have hv5 := hvN.turned htl (fun k hk hm => by have := hvg k hk; simp at hm; omega)
        have ogv : ∀ k, (Value.slice Av (bs.filter (fun y => y != x)).length cv).ownBlock = some k → wN.heap.size ≤ k := fun k hk => (hown.lt k hk).1
        have og5 : ∀ k, (Value.slice A1 ss.length c1).ownBlock = some k → w1.heap.size ≤ k := fun k hk => (hvN.lt k hk).1
        have hle := htl.size
        go_wp2_with fail
        have XF := XR5.full (.int .i64 st) (.slice A1 ss.length c1) (.slice Av (bs.filter (fun y => y != x)).length cv)
        obtain ⟨t0, t1, t2⟩ := XF.three
        refine bodyPost_ret (v := .tuple #[stv st A1 Av c1 cv ss (bs.filter (fun y => y != x)), .bool true]) (by simp [results, Try.results26, go_sem, t0, t1, t2]) rfl ?_
        refine ⟨A1, Av, c1, cv, rfl, ⟨by rw [size_full]; exact hv5.rd.full (fun a ha e => by subst ha; have := og5 _ rfl; omega) _ _ _, by rw [size_full]; exact hown.rd.full (fun a ha e => by subst ha; have := ogv _ rfl; omega) _ _ _, hns, by have := hlen; omega⟩, BN.trans ((htl.below (B := w.heap.size) (by omega) (fun k hk => by simp at hk; omega)).trans (below_full (by omega) _ _ _))⟩
  · obtain ⟨wN, hwN⟩ : ∃ W, W = ((w2.setCell ⟨w1.heap.size, 0, none⟩ (.int .i64 st)).setCell ⟨w1.heap.size, 1, none⟩ (.slice A1 ss.length c1)).setCell ⟨w1.heap.size, 2, none⟩ (.slice none 0 0) := ⟨_, rfl⟩
    have XO : Blk wN w1.heap.size 27 #[.int .i64 st, .slice A1 ss.length c1, .slice none 0 0] := by rw [hwN]; exact XO2.full _ _ _
    have XBN : Blk wN w.heap.size 27 #[.int .i64 st, .slice A ss.length c, .slice A' bs.length c'] := by rw [hwN]; exact (((XB1.below hb2 (by omega)).far (p := ⟨w1.heap.size, 0, none⟩) (by simp; omega) _).far (p := ⟨w1.heap.size, 1, none⟩) (by simp; omega) _).far (p := ⟨w1.heap.size, 2, none⟩) (by simp; omega) _
    have XRN : Blk wN (w.heap.size + 1) 27 #[.int .i64 0, .slice none 0 0, .slice none 0 0] := by rw [hwN]; exact (((XR1.below hb2 (by omega)).far (p := ⟨w1.heap.size, 0, none⟩) (by simp; omega) _).far (p := ⟨w1.heap.size, 1, none⟩) (by simp; omega) _).far (p := ⟨w1.heap.size, 2, none⟩) (by simp; omega) _
    have og1 : ∀ k, (Value.slice A1 ss.length c1).ownBlock = some k → w1.heap.size + 1 ≤ k := fun k hk => by have h := (hv1.lt k hk).1; rw [show (w1.alloc (.cells #[.int .i64 0, .slice none 0 0, .slice none 0 0] 27)).drew.heap.size = w1.heap.size + 1 from World.size_alloc _ _] at h; exact h
    have hvN : OwnI wN w1.heap.size (.slice A1 ss.length c1) ss := by rw [hwN]; exact (own_full hv1 (fun k hk => by have := og1 k hk; omega) _ _ _).mono (by show w1.heap.size ≤ (w1.alloc (.cells #[.int .i64 0, .slice none 0 0, .slice none 0 0] 27)).heap.size; simp)
    have hN : St wN B st A A' c c' ss bs := by rw [hwN]; exact (h1.below hb2 (by omega)).below (below_full (Nat.le_refl w1.heap.size) _ _ _) (by omega)
    have BN : Below w.heap.size w wN := by rw [hwN]; exact (B1.trans (hb2.mono (by omega))).trans (below_full (by omega) _ _ _)
    have zN : w1.heap.size < wN.heap.size := by rw [hwN, size_full]; exact XO2.lt
    have zg : w1.heap.size ≤ w1.heap.size := Nat.le_refl _
    have hvg : ∀ k, (Value.slice A1 ss.length c1).ownBlock = some k → k ≠ w1.heap.size := fun k hk => by have := og1 k hk; omega
    rw [← hwN]
    clear hwN XB1 XR1 h1 B1 hv1 p0 p1 p2 r0 r1 r2 s0 s1 s2 f0 f1 f2 XO2 XZ hb0 hb3 og1
    obtain ⟨p0, p1, p2⟩ := XBN.three
    go_wp2_with fail
    go_loopw [29] (fun i wr => ∃ (k : Nat) (v : Value), k ≤ bs.length ∧ i = .int .i64 k ∧ Blk wr (w1.heap.size) 27 #[.int .i64 st, .slice A1 ss.length c1, v] ∧ OwnI wr wN.heap.size v ((bs.take k).filter (fun y => y != x)) ∧ Turned wN wr [w1.heap.size]) (fun i _ => bs.length - (intOf i).toNat)
    case atStart => exact ⟨0, .slice none 0 0, Nat.zero_le _, rfl, XO, OwnI.nil _ _, Turned.refl _ _⟩
    case round =>
      obtain ⟨k, v, hk, rfl, hXO, hown, htl⟩ := hrel
      have hle2 := htl.size
      by_cases hlt : k < bs.length
      · obtain ⟨b, o, rfl, hb, hcell⟩ := (hN.turned htl (by omega) (by simp; omega)).rb.at_ hlt
        have E := Lib.hid (take_succ_getD hlt)
        have hfl : ((bs.take k).filter (fun y => y != x)).length ≤ 1048576 := by have h1 := List.length_filter_le (fun y => y != x) (bs.take k); have h2 := List.length_take_le k bs; have := hN.nb; omega
        generalize bs.getD k 0 = y at *
        by_cases hyx : y = x
        · have HE := Lib.hid hyx
          subst hyx
          go_wp2_with fail
          go_roundw
          case rel => exact ⟨k + 1, v, by omega, by go_num, hXO, by rw [E.out]; simpa using hown, htl⟩
          case measure => simp [intOf]; omega
        · have hne : (y != x) = true := by simp [hyx]
          have HN := Lib.hid hne
          clear hne
          obtain ⟨o0, o1, o2⟩ := hXO.three
          have lO := hXO.lt
          go_wp2_with (at_builtin; refine wpList_push _ rfl _ _ rfl wN.heap.size v _ rfl (hown.alloc _) wr.heap.size y rfl (by simp) hfl (by simp; omega) ?_; intro v9 w9 hown9 hb9; obtain ⟨A9, c9, hvv, _⟩ := hown9.form; subst hvv; simp only [List.length_append, List.length_cons, List.length_nil, Nat.zero_add] at hown9; have hX9 := (hXO.alloc (.cells #[.int .i64 y] 3)).below hb9 zN; obtain ⟨s0, s1, s2, f0, f1, f2⟩ := hX9.six)
          go_roundw
          case rel =>
            refine ⟨k + 1, _, by omega, by go_num, blk_three_set hX9 _, ?_, ?_⟩
            · rw [E.out, List.filter_append]
              have e1 : [y].filter (fun y => y != x) = [y] := by simp [hyx]
              rw [e1]
              exact hown9.turned (turned_set _ (w1.heap.size) 2 _) (fun k hk hm => by have := (hown9.lt k hk).1; simp at hm; omega)
            · exact ((htl.step_below (B := wN.heap.size) (((Below.refl _ _).alloc (by omega) _).trans hb9) (Nat.le_refl _))).trans' ((turned_set _ _ _ _))
          case measure => simp [intOf]; omega
      · obtain rfl : k = bs.length := by omega
        rw [List.take_length] at hown
        have hlen : (bs.filter (fun y => y != x)).length ≤ 1048576 := by have h1 := List.length_filter_le (fun y => y != x) bs; have := hN.nb; omega
        obtain ⟨Av, cv, hvv, _⟩ := hown.form
        subst hvv
        have XR5 := XRN.turned htl (by simp; omega)
        obtain ⟨s0, s1, s2, f0, f1, f2⟩ := XR5.six
        obtain ⟨o0, o1, o2⟩ := hXO.three
        have hv5 := hvN.turned htl (fun k hk hm => by have := hvg k hk; simp at hm; omega)
        have ogv : ∀ k, (Value.slice Av (bs.filter (fun y => y != x)).length cv).ownBlock = some k → wN.heap.size ≤ k := fun k hk => (hown.lt k hk).1
        have og5 : ∀ k, (Value.slice A1 ss.length c1).ownBlock = some k → w1.heap.size ≤ k := fun k hk => (hvN.lt k hk).1
        have hle := htl.size
        go_wp2_with fail
        have XF := XR5.full (.int .i64 st) (.slice A1 ss.length c1) (.slice Av (bs.filter (fun y => y != x)).length cv)
        obtain ⟨t0, t1, t2⟩ := XF.three
        refine bodyPost_ret (v := .tuple #[stv st A1 Av c1 cv ss (bs.filter (fun y => y != x)), .bool true]) (by simp [results, Try.results26, go_sem, t0, t1, t2]) rfl ?_
        refine ⟨A1, Av, c1, cv, rfl, ⟨by rw [size_full]; exact hv5.rd.full (fun a ha e => by subst ha; have := og5 _ rfl; omega) _ _ _, by rw [size_full]; exact hown.rd.full (fun a ha e => by subst ha; have := ogv _ rfl; omega) _ _ _, hns, by have := hlen; omega⟩, BN.trans ((htl.below (B := w.heap.size) (by omega) (fun k hk => by simp at hk; omega)).trans (below_full (by omega) _ _ _))⟩

end Go.Proofs.Ytdiiedekodeahaa
