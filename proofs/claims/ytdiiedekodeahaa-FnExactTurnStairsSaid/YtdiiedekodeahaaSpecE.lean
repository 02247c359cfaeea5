/- Contract: the model's TurnStairs. -/
import Derived.Test.YtdiiedekodeahaaSpecD
import Derived.Deep.RegionLaw
namespace Go.Proofs.Ytdiiedekodeahaa
open Go.RowKit

theorem turnL_cons (st y : Int) (r : List Int) : turnL st (y :: r) = turnL st r ++ [st - y] := by simp [turnL]
theorem rd_one {w : World} {g : Nat} {y : Int} (h : w.cell? ⟨g, 0, none⟩ = some (.int .i64 y)) : Rd w (g + 1) (some ⟨g, 0, none⟩) 1 [y] :=
  ⟨by simp, fun k hk => by
    have : k = 0 := by simpa using hk
    subst this
    exact ⟨g, 0, rfl, by omega, h⟩⟩

set_option maxHeartbeats 2000000 in
theorem specTurn_no (st : Int) (A A' : Option Addr) (c c' : Nat) (ss bs : List Int) (B : Nat) (w : World) (h : St w B st A A' c c' ss bs) (hB : B ≤ w.heap.size) (hg : goodB st ss bs = false) :
    Calls Try.prog 28 #[stv st A A' c c' ss bs] w (SomeSt 0 [] [] false w) := by
  obtain ⟨W2, hW⟩ : ∃ W, W = (w.alloc (.cells #[.int .i64 st, .slice A ss.length c, .slice A' bs.length c'] 27)).alloc (.cells #[.int .i64 0, .slice none 0 0, .slice none 0 0] 27) := ⟨_, rfl⟩
  have hWs : W2.heap.size = w.heap.size + 2 := by rw [hW]; simp
  have XB : Blk W2 w.heap.size 27 #[.int .i64 st, .slice A ss.length c, .slice A' bs.length c'] := by rw [hW]; exact (Blk.new _ _ _).alloc _
  have XR : Blk W2 (w.heap.size + 1) 27 #[.int .i64 0, .slice none 0 0, .slice none 0 0] := by rw [hW]; exact Blk.new' (by simp)
  have h2 : St W2 B st A A' c c' ss bs := by rw [hW]; exact (h.alloc (by omega) _).alloc (by simp; omega) _
  have B2 : Below w.heap.size w W2 := by rw [hW]; exact (below_alloc _ _).trans ((Below.refl _ _).alloc (by simp) _)
  have hWl : w.heap.size + 2 ≤ W2.heap.size := by omega
  have hWg : W2.heap.size ≤ w.heap.size + 2 := by omega
  have HW := Lib.hid hW
  clear hW hWs
  go_enter Try.func28, Try.ntmps28
  go_wp2_with fail
  rw [← HW.out]
  clear HW
  obtain ⟨p0, p1, p2⟩ := XB.three
  refine (clGood_any _ _ _ _ _ _ _ B _ h2 (by omega)).mono ?_
  rintro e w1 ⟨rfl, hb1⟩
  rw [hg]
  have z1 : W2.heap.size ≤ w1.heap.size := hb1.size
  have XB1 := XB.below hb1 (by omega)
  have XR1 := XR.below hb1 (by omega)
  have h1 := h2.below hb1 (by omega)
  have B1 := B2.trans (hb1.mono (by omega))
  clear XB XR hb1 h2 B2 p0 p1 p2
  obtain ⟨s0, s1, s2, f0, f1, f2⟩ := XR1.six
  go_wp2_with fail
  have XF := XR1.full (.int .i64 0) (.slice none 0 0) (.slice none 0 0)
  obtain ⟨t0, t1, t2⟩ := XF.three
  refine bodyPost_ret (v := .tuple #[.agg #[.int .i64 0, .slice none 0 0, .slice none 0 0], .bool false]) (by simp [results, Try.results28, go_sem, t0, t1, t2]) rfl ?_
  exact ⟨none, none, 0, 0, rfl, ⟨Rd.nil, Rd.nil, by simp, by simp⟩, B1.trans (((((Below.refl _ _).setCell (p := ⟨w.heap.size + 1, 0, none⟩) (by simp) _).setCell (p := ⟨w.heap.size + 1, 1, none⟩) (by simp) _).setCell (p := ⟨w.heap.size + 1, 2, none⟩) (by simp) _))⟩

set_option maxHeartbeats 2000000 in
theorem specTurn_yes (st : Int) (A A' : Option Addr) (c c' : Nat) (ss bs : List Int) (B : Nat) (w : World) (h : St w B st A A' c c' ss bs) (hB : B ≤ w.heap.size) (hg : goodB st ss bs = true) :
    Calls Try.prog 28 #[stv st A A' c c' ss bs] w (SomeSt st ss (turnL st bs) true w) := by
  have G := good_of hg
  have g1 := G.st1
  have g2 := G.st2
  have HG := Lib.hid G
  clear G
  obtain ⟨W2, hW⟩ : ∃ W, W = (w.alloc (.cells #[.int .i64 st, .slice A ss.length c, .slice A' bs.length c'] 27)).alloc (.cells #[.int .i64 0, .slice none 0 0, .slice none 0 0] 27) := ⟨_, rfl⟩
  have hWs : W2.heap.size = w.heap.size + 2 := by rw [hW]; simp
  have XB : Blk W2 w.heap.size 27 #[.int .i64 st, .slice A ss.length c, .slice A' bs.length c'] := by rw [hW]; exact (Blk.new _ _ _).alloc _
  have XR : Blk W2 (w.heap.size + 1) 27 #[.int .i64 0, .slice none 0 0, .slice none 0 0] := by rw [hW]; exact Blk.new' (by simp)
  have h2 : St W2 B st A A' c c' ss bs := by rw [hW]; exact (h.alloc (by omega) _).alloc (by simp; omega) _
  have B2 : Below w.heap.size w W2 := by rw [hW]; exact (below_alloc _ _).trans ((Below.refl _ _).alloc (by simp) _)
  have hWl : w.heap.size + 2 ≤ W2.heap.size := by omega
  have hWg : W2.heap.size ≤ w.heap.size + 2 := by omega
  have HW := Lib.hid hW
  clear hW hWs
  go_enter Try.func28, Try.ntmps28
  go_wp2_with fail
  rw [← HW.out]
  clear HW
  obtain ⟨p0, p1, p2⟩ := XB.three
  refine (clGood_any _ _ _ _ _ _ _ B _ h2 (by omega)).mono ?_
  rintro e w1 ⟨rfl, hb1⟩
  rw [hg]
  have z1 : W2.heap.size ≤ w1.heap.size := hb1.size
  have XB1 := XB.below hb1 (by omega)
  have XR1 := XR.below hb1 (by omega)
  have h1 := h2.below hb1 (by omega)
  have B1 := B2.trans (hb1.mono (by omega))
  clear XB XR hb1 h2 B2 p0 p1 p2
  obtain ⟨p0, p1, p2⟩ := XB1.three
  have hns := h1.ns
  have hnb := h1.nb
  have zw : w.heap.size < w1.heap.size := by omega
  have XZ : Blk (w1.alloc (.cells #[.int .i64 0, .slice none 0 0, .slice none 0 0] 27)) w1.heap.size 27 #[.int .i64 0, .slice none 0 0, .slice none 0 0] := Blk.new _ _ _
  go_wp2_with fail
  go_region_held3 (fun w' => w'.cell? ⟨w.heap.size, 0, none⟩ = some (.int .i64 st) ∧ w'.cell? ⟨w.heap.size, 1, none⟩ = some (.slice A ss.length c))
    (first | exact ⟨p0, p1⟩ | exact ⟨q0, q1⟩ | exact ⟨r0, r1⟩ | exact keep_full (XB1.below hb2 (by omega)) (by omega) _ _ _ | go_keep)
    (first
      | (go_at_call 41; (refine (l1Own_any A c ss B w1.drew h1.drew.rs (by show B ≤ w1.heap.size; omega) hns).mono ?_); rintro e w2 ⟨v1, he, hv1, hb0⟩; obtain ⟨A1, c1, hvv, _⟩ := hv1.form; subst hvv; subst he; have hb2 : Below w1.heap.size w1 w2 := below_undrew hb0; obtain ⟨q0, q1, q2⟩ := (XB1.below hb2 (by omega)).three; have zq := hb2.size; have zqq : w.heap.size < w2.heap.size := by omega)
      | (go_at_call 41; (refine (l1Own_any A c ss B (w1.alloc (.cells #[.int .i64 0, .slice none 0 0, .slice none 0 0] 27)).drew (h1.alloc (by omega) _).drew.rs (by show B ≤ (w1.alloc (.cells #[.int .i64 0, .slice none 0 0, .slice none 0 0] 27)).heap.size; simp; omega) hns).mono ?_); rintro e w2 ⟨v1, he, hv1, hb0⟩; obtain ⟨A1, c1, hvv, _⟩ := hv1.form; subst hvv; subst he; have hb3 : Below (w1.heap.size + 1) (w1.alloc (.cells #[.int .i64 0, .slice none 0 0, .slice none 0 0] 27)) w2 := (below_undrew hb0).mono (by show w1.heap.size + 1 ≤ (w1.alloc (.cells #[.int .i64 0, .slice none 0 0, .slice none 0 0] 27)).heap.size; simp); have hb2 : Below w1.heap.size w1 w2 := (below_alloc _ _).trans (hb3.mono (by omega)); obtain ⟨r0, r1, r2⟩ := (XB1.below hb2 (by omega)).three; have XO2 := XZ.below hb3 (by omega); obtain ⟨s0, s1, s2, f0, f1, f2⟩ := XO2.six))
  · obtain ⟨wN, hwN⟩ : ∃ W, W = w2.alloc (.cells #[.int .i64 st, .slice A1 ss.length c1, .slice none 0 0] 27) := ⟨_, rfl⟩
    have XO : Blk wN w2.heap.size 27 #[.int .i64 st, .slice A1 ss.length c1, .slice none 0 0] := by rw [hwN]; exact Blk.new _ _ _
    have XBN : Blk wN w.heap.size 27 #[.int .i64 st, .slice A ss.length c, .slice A' bs.length c'] := by rw [hwN]; exact (XB1.below hb2 (by omega)).alloc _
    have XRN : Blk wN (w.heap.size + 1) 27 #[.int .i64 0, .slice none 0 0, .slice none 0 0] := by rw [hwN]; exact (XR1.below hb2 (by omega)).alloc _
    have hvN : OwnI wN w1.heap.size (.slice A1 ss.length c1) ss := by rw [hwN]; exact hv1.alloc _
    have hN : St wN B st A A' c c' ss bs := by rw [hwN]; exact (h1.below hb2 (by omega)).alloc (by omega) _
    have BN : Below w.heap.size w wN := by rw [hwN]; exact (B1.trans (hb2.mono (by omega))).alloc (by omega) _
    have zN : w2.heap.size < wN.heap.size := by rw [hwN]; simp
    have zg : w1.heap.size ≤ w2.heap.size := by omega
    have hvg : ∀ k, (Value.slice A1 ss.length c1).ownBlock = some k → k ≠ w2.heap.size := fun k hk => by have := (hv1.lt k hk).2; omega
    rw [← hwN]
    clear hwN XB1 XR1 h1 B1 hv1 p0 p1 p2 q0 q1 q2 XZ hb0
    obtain ⟨p0, p1, p2⟩ := XBN.three
    go_wp2_with fail
    go_loopw [5] (fun i wr => ∃ (k : Nat) (v : Value), k ≤ bs.length ∧ i = .int .i64 ((k : Int) - 1) ∧ Blk wr (w2.heap.size) 27 #[.int .i64 st, .slice A1 ss.length c1, v] ∧ OwnI wr wN.heap.size v (turnL st (bs.drop k)) ∧ Turned wN wr [w2.heap.size]) (fun i _ => (intOf i + 1).toNat)
    case atStart => exact ⟨bs.length, .slice none 0 0, Nat.le_refl _, rfl, XO, by rw [List.drop_length]; exact OwnI.nil _ _, Turned.refl _ _⟩
    case round =>
      obtain ⟨k, v, hk, rfl, hXO, hown, htl⟩ := hrel
      have hle2 := htl.size
      by_cases hlt : 0 < k
      · obtain ⟨j, rfl⟩ : ∃ j, k = j + 1 := ⟨k - 1, by omega⟩
        have ej : ((j + 1 : Nat) : Int) - 1 = (j : Int) := by omega
        rw [ej]
        obtain ⟨b, o, rfl, hb, hcell⟩ := (hN.turned htl (by omega) (by simp; omega)).rb.at_ (k := j) (by omega)
        have hx := HG.out.hb _ (getD_mem (xs := bs) (k := j) (by omega))
        have E := Lib.hid (drop_at bs j (by omega))
        have hfl : (turnL st (bs.drop (j + 1))).length ≤ 1048576 := by simp [turnL]; omega
        generalize bs.getD j 0 = y at *
        have hx1 : 1 ≤ y := hx.1
        have hx2 : y ≤ st - 1 := hx.2
        obtain ⟨o0, o1, o2⟩ := hXO.three
        obtain ⟨p0, p1, p2⟩ := (XBN.turned htl (by simp; omega)).three
        have lO := hXO.lt
        clear hx ej
        have HSUB : IntKind.i64.wrap (st - y) = st - y := IntWalk.i64_in _ ⟨by omega, by omega⟩
        have hj0 : (0 : Int) ≤ (j : Int) := by omega
        have hj1 : (j : Int) < (bs.length : Int) := by omega
        go_wp2_with fail
        go_region_law ((refine step_append_rd _ (by rfl) _ _ (by rfl) wN.heap.size (wr.heap.size + 1) v _ [st - y] (by rfl) ((hown.alloc (.cells #[.int .i64 (st - y)] 3)).drew) (some ⟨wr.heap.size, 0, none⟩) 1 (by rfl) (rd_one (by simp)) (by simp; omega) (by show wN.heap.size ≤ (wr.alloc _).heap.size; simp; omega) ?_; intro v9 w9 hown9 hb9 _ _; obtain ⟨A9, c9, hvv, _⟩ := hown9.form; subst hvv; simp only [List.length_append, List.length_cons, List.length_nil, Nat.zero_add] at hown9; have hb9' : Below wN.heap.size (wr.alloc (.cells #[.int .i64 (st - y)] 3)) w9 := below_undrew hb9; have hX9 := (hXO.alloc (.cells #[.int .i64 (st - y)] 3)).below hb9' zN; obtain ⟨s0, s1, s2, f0, f1, f2⟩ := hX9.six))
        all_goals
          go_wp2
          go_roundw
          case rel =>
            refine ⟨j, _, by omega, by go_num, blk_three_set hX9 _, ?_, ?_⟩
            · rw [E.out, turnL_cons]
              exact hown9.turned (turned_set _ (w2.heap.size) 2 _) (fun k hk hm => by have := (hown9.lt k hk).1; simp at hm; omega)
            · exact ((htl.step_below (B := wN.heap.size) (((Below.refl _ _).alloc (by omega) _).trans hb9') (Nat.le_refl _))).trans' ((turned_set _ _ _ _))
          case measure => first | (simp [intOf]; done) | (simp [intOf]; omega)
      · obtain rfl : k = 0 := by omega
        rw [List.drop_zero] at hown
        have hlen : (turnL st bs).length ≤ 1048576 := by simp [turnL]; omega
        have e0 : ((0 : Nat) : Int) - 1 = -1 := rfl
        rw [e0]
        clear e0
        obtain ⟨Av, cv, hvv, _⟩ := hown.form
        subst hvv
        have XR5 := XRN.turned htl (by simp; omega)
        obtain ⟨s0, s1, s2, f0, f1, f2⟩ := XR5.six
        obtain ⟨o0, o1, o2⟩ := hXO.three
        have hv5 := hvN.turned htl (fun k hk hm => by have := hvg k hk; simp at hm; omega)
        have ogv : ∀ k, (Value.slice Av (turnL st bs).length cv).ownBlock = some k → wN.heap.size ≤ k := fun k hk => (hown.lt k hk).1
        have og5 : ∀ k, (Value.slice A1 ss.length c1).ownBlock = some k → w1.heap.size ≤ k := fun k hk => (hvN.lt k hk).1
        have hle := htl.size
        go_wp2_with fail
        have XF := XR5.full (.int .i64 st) (.slice A1 ss.length c1) (.slice Av (turnL st bs).length cv)
        obtain ⟨t0, t1, t2⟩ := XF.three
        refine bodyPost_ret (v := .tuple #[stv st A1 Av c1 cv ss (turnL st bs), .bool true]) (by simp [results, Try.results28, go_sem, t0, t1, t2]) rfl ?_
        refine ⟨A1, Av, c1, cv, rfl, ⟨by rw [size_full]; exact hv5.rd.full (fun a ha e => by subst ha; have := og5 _ rfl; omega) _ _ _, by rw [size_full]; exact hown.rd.full (fun a ha e => by subst ha; have := ogv _ rfl; omega) _ _ _, hns, by have := hlen; omega⟩, BN.trans ((htl.below (B := w.heap.size) (by omega) (fun k hk => by simp at hk; omega)).trans (below_full (by omega) _ _ _))⟩
  · obtain ⟨wN, hwN⟩ : ∃ W, W = ((w2.setCell ⟨w1.heap.size, 0, none⟩ (.int .i64 st)).setCell ⟨w1.heap.size, 1, none⟩ (.slice A1 ss.length c1)).setCell ⟨w1.heap.size, 2, none⟩ (.slice none 0 0) := ⟨_, rfl⟩
    have XO : Blk wN w1.heap.size 27 #[.int .i64 st, .slice A1 ss.length c1, .slice none 0 0] := by rw [hwN]; exact XO2.full _ _ _
    have XBN : Blk wN w.heap.size 27 #[.int .i64 st, .slice A ss.length c, .slice A' bs.length c'] := by rw [hwN]; exact (((XB1.below hb2 (by omega)).far (p := ⟨w1.heap.size, 0, none⟩) (by simp; omega) _).far (p := ⟨w1.heap.size, 1, none⟩) (by simp; omega) _).far (p := ⟨w1.heap.size, 2, none⟩) (by simp; omega) _
    have XRN : Blk wN (w.heap.size + 1) 27 #[.int .i64 0, .slice none 0 0, .slice none 0 0] := by rw [hwN]; exact (((XR1.below hb2 (by omega)).far (p := ⟨w1.heap.size, 0, none⟩) (by simp; omega) _).far (p := ⟨w1.heap.size, 1, none⟩) (by simp; omega) _).far (p := ⟨w1.heap.size, 2, none⟩) (by simp; omega) _
    have og1 : ∀ k, (Value.slice A1 ss.length c1).ownBlock = some k → w1.heap.size + 1 ≤ k := fun k hk => by have h := (hv1.lt k hk).1; rw [show (w1.alloc (.cells #[.int .i64 0, .slice none 0 0, .slice none 0 0] 27)).drew.heap.size = w1.heap.size + 1 from World.size_alloc _ _] at h; exact h
    have hvN : OwnI wN w1.heap.size (.slice A1 ss.length c1) ss := by rw [hwN]; exact (own_full hv1 (fun k hk => by have := og1 k hk; omega) _ _ _).mono (by show w1.heap.size ≤ (w1.alloc (.cells #[.int .i64 0, .slice none 0 0, .slice none 0 0] 27)).heap.size; simp)
    have hN : St wN B st A A' c c' ss bs := by rw [hwN]; exact (h1.below hb2 (by omega)).below (below_full (Nat.le_refl w1.heap.size) _ _ _) (by omega)
    have BN : Below w.heap.size w wN := by rw [hwN]; exact (B1.trans (hb2.mono (by omega))).trans (below_full (by omega) _ _ _)
    have zN : w1.heap.size < wN.heap.size := by rw [hwN, size_full]; exact XO2.lt
    have zg : w1.heap.size ≤ w1.heap.size := Nat.le_refl _
    have hvg : ∀ k, (Value.slice A1 ss.length c1).ownBlock = some k → k ≠ w1.heap.size := fun k hk => by have := og1 k hk; omega
    rw [← hwN]
    clear hwN XB1 XR1 h1 B1 hv1 p0 p1 p2 r0 r1 r2 s0 s1 s2 f0 f1 f2 XO2 XZ hb0 hb3 og1
    obtain ⟨p0, p1, p2⟩ := XBN.three
    go_wp2_with fail
    go_loopw [5] (fun i wr => ∃ (k : Nat) (v : Value), k ≤ bs.length ∧ i = .int .i64 ((k : Int) - 1) ∧ Blk wr (w1.heap.size) 27 #[.int .i64 st, .slice A1 ss.length c1, v] ∧ OwnI wr wN.heap.size v (turnL st (bs.drop k)) ∧ Turned wN wr [w1.heap.size]) (fun i _ => (intOf i + 1).toNat)
    case atStart => exact ⟨bs.length, .slice none 0 0, Nat.le_refl _, rfl, XO, by rw [List.drop_length]; exact OwnI.nil _ _, Turned.refl _ _⟩
    case round =>
      obtain ⟨k, v, hk, rfl, hXO, hown, htl⟩ := hrel
      have hle2 := htl.size
      by_cases hlt : 0 < k
      · obtain ⟨j, rfl⟩ : ∃ j, k = j + 1 := ⟨k - 1, by omega⟩
        have ej : ((j + 1 : Nat) : Int) - 1 = (j : Int) := by omega
        rw [ej]
        obtain ⟨b, o, rfl, hb, hcell⟩ := (hN.turned htl (by omega) (by simp; omega)).rb.at_ (k := j) (by omega)
        have hx := HG.out.hb _ (getD_mem (xs := bs) (k := j) (by omega))
        have E := Lib.hid (drop_at bs j (by omega))
        have hfl : (turnL st (bs.drop (j + 1))).length ≤ 1048576 := by simp [turnL]; omega
        generalize bs.getD j 0 = y at *
        have hx1 : 1 ≤ y := hx.1
        have hx2 : y ≤ st - 1 := hx.2
        obtain ⟨o0, o1, o2⟩ := hXO.three
        obtain ⟨p0, p1, p2⟩ := (XBN.turned htl (by simp; omega)).three
        have lO := hXO.lt
        clear hx ej
        have HSUB : IntKind.i64.wrap (st - y) = st - y := IntWalk.i64_in _ ⟨by omega, by omega⟩
        have hj0 : (0 : Int) ≤ (j : Int) := by omega
        have hj1 : (j : Int) < (bs.length : Int) := by omega
        go_wp2_with fail
        go_region_law ((refine step_append_rd _ (by rfl) _ _ (by rfl) wN.heap.size (wr.heap.size + 1) v _ [st - y] (by rfl) ((hown.alloc (.cells #[.int .i64 (st - y)] 3)).drew) (some ⟨wr.heap.size, 0, none⟩) 1 (by rfl) (rd_one (by simp)) (by simp; omega) (by show wN.heap.size ≤ (wr.alloc _).heap.size; simp; omega) ?_; intro v9 w9 hown9 hb9 _ _; obtain ⟨A9, c9, hvv, _⟩ := hown9.form; subst hvv; simp only [List.length_append, List.length_cons, List.length_nil, Nat.zero_add] at hown9; have hb9' : Below wN.heap.size (wr.alloc (.cells #[.int .i64 (st - y)] 3)) w9 := below_undrew hb9; have hX9 := (hXO.alloc (.cells #[.int .i64 (st - y)] 3)).below hb9' zN; obtain ⟨s0, s1, s2, f0, f1, f2⟩ := hX9.six))
        all_goals
          go_wp2
          go_roundw
          case rel =>
            refine ⟨j, _, by omega, by go_num, blk_three_set hX9 _, ?_, ?_⟩
            · rw [E.out, turnL_cons]
              exact hown9.turned (turned_set _ (w1.heap.size) 2 _) (fun k hk hm => by have := (hown9.lt k hk).1; simp at hm; omega)
            · exact ((htl.step_below (B := wN.heap.size) (((Below.refl _ _).alloc (by omega) _).trans hb9') (Nat.le_refl _))).trans' ((turned_set _ _ _ _))
          case measure => first | (simp [intOf]; done) | (simp [intOf]; omega)
      · obtain rfl : k = 0 := by omega
        rw [List.drop_zero] at hown
        have hlen : (turnL st bs).length ≤ 1048576 := by simp [turnL]; omega
        have e0 : ((0 : Nat) : Int) - 1 = -1 := rfl
        rw [e0]
        clear e0
        obtain ⟨Av, cv, hvv, _⟩ := hown.form
        subst hvv
        have XR5 := XRN.turned htl (by simp; omega)
        obtain ⟨s0, s1, s2, f0, f1, f2⟩ := XR5.six
        obtain ⟨o0, o1, o2⟩ := hXO.three
        have hv5 := hvN.turned htl (fun k hk hm => by have := hvg k hk; simp at hm; omega)
        have ogv : ∀ k, (Value.slice Av (turnL st bs).length cv).ownBlock = some k → wN.heap.size ≤ k := fun k hk => (hown.lt k hk).1
        have og5 : ∀ k, (Value.slice A1 ss.length c1).ownBlock = some k → w1.heap.size ≤ k := fun k hk => (hvN.lt k hk).1
        have hle := htl.size
        go_wp2_with fail
        have XF := XR5.full (.int .i64 st) (.slice A1 ss.length c1) (.slice Av (turnL st bs).length cv)
        obtain ⟨t0, t1, t2⟩ := XF.three
        refine bodyPost_ret (v := .tuple #[stv st A1 Av c1 cv ss (turnL st bs), .bool true]) (by simp [results, Try.results28, go_sem, t0, t1, t2]) rfl ?_
        refine ⟨A1, Av, c1, cv, rfl, ⟨by rw [size_full]; exact hv5.rd.full (fun a ha e => by subst ha; have := og5 _ rfl; omega) _ _ _, by rw [size_full]; exact hown.rd.full (fun a ha e => by subst ha; have := ogv _ rfl; omega) _ _ _, hns, by have := hlen; omega⟩, BN.trans ((htl.below (B := w.heap.size) (by omega) (fun k hk => by simp at hk; omega)).trans (below_full (by omega) _ _ _))⟩

end Go.Proofs.Ytdiiedekodeahaa
