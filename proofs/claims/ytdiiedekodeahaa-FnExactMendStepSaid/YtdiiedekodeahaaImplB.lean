/- Contracts: the program's BreakStep, MendStep. -/
import Derived.Test.YtdiiedekodeahaaWith
import Derived.Test.YtdiiedekodeahaaSorted
namespace Go.Proofs.Ytdiiedekodeahaa
open Go.RowKit

set_option maxHeartbeats 2000000 in
theorem implBreak_no1 (st : Int) (A A' : Option Addr) (c c' : Nat) (ss bs : List Int) (x : Int) (B : Nat) (w : World) (h : St w B st A A' c c' ss bs) (hB : B ≤ w.heap.size) (hg : goodB st ss bs = false) :
    Calls Try.prog 24 #[stv st A A' c c' ss bs, .int .i64 x] w (NewSt 0 [] [] false w) := by
  obtain ⟨W2, hW⟩ : ∃ W, W = (w.alloc (.cells #[.int .i64 st, .slice A ss.length c, .slice A' bs.length c'] 27)).alloc (.cells #[.int .i64 0, .slice none 0 0, .slice none 0 0] 27) := ⟨_, rfl⟩
  have hWs : W2.heap.size = w.heap.size + 2 := by rw [hW]; simp
  have XB : Blk W2 w.heap.size 27 #[.int .i64 st, .slice A ss.length c, .slice A' bs.length c'] := by rw [hW]; exact (Blk.new _ _ _).alloc _
  have XR : Blk W2 (w.heap.size + 1) 27 #[.int .i64 0, .slice none 0 0, .slice none 0 0] := by rw [hW]; exact Blk.new' (by simp)
  have h2 : St W2 B st A A' c c' ss bs := by rw [hW]; exact (h.alloc (by omega) _).alloc (by simp; omega) _
  have B2 : Below w.heap.size w W2 := by rw [hW]; exact (below_alloc _ _).trans ((Below.refl _ _).alloc (by simp) _)
  have hWl : w.heap.size + 2 ≤ W2.heap.size := by omega
  have hWg : W2.heap.size ≤ w.heap.size + 2 := by omega
  have HW := Lib.hid hW
  clear hW hWs
  go_enter Try.func24, Try.ntmps24
  go_wp2_with fail
  rw [← HW.out]
  clear HW
  obtain ⟨p0, p1, p2⟩ := XB.three
  refine (implAre_any _ _ _ _ _ _ _ B _ h2 (by omega)).mono ?_
  rintro e w1 ⟨rfl, hb1⟩
  rw [hg]
  have z1 : W2.heap.size ≤ w1.heap.size := hb1.size
  have XB1 := XB.below hb1 (by omega)
  have XR1 := XR.below hb1 (by omega)
  have h1 := h2.below hb1 (by omega)
  have B1 := B2.trans (hb1.mono (by omega))
  clear XB XR hb1 h2 B2 p0 p1 p2
  obtain ⟨s0, s1, s2, f0, f1, f2⟩ := XR1.six
  go_wp2_with fail
  have XF := XR1.full (.int .i64 0) (.slice none 0 0) (.slice none 0 0)
  obtain ⟨t0, t1, t2⟩ := XF.three
  refine bodyPost_ret (v := .tuple #[.agg #[.int .i64 0, .slice none 0 0, .slice none 0 0], .bool false]) (by simp [results, Try.results24, go_sem, t0, t1, t2]) rfl ?_
  exact ⟨_, _, rfl, OwnI.nil _ _, OwnI.nil _ _, fun k hk _ => by simp [Value.ownBlock] at hk, B1.trans (((((Below.refl _ _).setCell (p := ⟨w.heap.size + 1, 0, none⟩) (by simp) _).setCell (p := ⟨w.heap.size + 1, 1, none⟩) (by simp) _).setCell (p := ⟨w.heap.size + 1, 2, none⟩) (by simp) _))⟩

set_option maxHeartbeats 2000000 in
theorem implBreak_no2 (st : Int) (A A' : Option Addr) (c c' : Nat) (ss bs : List Int) (x : Int) (B : Nat) (w : World) (h : St w B st A A' c c' ss bs) (hB : B ≤ w.heap.size) (hg : goodB st ss bs = true) (hx : x < 1) :
    Calls Try.prog 24 #[stv st A A' c c' ss bs, .int .i64 x] w (NewSt 0 [] [] false w) := by
  obtain ⟨W2, hW⟩ : ∃ W, W = (w.alloc (.cells #[.int .i64 st, .slice A ss.length c, .slice A' bs.length c'] 27)).alloc (.cells #[.int .i64 0, .slice none 0 0, .slice none 0 0] 27) := ⟨_, rfl⟩
  have hWs : W2.heap.size = w.heap.size + 2 := by rw [hW]; simp
  have XB : Blk W2 w.heap.size 27 #[.int .i64 st, .slice A ss.length c, .slice A' bs.length c'] := by rw [hW]; exact (Blk.new _ _ _).alloc _
  have XR : Blk W2 (w.heap.size + 1) 27 #[.int .i64 0, .slice none 0 0, .slice none 0 0] := by rw [hW]; exact Blk.new' (by simp)
  have h2 : St W2 B st A A' c c' ss bs := by rw [hW]; exact (h.alloc (by omega) _).alloc (by simp; omega) _
  have B2 : Below w.heap.size w W2 := by rw [hW]; exact (below_alloc _ _).trans ((Below.refl _ _).alloc (by simp) _)
  have hWl : w.heap.size + 2 ≤ W2.heap.size := by omega
  have hWg : W2.heap.size ≤ w.heap.size + 2 := by omega
  have HW := Lib.hid hW
  clear hW hWs
  go_enter Try.func24, Try.ntmps24
  go_wp2_with fail
  rw [← HW.out]
  clear HW
  obtain ⟨p0, p1, p2⟩ := XB.three
  refine (implAre_any _ _ _ _ _ _ _ B _ h2 (by omega)).mono ?_
  rintro e w1 ⟨rfl, hb1⟩
  rw [hg]
  have z1 : W2.heap.size ≤ w1.heap.size := hb1.size
  have XB1 := XB.below hb1 (by omega)
  have XR1 := XR.below hb1 (by omega)
  have h1 := h2.below hb1 (by omega)
  have B1 := B2.trans (hb1.mono (by omega))
  clear XB XR hb1 h2 B2 p0 p1 p2
  obtain ⟨s0, s1, s2, f0, f1, f2⟩ := XR1.six
  obtain ⟨p0, p1, p2⟩ := XB1.three
  go_wp2_with fail
  have XF := XR1.full (.int .i64 0) (.slice none 0 0) (.slice none 0 0)
  obtain ⟨t0, t1, t2⟩ := XF.three
  refine bodyPost_ret (v := .tuple #[.agg #[.int .i64 0, .slice none 0 0, .slice none 0 0], .bool false]) (by simp [results, Try.results24, go_sem, t0, t1, t2]) rfl ?_
  exact ⟨_, _, rfl, OwnI.nil _ _, OwnI.nil _ _, fun k hk _ => by simp [Value.ownBlock] at hk, B1.trans (((((Below.refl _ _).setCell (p := ⟨w.heap.size + 1, 0, none⟩) (by simp) _).setCell (p := ⟨w.heap.size + 1, 1, none⟩) (by simp) _).setCell (p := ⟨w.heap.size + 1, 2, none⟩) (by simp) _))⟩

set_option maxHeartbeats 2000000 in
theorem implBreak_no3 (st : Int) (A A' : Option Addr) (c c' : Nat) (ss bs : List Int) (x : Int) (B : Nat) (w : World) (h : St w B st A A' c c' ss bs) (hB : B ≤ w.heap.size) (hg : goodB st ss bs = true) (hx : st ≤ x) (hx1 : 1 ≤ x) :
    Calls Try.prog 24 #[stv st A A' c c' ss bs, .int .i64 x] w (NewSt 0 [] [] false w) := by
  obtain ⟨W2, hW⟩ : ∃ W, W = (w.alloc (.cells #[.int .i64 st, .slice A ss.length c, .slice A' bs.length c'] 27)).alloc (.cells #[.int .i64 0, .slice none 0 0, .slice none 0 0] 27) := ⟨_, rfl⟩
  have hWs : W2.heap.size = w.heap.size + 2 := by rw [hW]; simp
  have XB : Blk W2 w.heap.size 27 #[.int .i64 st, .slice A ss.length c, .slice A' bs.length c'] := by rw [hW]; exact (Blk.new _ _ _).alloc _
  have XR : Blk W2 (w.heap.size + 1) 27 #[.int .i64 0, .slice none 0 0, .slice none 0 0] := by rw [hW]; exact Blk.new' (by simp)
  have h2 : St W2 B st A A' c c' ss bs := by rw [hW]; exact (h.alloc (by omega) _).alloc (by simp; omega) _
  have B2 : Below w.heap.size w W2 := by rw [hW]; exact (below_alloc _ _).trans ((Below.refl _ _).alloc (by simp) _)
  have hWl : w.heap.size + 2 ≤ W2.heap.size := by omega
  have hWg : W2.heap.size ≤ w.heap.size + 2 := by omega
  have HW := Lib.hid hW
  clear hW hWs
  go_enter Try.func24, Try.ntmps24
  go_wp2_with fail
  rw [← HW.out]
  clear HW
  obtain ⟨p0, p1, p2⟩ := XB.three
  refine (implAre_any _ _ _ _ _ _ _ B _ h2 (by omega)).mono ?_
  rintro e w1 ⟨rfl, hb1⟩
  rw [hg]
  have z1 : W2.heap.size ≤ w1.heap.size := hb1.size
  have XB1 := XB.below hb1 (by omega)
  have XR1 := XR.below hb1 (by omega)
  have h1 := h2.below hb1 (by omega)
  have B1 := B2.trans (hb1.mono (by omega))
  clear XB XR hb1 h2 B2 p0 p1 p2
  obtain ⟨s0, s1, s2, f0, f1, f2⟩ := XR1.six
  obtain ⟨p0, p1, p2⟩ := XB1.three
  go_wp2_with fail
  have XF := XR1.full (.int .i64 0) (.slice none 0 0) (.slice none 0 0)
  obtain ⟨t0, t1, t2⟩ := XF.three
  refine bodyPost_ret (v := .tuple #[.agg #[.int .i64 0, .slice none 0 0, .slice none 0 0], .bool false]) (by simp [results, Try.results24, go_sem, t0, t1, t2]) rfl ?_
  exact ⟨_, _, rfl, OwnI.nil _ _, OwnI.nil _ _, fun k hk _ => by simp [Value.ownBlock] at hk, B1.trans (((((Below.refl _ _).setCell (p := ⟨w.heap.size + 1, 0, none⟩) (by simp) _).setCell (p := ⟨w.heap.size + 1, 1, none⟩) (by simp) _).setCell (p := ⟨w.heap.size + 1, 2, none⟩) (by simp) _))⟩

set_option maxHeartbeats 2000000 in
theorem implBreak_no4 (st : Int) (A A' : Option Addr) (c c' : Nat) (ss bs : List Int) (x : Int) (B : Nat) (w : World) (h : St w B st A A' c c' ss bs) (hB : B ≤ w.heap.size) (hg : goodB st ss bs = true) (hx1 : 1 ≤ x) (hx2 : x < st) (hh : hasB bs x = true) :
    Calls Try.prog 24 #[stv st A A' c c' ss bs, .int .i64 x] w (NewSt 0 [] [] false w) := by
  have G := good_of hg
  have g2 := G.st2
  obtain ⟨W2, hW⟩ : ∃ W, W = (w.alloc (.cells #[.int .i64 st, .slice A ss.length c, .slice A' bs.length c'] 27)).alloc (.cells #[.int .i64 0, .slice none 0 0, .slice none 0 0] 27) := ⟨_, rfl⟩
  have hWs : W2.heap.size = w.heap.size + 2 := by rw [hW]; simp
  have XB : Blk W2 w.heap.size 27 #[.int .i64 st, .slice A ss.length c, .slice A' bs.length c'] := by rw [hW]; exact (Blk.new _ _ _).alloc _
  have XR : Blk W2 (w.heap.size + 1) 27 #[.int .i64 0, .slice none 0 0, .slice none 0 0] := by rw [hW]; exact Blk.new' (by simp)
  have h2 : St W2 B st A A' c c' ss bs := by rw [hW]; exact (h.alloc (by omega) _).alloc (by simp; omega) _
  have B2 : Below w.heap.size w W2 := by rw [hW]; exact (below_alloc _ _).trans ((Below.refl _ _).alloc (by simp) _)
  have hWl : w.heap.size + 2 ≤ W2.heap.size := by omega
  have hWg : W2.heap.size ≤ w.heap.size + 2 := by omega
  have HW := Lib.hid hW
  clear hW hWs
  go_enter Try.func24, Try.ntmps24
  go_wp2_with fail
  rw [← HW.out]
  clear HW
  obtain ⟨p0, p1, p2⟩ := XB.three
  refine (implAre_any _ _ _ _ _ _ _ B _ h2 (by omega)).mono ?_
  rintro e w1 ⟨rfl, hb1⟩
  rw [hg]
  have z1 : W2.heap.size ≤ w1.heap.size := hb1.size
  have XB1 := XB.below hb1 (by omega)
  have XR1 := XR.below hb1 (by omega)
  have h1 := h2.below hb1 (by omega)
  have B1 := B2.trans (hb1.mono (by omega))
  clear XB XR hb1 h2 B2 p0 p1 p2
  obtain ⟨p0, p1, p2⟩ := XB1.three
  go_wp2_with fail
  refine (brokenSet_any _ _ _ _ _ _ _ B _ h1 (by omega) (fun y hy => by have := G.hb y hy; omega)).mono ?_
  rintro e w2 ⟨mb, rfl, hmb, hset, hb2⟩
  have z2 : w1.heap.size ≤ w2.heap.size := hb2.size
  have XB2 := XB1.below hb2 (by omega)
  have XR2 := XR1.below hb2 (by omega)
  have h2 := h1.below hb2 (by omega)
  have B2 := B1.trans (hb2.mono (by omega))
  have hml := hset.lt
  clear XB1 XR1 hb2 h1 B1 p0 p1 p2
  have hlook := hset.look x (by omega) (by omega)
  rw [hh] at hlook
  obtain ⟨s0, s1, s2, f0, f1, f2⟩ := XR2.six
  go_wp2_with fail
  have XF := XR2.full (.int .i64 0) (.slice none 0 0) (.slice none 0 0)
  obtain ⟨t0, t1, t2⟩ := XF.three
  refine bodyPost_ret (v := .tuple #[.agg #[.int .i64 0, .slice none 0 0, .slice none 0 0], .bool false]) (by simp [results, Try.results24, go_sem, t0, t1, t2]) rfl ?_
  exact ⟨_, _, rfl, OwnI.nil _ _, OwnI.nil _ _, fun k hk _ => by simp [Value.ownBlock] at hk, B2.trans (((((Below.refl _ _).setCell (p := ⟨w.heap.size + 1, 0, none⟩) (by simp) _).setCell (p := ⟨w.heap.size + 1, 1, none⟩) (by simp) _).setCell (p := ⟨w.heap.size + 1, 2, none⟩) (by simp) _))⟩

set_option maxHeartbeats 2000000 in
theorem implBreak_yes (st : Int) (A A' : Option Addr) (c c' : Nat) (ss bs : List Int) (x : Int) (B : Nat) (w : World) (h : St w B st A A' c c' ss bs) (hB : B ≤ w.heap.size) (hg : goodB st ss bs = true) (hx1 : 1 ≤ x) (hx2 : x < st) (hh : hasB bs x = false) :
    Calls Try.prog 24 #[stv st A A' c c' ss bs, .int .i64 x] w (NewSt st ss (putL bs x) true w) := by
  have G := good_of hg
  have g2 := G.st2
  have hnb := G.nb
  obtain ⟨W2, hW⟩ : ∃ W, W = (w.alloc (.cells #[.int .i64 st, .slice A ss.length c, .slice A' bs.length c'] 27)).alloc (.cells #[.int .i64 0, .slice none 0 0, .slice none 0 0] 27) := ⟨_, rfl⟩
  have hWs : W2.heap.size = w.heap.size + 2 := by rw [hW]; simp
  have XB : Blk W2 w.heap.size 27 #[.int .i64 st, .slice A ss.length c, .slice A' bs.length c'] := by rw [hW]; exact (Blk.new _ _ _).alloc _
  have XR : Blk W2 (w.heap.size + 1) 27 #[.int .i64 0, .slice none 0 0, .slice none 0 0] := by rw [hW]; exact Blk.new' (by simp)
  have h2 : St W2 B st A A' c c' ss bs := by rw [hW]; exact (h.alloc (by omega) _).alloc (by simp; omega) _
  have B2 : Below w.heap.size w W2 := by rw [hW]; exact (below_alloc _ _).trans ((Below.refl _ _).alloc (by simp) _)
  have hWl : w.heap.size + 2 ≤ W2.heap.size := by omega
  have hWg : W2.heap.size ≤ w.heap.size + 2 := by omega
  have HW := Lib.hid hW
  clear hW hWs
  go_enter Try.func24, Try.ntmps24
  go_wp2_with fail
  rw [← HW.out]
  clear HW
  obtain ⟨p0, p1, p2⟩ := XB.three
  refine (implAre_any _ _ _ _ _ _ _ B _ h2 (by omega)).mono ?_
  rintro e w1 ⟨rfl, hb1⟩
  rw [hg]
  have z1 : W2.heap.size ≤ w1.heap.size := hb1.size
  have XB1 := XB.below hb1 (by omega)
  have XR1 := XR.below hb1 (by omega)
  have h1 := h2.below hb1 (by omega)
  have B1 := B2.trans (hb1.mono (by omega))
  clear XB XR hb1 h2 B2 p0 p1 p2
  obtain ⟨p0, p1, p2⟩ := XB1.three
  go_wp2_with fail
  refine (brokenSet_any _ _ _ _ _ _ _ B _ h1 (by omega) (fun y hy => by have := G.hb y hy; omega)).mono ?_
  rintro e w2 ⟨mb, rfl, hmb, hset, hb2⟩
  have z2 : w1.heap.size ≤ w2.heap.size := hb2.size
  have XB2 := XB1.below hb2 (by omega)
  have XR2 := XR1.below hb2 (by omega)
  have h2 := h1.below hb2 (by omega)
  have B2 := B1.trans (hb2.mono (by omega))
  have hml := hset.lt
  clear XB1 XR1 hb2 h1 B1 p0 p1 p2
  have hlook := hset.look x (by omega) (by omega)
  rw [hh] at hlook
  obtain ⟨D, ho, hs⟩ := hset
  have HS := Lib.hid hs
  have HG := Lib.hid G
  have HH := Lib.hid hh
  have HE := Lib.hid (els_put G hx1 hx2)
  obtain ⟨p0, p1, p2⟩ := XB2.three
  clear hs hh hg
  go_wp2_with (at_mapUpdate; refine wpList_mapUpdate_own _ rfl _ _ _ 48 rfl 3 4 setKey Try.underlying48 _ mb bs.length _ rfl ho (by unfold maxLen; omega) _ _ (.int .i64 x) rfl rfl (Maps.keyOf_int_mk Try.underlying3 (wf64 (by omega) (by omega))) (.lit (.bool true)) [] (plainElem_bool Try.underlying4 true) ?_; intro w3 ho3 hg3; have z3 : w2.heap.size ≤ w3.heap.size := hg3.size; have hset3 := IsSet.put HS.out ho.isMap x ho3; have ht3 : Turned w2 w3 [mb] := Turned.of_grown hg3 (fun k hk => by injection hk with hk; simp [hk]); have XB3 := XB2.turned ht3 (by simp; omega); have XR3 := XR2.turned ht3 (by simp; omega); have h3 := h2.turned ht3 (by omega) (by simp; omega); obtain ⟨q0, q1, q2⟩ := XB3.three)
  refine (withBroken_any st A A' c c' ss bs mb (bs.length + 1) _ B w3 h3 (by omega) hset3 ?_).mono ?_
  · intro i hi
    rcases Bool.or_eq_true_iff.1 hi with h | h
    · have := HG.out.hb i (mem_of_hasB h); omega
    · have : i = x := by simpa using h
      omega
  rintro e w4 ⟨v1, v2, he, hv1, hv2, hap, ht4⟩
  have B3 := (Turned.of_below B2 [mb]).trans' (ht3.more (fun _ h => h))
  have z4 : w3.heap.size ≤ w4.heap.size := ht4.size
  obtain ⟨A1, c1, hvv, _⟩ := hv1.form
  subst hvv
  obtain ⟨A2, c2, hvv, _⟩ := hv2.form
  subst hvv
  subst he
  have XR4 := XR3.turned ht4 (by simp; omega)
  obtain ⟨s0, s1, s2, f0, f1, f2⟩ := XR4.six
  go_wp2_with fail
  have XF := XR4.full (.int .i64 st) (.slice A1 ss.length c1) (.slice A2 (els (fun i => hasB bs i || i == x) 60).length c2)
  obtain ⟨t0, t1, t2⟩ := XF.three
  have g1 := fun k h => (hv1.lt k h).1
  have g2 := fun k h => (hv2.lt k h).1
  refine bodyPost_ret (v := .tuple #[.agg #[.int .i64 st, .slice A1 ss.length c1, .slice A2 (els (fun i => hasB bs i || i == x) 60).length c2], .bool true]) (by simp [results, Try.results24, go_sem, t0, t1, t2]) rfl ?_
  have o1 := (own_full hv1 (g := w.heap.size + 1) (fun k hk e => by have := g1 k hk; omega) (.int .i64 st) (.slice A1 ss.length c1) (.slice A2 (els (fun i => hasB bs i || i == x) 60).length c2)).mono (B' := w.heap.size) (by omega)
  have o2 := (own_full hv2 (g := w.heap.size + 1) (fun k hk e => by have := g2 k hk; omega) (.int .i64 st) (.slice A1 ss.length c1) (.slice A2 (els (fun i => hasB bs i || i == x) 60).length c2)).mono (B' := w.heap.size) (by omega)
  have bt := (turned_full (B3.trans' ht4) (g := w.heap.size + 1) (by omega) (.int .i64 st) (.slice A1 ss.length c1) (.slice A2 (els (fun i => hasB bs i || i == x) 60).length c2)).below (B := w.heap.size) (Nat.le_refl _) (fun k hk => by simp at hk; omega)
  refine ⟨_, _, rfl, o1, ?_, hap, bt⟩
  rw [← HE.out]
  exact o2

set_option maxHeartbeats 2000000 in
theorem implMend_no1 (st : Int) (A A' : Option Addr) (c c' : Nat) (ss bs : List Int) (x : Int) (B : Nat) (w : World) (h : St w B st A A' c c' ss bs) (hB : B ≤ w.heap.size) (hg : goodB st ss bs = false) :
    Calls Try.prog 27 #[stv st A A' c c' ss bs, .int .i64 x] w (NewSt 0 [] [] false w) := by
  obtain ⟨W2, hW⟩ : ∃ W, W = (w.alloc (.cells #[.int .i64 st, .slice A ss.length c, .slice A' bs.length c'] 27)).alloc (.cells #[.int .i64 0, .slice none 0 0, .slice none 0 0] 27) := ⟨_, rfl⟩
  have hWs : W2.heap.size = w.heap.size + 2 := by rw [hW]; simp
  have XB : Blk W2 w.heap.size 27 #[.int .i64 st, .slice A ss.length c, .slice A' bs.length c'] := by rw [hW]; exact (Blk.new _ _ _).alloc _
  have XR : Blk W2 (w.heap.size + 1) 27 #[.int .i64 0, .slice none 0 0, .slice none 0 0] := by rw [hW]; exact Blk.new' (by simp)
  have h2 : St W2 B st A A' c c' ss bs := by rw [hW]; exact (h.alloc (by omega) _).alloc (by simp; omega) _
  have B2 : Below w.heap.size w W2 := by rw [hW]; exact (below_alloc _ _).trans ((Below.refl _ _).alloc (by simp) _)
  have hWl : w.heap.size + 2 ≤ W2.heap.size := by omega
  have hWg : W2.heap.size ≤ w.heap.size + 2 := by omega
  have HW := Lib.hid hW
  clear hW hWs
  go_enter Try.func27, Try.ntmps27
  go_wp2_with fail
  rw [← HW.out]
  clear HW
  obtain ⟨p0, p1, p2⟩ := XB.three
  refine (implAre_any _ _ _ _ _ _ _ B _ h2 (by omega)).mono ?_
  rintro e w1 ⟨rfl, hb1⟩
  rw [hg]
  have z1 : W2.heap.size ≤ w1.heap.size := hb1.size
  have XB1 := XB.below hb1 (by omega)
  have XR1 := XR.below hb1 (by omega)
  have h1 := h2.below hb1 (by omega)
  have B1 := B2.trans (hb1.mono (by omega))
  clear XB XR hb1 h2 B2 p0 p1 p2
  obtain ⟨s0, s1, s2, f0, f1, f2⟩ := XR1.six
  go_wp2_with fail
  have XF := XR1.full (.int .i64 0) (.slice none 0 0) (.slice none 0 0)
  obtain ⟨t0, t1, t2⟩ := XF.three
  refine bodyPost_ret (v := .tuple #[.agg #[.int .i64 0, .slice none 0 0, .slice none 0 0], .bool false]) (by simp [results, Try.results27, go_sem, t0, t1, t2]) rfl ?_
  exact ⟨_, _, rfl, OwnI.nil _ _, OwnI.nil _ _, fun k hk _ => by simp [Value.ownBlock] at hk, B1.trans (((((Below.refl _ _).setCell (p := ⟨w.heap.size + 1, 0, none⟩) (by simp) _).setCell (p := ⟨w.heap.size + 1, 1, none⟩) (by simp) _).setCell (p := ⟨w.heap.size + 1, 2, none⟩) (by simp) _))⟩

set_option maxHeartbeats 2000000 in
theorem implMend_no2 (st : Int) (A A' : Option Addr) (c c' : Nat) (ss bs : List Int) (x : Int) (B : Nat) (w : World) (h : St w B st A A' c c' ss bs) (hB : B ≤ w.heap.size) (hx0 : -9223372036854775808 ≤ x) (hx9 : x ≤ 9223372036854775807) (hg : goodB st ss bs = true) (hh : hasB bs x = false) :
    Calls Try.prog 27 #[stv st A A' c c' ss bs, .int .i64 x] w (NewSt 0 [] [] false w) := by
  have G := good_of hg
  have g2 := G.st2
  obtain ⟨W2, hW⟩ : ∃ W, W = (w.alloc (.cells #[.int .i64 st, .slice A ss.length c, .slice A' bs.length c'] 27)).alloc (.cells #[.int .i64 0, .slice none 0 0, .slice none 0 0] 27) := ⟨_, rfl⟩
  have hWs : W2.heap.size = w.heap.size + 2 := by rw [hW]; simp
  have XB : Blk W2 w.heap.size 27 #[.int .i64 st, .slice A ss.length c, .slice A' bs.length c'] := by rw [hW]; exact (Blk.new _ _ _).alloc _
  have XR : Blk W2 (w.heap.size + 1) 27 #[.int .i64 0, .slice none 0 0, .slice none 0 0] := by rw [hW]; exact Blk.new' (by simp)
  have h2 : St W2 B st A A' c c' ss bs := by rw [hW]; exact (h.alloc (by omega) _).alloc (by simp; omega) _
  have B2 : Below w.heap.size w W2 := by rw [hW]; exact (below_alloc _ _).trans ((Below.refl _ _).alloc (by simp) _)
  have hWl : w.heap.size + 2 ≤ W2.heap.size := by omega
  have hWg : W2.heap.size ≤ w.heap.size + 2 := by omega
  have HW := Lib.hid hW
  clear hW hWs
  go_enter Try.func27, Try.ntmps27
  go_wp2_with fail
  rw [← HW.out]
  clear HW
  obtain ⟨p0, p1, p2⟩ := XB.three
  refine (implAre_any _ _ _ _ _ _ _ B _ h2 (by omega)).mono ?_
  rintro e w1 ⟨rfl, hb1⟩
  rw [hg]
  have z1 : W2.heap.size ≤ w1.heap.size := hb1.size
  have XB1 := XB.below hb1 (by omega)
  have XR1 := XR.below hb1 (by omega)
  have h1 := h2.below hb1 (by omega)
  have B1 := B2.trans (hb1.mono (by omega))
  clear XB XR hb1 h2 B2 p0 p1 p2
  obtain ⟨p0, p1, p2⟩ := XB1.three
  go_wp2_with fail
  refine (brokenSet_any _ _ _ _ _ _ _ B _ h1 (by omega) (fun y hy => by have := G.hb y hy; omega)).mono ?_
  rintro e w2 ⟨mb, rfl, hmb, hset, hb2⟩
  have z2 : w1.heap.size ≤ w2.heap.size := hb2.size
  have XB2 := XB1.below hb2 (by omega)
  have XR2 := XR1.below hb2 (by omega)
  have h2 := h1.below hb2 (by omega)
  have B2 := B1.trans (hb2.mono (by omega))
  have hml := hset.lt
  clear XB1 XR1 hb2 h1 B1 p0 p1 p2
  have hlook := hset.look x (by omega) (by omega)
  rw [hh] at hlook
  obtain ⟨s0, s1, s2, f0, f1, f2⟩ := XR2.six
  go_wp2_with fail
  have XF := XR2.full (.int .i64 0) (.slice none 0 0) (.slice none 0 0)
  obtain ⟨t0, t1, t2⟩ := XF.three
  refine bodyPost_ret (v := .tuple #[.agg #[.int .i64 0, .slice none 0 0, .slice none 0 0], .bool false]) (by simp [results, Try.results27, go_sem, t0, t1, t2]) rfl ?_
  exact ⟨_, _, rfl, OwnI.nil _ _, OwnI.nil _ _, fun k hk _ => by simp [Value.ownBlock] at hk, B2.trans (((((Below.refl _ _).setCell (p := ⟨w.heap.size + 1, 0, none⟩) (by simp) _).setCell (p := ⟨w.heap.size + 1, 1, none⟩) (by simp) _).setCell (p := ⟨w.heap.size + 1, 2, none⟩) (by simp) _))⟩

set_option maxHeartbeats 2000000 in
theorem implMend_yes (st : Int) (A A' : Option Addr) (c c' : Nat) (ss bs : List Int) (x : Int) (B : Nat) (w : World) (h : St w B st A A' c c' ss bs) (hB : B ≤ w.heap.size) (hg : goodB st ss bs = true) (hh : hasB bs x = true) :
    Calls Try.prog 27 #[stv st A A' c c' ss bs, .int .i64 x] w (NewSt st ss (bs.filter (fun k => k != x)) true w) := by
  have G := good_of hg
  have g2 := G.st2
  have hnb := G.nb
  have hxb := G.hb x (mem_of_hasB hh)
  have hx1 : 1 ≤ x := hxb.1
  have hx2 : x ≤ 60 := by omega
  clear hxb
  obtain ⟨W2, hW⟩ : ∃ W, W = (w.alloc (.cells #[.int .i64 st, .slice A ss.length c, .slice A' bs.length c'] 27)).alloc (.cells #[.int .i64 0, .slice none 0 0, .slice none 0 0] 27) := ⟨_, rfl⟩
  have hWs : W2.heap.size = w.heap.size + 2 := by rw [hW]; simp
  have XB : Blk W2 w.heap.size 27 #[.int .i64 st, .slice A ss.length c, .slice A' bs.length c'] := by rw [hW]; exact (Blk.new _ _ _).alloc _
  have XR : Blk W2 (w.heap.size + 1) 27 #[.int .i64 0, .slice none 0 0, .slice none 0 0] := by rw [hW]; exact Blk.new' (by simp)
  have h2 : St W2 B st A A' c c' ss bs := by rw [hW]; exact (h.alloc (by omega) _).alloc (by simp; omega) _
  have B2 : Below w.heap.size w W2 := by rw [hW]; exact (below_alloc _ _).trans ((Below.refl _ _).alloc (by simp) _)
  have hWl : w.heap.size + 2 ≤ W2.heap.size := by omega
  have hWg : W2.heap.size ≤ w.heap.size + 2 := by omega
  have HW := Lib.hid hW
  clear hW hWs
  go_enter Try.func27, Try.ntmps27
  go_wp2_with fail
  rw [← HW.out]
  clear HW
  obtain ⟨p0, p1, p2⟩ := XB.three
  refine (implAre_any _ _ _ _ _ _ _ B _ h2 (by omega)).mono ?_
  rintro e w1 ⟨rfl, hb1⟩
  rw [hg]
  have z1 : W2.heap.size ≤ w1.heap.size := hb1.size
  have XB1 := XB.below hb1 (by omega)
  have XR1 := XR.below hb1 (by omega)
  have h1 := h2.below hb1 (by omega)
  have B1 := B2.trans (hb1.mono (by omega))
  clear XB XR hb1 h2 B2 p0 p1 p2
  obtain ⟨p0, p1, p2⟩ := XB1.three
  go_wp2_with fail
  refine (brokenSet_any _ _ _ _ _ _ _ B _ h1 (by omega) (fun y hy => by have := G.hb y hy; omega)).mono ?_
  rintro e w2 ⟨mb, rfl, hmb, hset, hb2⟩
  have z2 : w1.heap.size ≤ w2.heap.size := hb2.size
  have XB2 := XB1.below hb2 (by omega)
  have XR2 := XR1.below hb2 (by omega)
  have h2 := h1.below hb2 (by omega)
  have B2 := B1.trans (hb2.mono (by omega))
  have hml := hset.lt
  clear XB1 XR1 hb2 h1 B1 p0 p1 p2
  have hlook := hset.look x (by omega) (by omega)
  rw [hh] at hlook
  obtain ⟨D, ho, hs⟩ := hset
  have HS := Lib.hid hs
  have HG := Lib.hid G
  have HH := Lib.hid hh
  have HE := Lib.hid (els_drop (x := x) G)
  obtain ⟨p0, p1, p2⟩ := XB2.three
  clear hs hh hg
  go_wp2_with (at_delete; refine wpList_delete_own _ rfl _ _ 48 3 rfl 4 setKey Try.underlying48 _ mb bs.length D rfl ho _ _ rfl (Maps.keyOf_int_mk Try.underlying3 (wf64 (by omega) (by omega))) ?_; intro w3 ho3 htn; have hg3 := htn.grown; have z3 : w2.heap.size ≤ w3.heap.size := hg3.size; have hset3 := IsSet.del HS.out x ho3; have ht3 : Turned w2 w3 [mb] := Turned.of_grown hg3 (fun k hk => by injection hk with hk; simp [hk]); have XB3 := XB2.turned ht3 (by simp; omega); have XR3 := XR2.turned ht3 (by simp; omega); have h3 := h2.turned ht3 (by omega) (by simp; omega); obtain ⟨q0, q1, q2⟩ := XB3.three)
  refine (withBroken_any st A A' c c' ss bs mb bs.length _ B w3 h3 (by omega) hset3 ?_).mono ?_
  · intro i hi
    have h := (Bool.and_eq_true_iff.1 hi).1
    have := HG.out.hb i (mem_of_hasB h)
    omega
  rintro e w4 ⟨v1, v2, he, hv1, hv2, hap, ht4⟩
  have B3 := (Turned.of_below B2 [mb]).trans' (ht3.more (fun _ h => h))
  have z4 : w3.heap.size ≤ w4.heap.size := ht4.size
  obtain ⟨A1, c1, hvv, _⟩ := hv1.form
  subst hvv
  obtain ⟨A2, c2, hvv, _⟩ := hv2.form
  subst hvv
  subst he
  have XR4 := XR3.turned ht4 (by simp; omega)
  obtain ⟨s0, s1, s2, f0, f1, f2⟩ := XR4.six
  go_wp2_with fail
  have XF := XR4.full (.int .i64 st) (.slice A1 ss.length c1) (.slice A2 (els (fun i => hasB bs i && !(i == x)) 60).length c2)
  obtain ⟨t0, t1, t2⟩ := XF.three
  have g1 := fun k h => (hv1.lt k h).1
  have g2 := fun k h => (hv2.lt k h).1
  refine bodyPost_ret (v := .tuple #[.agg #[.int .i64 st, .slice A1 ss.length c1, .slice A2 (els (fun i => hasB bs i && !(i == x)) 60).length c2], .bool true]) (by simp [results, Try.results27, go_sem, t0, t1, t2]) rfl ?_
  have o1 := (own_full hv1 (g := w.heap.size + 1) (fun k hk e => by have := g1 k hk; omega) (.int .i64 st) (.slice A1 ss.length c1) (.slice A2 (els (fun i => hasB bs i && !(i == x)) 60).length c2)).mono (B' := w.heap.size) (by omega)
  have o2 := (own_full hv2 (g := w.heap.size + 1) (fun k hk e => by have := g2 k hk; omega) (.int .i64 st) (.slice A1 ss.length c1) (.slice A2 (els (fun i => hasB bs i && !(i == x)) 60).length c2)).mono (B' := w.heap.size) (by omega)
  have bt := (turned_full (B3.trans' ht4) (g := w.heap.size + 1) (by omega) (.int .i64 st) (.slice A1 ss.length c1) (.slice A2 (els (fun i => hasB bs i && !(i == x)) 60).length c2)).below (B := w.heap.size) (Nat.le_refl _) (fun k hk => by simp at hk; omega)
  refine ⟨_, _, rfl, o1, ?_, hap, bt⟩
  rw [← HE.out]
  exact o2

end Go.Proofs.Ytdiiedekodeahaa
