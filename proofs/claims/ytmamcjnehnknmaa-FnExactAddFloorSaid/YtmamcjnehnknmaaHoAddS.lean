/- Contracts: a floor more at the top, the model. -/
import Derived.Test.YtmamcjnehnknmaaHoAdd
import Derived.Test.YtmamcjnehnknmaaGOwn
import Derived.Deep.RegionHeld3
import Derived.RegionTactic
import Derived.BigRegion
import Derived.ChangeAlike
namespace Go.Proofs.Ytmamcjnehnknmaa
open Go.RowKit

theorem add_good {ss bs : List Int} {x y : Int} (g : goodH ss bs = true) : addB ss bs x y = (!decide (bs.length = 12) && (inB x 1 40 && inB y 0 20)) := by
  have G := goodH_of g
  have h1 := G.n0
  have h2 := G.n1
  have h3 := G.nb
  have g0 := g
  simp only [goodH, Bool.and_eq_true, decide_eq_true_eq] at g
  obtain ⟨_, _, g3, g4⟩ := g
  have l1 : (ss ++ [x]).length = ss.length + 1 := by simp
  have l2 : (bs ++ [y]).length = ss.length + 2 := by simp; omega
  rw [addB, g0, Bool.true_and]
  simp only [goodH, l1, l2, allB_snoc, g3, g4, Bool.true_and]
  have e2 : decide (((ss.length + 1 : Nat) : Int) = ((ss.length + 2 : Nat) : Int) - 1) = true := decide_eq_true (by omega)
  rw [e2, Bool.true_and]
  congr 1
  by_cases h : bs.length = 12
  · rw [inB_no (n := ((ss.length + 2 : Nat) : Int)) (lo := 2) (hi := 12) (by omega)]; simp [h]
  · rw [inB_yes (n := ((ss.length + 2 : Nat) : Int)) (lo := 2) (hi := 12) (by omega) (by omega)]; simp [h]
/-- append of a number's own slice onto a row of the call's own, in a region that draws -/
theorem step_pushK (w : World) {ops : Array Oper} {o : Oper} {a : Act} {K : Act → World → Prop} {Q : Exit → Act → World → Prop} {E : Prop} (hgd : o.guard = none) (s x : Operand)
    (ho : o.op = .call { callee := .builtin .append, args := #[s, x], argTypes := #[22, 22] }) (B0 : Nat) (v : Value) (xs : List Int) (hs : a.eval s = v) (hown : OwnI w B0 v xs) (g : Nat) (z : Int) (hx : a.eval x = .slice (some ⟨g, 0, none⟩) 1 1)
    (hz : Blk w g 3 #[.int .i64 z]) (hn : xs.length ≤ 1048576) (hB : B0 ≤ w.heap.size)
    (h : ∀ A1 c1 w', OwnI w' B0 (.slice A1 (xs.length + 1) c1) (xs ++ [z]) → Below B0 w w' → Turned w w' (rowL v) → K (a.put o.dst (.slice A1 (xs.length + 1) c1)) w') :
    if Region.wanted o (yielded ops a.tmps) = true then Oper.wp Try.prog o a w K Q else E := by
  refine step_append_rd w hgd s x ho B0 (g + 1) v xs [z] hs hown (some ⟨g, 0, none⟩) 1 hx ⟨Nat.le_refl _, fun k hk => ?_⟩ (by simp; omega) hB ?_
  · obtain rfl : k = 0 := by simpa using hk
    exact ⟨g, 0, rfl, by omega, by rw [hz.cell]; rfl⟩
  · intro v' w' h1 h2 h3 _
    obtain ⟨A1, c1, rfl, _⟩ := h1.form
    simp only [List.length_append, List.length_cons, List.length_nil, Nat.zero_add] at h1 ⊢
    exact h A1 c1 w' h1 h2 (Turned.of_grown h3 (fun k hk => mem_rowL.2 hk))
theorem Blk.one {w : World} {g : Nat} {t : TypeId} {v : Value} (h : Blk w g t #[v]) : w.cell? ⟨g, 0, none⟩ = some v := h.cell 0

theorem l1OwnN_any' (A : Option Addr) (c : Nat) (xs : List Int) (B : Nat) (w : World) (hr : Rd w B A c xs) (hB : B ≤ w.heap.size) (hn : xs.length ≤ 1048576) :
    Calls Try.prog 40 #[.slice A xs.length c] w fun e w' => ∃ A1 c1, e = .returned (.slice A1 xs.length c1) ∧ OwnI w' w.heap.size (.slice A1 xs.length c1) xs ∧ Below w.heap.size w w' := by
  refine (l1Own_any A c xs B w hr hB hn).mono ?_
  rintro e w' ⟨v, rfl, hv, hb⟩
  obtain ⟨A1, c1, rfl, _⟩ := hv.form
  exact ⟨A1, c1, rfl, hv, hb⟩

set_option maxRecDepth 100000 in
set_option maxHeartbeats 8000000 in
theorem specAdd_any (A A' : Option Addr) (c c' : Nat) (ss bs : List Int) (x y : Int) (B : Nat) (w : World) (h : Ho w B A A' c c' ss bs) (hB : B ≤ w.heap.size) :
    Calls Try.prog 11 #[.agg #[.slice A ss.length c, .slice A' bs.length c'], .int .i64 x, .int .i64 y] w (SomeHo (addU ss bs x y) (addV ss bs x y) (addB ss bs x y) w) := by
  cases g : goodH ss bs
  · have hA : addB ss bs x y = false := by simp [addB, g]
    have hns := h.ns
    rw [show addU ss bs x y = [] by simp [addU, hA], show addV ss bs x y = [] by simp [addV, hA], hA]
    have H := Lib.hid g
    clear g hA
    obtain ⟨W2, hW⟩ : ∃ W, W = (w.alloc (.cells #[.slice A ss.length c, .slice A' bs.length c'] 26)).alloc (.cells #[.slice none 0 0, .slice none 0 0] 26) := ⟨_, rfl⟩
    have F0 := Fr.first h hB
    rw [← hW] at F0
    have HW := Lib.hid hW
    clear hW
    go_enter Try.func11, Try.ntmps11
    go_wp2_with fail
    rw [← HW.out]
    clear HW
    obtain ⟨p0, p1⟩ := F0.bx.two
    refine (ldGood_any _ _ _ _ _ _ B _ F0.ho (by have := F0.sz; omega)).mono ?_
    rintro e w1 ⟨rfl, hb⟩
    have F1 := F0.below hb F0.sz
    have hz1 := F1.sz
    clear p0 p1 F0 hb
    obtain ⟨p0, p1⟩ := F1.bx.two
    rw [H.out]
    obtain ⟨s0, s1, f0, f1⟩ := F1.rs.four
    go_wp2_with fail
    obtain ⟨t0, t1⟩ := (F1.rs.full2 (.slice none 0 0) (.slice none 0 0)).two
    refine bodyPost_ret (v := .tuple #[.agg #[.slice none 0 0, .slice none 0 0], .bool false]) (by simp [results, Try.results11, go_sem, t0, t1]) rfl ?_
    exact ⟨none, none, 0, 0, rfl, ⟨Rd.nil, Rd.nil, by simp, by simp⟩, F1.be.trans ((turned_full2 _ _ _ _).frame (by omega) (by have := F1.sz; omega))⟩
  · have G := goodH_of g
    have hns := h.ns
    have hnb := h.nb
    have hl1 := G.n1
    have hl0 := G.n0
    have hl2 := G.nb
    have hl3 : ss.length + 1 ≤ bs.length := by omega
    have hl4 : bs.length ≤ ss.length + 1 := by omega
    clear hl2
    have H := Lib.hid g
    by_cases h12 : bs.length = 12
    · have hA : addB ss bs x y = false := by rw [add_good g]; simp [h12]
      rw [show addU ss bs x y = [] by simp [addU, hA], show addV ss bs x y = [] by simp [addV, hA], hA]
      have hq : ((bs.length : Int) == 12) = true := by simp [h12]
      clear g hA h12 G
      obtain ⟨W2, hW⟩ : ∃ W, W = (w.alloc (.cells #[.slice A ss.length c, .slice A' bs.length c'] 26)).alloc (.cells #[.slice none 0 0, .slice none 0 0] 26) := ⟨_, rfl⟩
      have F0 := Fr.first h hB
      rw [← hW] at F0
      have HW := Lib.hid hW
      clear hW
      go_enter Try.func11, Try.ntmps11
      go_wp2_with fail
      rw [← HW.out]
      clear HW
      obtain ⟨p0, p1⟩ := F0.bx.two
      refine (ldGood_any _ _ _ _ _ _ B _ F0.ho (by have := F0.sz; omega)).mono ?_
      rintro e w1 ⟨rfl, hb⟩
      have F1 := F0.below hb F0.sz
      have hz1 := F1.sz
      clear p0 p1 F0 hb
      obtain ⟨p0, p1⟩ := F1.bx.two
      rw [H.out]
      obtain ⟨s0, s1, f0, f1⟩ := F1.rs.four
      go_wp2_with fail
      obtain ⟨t0, t1⟩ := (F1.rs.full2 (.slice none 0 0) (.slice none 0 0)).two
      refine bodyPost_ret (v := .tuple #[.agg #[.slice none 0 0, .slice none 0 0], .bool false]) (by simp [results, Try.results11, go_sem, t0, t1]) rfl ?_
      exact ⟨none, none, 0, 0, rfl, ⟨Rd.nil, Rd.nil, by simp, by simp⟩, F1.be.trans ((turned_full2 _ _ _ _).frame (by omega) (by have := F1.sz; omega))⟩
    · have hq : ((bs.length : Int) == 12) = false := by simp; omega
      have hni : ¬ (bs.length : Int) = 12 := by omega
      cases hi : inB x 1 40
      · have hA : addB ss bs x y = false := by rw [add_good g]; simp [hi]
        rw [show addU ss bs x y = [] by simp [addU, hA], show addV ss bs x y = [] by simp [addV, hA], hA]
        have HI := Lib.hid hi
        clear g hA h12 G hi
        obtain ⟨W2, hW⟩ : ∃ W, W = (w.alloc (.cells #[.slice A ss.length c, .slice A' bs.length c'] 26)).alloc (.cells #[.slice none 0 0, .slice none 0 0] 26) := ⟨_, rfl⟩
        have F0 := Fr.first h hB
        rw [← hW] at F0
        have HW := Lib.hid hW
        clear hW
        go_enter Try.func11, Try.ntmps11
        go_wp2_with fail
        rw [← HW.out]
        clear HW
        obtain ⟨p0, p1⟩ := F0.bx.two
        refine (ldGood_any _ _ _ _ _ _ B _ F0.ho (by have := F0.sz; omega)).mono ?_
        rintro e w1 ⟨rfl, hb⟩
        have F1 := F0.below hb F0.sz
        have hz1 := F1.sz
        clear p0 p1 F0 hb
        obtain ⟨p0, p1⟩ := F1.bx.two
        rw [H.out]
        go_wp2_with fail
        refine (l1In_any _ _ _ _).mono ?_
        rintro e w' ⟨rfl, rfl⟩
        rw [HI.out]
        obtain ⟨s0, s1, f0, f1⟩ := F1.rs.four
        go_wp2_with fail
        obtain ⟨t0, t1⟩ := (F1.rs.full2 (.slice none 0 0) (.slice none 0 0)).two
        refine bodyPost_ret (v := .tuple #[.agg #[.slice none 0 0, .slice none 0 0], .bool false]) (by simp [results, Try.results11, go_sem, t0, t1]) rfl ?_
        exact ⟨none, none, 0, 0, rfl, ⟨Rd.nil, Rd.nil, by simp, by simp⟩, F1.be.trans ((turned_full2 _ _ _ _).frame (by omega) (by have := F1.sz; omega))⟩
      · cases hj : inB y 0 20
        · have hA : addB ss bs x y = false := by rw [add_good g]; simp [hj]
          rw [show addU ss bs x y = [] by simp [addU, hA], show addV ss bs x y = [] by simp [addV, hA], hA]
          have HI := Lib.hid hi
          have HJ := Lib.hid hj
          clear g hA h12 G hi hj
          obtain ⟨W2, hW⟩ : ∃ W, W = (w.alloc (.cells #[.slice A ss.length c, .slice A' bs.length c'] 26)).alloc (.cells #[.slice none 0 0, .slice none 0 0] 26) := ⟨_, rfl⟩
          have F0 := Fr.first h hB
          rw [← hW] at F0
          have HW := Lib.hid hW
          clear hW
          go_enter Try.func11, Try.ntmps11
          go_wp2_with fail
          rw [← HW.out]
          clear HW
          obtain ⟨p0, p1⟩ := F0.bx.two
          refine (ldGood_any _ _ _ _ _ _ B _ F0.ho (by have := F0.sz; omega)).mono ?_
          rintro e w1 ⟨rfl, hb⟩
          have F1 := F0.below hb F0.sz
          have hz1 := F1.sz
          clear p0 p1 F0 hb
          obtain ⟨p0, p1⟩ := F1.bx.two
          rw [H.out]
          go_wp2_with fail
          refine (l1In_any _ _ _ _).mono ?_
          rintro e w' ⟨rfl, rfl⟩
          rw [HI.out]
          go_wp2_with fail
          refine (l1In_any _ _ _ _).mono ?_
          rintro e w' ⟨rfl, rfl⟩
          rw [HJ.out]
          obtain ⟨s0, s1, f0, f1⟩ := F1.rs.four
          go_wp2_with fail
          obtain ⟨t0, t1⟩ := (F1.rs.full2 (.slice none 0 0) (.slice none 0 0)).two
          refine bodyPost_ret (v := .tuple #[.agg #[.slice none 0 0, .slice none 0 0], .bool false]) (by simp [results, Try.results11, go_sem, t0, t1]) rfl ?_
          exact ⟨none, none, 0, 0, rfl, ⟨Rd.nil, Rd.nil, by simp, by simp⟩, F1.be.trans ((turned_full2 _ _ _ _).frame (by omega) (by have := F1.sz; omega))⟩
        · have hA : addB ss bs x y = true := by rw [add_good g]; simp [h12, hi, hj]
          rw [show addU ss bs x y = ss ++ [x] by simp [addU, hA], show addV ss bs x y = bs ++ [y] by simp [addV, hA], hA]
          have HI := Lib.hid hi
          have HJ := Lib.hid hj
          have hxl := Lib.hid (show (ss ++ [x]).length = ss.length + 1 by simp)
          have hyl := Lib.hid (show (bs ++ [y]).length = bs.length + 1 by simp)
          clear g hA h12 G hi hj
          obtain ⟨W2, hW⟩ : ∃ W, W = (w.alloc (.cells #[.slice A ss.length c, .slice A' bs.length c'] 26)).alloc (.cells #[.slice none 0 0, .slice none 0 0] 26) := ⟨_, rfl⟩
          have F0 := Fr.first h hB
          rw [← hW] at F0
          have HW := Lib.hid hW
          clear hW
          go_enter Try.func11, Try.ntmps11
          go_wp2_with fail
          rw [← HW.out]
          clear HW
          obtain ⟨p0, p1⟩ := F0.bx.two
          refine (ldGood_any _ _ _ _ _ _ B _ F0.ho (by have := F0.sz; omega)).mono ?_
          rintro e w1 ⟨rfl, hb⟩
          have F1 := F0.below hb F0.sz
          have hz1 := F1.sz
          clear p0 p1 F0 hb
          obtain ⟨p0, p1⟩ := F1.bx.two
          rw [H.out]
          go_wp2_with fail
          refine (l1In_any _ _ _ _).mono ?_
          rintro e w' ⟨rfl, rfl⟩
          rw [HI.out]
          go_wp2_with fail
          refine (l1In_any _ _ _ _).mono ?_
          rintro e w' ⟨rfl, rfl⟩
          rw [HJ.out]
          have hBw := F1.bd
          obtain ⟨s0, s1, f0, f1⟩ := F1.rs.four
          go_wp2_with fail
          go_region_held3 (fun w' => w'.cell? ⟨w.heap.size, 0, none⟩ = some (.slice A ss.length c) ∧ w'.cell? ⟨w.heap.size, 1, none⟩ = some (.slice A' bs.length c'))
            (first | exact ⟨p0, p1⟩ | exact ⟨q0, q1⟩ | exact keep2 FD.bx (by omega) _ _ | go_keep)
            (first | (go_at_call 40; (refine (l1OwnN_any' A c ss B w1.drew F1.drew.ho.rs (by show B ≤ w1.heap.size; first | omega | (simp; omega)) hns).mono ?_); rintro e wA ⟨A1, c1, rfl, hv1, hb0⟩; have hbA : Below w1.heap.size w1 wA := below_undrew hb0; have FA := F1.below hbA (by first | omega | (simp; omega) | (simp; done)); have fzA := FA.sz; obtain ⟨q0, q1⟩ := FA.bx.two; have hsA : w1.heap.size = w1.heap.size + 0 := (by simp); have zA1 : w1.heap.size + 0 ≤ wA.heap.size := (by have := hbA.size; omega); have lo1 : ∀ k, (Value.slice A1 ss.length c1).ownBlock = some k → w1.heap.size + 0 ≤ k ∧ k < wA.heap.size := fun k hk => (by have h9 := hv1.lt k hk; have h8 : w1.heap.size ≤ k := h9.1; omega); replace hv1 := hv1.mono (B' := w1.heap.size + 0) (by show _ ≤ w1.heap.size; omega)) | (go_at_call 40; (refine (l1OwnN_any' A c ss B (w1.alloc (.cells #[.int .i64 x] 3)).drew (F1.alloc (.cells #[.int .i64 x] 3)).drew.ho.rs (by show B ≤ (w1.alloc (.cells #[.int .i64 x] 3)).heap.size; first | omega | (simp; omega)) hns).mono ?_); rintro e wA ⟨A1, c1, rfl, hv1, hb0⟩; have hbA : Below (w1.alloc (.cells #[.int .i64 x] 3)).heap.size (w1.alloc (.cells #[.int .i64 x] 3)) wA := below_undrew hb0; have FA := (F1.alloc (.cells #[.int .i64 x] 3)).below hbA (by first | omega | (simp; omega) | (simp; done)); have fzA := FA.sz; obtain ⟨q0, q1⟩ := FA.bx.two; have hsA : (w1.alloc (.cells #[.int .i64 x] 3)).heap.size = w1.heap.size + 1 := (by simp); have zA1 : w1.heap.size + 1 ≤ wA.heap.size := (by have := hbA.size; omega); have lo1 : ∀ k, (Value.slice A1 ss.length c1).ownBlock = some k → w1.heap.size + 1 ≤ k ∧ k < wA.heap.size := fun k hk => (by have h9 := hv1.lt k hk; have h8 : (w1.alloc (.cells #[.int .i64 x] 3)).heap.size ≤ k := h9.1; omega); replace hv1 := hv1.mono (B' := w1.heap.size + 1) (by show _ ≤ (w1.alloc (.cells #[.int .i64 x] 3)).heap.size; omega); have Kx : Blk wA (w1.heap.size + 0) 3 #[.int .i64 x] := (show Blk (w1.alloc (.cells #[.int .i64 x] 3)) (w1.heap.size + 0) 3 #[.int .i64 x] from (Blk.new _ _ _)).below hbA (by omega)) | (go_at_call 40; (refine (l1OwnN_any' A c ss B (w1.alloc (.cells #[.int .i64 y] 3)).drew (F1.alloc (.cells #[.int .i64 y] 3)).drew.ho.rs (by show B ≤ (w1.alloc (.cells #[.int .i64 y] 3)).heap.size; first | omega | (simp; omega)) hns).mono ?_); rintro e wA ⟨A1, c1, rfl, hv1, hb0⟩; have hbA : Below (w1.alloc (.cells #[.int .i64 y] 3)).heap.size (w1.alloc (.cells #[.int .i64 y] 3)) wA := below_undrew hb0; have FA := (F1.alloc (.cells #[.int .i64 y] 3)).below hbA (by first | omega | (simp; omega) | (simp; done)); have fzA := FA.sz; obtain ⟨q0, q1⟩ := FA.bx.two; have hsA : (w1.alloc (.cells #[.int .i64 y] 3)).heap.size = w1.heap.size + 1 := (by simp); have zA1 : w1.heap.size + 1 ≤ wA.heap.size := (by have := hbA.size; omega); have lo1 : ∀ k, (Value.slice A1 ss.length c1).ownBlock = some k → w1.heap.size + 1 ≤ k ∧ k < wA.heap.size := fun k hk => (by have h9 := hv1.lt k hk; have h8 : (w1.alloc (.cells #[.int .i64 y] 3)).heap.size ≤ k := h9.1; omega); replace hv1 := hv1.mono (B' := w1.heap.size + 1) (by show _ ≤ (w1.alloc (.cells #[.int .i64 y] 3)).heap.size; omega); have Ky : Blk wA (w1.heap.size + 0) 3 #[.int .i64 y] := (show Blk (w1.alloc (.cells #[.int .i64 y] 3)) (w1.heap.size + 0) 3 #[.int .i64 y] from (Blk.new _ _ _)).below hbA (by omega)) | (go_at_call 40; (refine (l1OwnN_any' A c ss B ((w1.alloc (.cells #[.int .i64 x] 3)).alloc (.cells #[.int .i64 y] 3)).drew ((F1.alloc (.cells #[.int .i64 x] 3)).alloc (.cells #[.int .i64 y] 3)).drew.ho.rs (by show B ≤ ((w1.alloc (.cells #[.int .i64 x] 3)).alloc (.cells #[.int .i64 y] 3)).heap.size; first | omega | (simp; omega)) hns).mono ?_); rintro e wA ⟨A1, c1, rfl, hv1, hb0⟩; have hbA : Below ((w1.alloc (.cells #[.int .i64 x] 3)).alloc (.cells #[.int .i64 y] 3)).heap.size ((w1.alloc (.cells #[.int .i64 x] 3)).alloc (.cells #[.int .i64 y] 3)) wA := below_undrew hb0; have FA := ((F1.alloc (.cells #[.int .i64 x] 3)).alloc (.cells #[.int .i64 y] 3)).below hbA (by first | omega | (simp; omega) | (simp; done)); have fzA := FA.sz; obtain ⟨q0, q1⟩ := FA.bx.two; have hsA : ((w1.alloc (.cells #[.int .i64 x] 3)).alloc (.cells #[.int .i64 y] 3)).heap.size = w1.heap.size + 2 := (by simp); have zA1 : w1.heap.size + 2 ≤ wA.heap.size := (by have := hbA.size; omega); have lo1 : ∀ k, (Value.slice A1 ss.length c1).ownBlock = some k → w1.heap.size + 2 ≤ k ∧ k < wA.heap.size := fun k hk => (by have h9 := hv1.lt k hk; have h8 : ((w1.alloc (.cells #[.int .i64 x] 3)).alloc (.cells #[.int .i64 y] 3)).heap.size ≤ k := h9.1; omega); replace hv1 := hv1.mono (B' := w1.heap.size + 2) (by show _ ≤ ((w1.alloc (.cells #[.int .i64 x] 3)).alloc (.cells #[.int .i64 y] 3)).heap.size; omega); have Kx : Blk wA (w1.heap.size + 0) 3 #[.int .i64 x] := (show Blk ((w1.alloc (.cells #[.int .i64 x] 3)).alloc (.cells #[.int .i64 y] 3)) (w1.heap.size + 0) 3 #[.int .i64 x] from ((Blk.new _ _ _).alloc _)).below hbA (by omega); have Ky : Blk wA (w1.heap.size + 1) 3 #[.int .i64 y] := (show Blk ((w1.alloc (.cells #[.int .i64 x] 3)).alloc (.cells #[.int .i64 y] 3)) (w1.heap.size + 1) 3 #[.int .i64 y] from (Blk.new' (g := w1.heap.size + 1) (by simp))).below hbA (by omega)) | (go_at_call 40; (refine (l1OwnN_any' A c ss B ((w1.alloc (.cells #[.int .i64 y] 3)).alloc (.cells #[.int .i64 x] 3)).drew ((F1.alloc (.cells #[.int .i64 y] 3)).alloc (.cells #[.int .i64 x] 3)).drew.ho.rs (by show B ≤ ((w1.alloc (.cells #[.int .i64 y] 3)).alloc (.cells #[.int .i64 x] 3)).heap.size; first | omega | (simp; omega)) hns).mono ?_); rintro e wA ⟨A1, c1, rfl, hv1, hb0⟩; have hbA : Below ((w1.alloc (.cells #[.int .i64 y] 3)).alloc (.cells #[.int .i64 x] 3)).heap.size ((w1.alloc (.cells #[.int .i64 y] 3)).alloc (.cells #[.int .i64 x] 3)) wA := below_undrew hb0; have FA := ((F1.alloc (.cells #[.int .i64 y] 3)).alloc (.cells #[.int .i64 x] 3)).below hbA (by first | omega | (simp; omega) | (simp; done)); have fzA := FA.sz; obtain ⟨q0, q1⟩ := FA.bx.two; have hsA : ((w1.alloc (.cells #[.int .i64 y] 3)).alloc (.cells #[.int .i64 x] 3)).heap.size = w1.heap.size + 2 := (by simp); have zA1 : w1.heap.size + 2 ≤ wA.heap.size := (by have := hbA.size; omega); have lo1 : ∀ k, (Value.slice A1 ss.length c1).ownBlock = some k → w1.heap.size + 2 ≤ k ∧ k < wA.heap.size := fun k hk => (by have h9 := hv1.lt k hk; have h8 : ((w1.alloc (.cells #[.int .i64 y] 3)).alloc (.cells #[.int .i64 x] 3)).heap.size ≤ k := h9.1; omega); replace hv1 := hv1.mono (B' := w1.heap.size + 2) (by show _ ≤ ((w1.alloc (.cells #[.int .i64 y] 3)).alloc (.cells #[.int .i64 x] 3)).heap.size; omega); have Ky : Blk wA (w1.heap.size + 0) 3 #[.int .i64 y] := (show Blk ((w1.alloc (.cells #[.int .i64 y] 3)).alloc (.cells #[.int .i64 x] 3)) (w1.heap.size + 0) 3 #[.int .i64 y] from ((Blk.new _ _ _).alloc _)).below hbA (by omega); have Kx : Blk wA (w1.heap.size + 1) 3 #[.int .i64 x] := (show Blk ((w1.alloc (.cells #[.int .i64 y] 3)).alloc (.cells #[.int .i64 x] 3)) (w1.heap.size + 1) 3 #[.int .i64 x] from (Blk.new' (g := w1.heap.size + 1) (by simp))).below hbA (by omega)) | (refine step_pushK _ (by rfl) _ _ (by rfl) _ _ ss (by rfl) hv1 _ x (by rfl) Kx hns (by first | omega | (simp; omega) | (simp; done)) ?_; intro A3 c3 wB hvB hbB htB; have FB := FA.below (B' := w.heap.size + 2) (hbB.mono (by omega)) (Nat.le_refl _); have fzB := FB.sz; obtain ⟨q0, q1⟩ := FB.bx.two; have loB : ∀ k, (Value.slice A3 (ss.length + 1) c3).ownBlock = some k → w1.heap.size ≤ k ∧ k < wB.heap.size := fun k hk => (by have h9 := hvB.lt k hk; omega); have hsB : wA.heap.size = wA.heap.size + 0 := (by simp); have zB1 : wA.heap.size + 0 ≤ wB.heap.size := (by have := hbB.size; omega); try (replace Ky := Ky.turned htB (fun hm => by have := lo1 _ (mem_rowL.1 hm); omega))) | (refine step_pushK _ (by rfl) _ _ (by rfl) _ _ ss (by rfl) (hv1.alloc (.cells #[.int .i64 x] 3)) _ x (by rfl) (show Blk (wA.alloc (.cells #[.int .i64 x] 3)) (wA.heap.size + 0) 3 #[.int .i64 x] from (Blk.new _ _ _)) hns (by first | omega | (simp; omega) | (simp; done)) ?_; intro A3 c3 wB hvB hbB htB; have FB := (FA.alloc (.cells #[.int .i64 x] 3)).below (B' := w.heap.size + 2) (hbB.mono (by omega)) (Nat.le_refl _); have fzB := FB.sz; obtain ⟨q0, q1⟩ := FB.bx.two; have loB : ∀ k, (Value.slice A3 (ss.length + 1) c3).ownBlock = some k → w1.heap.size ≤ k ∧ k < wB.heap.size := fun k hk => (by have h9 := hvB.lt k hk; omega); have hsB : (wA.alloc (.cells #[.int .i64 x] 3)).heap.size = wA.heap.size + 1 := (by simp); have zB1 : wA.heap.size + 1 ≤ wB.heap.size := (by have := hbB.size; omega); try (replace Ky := (Ky.alloc _).turned htB (fun hm => by have := lo1 _ (mem_rowL.1 hm); omega))) | (refine step_pushK _ (by rfl) _ _ (by rfl) _ _ ss (by rfl) (hv1.alloc (.cells #[.int .i64 y] 3)) _ x (by rfl) (Kx.alloc _) hns (by first | omega | (simp; omega) | (simp; done)) ?_; intro A3 c3 wB hvB hbB htB; have FB := (FA.alloc (.cells #[.int .i64 y] 3)).below (B' := w.heap.size + 2) (hbB.mono (by omega)) (Nat.le_refl _); have fzB := FB.sz; obtain ⟨q0, q1⟩ := FB.bx.two; have loB : ∀ k, (Value.slice A3 (ss.length + 1) c3).ownBlock = some k → w1.heap.size ≤ k ∧ k < wB.heap.size := fun k hk => (by have h9 := hvB.lt k hk; omega); have hsB : (wA.alloc (.cells #[.int .i64 y] 3)).heap.size = wA.heap.size + 1 := (by simp); have zB1 : wA.heap.size + 1 ≤ wB.heap.size := (by have := hbB.size; omega); have Ky : Blk wB (wA.heap.size + 0) 3 #[.int .i64 y] := (show Blk (wA.alloc (.cells #[.int .i64 y] 3)) (wA.heap.size + 0) 3 #[.int .i64 y] from (Blk.new _ _ _)).turned htB (fun hm => by have := lo1 _ (mem_rowL.1 hm); omega)) | (refine step_pushK _ (by rfl) _ _ (by rfl) _ _ ss (by rfl) ((hv1.alloc (.cells #[.int .i64 x] 3)).alloc (.cells #[.int .i64 y] 3)) _ x (by rfl) (show Blk ((wA.alloc (.cells #[.int .i64 x] 3)).alloc (.cells #[.int .i64 y] 3)) (wA.heap.size + 0) 3 #[.int .i64 x] from ((Blk.new _ _ _).alloc _)) hns (by first | omega | (simp; omega) | (simp; done)) ?_; intro A3 c3 wB hvB hbB htB; have FB := ((FA.alloc (.cells #[.int .i64 x] 3)).alloc (.cells #[.int .i64 y] 3)).below (B' := w.heap.size + 2) (hbB.mono (by omega)) (Nat.le_refl _); have fzB := FB.sz; obtain ⟨q0, q1⟩ := FB.bx.two; have loB : ∀ k, (Value.slice A3 (ss.length + 1) c3).ownBlock = some k → w1.heap.size ≤ k ∧ k < wB.heap.size := fun k hk => (by have h9 := hvB.lt k hk; omega); have hsB : ((wA.alloc (.cells #[.int .i64 x] 3)).alloc (.cells #[.int .i64 y] 3)).heap.size = wA.heap.size + 2 := (by simp); have zB1 : wA.heap.size + 2 ≤ wB.heap.size := (by have := hbB.size; omega); have Ky : Blk wB (wA.heap.size + 1) 3 #[.int .i64 y] := (show Blk ((wA.alloc (.cells #[.int .i64 x] 3)).alloc (.cells #[.int .i64 y] 3)) (wA.heap.size + 1) 3 #[.int .i64 y] from (Blk.new' (g := wA.heap.size + 1) (by simp))).turned htB (fun hm => by have := lo1 _ (mem_rowL.1 hm); omega)) | (refine step_pushK _ (by rfl) _ _ (by rfl) _ _ ss (by rfl) ((hv1.alloc (.cells #[.int .i64 y] 3)).alloc (.cells #[.int .i64 x] 3)) _ x (by rfl) (show Blk ((wA.alloc (.cells #[.int .i64 y] 3)).alloc (.cells #[.int .i64 x] 3)) (wA.heap.size + 1) 3 #[.int .i64 x] from (Blk.new' (g := wA.heap.size + 1) (by simp))) hns (by first | omega | (simp; omega) | (simp; done)) ?_; intro A3 c3 wB hvB hbB htB; have FB := ((FA.alloc (.cells #[.int .i64 y] 3)).alloc (.cells #[.int .i64 x] 3)).below (B' := w.heap.size + 2) (hbB.mono (by omega)) (Nat.le_refl _); have fzB := FB.sz; obtain ⟨q0, q1⟩ := FB.bx.two; have loB : ∀ k, (Value.slice A3 (ss.length + 1) c3).ownBlock = some k → w1.heap.size ≤ k ∧ k < wB.heap.size := fun k hk => (by have h9 := hvB.lt k hk; omega); have hsB : ((wA.alloc (.cells #[.int .i64 y] 3)).alloc (.cells #[.int .i64 x] 3)).heap.size = wA.heap.size + 2 := (by simp); have zB1 : wA.heap.size + 2 ≤ wB.heap.size := (by have := hbB.size; omega); have Ky : Blk wB (wA.heap.size + 0) 3 #[.int .i64 y] := (show Blk ((wA.alloc (.cells #[.int .i64 y] 3)).alloc (.cells #[.int .i64 x] 3)) (wA.heap.size + 0) 3 #[.int .i64 y] from ((Blk.new _ _ _).alloc _)).turned htB (fun hm => by have := lo1 _ (mem_rowL.1 hm); omega)) | (go_at_call 40; (refine (l1OwnN_any' A' c' bs B wB FB.ho.rb (by first | omega | (simp; omega) | (simp; done)) hnb).mono ?_); rintro e wC ⟨A2, c2, rfl, hv2, hbC⟩; have FC := FB.below hbC (by first | omega | (simp; omega) | (simp; done)); have fzC := FC.sz; obtain ⟨q0, q1⟩ := FC.bx.two; have hsC : wB.heap.size = wB.heap.size + 0 := (by simp); have zC1 : wB.heap.size + 0 ≤ wC.heap.size := (by have := hbC.size; omega); replace hvB := hvB.below (B' := wB.heap.size) hbC (Nat.le_refl _); have lo2 : ∀ k, (Value.slice A2 bs.length c2).ownBlock = some k → wB.heap.size + 0 ≤ k ∧ k < wC.heap.size := fun k hk => (by have h9 := hv2.lt k hk; omega); replace hv2 := hv2.mono (B' := wB.heap.size + 0) (by omega); try (replace Ky := Ky.below hbC Ky.lt)) | (go_at_call 40; (refine (l1OwnN_any' A' c' bs B (wB.alloc (.cells #[.int .i64 y] 3)) (FB.alloc (.cells #[.int .i64 y] 3)).ho.rb (by first | omega | (simp; omega) | (simp; done)) hnb).mono ?_); rintro e wC ⟨A2, c2, rfl, hv2, hbC⟩; have FC := (FB.alloc (.cells #[.int .i64 y] 3)).below hbC (by first | omega | (simp; omega) | (simp; done)); have fzC := FC.sz; obtain ⟨q0, q1⟩ := FC.bx.two; have hsC : (wB.alloc (.cells #[.int .i64 y] 3)).heap.size = wB.heap.size + 1 := (by simp); have zC1 : wB.heap.size + 1 ≤ wC.heap.size := (by have := hbC.size; omega); replace hvB := hvB.below (B' := wB.heap.size) (((below_alloc wB (.cells #[.int .i64 y] 3)).trans (hbC.mono (by omega)))) (Nat.le_refl _); have lo2 : ∀ k, (Value.slice A2 bs.length c2).ownBlock = some k → wB.heap.size + 1 ≤ k ∧ k < wC.heap.size := fun k hk => (by have h9 := hv2.lt k hk; omega); replace hv2 := hv2.mono (B' := wB.heap.size + 1) (by omega); have Ky : Blk wC wB.heap.size 3 #[.int .i64 y] := (show Blk (wB.alloc (.cells #[.int .i64 y] 3)) wB.heap.size 3 #[.int .i64 y] from (Blk.new _ _ _)).below hbC (by omega)) | (refine step_pushK _ (by rfl) _ _ (by rfl) _ _ bs (by rfl) hv2 _ y (by rfl) Ky hnb (by first | omega | (simp; omega) | (simp; done)) ?_; intro A4 c4 wD hvD hbD htD; have FD := FC.below (B' := w.heap.size + 2) (hbD.mono (by omega)) (Nat.le_refl _); have fzD := FD.sz; obtain ⟨q0, q1⟩ := FD.bx.two; have zD1 : wC.heap.size ≤ wD.heap.size := (by have h9 := hbD.size; first | omega | (simp at h9; omega)); have hvE := hvB.turned htD (fun k hk hm => by have h8 := lo2 _ (mem_rowL.1 hm); have h9 := loB k hk; omega); obtain ⟨t0, t1, tf0, tf1⟩ := FD.rs.four) | (refine step_pushK _ (by rfl) _ _ (by rfl) _ _ bs (by rfl) (hv2.alloc (.cells #[.int .i64 y] 3)) _ y (by rfl) (Blk.new _ _ _) hnb (by first | omega | (simp; omega) | (simp; done)) ?_; intro A4 c4 wD hvD hbD htD; have FD := (FC.alloc (.cells #[.int .i64 y] 3)).below (B' := w.heap.size + 2) (hbD.mono (by omega)) (Nat.le_refl _); have fzD := FD.sz; obtain ⟨q0, q1⟩ := FD.bx.two; have zD1 : wC.heap.size ≤ wD.heap.size := (by have h9 := hbD.size; first | omega | (simp at h9; omega)); have hvE := (hvB.alloc (.cells #[.int .i64 y] 3)).turned htD (fun k hk hm => by have h8 := lo2 _ (mem_rowL.1 hm); have h9 := loB k hk; omega); obtain ⟨t0, t1, tf0, tf1⟩ := FD.rs.four) | fail)
          all_goals
            go_wp2_with fail
            obtain ⟨u0, u1⟩ := (FD.rs.full2 (.slice A3 (ss.length + 1) c3) (.slice A4 (bs.length + 1) c4)).two
            refine bodyPost_ret (v := .tuple #[.agg #[.slice A3 (ss.length + 1) c3, .slice A4 (bs.length + 1) c4], .bool true]) (by simp [results, Try.results11, go_sem, u0, u1]) rfl ?_
            have g1 := fun k h => (hvE.lt k h).1
            have g2 := fun k h => (hvD.lt k h).1
            have ht := turned_full2 wD (w.heap.size + 1) (.slice A3 (ss.length + 1) c3) (.slice A4 (bs.length + 1) c4)
            have o1 := hvE.turned ht (fun k hk hm => by have := g1 k hk; simp at hm; omega)
            have o2 := hvD.turned ht (fun k hk hm => by have := g2 k hk; simp at hm; omega)
            refine ⟨A3, A4, c3, c4, ?_, ⟨o1.rd, o2.rd, by rw [hxl.out]; omega, by rw [hyl.out]; omega⟩, FD.be.trans (ht.frame (by omega) (by omega))⟩
            rw [hxl.out, hyl.out]
end Go.Proofs.Ytmamcjnehnknmaa
