/- Contracts: floors of steps and of doors, on both sides. -/
import Derived.Test.YtmamcjnehnknmaaHoFloor
import Derived.ScopeJumps
import Derived.WalkMore
namespace Go.Proofs.Ytmamcjnehnknmaa
open Go.RowKit

theorem wp_scope_again {P : Program} {a : Act} {w : World} {Q : Exit → Act → World → Prop} {pre rest : Code} (l : Nat) (J : Act → World → Prop) (μ : Act → World → Nat)
    (hf : findLabel (pre.seq ((Code.label l).seq rest)) l = some (Code.skip.seq rest))
    (first : ∀ Q' : Exit → Act → World → Prop, (∀ a w, J a w → Q' .normal a w) → pre.wp P Q' a w)
    (pass : ∀ a w, J a w → rest.wp P (Exit.jump l (fun a' w' => J a' w' ∧ μ a' w' < μ a w) Q) a w) : (Code.scope (pre.seq ((Code.label l).seq rest))).wp P Q a w := by
  refine wp_scope_jumps l J μ hf ?_ ?_
  · refine wp_seq (first _ fun a w hJ => ?_)
    refine wp_seq (wp_label ?_)
    refine Code.wp_mono ?_ (pass a w hJ)
    intro e a' w' h
    cases e <;> first | exact ⟨h.1, h.2.1⟩ | exact h
  · intro a w hJ
    exact wp_seq (wp_skip (pass a w hJ))
theorem jump_ret {l : Nat} {J : Act → World → Prop} {Q : Exit → Act → World → Prop} {a : Act} {w : World} : Exit.jump l J Q .ret a w = Q .ret a w := rfl

/-- which one of the counts a number belongs to, and how many it is within it -/
def pf : List Int → Int → Nat
  | [], _ => 0
  | x :: r, n => if x < n then pf r (n - x) + 1 else 0
def pr : List Int → Int → Int
  | [], n => n
  | x :: r, n => if x < n then pr r (n - x) else n
theorem pf_go {xs : List Int} {k : Nat} {m : Int} (h : k < xs.length) (hm : xs.getD k 0 < m) : pf (xs.drop k) m = pf (xs.drop (k + 1)) (m - xs.getD k 0) + 1 ∧ pr (xs.drop k) m = pr (xs.drop (k + 1)) (m - xs.getD k 0) := by
  rw [drop_at xs k h]; generalize xs.getD k 0 = y at *; simp [pf, pr, hm]
theorem pf_end {xs : List Int} {k : Nat} {m : Int} (h : k < xs.length) (hm : ¬ xs.getD k 0 < m) : pf (xs.drop k) m = 0 ∧ pr (xs.drop k) m = m := by
  rw [drop_at xs k h]; generalize xs.getD k 0 = y at *; simp [pf, pr, hm]
theorem sumH_drop {xs : List Int} {k : Nat} (h : k < xs.length) : sumH (xs.drop k) = xs.getD k 0 + sumH (xs.drop (k + 1)) := by
  rw [drop_at xs k h]; rfl
theorem sum_pos_lt {xs : List Int} {k : Nat} {m : Int} (h1 : 1 ≤ m) (h : m ≤ sumH (xs.drop k)) : k < xs.length := by
  by_cases hk : k < xs.length
  · exact hk
  · rw [List.drop_eq_nil_of_le (by omega)] at h; simp [sumH] at h; omega
/-- where a search stands -/
structure PAt (xs : List Int) (n : Int) (k : Nat) (m : Int) : Prop where
  f : pf xs n = k + pf (xs.drop k) m
  r : pr xs n = pr (xs.drop k) m
  m1 : 1 ≤ m
  ms : m ≤ sumH (xs.drop k)
theorem PAt.first {xs : List Int} {n : Int} (h1 : 1 ≤ n) (h : n ≤ sumH xs) : PAt xs n 0 n := ⟨by simp, by simp, h1, by simpa using h⟩
theorem PAt.lt {xs : List Int} {n m : Int} {k : Nat} (h : PAt xs n k m) : k < xs.length := sum_pos_lt h.m1 h.ms
theorem PAt.next {xs : List Int} {n m : Int} {k : Nat} (h : PAt xs n k m) (hm : xs.getD k 0 < m) : PAt xs n (k + 1) (m - xs.getD k 0) := by
  have e := pf_go h.lt hm
  have s := sumH_drop h.lt
  have := h.ms
  exact ⟨by rw [h.f, e.1]; omega, by rw [h.r, e.2], by omega, by omega⟩
theorem PAt.done {xs : List Int} {n m : Int} {k : Nat} (h : PAt xs n k m) (hm : ¬ xs.getD k 0 < m) : (pf xs n : Int) = k ∧ pr xs n = m := by
  have e := pf_end h.lt hm
  exact ⟨by rw [h.f, e.1]; simp, by rw [h.r, e.2]⟩

/-- the frame at each jump -/
def PJ (A : Option Addr) (c : Nat) (xs : List Int) (n : Int) (w : World) (a' : Act) (wr : World) : Prop :=
  ∃ (k : Nat) (m : Int) (u7 u8 u9 u10 u11 u12 u13 u14 u15 u16 u17 u18 u19 u20 : Value), a' = { tmps := #[.slice A xs.length c, .int .i64 m, undef, undef, .int .i64 0, .int .i64 0, .int .i64 k, u7, u8, u9, u10, u11, u12, u13, u14, u15, u16, u17, u18, u19, u20, undef, undef], defers := [] } ∧ Hid (PAt xs n k m) ∧ m ≤ n ∧ w = wr

set_option maxHeartbeats 1000000 in
theorem placeOf_any (A : Option Addr) (c : Nat) (xs : List Int) (n : Int) (B : Nat) (w : World) (hr : Rd w B A c xs) (hn : xs.length ≤ 1000) (hx : ∀ k, k < xs.length → 0 ≤ xs.getD k 0 ∧ xs.getD k 0 ≤ 1000) (h1 : 1 ≤ n) (h2 : n ≤ sumH xs) :
    Calls Try.prog 79 #[.slice A xs.length c, .int .i64 n] w fun e w' => e = .returned (.tuple #[.int .i64 (pf xs n : Nat), .int .i64 (pr xs n)]) ∧ w = w' := by
  have HP := Lib.hid (PAt.first h1 h2)
  have hb := sumH_bd (m := 1000) (by omega) hx xs.length (Nat.le_refl _)
  rw [List.take_length] at hb
  have hn2 : n ≤ 1000000 := by omega
  clear hb h2
  go_enter Try.func79, Try.ntmps79
  go_wp2
  refine wp_scope_again 0 (PJ A c xs n w)
    (fun a' _ => xs.length - (intOf (a'.tmps.getD 6 undef)).toNat) rfl ?_ ?_
  · intro Q' hQ
    go_wp2
    unfold PJ
    exact ⟨0, n, _, _, _, _, _, _, _, _, _, _, _, _, _, _, rfl, HP, by omega, rfl⟩
  · rintro a' wo ⟨k, m, u7, u8, u9, u10, u11, u12, u13, u14, u15, u16, u17, u18, u19, u20, rfl, H, hmn, rfl⟩
    have hlt := H.out.lt
    have hm1 := H.out.m1
    obtain ⟨b, o, rfl, hb0, hcell⟩ := hr.at_ hlt
    have hx1 := hx k hlt
    have HN := Lib.hid (fun h => H.out.next h)
    have HD := Lib.hid (fun h => H.out.done h)
    generalize xs.getD k 0 = x at *
    by_cases hm : x < m
    · go_wp2
      go_step3
      refine ⟨rfl, ?_, by simp [intOf]; omega⟩
      unfold PJ
      exact ⟨k + 1, m - x, _, _, _, _, _, _, _, _, _, _, _, _, _, _, rfl, HN.out hm, by omega, rfl⟩
    · have e := HD.out hm
      have E1 := Lib.hid e.1
      have E2 := Lib.hid e.2
      clear e
      go_wp2
      try rw [jump_ret]
      go_ret2
      exact ⟨by rw [E1.out, E2.out]; rfl, rfl⟩

set_option maxHeartbeats 1000000 in
theorem ldOf_any (A A' : Option Addr) (c c' : Nat) (ss bs : List Int) (n : Int) (B : Nat) (w : World) (h : Ho w B A A' c c' ss bs) (hB : B ≤ w.heap.size) (G : GoodH ss bs) (h1 : 1 ≤ n) (h2 : n ≤ sumH bs) :
    Calls Try.prog 52 #[.agg #[.slice A ss.length c, .slice A' bs.length c'], .int .i64 n] w fun e w' => e = .returned (.int .i64 (pf bs n : Nat)) ∧ w.alloc (.cells #[.slice A ss.length c, .slice A' bs.length c'] 26) = w' := by
  have HP := Lib.hid (PAt.first h1 h2)
  have X0 : Blk (w.alloc (.cells #[.slice A ss.length c, .slice A' bs.length c'] 26)) w.heap.size 26 #[.slice A ss.length c, .slice A' bs.length c'] := Blk.new _ _ _
  have hr := (h.alloc hB (.cells #[.slice A ss.length c, .slice A' bs.length c'] 26)).rb
  have hb := sumH_bd (m := 1000) (by omega) G.d bs.length (Nat.le_refl _)
  rw [List.take_length] at hb
  have hl := G.n1
  have hl2 : bs.length ≤ 12 := by have := G.nb; omega
  have hn2 : n ≤ 1000000 := by omega
  have hd := G.d
  clear hb h2 G
  obtain ⟨p0, p1⟩ := X0.two
  go_enter Try.func52, Try.ntmps52
  go_wp2
  go_loop [1, 5] (fun d f => ∃ (k : Nat) (m : Int), d = .int .i64 m ∧ f = .int .i64 k ∧ Hid (PAt bs n k m) ∧ m ≤ n) (fun _ f => bs.length - (intOf f).toNat)
  case atStart => exact ⟨0, n, rfl, rfl, HP, by omega⟩
  case round =>
    obtain ⟨k, m, rfl, rfl, H, hmn⟩ := hrel
    have hlt := H.out.lt
    have hm1 := H.out.m1
    obtain ⟨b, o, rfl, hb0, hcell⟩ := hr.at_ hlt
    have hx1 := hd k hlt
    have HN := Lib.hid (fun h => H.out.next h)
    have HD := Lib.hid (fun h => H.out.done h)
    generalize bs.getD k 0 = x at *
    by_cases hm : x < m
    · go_wp2
      go_round
      case rel => exact ⟨k + 1, m - x, rfl, by go_num, HN.out hm, by omega⟩
      case measure => simp [intOf]; omega
    · have e := HD.out hm
      have E1 := Lib.hid e.1
      clear e
      go_wp2
      go_ret
      exact ⟨ret_int E1.out.symm, rfl⟩

def stepB (ss bs : List Int) (x : Int) : Bool := goodH ss bs && inB x 1 (sumH ss)
def doorB (ss bs : List Int) (x : Int) : Bool := goodH ss bs && inB x 1 (sumH bs)
theorem doorB_1 {ss bs : List Int} {x : Int} (h : goodH ss bs = false) : doorB ss bs x = false := by simp [doorB, h]
theorem doorB_2 {ss bs : List Int} {x : Int} (h : goodH ss bs = true) : doorB ss bs x = inB x 1 (sumH bs) := by simp [doorB, h]
theorem stepB_1 {ss bs : List Int} {x : Int} (h : goodH ss bs = false) : stepB ss bs x = false := by simp [stepB, h]
theorem stepB_2 {ss bs : List Int} {x : Int} (h : goodH ss bs = true) : stepB ss bs x = inB x 1 (sumH ss) := by simp [stepB, h]


set_option maxHeartbeats 800000 in
theorem implDoors_any (A A' : Option Addr) (c c' : Nat) (ss bs : List Int) (B : Nat) (w : World) (h : Ho w B A A' c c' ss bs) (hB : B ≤ w.heap.size) :
    Calls Try.prog 78 #[.agg #[.slice A ss.length c, .slice A' bs.length c']] w (Plain (.tuple #[.int .i64 (orI (goodH ss bs) (sumH bs)), .bool (goodH ss bs)]) w) := by
  cases g : goodH ss bs
  · rw [orI_no]
    have H := Lib.hid g
    clear g
    have h1 := h.alloc hB (.cells #[.slice A ss.length c, .slice A' bs.length c'] 26)
    have X0 : Blk (w.alloc (.cells #[.slice A ss.length c, .slice A' bs.length c'] 26)) w.heap.size 26 #[.slice A ss.length c, .slice A' bs.length c'] := Blk.new _ _ _
    have hns := h.ns
    have hnb := h.nb
    have hcs := h.rs.1
    have hcb := h.rb.1
    go_enter Try.func78, Try.ntmps78
    go_wp2_with fail
    refine (impHouse_any _ _ _ _ _ _ B _ h1 (by simp; omega)).mono ?_
    rintro e w1 ⟨rfl, hb⟩
    have Bt : Below w.heap.size w w1 := (below_alloc _ _).trans (hb.mono (by simp))
    have hs : w.heap.size + 1 ≤ w1.heap.size := by have := hb.size; simp at this; omega
    replace h1 := h1.below hb (by simp; omega)
    replace X0 := X0.below hb (by simp)
    clear hb
    obtain ⟨p0, p1⟩ := X0.two
    rw [H.out]
    go_wp2_with fail
    go_ret2
    exact ⟨rfl, Bt⟩
  · rw [orI_yes]
    have G := goodH_of g
    have H := Lib.hid g
    clear g
    have hl1 := G.n1
    have hl2 : bs.length ≤ 12 := by have := G.nb; omega
    have h1 := h.alloc hB (.cells #[.slice A ss.length c, .slice A' bs.length c'] 26)
    have X0 : Blk (w.alloc (.cells #[.slice A ss.length c, .slice A' bs.length c'] 26)) w.heap.size 26 #[.slice A ss.length c, .slice A' bs.length c'] := Blk.new _ _ _
    have hns := h.ns
    have hnb := h.nb
    have hcs := h.rs.1
    have hcb := h.rb.1
    go_enter Try.func78, Try.ntmps78
    go_wp2_with fail
    refine (impHouse_any _ _ _ _ _ _ B _ h1 (by simp; omega)).mono ?_
    rintro e w1 ⟨rfl, hb⟩
    have Bt : Below w.heap.size w w1 := (below_alloc _ _).trans (hb.mono (by simp))
    have hs : w.heap.size + 1 ≤ w1.heap.size := by have := hb.size; simp at this; omega
    replace h1 := h1.below hb (by simp; omega)
    replace X0 := X0.below hb (by simp)
    clear hb
    obtain ⟨p0, p1⟩ := X0.two
    rw [H.out]
    go_wp2_with fail
    refine (sum_any _ _ _ bs B _ rfl h1.rb (by omega) G.d).mono ?_
    rintro e w' ⟨rfl, rfl⟩
    go_wp2_with fail
    go_ret2
    exact ⟨rfl, Bt⟩




theorem doorB_good {ss bs : List Int} {x : Int} (h : doorB ss bs x = true) : GoodH ss bs ∧ (1 ≤ x ∧ x ≤ sumH bs) := by
  simp only [doorB, Bool.and_eq_true] at h
  exact ⟨goodH_of h.1, inB_le h.2⟩
theorem ldOf_new (A A' : Option Addr) (c c' : Nat) (ss bs : List Int) (n : Int) (B : Nat) (w : World) (h : Ho w B A A' c c' ss bs) (hB : B ≤ w.heap.size) (G : GoodH ss bs) (h1 : 1 ≤ n) (h2 : n ≤ sumH bs) :
    Calls Try.prog 52 #[.agg #[.slice A ss.length c, .slice A' bs.length c'], .int .i64 n] w (Plain (.int .i64 (pf bs n : Nat)) w) :=
  (ldOf_any A A' c c' ss bs n B w h hB G h1 h2).mono fun _ _ ⟨he, hw⟩ => ⟨he, by rw [← hw]; exact below_alloc _ _⟩


set_option maxHeartbeats 800000 in
theorem implFloorOfDoor_any (A A' : Option Addr) (c c' : Nat) (ss bs : List Int) (x : Int) (B : Nat) (w : World) (h : Ho w B A A' c c' ss bs) (hB : B ≤ w.heap.size) :
    Calls Try.prog 66 #[.agg #[.slice A ss.length c, .slice A' bs.length c'], .int .i64 x] w (Plain (.tuple #[.int .i64 (orI (doorB ss bs x) (pf bs x : Nat)), .bool (doorB ss bs x)]) w) := by
  cases g : goodH ss bs
  · rw [doorB_1 g, orI_no]
    have H := Lib.hid g
    clear g
    have h1 := h.alloc hB (.cells #[.slice A ss.length c, .slice A' bs.length c'] 26)
    have X0 : Blk (w.alloc (.cells #[.slice A ss.length c, .slice A' bs.length c'] 26)) w.heap.size 26 #[.slice A ss.length c, .slice A' bs.length c'] := Blk.new _ _ _
    have hns := h.ns
    have hnb := h.nb
    have hcs := h.rs.1
    have hcb := h.rb.1
    go_enter Try.func66, Try.ntmps66
    go_wp2_with fail
    refine (implDoors_any _ _ _ _ _ _ B _ h1 (by simp; omega)).mono ?_
    rintro e w1 ⟨rfl, hb⟩
    have Bt : Below w.heap.size w w1 := (below_alloc _ _).trans (hb.mono (by simp))
    have hs : w.heap.size + 1 ≤ w1.heap.size := by have := hb.size; simp at this; omega
    replace h1 := h1.below hb (by simp; omega)
    replace X0 := X0.below hb (by simp)
    clear hb
    obtain ⟨p0, p1⟩ := X0.two
    rw [H.out]
    go_wp2_with fail
    go_ret2
    exact ⟨rfl, Bt⟩
  · rw [doorB_2 g]
    have G := goodH_of g
    have H := Lib.hid g
    clear g
    have hl1 := G.n1
    have hl2 : bs.length ≤ 12 := by have := G.nb; omega
    cases g2 : inB x 1 (sumH bs)
    · rw [orI_no]
      have H2 := Lib.hid g2
      clear g2
      have h1 := h.alloc hB (.cells #[.slice A ss.length c, .slice A' bs.length c'] 26)
      have X0 : Blk (w.alloc (.cells #[.slice A ss.length c, .slice A' bs.length c'] 26)) w.heap.size 26 #[.slice A ss.length c, .slice A' bs.length c'] := Blk.new _ _ _
      have hns := h.ns
      have hnb := h.nb
      have hcs := h.rs.1
      have hcb := h.rb.1
      go_enter Try.func66, Try.ntmps66
      go_wp2_with fail
      refine (implDoors_any _ _ _ _ _ _ B _ h1 (by simp; omega)).mono ?_
      rintro e w1 ⟨rfl, hb⟩
      have Bt : Below w.heap.size w w1 := (below_alloc _ _).trans (hb.mono (by simp))
      have hs : w.heap.size + 1 ≤ w1.heap.size := by have := hb.size; simp at this; omega
      replace h1 := h1.below hb (by simp; omega)
      replace X0 := X0.below hb (by simp)
      clear hb
      obtain ⟨p0, p1⟩ := X0.two
      rw [H.out]
      rw [orI_yes]
      go_wp2_with fail
      refine (isWithin_any _ _ _ _).mono ?_
      rintro e w' ⟨rfl, rfl⟩
      rw [H2.out]
      go_wp2_with fail
      go_ret2
      exact ⟨rfl, Bt⟩
    · rw [orI_yes]
      have b2 := inB_le g2
      have H2 := Lib.hid g2
      clear g2
      have h1 := h.alloc hB (.cells #[.slice A ss.length c, .slice A' bs.length c'] 26)
      have X0 : Blk (w.alloc (.cells #[.slice A ss.length c, .slice A' bs.length c'] 26)) w.heap.size 26 #[.slice A ss.length c, .slice A' bs.length c'] := Blk.new _ _ _
      have hns := h.ns
      have hnb := h.nb
      have hcs := h.rs.1
      have hcb := h.rb.1
      go_enter Try.func66, Try.ntmps66
      go_wp2_with fail
      refine (implDoors_any _ _ _ _ _ _ B _ h1 (by simp; omega)).mono ?_
      rintro e w1 ⟨rfl, hb⟩
      have Bt : Below w.heap.size w w1 := (below_alloc _ _).trans (hb.mono (by simp))
      have hs : w.heap.size + 1 ≤ w1.heap.size := by have := hb.size; simp at this; omega
      replace h1 := h1.below hb (by simp; omega)
      replace X0 := X0.below hb (by simp)
      clear hb
      obtain ⟨p0, p1⟩ := X0.two
      rw [H.out]
      rw [orI_yes]
      go_wp2_with fail
      refine (isWithin_any _ _ _ _).mono ?_
      rintro e w' ⟨rfl, rfl⟩
      rw [H2.out]
      go_wp2_with fail
      refine (placeOf_any _ _ _ _ B _ h1.rb (by omega) G.d b2.1 b2.2).mono ?_
      rintro e w' ⟨rfl, rfl⟩
      go_wp2_with fail
      go_ret2
      exact ⟨rfl, Bt⟩

end Go.Proofs.Ytmamcjnehnknmaa
