/- Contracts: StepsTo and StepsBetween, on both sides. -/
import Derived.Test.YtddeeebjbbnalaaHoBtw
namespace Go.Proofs.Ytddeeebjbbnalaa
open Go.RowKit

set_option maxHeartbeats 800000 in
theorem specStepsBetween_any (A A' : Option Addr) (c c' : Nat) (ss bs : List Int) (x y : Int) (B : Nat) (w : World) (h : Ho w B A A' c c' ss bs) (hB : B ≤ w.heap.size) :
    Calls Try.prog 22 #[.agg #[.slice A ss.length c, .slice A' bs.length c'], .int .i64 x, .int .i64 y] w (Plain (.tuple #[.int .i64 (orI (floorB ss bs x && floorB ss bs y) (btw ss x.toNat y.toNat)), .bool (floorB ss bs x && floorB ss bs y)]) w) := by
  cases g : floorB ss bs x
  · rw [Bool.false_and, orI_no]
    have H := Lib.hid g
    clear g
    have h1 := h.alloc hB (.cells #[.slice A ss.length c, .slice A' bs.length c'] 27)
    have X0 : Blk (w.alloc (.cells #[.slice A ss.length c, .slice A' bs.length c'] 27)) w.heap.size 27 #[.slice A ss.length c, .slice A' bs.length c'] := Blk.new _ _ _
    have hns := h.ns
    have hnb := h.nb
    have hcs := h.rs.1
    have hcb := h.rb.1
    go_enter Try.func22, Try.ntmps22
    go_wp2_with fail
    refine (ldFloor_any _ _ _ _ _ _ _ B _ h1 (by simp; omega)).mono ?_
    rintro e w1 ⟨rfl, hb⟩
    have Bt : Below w.heap.size w w1 := (below_alloc _ _).trans (hb.mono (by simp))
    have hs : w.heap.size + 1 ≤ w1.heap.size := by have := hb.size; simp at this; omega
    replace h1 := h1.below hb (by simp; omega)
    replace X0 := X0.below hb (by simp)
    clear hb
    obtain ⟨p0, p1⟩ := X0.two
    rw [H.out]
    go_wp2_with fail
    go_ret2
    exact ⟨rfl, Bt⟩
  · rw [Bool.true_and]
    cases g2 : floorB ss bs y
    · rw [orI_no]
      have H := Lib.hid g
      have H2 := Lib.hid g2
      clear g g2
      have h1 := h.alloc hB (.cells #[.slice A ss.length c, .slice A' bs.length c'] 27)
      have X0 : Blk (w.alloc (.cells #[.slice A ss.length c, .slice A' bs.length c'] 27)) w.heap.size 27 #[.slice A ss.length c, .slice A' bs.length c'] := Blk.new _ _ _
      have hns := h.ns
      have hnb := h.nb
      have hcs := h.rs.1
      have hcb := h.rb.1
      go_enter Try.func22, Try.ntmps22
      go_wp2_with fail
      refine (ldFloor_any _ _ _ _ _ _ _ B _ h1 (by simp; omega)).mono ?_
      rintro e w1 ⟨rfl, hb⟩
      have Bt : Below w.heap.size w w1 := (below_alloc _ _).trans (hb.mono (by simp))
      have hs : w.heap.size + 1 ≤ w1.heap.size := by have := hb.size; simp at this; omega
      replace h1 := h1.below hb (by simp; omega)
      replace X0 := X0.below hb (by simp)
      clear hb
      obtain ⟨p0, p1⟩ := X0.two
      rw [H.out]
      go_wp2_with fail
      refine (ldFloor_any _ _ _ _ _ _ _ B _ h1 (by omega)).mono ?_
      rintro e w2 ⟨rfl, hb⟩
      replace Bt := Bt.trans (hb.mono (by omega))
      replace h1 := h1.below hb (by omega)
      replace X0 := X0.below hb (by omega)
      replace hs : w.heap.size + 1 ≤ w2.heap.size := by have := hb.size; omega
      clear p0 p1
      clear hb
      obtain ⟨p0, p1⟩ := X0.two
      rw [H2.out]
      go_wp2_with fail
      go_ret2
      exact ⟨rfl, Bt⟩
    · rw [orI_yes]
      have H := Lib.hid g
      have H2 := Lib.hid g2
      obtain ⟨gg, a, rfl, ha⟩ := floorB_good g
      obtain ⟨_, b, rfl, hb⟩ := floorB_good g2
      have G := goodH_of gg
      clear g g2 gg
      simp only [Int.toNat_natCast]
      have h1 := h.alloc hB (.cells #[.slice A ss.length c, .slice A' bs.length c'] 27)
      have X0 : Blk (w.alloc (.cells #[.slice A ss.length c, .slice A' bs.length c'] 27)) w.heap.size 27 #[.slice A ss.length c, .slice A' bs.length c'] := Blk.new _ _ _
      have hns := h.ns
      have hnb := h.nb
      have hcs := h.rs.1
      have hcb := h.rb.1
      go_enter Try.func22, Try.ntmps22
      go_wp2_with fail
      refine (ldFloor_any _ _ _ _ _ _ _ B _ h1 (by simp; omega)).mono ?_
      rintro e w1 ⟨rfl, hb⟩
      have Bt : Below w.heap.size w w1 := (below_alloc _ _).trans (hb.mono (by simp))
      have hs : w.heap.size + 1 ≤ w1.heap.size := by have := hb.size; simp at this; omega
      replace h1 := h1.below hb (by simp; omega)
      replace X0 := X0.below hb (by simp)
      clear hb
      obtain ⟨p0, p1⟩ := X0.two
      rw [H.out]
      go_wp2_with fail
      refine (ldFloor_any _ _ _ _ _ _ _ B _ h1 (by omega)).mono ?_
      rintro e w2 ⟨rfl, hb⟩
      replace Bt := Bt.trans (hb.mono (by omega))
      replace h1 := h1.below hb (by omega)
      replace X0 := X0.below hb (by omega)
      replace hs : w.heap.size + 1 ≤ w2.heap.size := by have := hb.size; omega
      clear p0 p1
      clear hb
      obtain ⟨p0, p1⟩ := X0.two
      rw [H2.out]
      go_wp2_with fail
      refine (ldBetween_any _ _ _ _ _ _ _ _ B _ h1 (by omega) G ha hb).mono ?_
      rintro e w3 ⟨rfl, hb⟩
      replace Bt := Bt.trans (hb.mono (by omega))
      replace h1 := h1.below hb (by omega)
      replace X0 := X0.below hb (by omega)
      replace hs : w.heap.size + 1 ≤ w3.heap.size := by have := hb.size; omega
      clear p0 p1
      clear hb
      obtain ⟨p0, p1⟩ := X0.two
      go_wp2_with fail
      go_ret2
      exact ⟨rfl, Bt⟩

theorem stepsBetween_new (A A' : Option Addr) (c c' : Nat) (ss bs : List Int) (a b : Nat) (B : Nat) (w : World) (h : Ho w B A A' c c' ss bs) (hB : B ≤ w.heap.size) (G : GoodH ss bs) (ha : a ≤ ss.length) (hb : b ≤ ss.length) :
    Calls Try.prog 56 #[.agg #[.slice A ss.length c, .slice A' bs.length c'], .int .i64 a, .int .i64 b] w (Plain (.int .i64 (btw ss a b)) w) :=
  (stepsBetween_any A A' c c' ss bs a b B w h hB G ha hb).mono fun _ _ ⟨he, hw⟩ => ⟨he, by rw [← hw]; exact below_alloc _ _⟩

set_option maxHeartbeats 800000 in
theorem implStepsBetween_any (A A' : Option Addr) (c c' : Nat) (ss bs : List Int) (x y : Int) (B : Nat) (w : World) (h : Ho w B A A' c c' ss bs) (hB : B ≤ w.heap.size) :
    Calls Try.prog 23 #[.agg #[.slice A ss.length c, .slice A' bs.length c'], .int .i64 x, .int .i64 y] w (Plain (.tuple #[.int .i64 (orI (floorB ss bs x && floorB ss bs y) (btw ss x.toNat y.toNat)), .bool (floorB ss bs x && floorB ss bs y)]) w) := by
  cases g : floorB ss bs x
  · rw [Bool.false_and, orI_no]
    have H := Lib.hid g
    clear g
    have h1 := h.alloc hB (.cells #[.slice A ss.length c, .slice A' bs.length c'] 27)
    have X0 : Blk (w.alloc (.cells #[.slice A ss.length c, .slice A' bs.length c'] 27)) w.heap.size 27 #[.slice A ss.length c, .slice A' bs.length c'] := Blk.new _ _ _
    have hns := h.ns
    have hnb := h.nb
    have hcs := h.rs.1
    have hcb := h.rb.1
    go_enter Try.func23, Try.ntmps23
    go_wp2_with fail
    refine (isFloor_any _ _ _ _ _ _ _ B _ h1 (by simp; omega)).mono ?_
    rintro e w1 ⟨rfl, hb⟩
    have Bt : Below w.heap.size w w1 := (below_alloc _ _).trans (hb.mono (by simp))
    have hs : w.heap.size + 1 ≤ w1.heap.size := by have := hb.size; simp at this; omega
    replace h1 := h1.below hb (by simp; omega)
    replace X0 := X0.below hb (by simp)
    clear hb
    obtain ⟨p0, p1⟩ := X0.two
    rw [H.out]
    go_wp2_with fail
    go_ret2
    exact ⟨rfl, Bt⟩
  · rw [Bool.true_and]
    cases g2 : floorB ss bs y
    · rw [orI_no]
      have H := Lib.hid g
      have H2 := Lib.hid g2
      clear g g2
      have h1 := h.alloc hB (.cells #[.slice A ss.length c, .slice A' bs.length c'] 27)
      have X0 : Blk (w.alloc (.cells #[.slice A ss.length c, .slice A' bs.length c'] 27)) w.heap.size 27 #[.slice A ss.length c, .slice A' bs.length c'] := Blk.new _ _ _
      have hns := h.ns
      have hnb := h.nb
      have hcs := h.rs.1
      have hcb := h.rb.1
      go_enter Try.func23, Try.ntmps23
      go_wp2_with fail
      refine (isFloor_any _ _ _ _ _ _ _ B _ h1 (by simp; omega)).mono ?_
      rintro e w1 ⟨rfl, hb⟩
      have Bt : Below w.heap.size w w1 := (below_alloc _ _).trans (hb.mono (by simp))
      have hs : w.heap.size + 1 ≤ w1.heap.size := by have := hb.size; simp at this; omega
      replace h1 := h1.below hb (by simp; omega)
      replace X0 := X0.below hb (by simp)
      clear hb
      obtain ⟨p0, p1⟩ := X0.two
      rw [H.out]
      go_wp2_with fail
      refine (isFloor_any _ _ _ _ _ _ _ B _ h1 (by omega)).mono ?_
      rintro e w2 ⟨rfl, hb⟩
      replace Bt := Bt.trans (hb.mono (by omega))
      replace h1 := h1.below hb (by omega)
      replace X0 := X0.below hb (by omega)
      replace hs : w.heap.size + 1 ≤ w2.heap.size := by have := hb.size; omega
      clear p0 p1
      clear hb
      obtain ⟨p0, p1⟩ := X0.two
      rw [H2.out]
      go_wp2_with fail
      go_ret2
      exact ⟨rfl, Bt⟩
    · rw [orI_yes]
      have H := Lib.hid g
      have H2 := Lib.hid g2
      obtain ⟨gg, a, rfl, ha⟩ := floorB_good g
      obtain ⟨_, b, rfl, hb⟩ := floorB_good g2
      have G := goodH_of gg
      clear g g2 gg
      simp only [Int.toNat_natCast]
      have h1 := h.alloc hB (.cells #[.slice A ss.length c, .slice A' bs.length c'] 27)
      have X0 : Blk (w.alloc (.cells #[.slice A ss.length c, .slice A' bs.length c'] 27)) w.heap.size 27 #[.slice A ss.length c, .slice A' bs.length c'] := Blk.new _ _ _
      have hns := h.ns
      have hnb := h.nb
      have hcs := h.rs.1
      have hcb := h.rb.1
      go_enter Try.func23, Try.ntmps23
      go_wp2_with fail
      refine (isFloor_any _ _ _ _ _ _ _ B _ h1 (by simp; omega)).mono ?_
      rintro e w1 ⟨rfl, hb⟩
      have Bt : Below w.heap.size w w1 := (below_alloc _ _).trans (hb.mono (by simp))
      have hs : w.heap.size + 1 ≤ w1.heap.size := by have := hb.size; simp at this; omega
      replace h1 := h1.below hb (by simp; omega)
      replace X0 := X0.below hb (by simp)
      clear hb
      obtain ⟨p0, p1⟩ := X0.two
      rw [H.out]
      go_wp2_with fail
      refine (isFloor_any _ _ _ _ _ _ _ B _ h1 (by omega)).mono ?_
      rintro e w2 ⟨rfl, hb⟩
      replace Bt := Bt.trans (hb.mono (by omega))
      replace h1 := h1.below hb (by omega)
      replace X0 := X0.below hb (by omega)
      replace hs : w.heap.size + 1 ≤ w2.heap.size := by have := hb.size; omega
      clear p0 p1
      clear hb
      obtain ⟨p0, p1⟩ := X0.two
      rw [H2.out]
      go_wp2_with fail
      refine (stepsBetween_new _ _ _ _ _ _ _ _ B _ h1 (by omega) G ha hb).mono ?_
      rintro e w3 ⟨rfl, hb⟩
      replace Bt := Bt.trans (hb.mono (by omega))
      replace h1 := h1.below hb (by omega)
      replace X0 := X0.below hb (by omega)
      replace hs : w.heap.size + 1 ≤ w3.heap.size := by have := hb.size; omega
      clear p0 p1
      clear hb
      obtain ⟨p0, p1⟩ := X0.two
      go_wp2_with fail
      go_ret2
      exact ⟨rfl, Bt⟩

set_option maxHeartbeats 800000 in
theorem specStepsTo_any (A A' : Option Addr) (c c' : Nat) (ss bs : List Int) (x : Int) (B : Nat) (w : World) (h : Ho w B A A' c c' ss bs) (hB : B ≤ w.heap.size) :
    Calls Try.prog 20 #[.agg #[.slice A ss.length c, .slice A' bs.length c'], .int .i64 x] w (Plain (.tuple #[.int .i64 (orI (floorB ss bs x) (upTo ss x.toNat)), .bool (floorB ss bs x)]) w) := by
  cases g : floorB ss bs x
  · rw [orI_no]
    have H := Lib.hid g
    clear g
    have h1 := h.alloc hB (.cells #[.slice A ss.length c, .slice A' bs.length c'] 27)
    have X0 : Blk (w.alloc (.cells #[.slice A ss.length c, .slice A' bs.length c'] 27)) w.heap.size 27 #[.slice A ss.length c, .slice A' bs.length c'] := Blk.new _ _ _
    have hns := h.ns
    have hnb := h.nb
    have hcs := h.rs.1
    have hcb := h.rb.1
    go_enter Try.func20, Try.ntmps20
    go_wp2_with fail
    refine (ldFloor_any _ _ _ _ _ _ _ B _ h1 (by simp; omega)).mono ?_
    rintro e w1 ⟨rfl, hb⟩
    have Bt : Below w.heap.size w w1 := (below_alloc _ _).trans (hb.mono (by simp))
    have hs : w.heap.size + 1 ≤ w1.heap.size := by have := hb.size; simp at this; omega
    replace h1 := h1.below hb (by simp; omega)
    replace X0 := X0.below hb (by simp)
    clear hb
    obtain ⟨p0, p1⟩ := X0.two
    rw [H.out]
    go_wp2_with fail
    go_ret2
    exact ⟨rfl, Bt⟩
  · rw [orI_yes]
    have H := Lib.hid g
    obtain ⟨gg, a, rfl, ha⟩ := floorB_good g
    have G := goodH_of gg
    clear g gg
    simp only [Int.toNat_natCast]
    have h1 := h.alloc hB (.cells #[.slice A ss.length c, .slice A' bs.length c'] 27)
    have X0 : Blk (w.alloc (.cells #[.slice A ss.length c, .slice A' bs.length c'] 27)) w.heap.size 27 #[.slice A ss.length c, .slice A' bs.length c'] := Blk.new _ _ _
    have hns := h.ns
    have hnb := h.nb
    have hcs := h.rs.1
    have hcb := h.rb.1
    go_enter Try.func20, Try.ntmps20
    go_wp2_with fail
    refine (ldFloor_any _ _ _ _ _ _ _ B _ h1 (by simp; omega)).mono ?_
    rintro e w1 ⟨rfl, hb⟩
    have Bt : Below w.heap.size w w1 := (below_alloc _ _).trans (hb.mono (by simp))
    have hs : w.heap.size + 1 ≤ w1.heap.size := by have := hb.size; simp at this; omega
    replace h1 := h1.below hb (by simp; omega)
    replace X0 := X0.below hb (by simp)
    clear hb
    obtain ⟨p0, p1⟩ := X0.two
    rw [H.out]
    go_wp2_with fail
    refine (ldTo_any _ _ _ _ _ _ _ B _ h1 (by omega) G ha).mono ?_
    rintro e w2 ⟨rfl, hb⟩
    replace Bt := Bt.trans (hb.mono (by omega))
    replace h1 := h1.below hb (by omega)
    replace X0 := X0.below hb (by omega)
    replace hs : w.heap.size + 1 ≤ w2.heap.size := by have := hb.size; omega
    clear p0 p1
    clear hb
    obtain ⟨p0, p1⟩ := X0.two
    go_wp2_with fail
    go_ret2
    exact ⟨rfl, Bt⟩

theorem floor0 (ss bs : List Int) (x : Int) : (floorB ss bs 0 && floorB ss bs x) = floorB ss bs x := by
  cases g : floorB ss bs x
  · simp
  · have := (floorB_good g).1
    simp [floorB, this, inB]
theorem orTo0 (ss bs : List Int) (x : Int) : orI (floorB ss bs 0 && floorB ss bs x) (btw ss (0 : Int).toNat x.toNat) = orI (floorB ss bs 0 && floorB ss bs x) (upTo ss x.toNat) := by
  rw [show (0 : Int).toNat = 0 from rfl, btw_le (Nat.zero_le _), show upTo ss 0 = 0 by simp [upTo, sumH], Int.sub_zero]

set_option maxHeartbeats 800000 in
theorem implStepsTo_any (A A' : Option Addr) (c c' : Nat) (ss bs : List Int) (x : Int) (B : Nat) (w : World) (h : Ho w B A A' c c' ss bs) (hB : B ≤ w.heap.size) :
    Calls Try.prog 21 #[.agg #[.slice A ss.length c, .slice A' bs.length c'], .int .i64 x] w (Plain (.tuple #[.int .i64 (orI (floorB ss bs x) (upTo ss x.toNat)), .bool (floorB ss bs x)]) w) := by
  rw [← floor0, ← orTo0]
  have h1 := h.alloc hB (.cells #[.slice A ss.length c, .slice A' bs.length c'] 27)
  have X0 : Blk (w.alloc (.cells #[.slice A ss.length c, .slice A' bs.length c'] 27)) w.heap.size 27 #[.slice A ss.length c, .slice A' bs.length c'] := Blk.new _ _ _
  have hns := h.ns
  have hnb := h.nb
  have hcs := h.rs.1
  have hcb := h.rb.1
  go_enter Try.func21, Try.ntmps21
  go_wp2_with fail
  refine (implStepsBetween_any _ _ _ _ _ _ _ _ B _ h1 (by simp; omega)).mono ?_
  rintro e w1 ⟨rfl, hb⟩
  have Bt : Below w.heap.size w w1 := (below_alloc _ _).trans (hb.mono (by simp))
  have hs : w.heap.size + 1 ≤ w1.heap.size := by have := hb.size; simp at this; omega
  replace h1 := h1.below hb (by simp; omega)
  replace X0 := X0.below hb (by simp)
  clear hb
  obtain ⟨p0, p1⟩ := X0.two
  go_wp2_with fail
  go_ret2
  exact ⟨rfl, Bt⟩

end Go.Proofs.Ytddeeebjbbnalaa
