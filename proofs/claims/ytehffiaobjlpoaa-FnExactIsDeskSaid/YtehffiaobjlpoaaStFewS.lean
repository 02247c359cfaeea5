/- Contracts: FewestStrides and MostStrides, on the model's side. -/
import Derived.Test.YtehffiaobjlpoaaStLeft
namespace Go.Proofs.Ytehffiaobjlpoaa
set_option maxRecDepth 100000
open Go.RowKit

def strB (most : Bool) (st : Int) (ss bs : List Int) : Bool := goodB st ss bs && !decide (lv most st.toNat ss bs st.toNat < 0)
def strV (most : Bool) (st : Int) (ss bs : List Int) : Int := if strB most st ss bs then lv most st.toNat ss bs st.toNat else 0

set_option maxHeartbeats 2000000 in
theorem specFewest_any (st : Int) (A A' : Option Addr) (c c' : Nat) (ss bs : List Int) (B : Nat) (w : World) (h : St w B st A A' c c' ss bs) (hB : B ≤ w.heap.size) :
    Calls Try.prog 85 #[stv st A A' c c' ss bs] w (Plain (.tuple #[.int .i64 (strV false st ss bs), .bool (strB false st ss bs)]) w) := by
  cases g : goodB st ss bs
  · rw [show strV false st ss bs = 0 by simp [strV, strB, g], show strB false st ss bs = false by simp [strB, g]]
    have H := Lib.hid g
    clear g
    have h1 := h.alloc hB (.cells #[.int .i64 st, .slice A ss.length c, .slice A' bs.length c'] 24)
    have X0 : Blk (w.alloc (.cells #[.int .i64 st, .slice A ss.length c, .slice A' bs.length c'] 24)) w.heap.size 24 #[.int .i64 st, .slice A ss.length c, .slice A' bs.length c'] := Blk.new _ _ _
    go_enter Try.func85, Try.ntmps85
    go_wp2_with fail
    refine (clGood_any _ _ _ _ _ _ _ B _ h1 (by simp; omega)).mono ?_
    rintro e w1 ⟨rfl, hb⟩
    have Bt : Below w.heap.size w w1 := (below_alloc _ _).trans (hb.mono (by simp))
    have hs : w.heap.size + 1 ≤ w1.heap.size := by have := hb.size; simp at this; omega
    replace h1 := h1.below hb (by simp; omega)
    replace X0 := X0.below hb (by simp)
    clear hb
    obtain ⟨p0, p1, p2⟩ := X0.three
    rw [H.out]
    go_wp2_with fail
    go_ret2
    exact ⟨rfl, Bt⟩
  · have G := good_of g
    obtain ⟨n, rfl⟩ : ∃ n : Nat, st = (n : Int) := ⟨st.toNat, by have := G.st1; omega⟩
    have g1 : 1 ≤ n := by have := G.st1; omega
    have g2 : n ≤ 60 := by have := G.st2; omega
    by_cases hw : lv false n ss bs n < 0
    · rw [show strV false n ss bs = 0 by simp [strV, strB, hw], show strB false n ss bs = false by simp [strB, hw]]
      have H := Lib.hid g
      clear g
      have h1 := h.alloc hB (.cells #[.int .i64 (n : Int), .slice A ss.length c, .slice A' bs.length c'] 24)
      have X0 : Blk (w.alloc (.cells #[.int .i64 (n : Int), .slice A ss.length c, .slice A' bs.length c'] 24)) w.heap.size 24 #[.int .i64 (n : Int), .slice A ss.length c, .slice A' bs.length c'] := Blk.new _ _ _
      go_enter Try.func85, Try.ntmps85
      go_wp2_with fail
      refine (clGood_any _ _ _ _ _ _ _ B _ h1 (by simp; omega)).mono ?_
      rintro e w1 ⟨rfl, hb⟩
      have Bt : Below w.heap.size w w1 := (below_alloc _ _).trans (hb.mono (by simp))
      have hs : w.heap.size + 1 ≤ w1.heap.size := by have := hb.size; simp at this; omega
      replace h1 := h1.below hb (by simp; omega)
      replace X0 := X0.below hb (by simp)
      clear hb
      obtain ⟨p0, p1, p2⟩ := X0.three
      rw [H.out]
      go_wp2_with fail
      refine (clLeft_few n _ _ _ _ _ _ B _ h1 (by omega) G).mono ?_
      rintro e w2 ⟨g2, rfl, hg2, hblk2, hb⟩
      have c2 := hblk2.int_at (k := 0) (by unfold leL; rw [tell_length]; omega)
      rw [leL_zero] at c2
      replace Bt := Bt.trans (hb.mono (by omega))
      replace h1 := h1.below hb (by omega)
      replace X0 := X0.below hb (by omega)
      replace hs : w.heap.size + 1 ≤ w2.heap.size := by have := hb.size; omega
      clear p0 p1 p2
      clear hb
      obtain ⟨p0, p1, p2⟩ := X0.three
      generalize lv false n ss bs n = v at *
      clear G
      go_wp2_with fail
      go_ret2
      exact ⟨rfl, Bt⟩
    · have hB1 : strB false n ss bs = true := by simp only [strB, g, Int.toNat_natCast, hw, decide_false, Bool.not_false, Bool.and_self]
      rw [show strV false n ss bs = lv false n ss bs n by simp [strV, hB1], hB1]
      have H := Lib.hid g
      clear g hB1
      have h1 := h.alloc hB (.cells #[.int .i64 (n : Int), .slice A ss.length c, .slice A' bs.length c'] 24)
      have X0 : Blk (w.alloc (.cells #[.int .i64 (n : Int), .slice A ss.length c, .slice A' bs.length c'] 24)) w.heap.size 24 #[.int .i64 (n : Int), .slice A ss.length c, .slice A' bs.length c'] := Blk.new _ _ _
      go_enter Try.func85, Try.ntmps85
      go_wp2_with fail
      refine (clGood_any _ _ _ _ _ _ _ B _ h1 (by simp; omega)).mono ?_
      rintro e w1 ⟨rfl, hb⟩
      have Bt : Below w.heap.size w w1 := (below_alloc _ _).trans (hb.mono (by simp))
      have hs : w.heap.size + 1 ≤ w1.heap.size := by have := hb.size; simp at this; omega
      replace h1 := h1.below hb (by simp; omega)
      replace X0 := X0.below hb (by simp)
      clear hb
      obtain ⟨p0, p1, p2⟩ := X0.three
      rw [H.out]
      go_wp2_with fail
      refine (clLeft_few n _ _ _ _ _ _ B _ h1 (by omega) G).mono ?_
      rintro e w2 ⟨g2, rfl, hg2, hblk2, hb⟩
      have c2 := hblk2.int_at (k := 0) (by unfold leL; rw [tell_length]; omega)
      rw [leL_zero] at c2
      replace Bt := Bt.trans (hb.mono (by omega))
      replace h1 := h1.below hb (by omega)
      replace X0 := X0.below hb (by omega)
      replace hs : w.heap.size + 1 ≤ w2.heap.size := by have := hb.size; omega
      clear p0 p1 p2
      clear hb
      obtain ⟨p0, p1, p2⟩ := X0.three
      go_wp2_with fail
      refine (clLeft_few n _ _ _ _ _ _ B _ h1 (by omega) G).mono ?_
      rintro e w3 ⟨g3, rfl, hg3, hblk3, hb⟩
      have c3 := hblk3.int_at (k := 0) (by unfold leL; rw [tell_length]; omega)
      rw [leL_zero] at c3
      replace Bt := Bt.trans (hb.mono (by omega))
      replace h1 := h1.below hb (by omega)
      replace X0 := X0.below hb (by omega)
      replace hs : w.heap.size + 1 ≤ w3.heap.size := by have := hb.size; omega
      clear p0 p1 p2
      clear hb
      obtain ⟨p0, p1, p2⟩ := X0.three
      generalize lv false n ss bs n = v at *
      clear G
      go_wp2_with fail
      go_ret2
      exact ⟨rfl, Bt⟩

set_option maxHeartbeats 2000000 in
theorem specMost_any (st : Int) (A A' : Option Addr) (c c' : Nat) (ss bs : List Int) (B : Nat) (w : World) (h : St w B st A A' c c' ss bs) (hB : B ≤ w.heap.size) :
    Calls Try.prog 87 #[stv st A A' c c' ss bs] w (Plain (.tuple #[.int .i64 (strV true st ss bs), .bool (strB true st ss bs)]) w) := by
  cases g : goodB st ss bs
  · rw [show strV true st ss bs = 0 by simp [strV, strB, g], show strB true st ss bs = false by simp [strB, g]]
    have H := Lib.hid g
    clear g
    have h1 := h.alloc hB (.cells #[.int .i64 st, .slice A ss.length c, .slice A' bs.length c'] 24)
    have X0 : Blk (w.alloc (.cells #[.int .i64 st, .slice A ss.length c, .slice A' bs.length c'] 24)) w.heap.size 24 #[.int .i64 st, .slice A ss.length c, .slice A' bs.length c'] := Blk.new _ _ _
    go_enter Try.func87, Try.ntmps87
    go_wp2_with fail
    refine (clGood_any _ _ _ _ _ _ _ B _ h1 (by simp; omega)).mono ?_
    rintro e w1 ⟨rfl, hb⟩
    have Bt : Below w.heap.size w w1 := (below_alloc _ _).trans (hb.mono (by simp))
    have hs : w.heap.size + 1 ≤ w1.heap.size := by have := hb.size; simp at this; omega
    replace h1 := h1.below hb (by simp; omega)
    replace X0 := X0.below hb (by simp)
    clear hb
    obtain ⟨p0, p1, p2⟩ := X0.three
    rw [H.out]
    go_wp2_with fail
    go_ret2
    exact ⟨rfl, Bt⟩
  · have G := good_of g
    obtain ⟨n, rfl⟩ : ∃ n : Nat, st = (n : Int) := ⟨st.toNat, by have := G.st1; omega⟩
    have g1 : 1 ≤ n := by have := G.st1; omega
    have g2 : n ≤ 60 := by have := G.st2; omega
    by_cases hw : lv true n ss bs n < 0
    · rw [show strV true n ss bs = 0 by simp [strV, strB, hw], show strB true n ss bs = false by simp [strB, hw]]
      have H := Lib.hid g
      clear g
      have h1 := h.alloc hB (.cells #[.int .i64 (n : Int), .slice A ss.length c, .slice A' bs.length c'] 24)
      have X0 : Blk (w.alloc (.cells #[.int .i64 (n : Int), .slice A ss.length c, .slice A' bs.length c'] 24)) w.heap.size 24 #[.int .i64 (n : Int), .slice A ss.length c, .slice A' bs.length c'] := Blk.new _ _ _
      go_enter Try.func87, Try.ntmps87
      go_wp2_with fail
      refine (clGood_any _ _ _ _ _ _ _ B _ h1 (by simp; omega)).mono ?_
      rintro e w1 ⟨rfl, hb⟩
      have Bt : Below w.heap.size w w1 := (below_alloc _ _).trans (hb.mono (by simp))
      have hs : w.heap.size + 1 ≤ w1.heap.size := by have := hb.size; simp at this; omega
      replace h1 := h1.below hb (by simp; omega)
      replace X0 := X0.below hb (by simp)
      clear hb
      obtain ⟨p0, p1, p2⟩ := X0.three
      rw [H.out]
      go_wp2_with fail
      refine (clLeft_most n _ _ _ _ _ _ B _ h1 (by omega) G).mono ?_
      rintro e w2 ⟨g2, rfl, hg2, hblk2, hb⟩
      have c2 := hblk2.int_at (k := 0) (by unfold leL; rw [tell_length]; omega)
      rw [leL_zero] at c2
      replace Bt := Bt.trans (hb.mono (by omega))
      replace h1 := h1.below hb (by omega)
      replace X0 := X0.below hb (by omega)
      replace hs : w.heap.size + 1 ≤ w2.heap.size := by have := hb.size; omega
      clear p0 p1 p2
      clear hb
      obtain ⟨p0, p1, p2⟩ := X0.three
      generalize lv true n ss bs n = v at *
      clear G
      go_wp2_with fail
      go_ret2
      exact ⟨rfl, Bt⟩
    · have hB1 : strB true n ss bs = true := by simp only [strB, g, Int.toNat_natCast, hw, decide_false, Bool.not_false, Bool.and_self]
      rw [show strV true n ss bs = lv true n ss bs n by simp [strV, hB1], hB1]
      have H := Lib.hid g
      clear g hB1
      have h1 := h.alloc hB (.cells #[.int .i64 (n : Int), .slice A ss.length c, .slice A' bs.length c'] 24)
      have X0 : Blk (w.alloc (.cells #[.int .i64 (n : Int), .slice A ss.length c, .slice A' bs.length c'] 24)) w.heap.size 24 #[.int .i64 (n : Int), .slice A ss.length c, .slice A' bs.length c'] := Blk.new _ _ _
      go_enter Try.func87, Try.ntmps87
      go_wp2_with fail
      refine (clGood_any _ _ _ _ _ _ _ B _ h1 (by simp; omega)).mono ?_
      rintro e w1 ⟨rfl, hb⟩
      have Bt : Below w.heap.size w w1 := (below_alloc _ _).trans (hb.mono (by simp))
      have hs : w.heap.size + 1 ≤ w1.heap.size := by have := hb.size; simp at this; omega
      replace h1 := h1.below hb (by simp; omega)
      replace X0 := X0.below hb (by simp)
      clear hb
      obtain ⟨p0, p1, p2⟩ := X0.three
      rw [H.out]
      go_wp2_with fail
      refine (clLeft_most n _ _ _ _ _ _ B _ h1 (by omega) G).mono ?_
      rintro e w2 ⟨g2, rfl, hg2, hblk2, hb⟩
      have c2 := hblk2.int_at (k := 0) (by unfold leL; rw [tell_length]; omega)
      rw [leL_zero] at c2
      replace Bt := Bt.trans (hb.mono (by omega))
      replace h1 := h1.below hb (by omega)
      replace X0 := X0.below hb (by omega)
      replace hs : w.heap.size + 1 ≤ w2.heap.size := by have := hb.size; omega
      clear p0 p1 p2
      clear hb
      obtain ⟨p0, p1, p2⟩ := X0.three
      go_wp2_with fail
      refine (clLeft_most n _ _ _ _ _ _ B _ h1 (by omega) G).mono ?_
      rintro e w3 ⟨g3, rfl, hg3, hblk3, hb⟩
      have c3 := hblk3.int_at (k := 0) (by unfold leL; rw [tell_length]; omega)
      rw [leL_zero] at c3
      replace Bt := Bt.trans (hb.mono (by omega))
      replace h1 := h1.below hb (by omega)
      replace X0 := X0.below hb (by omega)
      replace hs : w.heap.size + 1 ≤ w3.heap.size := by have := hb.size; omega
      clear p0 p1 p2
      clear hb
      obtain ⟨p0, p1, p2⟩ := X0.three
      generalize lv true n ss bs n = v at *
      clear G
      go_wp2_with fail
      go_ret2
      exact ⟨rfl, Bt⟩

end Go.Proofs.Ytehffiaobjlpoaa
