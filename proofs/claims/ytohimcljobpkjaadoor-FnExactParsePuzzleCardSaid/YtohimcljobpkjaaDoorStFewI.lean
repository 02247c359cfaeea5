/- Contracts: FewestStrides, the program. -/
import Derived.Test.YtohimcljobpkjaaDoorStByW
import Derived.Test.YtohimcljobpkjaaDoorStFewS
namespace Go.Proofs.YtohimcljobpkjaaDoor
set_option maxRecDepth 100000
open Go.RowKit

theorem few_of {n k : Nat} {ss bs : List Int} (g : goodB n ss bs = true) (h : 0 < bS n ss bs k n) (hb : ∀ i, i < k → bS n ss bs i n ≤ 0) : strV false n ss bs = k ∧ strB false n ss bs = true := by
  have G := good_of g
  have e : lv false n ss bs n = k := (lv_few (fun s hs => (G.hs s hs).1) n).uniq (.inr ⟨k, rfl, h, fun i hi => by have := hb i hi; omega⟩)
  have hB : strB false n ss bs = true := by simp only [strB, g, Int.toNat_natCast, e, Bool.true_and, Bool.not_eq_true', decide_eq_false_iff_not]; omega
  exact ⟨by rw [strV, if_pos hB, Int.toNat_natCast, e], hB⟩
theorem few_none {n : Nat} {ss bs : List Int} (g : goodB n ss bs = true) (hb : ∀ i, i < n + 1 → bS n ss bs i n ≤ 0) : strV false n ss bs = 0 ∧ strB false n ss bs = false := by
  have G := good_of g
  have e : lv false n ss bs n = -1 := (lv_few (fun s hs => (G.hs s hs).1) n).uniq (.inl ⟨rfl, fun m hm => by
    rcases Nat.lt_or_ge m (n + 1) with h | h
    · have h1 : 0 < bS n ss bs m n := hm
      have := hb m h
      omega
    · have h1 : 0 < bS n ss bs m n := hm
      rw [bS_far (fun s hs => (G.hs s hs).1) m n (by omega)] at h1; omega⟩)
  have hB : strB false n ss bs = false := by simp [strB, g, e]
  exact ⟨by rw [strV, hB]; rfl, hB⟩

set_option maxHeartbeats 2000000 in
theorem implFewest_any (st : Int) (A A' : Option Addr) (c c' : Nat) (ss bs : List Int) (B : Nat) (w : World) (h : St w B st A A' c c' ss bs) (hB : B ≤ w.heap.size) :
    Calls Tryd.prog 65 #[stv st A A' c c' ss bs] w (Plain (.tuple #[.int .i64 (strV false st ss bs), .bool (strB false st ss bs)]) w) := by
  cases g : goodB st ss bs
  · rw [show strV false st ss bs = 0 by simp [strV, strB, g], show strB false st ss bs = false by simp [strB, g]]
    have H := Lib.hid g
    clear g
    have h1 := h.alloc hB (.cells #[.int .i64 st, .slice A ss.length c, .slice A' bs.length c'] 84)
    have X0 : Blk (w.alloc (.cells #[.int .i64 st, .slice A ss.length c, .slice A' bs.length c'] 84)) w.heap.size 84 #[.int .i64 st, .slice A ss.length c, .slice A' bs.length c'] := Blk.new _ _ _
    go_enter Tryd.func65, Tryd.ntmps65
    go_wp2_with fail
    refine (implAre_any _ _ _ _ _ _ _ B _ h1 (by simp; omega)).mono ?_
    rintro e w1 ⟨rfl, hb⟩
    have Bt : Below w.heap.size w w1 := (below_alloc _ _).trans (hb.mono (by simp))
    have hs : w.heap.size + 1 ≤ w1.heap.size := by have := hb.size; simp at this; omega
    replace h1 := h1.below hb (by simp; omega)
    replace X0 := X0.below hb (by simp)
    clear hb
    obtain ⟨p0, p1, p2⟩ := X0.three
    rw [H.out]
    go_wp2_with fail
    go_ret2
    exact ⟨rfl, Bt⟩
  · have G := good_of g
    obtain ⟨n, rfl⟩ : ∃ n : Nat, st = (n : Int) := ⟨st.toNat, by have := G.st1; omega⟩
    have g1 : 1 ≤ n := by have := G.st1; omega
    have g2 : n ≤ 60 := by have := G.st2; omega
    have HF := Lib.hid (fun k => few_of (k := k) g)
    have H0 := Lib.hid (few_none g)
    have H := Lib.hid g
    have HNN := Lib.hid (fun m => bS_nonneg n ss bs m n)
    clear g
    have h1 := h.alloc hB (.cells #[.int .i64 (n : Int), .slice A ss.length c, .slice A' bs.length c'] 84)
    have X0 : Blk (w.alloc (.cells #[.int .i64 (n : Int), .slice A ss.length c, .slice A' bs.length c'] 84)) w.heap.size 84 #[.int .i64 (n : Int), .slice A ss.length c, .slice A' bs.length c'] := Blk.new _ _ _
    go_enter Tryd.func65, Tryd.ntmps65
    go_wp2_with fail
    refine (implAre_any _ _ _ _ _ _ _ B _ h1 (by simp; omega)).mono ?_
    rintro e w1 ⟨rfl, hb⟩
    have Bt : Below w.heap.size w w1 := (below_alloc _ _).trans (hb.mono (by simp))
    have hs : w.heap.size + 1 ≤ w1.heap.size := by have := hb.size; simp at this; omega
    replace h1 := h1.below hb (by simp; omega)
    replace X0 := X0.below hb (by simp)
    clear hb
    obtain ⟨p0, p1, p2⟩ := X0.three
    rw [H.out]
    go_wp2_with fail
    refine (byStrides_any n _ _ _ _ _ _ B _ h1 (by omega) G).mono ?_
    rintro e w2 ⟨g, gs, f, rfl, hgg, RW, hf, hb⟩
    have HF2 := Lib.hid (fun j (hj : j ≤ n) => (hf j 0 hj).trans (bY_in n ss bs j (Nat.zero_le _)))
    clear hf G
    replace Bt := Bt.trans (hb.mono (by omega))
    replace h1 := h1.below hb (by omega)
    replace X0 := X0.below hb (by omega)
    replace hs : w.heap.size + 1 ≤ w2.heap.size := by have := hb.size; omega
    clear p0 p1 p2
    clear hb
    obtain ⟨p0, p1, p2⟩ := X0.three
    go_wp2_with fail
    go_loopw [12] (fun i wr => ∃ k : Nat, k ≤ n + 1 ∧ i = .int .i64 (k : Int) ∧ (∀ j, j < k → bS n ss bs j n ≤ 0) ∧ Below w2.heap.size w2 wr) (fun i _ => (62 - intOf i).toNat)
    case atStart => exact ⟨0, by omega, rfl, fun j hj => by omega, Below.refl _ _⟩
    case round =>
      obtain ⟨k, hk, rfl, hbf, hbw⟩ := hrel
      have HBF := Lib.hid hbf
      clear hbf
      have RW2 := RW.below hbw (Nat.le_refl _)
      by_cases hlt : k < n + 1
      · have c1 := RW2.out (j := k) (by omega)
        have c2 := RW2.at_ (j := k) (q := 0) (by omega) (by omega)
        rw [HF2.out k (by omega), Nat.sub_zero] at c2
        have hnn := HNN.out k
        have hkn : (k : Int) < (n : Int) + 1 := by omega
        generalize gs k = r at *
        by_cases hp : 0 < bS n ss bs k n
        · have HV := Lib.hid (HF.out k hp HBF.out)
          generalize bS n ss bs k n = v at c2 hp hnn
          clear RW2
          go_wp2_with fail
          go_ret2
          refine ⟨?_, Bt.trans (hbw.mono (by omega))⟩
          rw [HV.out.1, HV.out.2]
          rfl
        · have HN : Hid (∀ j, j < k + 1 → bS n ss bs j n ≤ 0) := Lib.hid (fun j hj => by
            by_cases e : j = k
            · rw [e]; omega
            · exact HBF.out j (by omega))
          generalize bS n ss bs k n = v at c2 hp hnn
          clear RW2
          go_wp2_with fail
          go_roundw
          case rel => exact ⟨k + 1, by omega, by go_num, HN.out, hbw⟩
          case measure => simp [intOf] <;> omega
      · obtain rfl : k = n + 1 := by omega
        have HV := Lib.hid (H0.out HBF.out)
        clear RW2
        go_wp2_with fail
        go_ret2
        refine ⟨?_, Bt.trans (hbw.mono (by omega))⟩
        rw [HV.out.1, HV.out.2]
        rfl

end Go.Proofs.YtohimcljobpkjaaDoor
