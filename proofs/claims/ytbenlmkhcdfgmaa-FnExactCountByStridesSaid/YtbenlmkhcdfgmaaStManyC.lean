/- Contracts: CountByStrides, on both sides. -/
import Derived.Test.YtbenlmkhcdfgmaaStMany
namespace Go.Proofs.Ytbenlmkhcdfgmaa
open Go.RowKit

theorem cbB_count {st : Int} {ss bs : List Int} {x : Int} (h : countB st ss bs = false) : cbB st ss bs x = false := by simp [cbB, h]
theorem cbN_no {st : Int} {ss bs : List Int} {x : Int} (h : cbB st ss bs x = false) : cbN st ss bs x = 0 := by simp [cbN, h]
theorem count_parts {st : Int} {ss bs : List Int} (h : countB st ss bs = true) : goodB st ss bs = true ∧ wS st ss bs st.toNat ≤ 1000000000000000 := by simpa [countB] using h

set_option maxRecDepth 100000 in
set_option maxHeartbeats 2000000 in
theorem specBy_any (st : Int) (A A' : Option Addr) (c c' : Nat) (ss bs : List Int) (nx : Int) (B : Nat) (w : World) (h : St w B st A A' c c' ss bs) (hB : B ≤ w.heap.size) :
    Calls Try.prog 18 #[stv st A A' c c' ss bs, .int .i64 nx] w (Plain (.tuple #[.int .i64 (cbN st ss bs nx), .bool (cbB st ss bs nx)]) w) := by
  have X0 : Blk (w.alloc (.cells #[.int .i64 st, .slice A ss.length c, .slice A' bs.length c'] 28)) w.heap.size 28 #[.int .i64 st, .slice A ss.length c, .slice A' bs.length c'] := Blk.new _ _ _
  have h1 := h.alloc hB
  cases hc : countB st ss bs
  · rw [cbN_no (cbB_count hc), cbB_count hc]
    have HC := Lib.hid hc
    clear hc
    go_enter Try.func18, Try.ntmps18
    go_wp2_with fail
    refine (clCounted_any _ _ _ _ _ _ _ B _ (h1 _) (by simp; omega)).mono ?_
    rintro e w1 ⟨rfl, hb⟩
    rw [HC.out]
    have B1 : Below w.heap.size w w1 := (below_alloc _ _).trans (hb.mono (by simp))
    go_wp2_with fail
    go_ret2
    exact ⟨rfl, B1⟩
  · obtain ⟨hg, hw⟩ := count_parts hc
    have G := good_of hg
    obtain ⟨n, rfl⟩ : ∃ n : Nat, st = (n : Int) := ⟨st.toNat, by have := G.st1; omega⟩
    rw [Int.toNat_natCast] at hw
    have eB : cbB n ss bs nx = decide (0 ≤ nx) := by simp [cbB, hc]
    have HC := Lib.hid hc
    have GH := Lib.hid G
    clear hc hg G
    by_cases hneg : nx < 0
    · have e0 : cbB n ss bs nx = false := by rw [eB]; exact decide_eq_false (by omega)
      rw [cbN_no e0, e0]
      clear e0 eB hw
      go_enter Try.func18, Try.ntmps18
      go_wp2_with fail
      refine (clCounted_any _ _ _ _ _ _ _ B _ (h1 _) (by simp; omega)).mono ?_
      rintro e w1 ⟨rfl, hb⟩
      rw [HC.out]
      have B1 : Below w.heap.size w w1 := (below_alloc _ _).trans (hb.mono (by simp))
      go_wp2_with fail
      go_ret2
      exact ⟨rfl, B1⟩
    · have e0 : cbB n ss bs nx = true := by rw [eB]; exact decide_eq_true (by omega)
      by_cases hbig : (n : Int) < nx
      · rw [show cbN n ss bs nx = 0 by simp [cbN]; omega, e0]
        clear e0 eB hw
        go_enter Try.func18, Try.ntmps18
        go_wp2_with fail
        refine (clCounted_any _ _ _ _ _ _ _ B _ (h1 _) (by simp; omega)).mono ?_
        rintro e w1 ⟨rfl, hb⟩
        rw [HC.out]
        have X1 := X0.below hb (by simp)
        have B1 : Below w.heap.size w w1 := (below_alloc _ _).trans (hb.mono (by simp))
        obtain ⟨p0, p1, p2⟩ := X1.three
        go_wp2_with fail
        go_ret2
        exact ⟨rfl, B1⟩
      · obtain ⟨m0, rfl⟩ : ∃ m0 : Nat, nx = (m0 : Int) := ⟨nx.toNat, by omega⟩
        have e1 : cbN n ss bs (m0 : Int) = bS n ss bs m0 n := by simp [cbN, e0]; omega
        rw [e1, e0]
        have HT := Lib.hid (fC_top GH.out hw m0)
        have m1 : m0 ≤ n := by omega
        clear e0 e1 eB hw
        go_enter Try.func18, Try.ntmps18
        go_wp2_with fail
        refine (clCounted_any _ _ _ _ _ _ _ B _ (h1 _) (by simp; omega)).mono ?_
        rintro e w1 ⟨rfl, hb⟩
        rw [HC.out]
        have X1 := X0.below hb (by simp)
        have B1 : Below w.heap.size w w1 := (below_alloc _ _).trans (hb.mono (by simp))
        have hz : w.heap.size < w1.heap.size := by have := hb.size; simp at this; omega
        obtain ⟨p0, p1, p2⟩ := X1.three
        clear hb h1
        go_wp2_with fail
        refine (clMany_any n m0 _ _ _ _ _ _ B _ (h.below B1 hB) (by omega) GH.out m1).mono ?_
        rintro e w2 ⟨rfl, hb2⟩
        rw [HT.out]
        go_wp2_with fail
        go_ret2
        exact ⟨rfl, B1.trans (hb2.mono (by omega))⟩
set_option maxRecDepth 100000 in
set_option maxHeartbeats 2000000 in
theorem implBy_any (st : Int) (A A' : Option Addr) (c c' : Nat) (ss bs : List Int) (nx : Int) (B : Nat) (w : World) (h : St w B st A A' c c' ss bs) (hB : B ≤ w.heap.size) :
    Calls Try.prog 19 #[stv st A A' c c' ss bs, .int .i64 nx] w (Plain (.tuple #[.int .i64 (cbN st ss bs nx), .bool (cbB st ss bs nx)]) w) := by
  have X0 : Blk (w.alloc (.cells #[.int .i64 st, .slice A ss.length c, .slice A' bs.length c'] 28)) w.heap.size 28 #[.int .i64 st, .slice A ss.length c, .slice A' bs.length c'] := Blk.new _ _ _
  have h1 := h.alloc hB
  cases hc : countB st ss bs
  · rw [cbN_no (cbB_count hc), cbB_count hc]
    have HC := Lib.hid hc
    clear hc
    go_enter Try.func19, Try.ntmps19
    go_wp2_with fail
    refine (toRank_any _ _ _ _ _ _ _ B _ (h1 _) (by simp; omega)).mono ?_
    rintro e w1 ⟨v, rfl, hb, hv⟩
    clear hv
    rw [HC.out]
    have B1 : Below w.heap.size w w1 := (below_alloc _ _).trans (hb.mono (by simp))
    go_wp2_with fail
    go_ret2
    exact ⟨rfl, B1⟩
  · obtain ⟨hg, hw⟩ := count_parts hc
    have G := good_of hg
    obtain ⟨n, rfl⟩ : ∃ n : Nat, st = (n : Int) := ⟨st.toNat, by have := G.st1; omega⟩
    rw [Int.toNat_natCast] at hw
    have eB : cbB n ss bs nx = decide (0 ≤ nx) := by simp [cbB, hc]
    have HC := Lib.hid hc
    have GH := Lib.hid G
    clear hc hg G
    by_cases hneg : nx < 0
    · have e0 : cbB n ss bs nx = false := by rw [eB]; exact decide_eq_false (by omega)
      rw [cbN_no e0, e0]
      clear e0 eB hw
      go_enter Try.func19, Try.ntmps19
      go_wp2_with fail
      refine (toRank_any _ _ _ _ _ _ _ B _ (h1 _) (by simp; omega)).mono ?_
      rintro e w1 ⟨v, rfl, hb, hv⟩
      clear hv
      rw [HC.out]
      have B1 : Below w.heap.size w w1 := (below_alloc _ _).trans (hb.mono (by simp))
      go_wp2_with fail
      go_ret2
      exact ⟨rfl, B1⟩
    · have e0 : cbB n ss bs nx = true := by rw [eB]; exact decide_eq_true (by omega)
      by_cases hbig : (n : Int) < nx
      · rw [show cbN n ss bs nx = 0 by simp [cbN]; omega, e0]
        clear e0 eB hw
        go_enter Try.func19, Try.ntmps19
        go_wp2_with fail
        refine (toRank_any _ _ _ _ _ _ _ B _ (h1 _) (by simp; omega)).mono ?_
        rintro e w1 ⟨v, rfl, hb, hv⟩
        clear hv
        rw [HC.out]
        have X1 := X0.below hb (by simp)
        have B1 : Below w.heap.size w w1 := (below_alloc _ _).trans (hb.mono (by simp))
        obtain ⟨p0, p1, p2⟩ := X1.three
        go_wp2_with fail
        go_ret2
        exact ⟨rfl, B1⟩
      · obtain ⟨m0, rfl⟩ : ∃ m0 : Nat, nx = (m0 : Int) := ⟨nx.toNat, by omega⟩
        have e1 : cbN n ss bs (m0 : Int) = bS n ss bs m0 n := by simp [cbN, e0]; omega
        rw [e1, e0]
        have HT := Lib.hid (fC_top GH.out hw m0)
        have m1 : m0 ≤ n := by omega
        clear e0 e1 eB hw
        go_enter Try.func19, Try.ntmps19
        go_wp2_with fail
        refine (toRank_any _ _ _ _ _ _ _ B _ (h1 _) (by simp; omega)).mono ?_
        rintro e w1 ⟨v, rfl, hb, hv⟩
        clear hv
        rw [HC.out]
        have X1 := X0.below hb (by simp)
        have B1 : Below w.heap.size w w1 := (below_alloc _ _).trans (hb.mono (by simp))
        have hz : w.heap.size < w1.heap.size := by have := hb.size; simp at this; omega
        obtain ⟨p0, p1, p2⟩ := X1.three
        clear hb h1
        go_wp2_with fail
        refine (byStrides_any n _ _ _ _ _ _ B _ (h.below B1 hB) (by omega) GH.out).mono ?_
        rintro e w2 ⟨g, gs, f, rfl, hgg, RW, hf, hb2⟩
        have q0 := RW.out (j := m0) m1
        have q1 := RW.at_ (j := m0) (q := 0) m1 (by omega)
        rw [(hf m0 0 m1).trans (bY_in n ss bs m0 (Nat.zero_le _)), Nat.sub_zero] at q1
        have hc3 : (m0 : Int) < (n : Int) + 1 := by omega
        have hc4 : m0 < n + 1 := by omega
        have B2 := B1.trans (hb2.mono (by omega))
        clear hf RW hb2 HT
        generalize bS n ss bs m0 n = z at *
        go_wp2_with fail
        go_ret2
        exact ⟨rfl, B2⟩

end Go.Proofs.Ytbenlmkhcdfgmaa
