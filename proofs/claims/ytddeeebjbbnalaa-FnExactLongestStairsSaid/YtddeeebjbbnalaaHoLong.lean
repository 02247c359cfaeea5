/- Contracts: LongestStairs, on both sides. -/
import Derived.Test.YtddeeebjbbnalaaHoFloor
import Derived.Test.YtddeeebjbbnalaaGSlices
import Derived.BigQuiet
import Derived.Deep.QuietTactic
namespace Go.Proofs.Ytddeeebjbbnalaa
open Go.RowKit

theorem Rd.some_cell {w : World} {B b o c : Nat} {xs : List Int} (h : Rd w B (some ⟨b, o, none⟩) c xs) {k : Nat} (hk : k < xs.length) : w.cell? ⟨b, o + k, none⟩ = some (.int .i64 (xs.getD k 0)) := by
  obtain ⟨b', o', e, _, hc⟩ := h.2 k hk
  injection e with e
  injection e with e1 e2
  subst e1 e2
  exact hc
/-- the first greatest one of the first k -/
def bestX (ss : List Int) : Nat → Nat
  | 0 => 0
  | k + 1 => if ss.getD (bestX ss k) 0 < ss.getD k 0 then k else bestX ss k
theorem bestX_yes {ss : List Int} {k : Nat} (h : ss.getD (bestX ss k) 0 < ss.getD k 0) : bestX ss (k + 1) = k := by rw [bestX, if_pos h]
theorem bestX_no {ss : List Int} {k : Nat} (h : ¬ ss.getD (bestX ss k) 0 < ss.getD k 0) : bestX ss (k + 1) = bestX ss k := by rw [bestX, if_neg h]
theorem bestX_lt (ss : List Int) : ∀ k, bestX ss k ≤ k - 1
  | 0 => Nat.le_refl _
  | k + 1 => by
    have := bestX_lt ss k
    rw [bestX]
    split <;> omega
theorem bestX_ge (ss : List Int) : ∀ k j, j < k → ss.getD j 0 ≤ ss.getD (bestX ss k) 0
  | 0, j, h => absurd h (by omega)
  | k + 1, j, h => by
    by_cases hc : ss.getD (bestX ss k) 0 < ss.getD k 0
    · rw [bestX_yes hc]
      by_cases hj : j = k
      · rw [hj]; exact Int.le_refl _
      · have := bestX_ge ss k j (by omega); omega
    · rw [bestX_no hc]
      by_cases hj : j = k
      · rw [hj]; omega
      · exact bestX_ge ss k j (by omega)
theorem bestX_first (ss : List Int) : ∀ k j, j < bestX ss k → ss.getD j 0 < ss.getD (bestX ss k) 0
  | 0, j, h => absurd h (by simp [bestX])
  | k + 1, j, h => by
    by_cases hc : ss.getD (bestX ss k) 0 < ss.getD k 0
    · rw [bestX_yes hc] at h ⊢
      have := bestX_ge ss k j h; omega
    · rw [bestX_no hc] at h ⊢
      exact bestX_first ss k j h
theorem mem_drop1 {ss : List Int} {y : Int} (h : y ∈ ss.drop 1) : ∃ j, 1 ≤ j ∧ j < ss.length ∧ ss.getD j 0 = y := by
  obtain ⟨i, hi, e⟩ := List.getElem_of_mem h
  simp at hi
  refine ⟨i + 1, by omega, by omega, ?_⟩
  rw [← e]
  simp [List.getD_eq_getElem?_getD, show i + 1 < ss.length by omega]
theorem drop1_mem {ss : List Int} {j : Nat} (h1 : 1 ≤ j) (h : j < ss.length) : ss.getD j 0 ∈ ss.drop 1 := by
  obtain ⟨i, rfl⟩ : ∃ i, j = i + 1 := ⟨j - 1, by omega⟩
  have : (ss.drop 1)[i]'(by simp; omega) = ss.getD (i + 1) 0 := by simp [List.getD_eq_getElem?_getD, h]
  rw [← this]
  exact List.getElem_mem _
theorem maxL_best {ss : List Int} (h1 : 1 ≤ ss.length) : maxL ss = ss.getD (bestX ss ss.length) 0 := by
  unfold maxL
  have hl := bestX_lt ss ss.length
  refine maxF_eq _ _ _ (bestX_ge ss _ 0 (by omega)) (fun y hy => ?_) ?_
  · obtain ⟨j, _, hj, rfl⟩ := mem_drop1 hy
    exact bestX_ge ss _ j hj
  · by_cases hb : bestX ss ss.length = 0
    · exact .inl (by rw [hb])
    · exact .inr (drop1_mem (by omega) (by omega))
theorem idx_best {ss : List Int} (h1 : 1 ≤ ss.length) : idxF (ss.getD (bestX ss ss.length) 0) ss 0 = (bestX ss ss.length : Nat) := by
  have hl := bestX_lt ss ss.length
  have := idxF_eq (ss.getD (bestX ss ss.length) 0) ss (bestX ss ss.length) (by omega) rfl 0 (Nat.zero_le _) (fun j _ hj => by have := bestX_first ss ss.length j hj; omega)
  simpa using this

set_option maxHeartbeats 800000 in
theorem implLongest_any (A A' : Option Addr) (c c' : Nat) (ss bs : List Int) (B : Nat) (w : World) (h : Ho w B A A' c c' ss bs) (hB : B ≤ w.heap.size) :
    Calls Try.prog 35 #[.agg #[.slice A ss.length c, .slice A' bs.length c']] w (Plain (.tuple #[.int .i64 (orI (goodH ss bs) (bestX ss ss.length : Nat)), .int .i64 (orI (goodH ss bs) (ss.getD (bestX ss ss.length) 0)), .bool (goodH ss bs)]) w) := by
  cases g : goodH ss bs
  · rw [orI_no, orI_no]
    have H := Lib.hid g
    clear g
    have h1 := h.alloc hB (.cells #[.slice A ss.length c, .slice A' bs.length c'] 27)
    have X0 : Blk (w.alloc (.cells #[.slice A ss.length c, .slice A' bs.length c'] 27)) w.heap.size 27 #[.slice A ss.length c, .slice A' bs.length c'] := Blk.new _ _ _
    have hns := h.ns
    have hnb := h.nb
    have hcs := h.rs.1
    have hcb := h.rb.1
    go_enter Try.func35, Try.ntmps35
    go_wp2_with fail
    refine (impHouse_any _ _ _ _ _ _ B _ h1 (by simp; omega)).mono ?_
    rintro e w1 ⟨rfl, hb⟩
    have Bt : Below w.heap.size w w1 := (below_alloc _ _).trans (hb.mono (by simp))
    have hs : w.heap.size + 1 ≤ w1.heap.size := by have := hb.size; simp at this; omega
    replace h1 := h1.below hb (by simp; omega)
    replace X0 := X0.below hb (by simp)
    clear hb
    obtain ⟨p0, p1⟩ := X0.two
    rw [H.out]
    go_wp2_with fail
    go_ret3
    exact ⟨rfl, Bt⟩
  · rw [orI_yes, orI_yes]
    have G := goodH_of g
    have H := Lib.hid g
    clear g
    have hl1 := G.n1
    have hl0 := G.n0
    rw [← idx_best G.n0, ← maxL_best G.n0]
    have h1 := h.alloc hB (.cells #[.slice A ss.length c, .slice A' bs.length c'] 27)
    have X0 : Blk (w.alloc (.cells #[.slice A ss.length c, .slice A' bs.length c'] 27)) w.heap.size 27 #[.slice A ss.length c, .slice A' bs.length c'] := Blk.new _ _ _
    have hns := h.ns
    have hnb := h.nb
    have hcs := h.rs.1
    have hcb := h.rb.1
    go_enter Try.func35, Try.ntmps35
    go_wp2_with fail
    refine (impHouse_any _ _ _ _ _ _ B _ h1 (by simp; omega)).mono ?_
    rintro e w1 ⟨rfl, hb⟩
    have Bt : Below w.heap.size w w1 := (below_alloc _ _).trans (hb.mono (by simp))
    have hs : w.heap.size + 1 ≤ w1.heap.size := by have := hb.size; simp at this; omega
    replace h1 := h1.below hb (by simp; omega)
    replace X0 := X0.below hb (by simp)
    clear hb
    obtain ⟨p0, p1⟩ := X0.two
    rw [H.out]
    go_wp2_with fail
    refine (max_any _ _ _ B _ h1.rs hl0 hns).mono ?_
    rintro e w' ⟨rfl, rfl⟩
    go_wp2_with fail
    refine (index_any _ _ _ _ B _ h1.rs hns).mono ?_
    rintro e w' ⟨rfl, rfl⟩
    go_wp2_with fail
    go_ret3
    exact ⟨rfl, Bt⟩

set_option maxHeartbeats 2000000 in
theorem specLongest_any (A A' : Option Addr) (c c' : Nat) (ss bs : List Int) (B : Nat) (w : World) (h : Ho w B A A' c c' ss bs) (hB : B ≤ w.heap.size) :
    Calls Try.prog 34 #[.agg #[.slice A ss.length c, .slice A' bs.length c']] w (Plain (.tuple #[.int .i64 (orI (goodH ss bs) (bestX ss ss.length : Nat)), .int .i64 (orI (goodH ss bs) (ss.getD (bestX ss ss.length) 0)), .bool (goodH ss bs)]) w) := by
  cases g : goodH ss bs
  · rw [orI_no, orI_no]
    have H := Lib.hid g
    clear g
    have h1 := h.alloc hB (.cells #[.slice A ss.length c, .slice A' bs.length c'] 27)
    have X0 : Blk (w.alloc (.cells #[.slice A ss.length c, .slice A' bs.length c'] 27)) w.heap.size 27 #[.slice A ss.length c, .slice A' bs.length c'] := Blk.new _ _ _
    have hns := h.ns
    have hnb := h.nb
    have hcs := h.rs.1
    have hcb := h.rb.1
    go_enter Try.func34, Try.ntmps34
    go_wp2_with fail
    refine (ldGood_any _ _ _ _ _ _ B _ h1 (by simp; omega)).mono ?_
    rintro e w1 ⟨rfl, hb⟩
    have Bt : Below w.heap.size w w1 := (below_alloc _ _).trans (hb.mono (by simp))
    have hs : w.heap.size + 1 ≤ w1.heap.size := by have := hb.size; simp at this; omega
    replace h1 := h1.below hb (by simp; omega)
    replace X0 := X0.below hb (by simp)
    clear hb
    obtain ⟨p0, p1⟩ := X0.two
    rw [H.out]
    go_wp2_with fail
    go_ret3
    exact ⟨rfl, Bt⟩
  · rw [orI_yes, orI_yes]
    have G := goodH_of g
    have H := Lib.hid g
    clear g
    have hl1 := G.n1
    have hl0 := G.n0
    have h1 := h.alloc hB (.cells #[.slice A ss.length c, .slice A' bs.length c'] 27)
    have X0 : Blk (w.alloc (.cells #[.slice A ss.length c, .slice A' bs.length c'] 27)) w.heap.size 27 #[.slice A ss.length c, .slice A' bs.length c'] := Blk.new _ _ _
    have hns := h.ns
    have hnb := h.nb
    have hcs := h.rs.1
    have hcb := h.rb.1
    go_enter Try.func34, Try.ntmps34
    go_wp2_with fail
    refine (ldGood_any _ _ _ _ _ _ B _ h1 (by simp; omega)).mono ?_
    rintro e w1 ⟨rfl, hb⟩
    have Bt : Below w.heap.size w w1 := (below_alloc _ _).trans (hb.mono (by simp))
    have hs : w.heap.size + 1 ≤ w1.heap.size := by have := hb.size; simp at this; omega
    replace h1 := h1.below hb (by simp; omega)
    replace X0 := X0.below hb (by simp)
    clear hb
    obtain ⟨p0, p1⟩ := X0.two
    rw [H.out]
    obtain ⟨b, o, rfl, hb0, _⟩ := h1.rs.at_ (k := 0) (by omega)
    have hr := h1.rs
    go_wp2_with fail
    go_loop [5, 14] (fun v i => ∃ k : Nat, k ≤ ss.length ∧ v = .int .i64 (bestX ss k : Nat) ∧ i = .int .i64 k) (fun _ i => ss.length - (intOf i).toNat)
    case atStart => exact ⟨0, Nat.zero_le _, rfl, rfl⟩
    case round =>
      obtain ⟨k, hk, rfl, rfl⟩ := hrel
      have hbl := bestX_lt ss k
      have hc1 := hr.some_cell (k := bestX ss k) (by omega)
      by_cases hlt : k < ss.length
      · have hc0 := hr.some_cell hlt
        have HY := Lib.hid (bestX_yes (ss := ss) (k := k))
        have HN := Lib.hid (bestX_no (ss := ss) (k := k))
        generalize hq : bestX ss k = q at *
        have HQ := Lib.hid hq
        generalize ss.getD k 0 = y at *
        generalize ss.getD q 0 = z at *
        clear hq
        by_cases he : z < y
        · have HT := Lib.hid (HY.out he)
          go_wp2_with fail
          go_round
          case rel => exact ⟨k + 1, by omega, by rw [HT.out], by go_num⟩
          case measure => simp [intOf]; omega
        · have HT := Lib.hid (HN.out he)
          go_wp2_with fail
          go_round
          case rel => exact ⟨k + 1, by omega, by rw [HT.out], by go_num⟩
          case measure => simp [intOf]; omega
      · obtain rfl : k = ss.length := by omega
        generalize hq : bestX ss ss.length = q at *
        have HQ := Lib.hid hq
        clear hq
        generalize ss.getD q 0 = z at *
        go_wp2_with fail
        go_quiet (fail)
        go_wp2_with fail
        go_ret3
        exact ⟨rfl, Below.drewN' Bt _⟩

end Go.Proofs.Ytddeeebjbbnalaa
