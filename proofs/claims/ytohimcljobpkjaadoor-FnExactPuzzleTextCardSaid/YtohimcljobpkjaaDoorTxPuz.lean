/- Contracts: the text of a puzzle, on both sides. -/
import Derived.Test.YtohimcljobpkjaaDoorOTxSplit
import Derived.Test.YtohimcljobpkjaaDoorPzS
import Derived.Test.YtohimcljobpkjaaDoorPzM
import Derived.Deep.RegionHeld3
namespace Go.Proofs.YtohimcljobpkjaaDoor
open Go.RowKit
set_option maxRecDepth 100000

theorem OwnS.below {w w' : World} {B B' : Nat} {v : Value} {xs : List ByteArray} (h : OwnS w B v xs) (hb : Below B' w w') (hB : w.heap.size ≤ B') : OwnS w' B v xs := by
  refine ⟨h.1, ?_⟩
  rcases h.2 with h0 | ⟨g, cap, cur, rfl, hg, hh, r⟩
  · exact .inl h0
  · exact .inr ⟨g, cap, cur, rfl, hg, by rw [hb.block g (Nat.lt_of_lt_of_le (Array.getElem?_eq_some_iff.1 hh).1 hB)]; exact hh, r⟩
theorem OwnS.cap {w : World} {B n c : Nat} {A : Option Addr} {xs : List ByteArray} (h : OwnS w B (.slice A n c) xs) : xs.length ≤ c := by
  rcases h.2 with ⟨hv, h0⟩ | ⟨g, cap, cur, hv, hg, hh, hc, _⟩
  · omega
  · injection hv with _ _ e; omega
/-- the text of a clue -/
def clS (p : Tri) : ByteArray := numS p.1 ++ ⟨#[46]⟩ ++ numS p.2.1 ++ ⟨#[46]⟩ ++ numS p.2.2
/-- the text of the first k clues -/
def pzS (ps : List Tri) : Nat → ByteArray
  | 0 => ⟨#[]⟩
  | k + 1 => (if k = 0 then ⟨#[]⟩ else pzS ps k ++ ⟨#[44]⟩) ++ clS (ps.getD k z3)
theorem pzS_one (ps : List Tri) : pzS ps 1 = clS (ps.getD 0 z3) := by
  apply ByteArray.ext
  simp [pzS]
theorem pzS_more (ps : List Tri) {k : Nat} (h : ¬ k = 0) : pzS ps (k + 1) = pzS ps k ++ ⟨#[44]⟩ ++ clS (ps.getD k z3) := by rw [pzS, if_neg h]
def okT (p : Tri) : Prop := (0 ≤ p.1 ∧ p.1 ≤ 1000) ∧ (0 ≤ p.2.1 ∧ p.2.1 ≤ 1000) ∧ (0 ≤ p.2.2 ∧ p.2.2 ≤ 1000)
theorem clS_size {p : Tri} (h : okT p) : (clS p).size ≤ 32 := by
  have h1 := numS_size (n := p.1) (by have := h.1; omega)
  have h2 := numS_size (n := p.2.1) (by have := h.2.1; omega)
  have h3 := numS_size (n := p.2.2) (by have := h.2.2; omega)
  simp only [clS, ByteArray.size_append, one_size]
  omega
theorem pzS_size {ps : List Tri} (hx : ∀ k, k < ps.length → okT (ps.getD k z3)) : ∀ k, k ≤ ps.length → (pzS ps k).size ≤ 33 * k
  | 0, _ => by simp [pzS, ByteArray.size]
  | k + 1, h => by
    have h1 := pzS_size hx k (by omega)
    have h2 := clS_size (hx k (by omega))
    unfold pzS
    split
    · simp only [ByteArray.size_append]
      have : (⟨#[]⟩ : ByteArray).size = 0 := rfl
      omega
    · simp only [ByteArray.size_append, one_size]
      omega
def cwL (ps : List Tri) (k : Nat) : List ByteArray := (List.range k).map fun j => clS (ps.getD j z3)
theorem cwL_length (ps : List Tri) (k : Nat) : (cwL ps k).length = k := by simp [cwL]
theorem cwL_snoc (ps : List Tri) (k : Nat) : cwL ps (k + 1) = cwL ps k ++ [clS (ps.getD k z3)] := by simp [cwL, List.range_succ]
theorem pzS_join (ps : List Tri) : ∀ k, (pzS ps k).data.toList = Lib.join ((cwL ps k).map (·.data.toList)) [44]
  | 0 => by simp [pzS, cwL, Lib.join_nil]
  | k + 1 => by
    have ih := pzS_join ps k
    rw [cwL_snoc, List.map_append, List.map_cons, List.map_nil]
    by_cases h : k = 0
    · subst h
      rw [pzS_one, show cwL ps 0 = [] from rfl, List.map_nil, List.nil_append, Lib.join_one]
    · rw [pzS_more ps h, join_snoc _ _ _ (by simp [cwL]; omega), ← ih]
      simp
theorem cl_three (x y z : Int) : lsS 46 [x, y, z] 3 = clS (x, y, z) := by
  rw [lsS_more 46 _ (by omega : ¬ 2 = 0), lsS_more 46 _ (by omega : ¬ 1 = 0), lsS_one]
  rfl
theorem puzB_six {ps : List Tri} (h : puzB ps = true) : ps.length ≤ 6 := by
  simp only [puzB, Bool.and_eq_true, decide_eq_true_eq] at h
  exact h.1
theorem puz_ok {ps : List Tri} (h : puzB ps = true) (k : Nat) (hk : k < ps.length) : okT (ps.getD k z3) := by
  simp only [puzB, Bool.and_eq_true, decide_eq_true_eq] at h
  have h2 := List.all_eq_true.1 h.2 (ps.getD k z3) (by simp [List.getD_eq_getElem?_getD, hk])
  have h3 := clueB_kind h2
  have h4 := clueB_a h2
  exact ⟨by omega, by omega, by omega⟩

set_option maxHeartbeats 8000000 in
theorem pzText_any (A : Option Addr) (c : Nat) (ps : List Tri) (B : Nat) (w : World) (hr : RdF w B A c ps) (hB : B ≤ w.heap.size) (hn : ps.length ≤ 1000) (hx : ∀ k, k < ps.length → okT (ps.getD k z3)) :
    Calls Tryd.prog 16 #[pzv A ps.length c] w fun e w' => e = .returned (.string (pzS ps ps.length)) ∧ Below w.heap.size w w' := by
  have HX := Lib.hid hx
  have HR := Lib.hid hr
  have HSZ := Lib.hid (fun k hk => pzS_size hx k hk)
  clear hx hr
  go_enter Tryd.func16, Tryd.ntmps16
  go_wp2_with fail
  go_loopw [3, 4, 5, 9] (fun s _ _ i wr => ∃ k : Nat, k ≤ ps.length ∧ i = .int .i64 k ∧ s = .string (pzS ps k) ∧ Below w.heap.size w wr) (fun _ _ _ i _ => ps.length - (intOf i).toNat)
  case atStart => exact ⟨0, Nat.zero_le _, rfl, rfl, below_alloc _ _⟩
  case round =>
    obtain ⟨k, hk, rfl, rfl, hbw⟩ := hrel
    have hz : w.heap.size ≤ wr.heap.size := hbw.size
    by_cases hlt : k < ps.length
    · by_cases k0 : k = 0
      · obtain ⟨b1, o1, rfl, hb0, d0, d1, d2⟩ := (HR.out.below hbw hB).2 k hlt
        subst k0
        rw [show o1 + 0 * 3 = o1 by omega] at d0 d1 d2
        have hx1 := HX.out 0 hlt
        have HT := Lib.hid (pzS_one ps)
        have HE := Lib.hid (show ∀ t : ByteArray, (⟨#[]⟩ : ByteArray) ++ t = t from fun t => by apply ByteArray.ext; simp)
        have z9 : (⟨#[]⟩ : ByteArray).size = 0 := rfl
        rw [show pzS ps 0 = ⟨#[]⟩ from rfl] at *
        have hcz := clS_size hx1
        have HCL := Lib.hid (show clS (ps.getD 0 z3) = numS (ps.getD 0 z3).1 ++ ⟨#[46]⟩ ++ numS (ps.getD 0 z3).2.1 ++ ⟨#[46]⟩ ++ numS (ps.getD 0 z3).2.2 from rfl)
        obtain ⟨hx0, hx2, hx3⟩ := hx1
        have H0 := Lib.hid (fun w => l1Num_any 1001 (ps.getD 0 z3).1 w (by omega) (by omega) (by omega))
        have n0 := numS_size (n := (ps.getD 0 z3).1) (by omega)
        have H1 := Lib.hid (fun w => l1Num_any 1001 (ps.getD 0 z3).2.1 w (by omega) (by omega) (by omega))
        have n1 := numS_size (n := (ps.getD 0 z3).2.1) (by omega)
        have H2 := Lib.hid (fun w => l1Num_any 1001 (ps.getD 0 z3).2.2 w (by omega) (by omega) (by omega))
        have n2 := numS_size (n := (ps.getD 0 z3).2.2) (by omega)
        generalize clS (ps.getD 0 z3) = t at *
        generalize numS (ps.getD 0 z3).1 = s0 at *
        generalize numS (ps.getD 0 z3).2.1 = s1 at *
        generalize numS (ps.getD 0 z3).2.2 = s2 at *
        change wr.cell? ⟨b1, o1, none⟩ = some (.int .i64 (ps.getD 0 z3).1) at d0
        change wr.cell? ⟨b1, o1 + 1, none⟩ = some (.int .i64 (ps.getD 0 z3).2.1) at d1
        change wr.cell? ⟨b1, o1 + 2, none⟩ = some (.int .i64 (ps.getD 0 z3).2.2) at d2
        generalize (ps.getD 0 z3).1 = x at *
        generalize (ps.getD 0 z3).2.1 = y at *
        generalize (ps.getD 0 z3).2.2 = z at *
        have A0 := fun u => run_string_add_sum (P := Tryd.prog) u (s0 : ByteArray) (⟨#[46]⟩ : ByteArray) (by simp only [one_size]; omega)
        have A1 := fun u => run_string_add_sum (P := Tryd.prog) u ((s0 ++ ⟨#[46]⟩) : ByteArray) (s1 : ByteArray) (by simp only [ByteArray.size_append, one_size]; omega)
        have A2 := fun u => run_string_add_sum (P := Tryd.prog) u ((s0 ++ ⟨#[46]⟩ ++ s1) : ByteArray) (⟨#[46]⟩ : ByteArray) (by simp only [ByteArray.size_append, one_size]; omega)
        have A3 := fun u => run_string_add_sum (P := Tryd.prog) u ((s0 ++ ⟨#[46]⟩ ++ s1 ++ ⟨#[46]⟩) : ByteArray) (s2 : ByteArray) (by simp only [ByteArray.size_append, one_size]; omega)
        have A4 := fun u => run_string_add_sum (P := Tryd.prog) u ((⟨#[]⟩ : ByteArray) : ByteArray) ((s0 ++ ⟨#[46]⟩ ++ s1 ++ ⟨#[46]⟩ ++ s2) : ByteArray) (by simp only [ByteArray.size_append, one_size]; omega)
        have S0 : (wr.alloc (.cells #[.int .i64 x, .int .i64 y, .int .i64 z] 44)).cell? ⟨wr.heap.size, 0, none⟩ = some (.int .i64 x) := by simp
        have S1 : (wr.alloc (.cells #[.int .i64 x, .int .i64 y, .int .i64 z] 44)).cell? ⟨wr.heap.size, 1, none⟩ = some (.int .i64 y) := by simp
        have S2 : (wr.alloc (.cells #[.int .i64 x, .int .i64 y, .int .i64 z] 44)).cell? ⟨wr.heap.size, 2, none⟩ = some (.int .i64 z) := by simp
        have SB : Below w.heap.size w (wr.alloc (.cells #[.int .i64 x, .int .i64 y, .int .i64 z] 44)) := hbw.alloc hz _
        have SZ : wr.heap.size + 1 ≤ (wr.alloc (.cells #[.int .i64 x, .int .i64 y, .int .i64 z] 44)).heap.size := by simp
        go_wp2_with fail
        generalize (wr.alloc (.cells #[.int .i64 x, .int .i64 y, .int .i64 z] 44)) = u at *
        go_region_held3 (fun u => u.cell? ⟨wr.heap.size, 0, none⟩ = some (.int .i64 x) ∧ u.cell? ⟨wr.heap.size, 1, none⟩ = some (.int .i64 y) ∧ u.cell? ⟨wr.heap.size, 2, none⟩ = some (.int .i64 z) ∧ Below w.heap.size w u ∧ wr.heap.size + 1 ≤ u.heap.size) (first | exact ⟨S0, S1, S2, SB.drew, SZ⟩ | exact ⟨T0_0, T0_1, T0_2, TB0, TZ0⟩ | exact ⟨T1_0, T1_1, T1_2, TB1, TZ1⟩ | exact ⟨T2_0, T2_1, T2_2, TB2, TZ2⟩)
          (first
            | (go_at_call_of 28 (Value.int .i64 x); refine (H0.out _).mono ?_; rintro e v1 ⟨rfl, hb0⟩; have T0_0 := (hb0.cell (p := ⟨wr.heap.size, 0, none⟩) (by show wr.heap.size < u.heap.size; have := SZ; omega)).trans S0; have T0_1 := (hb0.cell (p := ⟨wr.heap.size, 1, none⟩) (by show wr.heap.size < u.heap.size; have := SZ; omega)).trans S1; have T0_2 := (hb0.cell (p := ⟨wr.heap.size, 2, none⟩) (by show wr.heap.size < u.heap.size; have := SZ; omega)).trans S2; have TB0 := SB.drew.trans (hb0.mono (by show w.heap.size ≤ u.heap.size; have := SZ; omega)); have TZ0 : wr.heap.size + 1 ≤ v1.heap.size := Nat.le_trans (show wr.heap.size + 1 ≤ u.heap.size from SZ) hb0.size)
            | (go_at_call_of 28 (Value.int .i64 y); refine (H1.out _).mono ?_; rintro e v2 ⟨rfl, hb1⟩; have T1_0 := (hb1.cell (p := ⟨wr.heap.size, 0, none⟩) (by show wr.heap.size < v1.heap.size; have := TZ0; omega)).trans T0_0; have T1_1 := (hb1.cell (p := ⟨wr.heap.size, 1, none⟩) (by show wr.heap.size < v1.heap.size; have := TZ0; omega)).trans T0_1; have T1_2 := (hb1.cell (p := ⟨wr.heap.size, 2, none⟩) (by show wr.heap.size < v1.heap.size; have := TZ0; omega)).trans T0_2; have TB1 := TB0.trans (hb1.mono (by show w.heap.size ≤ v1.heap.size; have := TZ0; omega)); have TZ1 : wr.heap.size + 1 ≤ v2.heap.size := Nat.le_trans (show wr.heap.size + 1 ≤ v1.heap.size from TZ0) hb1.size)
            | (go_at_call_of 28 (Value.int .i64 z); refine (H2.out _).mono ?_; rintro e v3 ⟨rfl, hb2⟩; have T2_0 := (hb2.cell (p := ⟨wr.heap.size, 0, none⟩) (by show wr.heap.size < v2.heap.size; have := TZ1; omega)).trans T1_0; have T2_1 := (hb2.cell (p := ⟨wr.heap.size, 1, none⟩) (by show wr.heap.size < v2.heap.size; have := TZ1; omega)).trans T1_1; have T2_2 := (hb2.cell (p := ⟨wr.heap.size, 2, none⟩) (by show wr.heap.size < v2.heap.size; have := TZ1; omega)).trans T1_2; have TB2 := TB1.trans (hb2.mono (by show w.heap.size ≤ v2.heap.size; have := TZ1; omega)); have TZ2 : wr.heap.size + 1 ≤ v3.heap.size := Nat.le_trans (show wr.heap.size + 1 ≤ v2.heap.size from TZ1) hb2.size)
          )
        all_goals
          go_wp2_with fail
          go_roundw
          case rel => exact ⟨1, by omega, by go_num, by rw [HT.out, HE.out, ← HCL.out], TB2⟩
          case measure => simp [intOf]; omega
      · obtain ⟨b1, o1, rfl, hb0, d0, d1, d2⟩ := (HR.out.below hbw hB).2 k hlt
        have hx1 := HX.out k hlt
        have HT := Lib.hid (pzS_more ps k0)
        have k1 : (0 : Int) < (k : Int) := by omega
        have z2 := HSZ.out k hk
        have hcz := clS_size hx1
        have HCL := Lib.hid (show clS (ps.getD k z3) = numS (ps.getD k z3).1 ++ ⟨#[46]⟩ ++ numS (ps.getD k z3).2.1 ++ ⟨#[46]⟩ ++ numS (ps.getD k z3).2.2 from rfl)
        obtain ⟨hx0, hx2, hx3⟩ := hx1
        have H0 := Lib.hid (fun w => l1Num_any 1001 (ps.getD k z3).1 w (by omega) (by omega) (by omega))
        have n0 := numS_size (n := (ps.getD k z3).1) (by omega)
        have H1 := Lib.hid (fun w => l1Num_any 1001 (ps.getD k z3).2.1 w (by omega) (by omega) (by omega))
        have n1 := numS_size (n := (ps.getD k z3).2.1) (by omega)
        have H2 := Lib.hid (fun w => l1Num_any 1001 (ps.getD k z3).2.2 w (by omega) (by omega) (by omega))
        have n2 := numS_size (n := (ps.getD k z3).2.2) (by omega)
        generalize clS (ps.getD k z3) = t at *
        generalize numS (ps.getD k z3).1 = s0 at *
        generalize numS (ps.getD k z3).2.1 = s1 at *
        generalize numS (ps.getD k z3).2.2 = s2 at *
        change wr.cell? ⟨b1, o1 + k * 3, none⟩ = some (.int .i64 (ps.getD k z3).1) at d0
        change wr.cell? ⟨b1, o1 + k * 3 + 1, none⟩ = some (.int .i64 (ps.getD k z3).2.1) at d1
        change wr.cell? ⟨b1, o1 + k * 3 + 2, none⟩ = some (.int .i64 (ps.getD k z3).2.2) at d2
        generalize (ps.getD k z3).1 = x at *
        generalize (ps.getD k z3).2.1 = y at *
        generalize (ps.getD k z3).2.2 = z at *
        generalize pzS ps k = s at *
        have A0 := fun u => run_string_add_sum (P := Tryd.prog) u (s : ByteArray) (⟨#[44]⟩ : ByteArray) (by simp only [one_size]; omega)
        have A1 := fun u => run_string_add_sum (P := Tryd.prog) u (s0 : ByteArray) (⟨#[46]⟩ : ByteArray) (by simp only [one_size]; omega)
        have A2 := fun u => run_string_add_sum (P := Tryd.prog) u ((s0 ++ ⟨#[46]⟩) : ByteArray) (s1 : ByteArray) (by simp only [ByteArray.size_append, one_size]; omega)
        have A3 := fun u => run_string_add_sum (P := Tryd.prog) u ((s0 ++ ⟨#[46]⟩ ++ s1) : ByteArray) (⟨#[46]⟩ : ByteArray) (by simp only [ByteArray.size_append, one_size]; omega)
        have A4 := fun u => run_string_add_sum (P := Tryd.prog) u ((s0 ++ ⟨#[46]⟩ ++ s1 ++ ⟨#[46]⟩) : ByteArray) (s2 : ByteArray) (by simp only [ByteArray.size_append, one_size]; omega)
        have A5 := fun u => run_string_add_sum (P := Tryd.prog) u ((s ++ ⟨#[44]⟩) : ByteArray) ((s0 ++ ⟨#[46]⟩ ++ s1 ++ ⟨#[46]⟩ ++ s2) : ByteArray) (by simp only [ByteArray.size_append, one_size]; omega)
        have S0 : (wr.alloc (.cells #[.int .i64 x, .int .i64 y, .int .i64 z] 44)).cell? ⟨wr.heap.size, 0, none⟩ = some (.int .i64 x) := by simp
        have S1 : (wr.alloc (.cells #[.int .i64 x, .int .i64 y, .int .i64 z] 44)).cell? ⟨wr.heap.size, 1, none⟩ = some (.int .i64 y) := by simp
        have S2 : (wr.alloc (.cells #[.int .i64 x, .int .i64 y, .int .i64 z] 44)).cell? ⟨wr.heap.size, 2, none⟩ = some (.int .i64 z) := by simp
        have SB : Below w.heap.size w (wr.alloc (.cells #[.int .i64 x, .int .i64 y, .int .i64 z] 44)) := hbw.alloc hz _
        have SZ : wr.heap.size + 1 ≤ (wr.alloc (.cells #[.int .i64 x, .int .i64 y, .int .i64 z] 44)).heap.size := by simp
        go_wp2_with fail
        generalize (wr.alloc (.cells #[.int .i64 x, .int .i64 y, .int .i64 z] 44)) = u at *
        go_region_held3 (fun u => u.cell? ⟨wr.heap.size, 0, none⟩ = some (.int .i64 x) ∧ u.cell? ⟨wr.heap.size, 1, none⟩ = some (.int .i64 y) ∧ u.cell? ⟨wr.heap.size, 2, none⟩ = some (.int .i64 z) ∧ Below w.heap.size w u ∧ wr.heap.size + 1 ≤ u.heap.size) (first | exact ⟨S0, S1, S2, SB.drew, SZ⟩ | exact ⟨T0_0, T0_1, T0_2, TB0, TZ0⟩ | exact ⟨T1_0, T1_1, T1_2, TB1, TZ1⟩ | exact ⟨T2_0, T2_1, T2_2, TB2, TZ2⟩)
          (first
            | (go_at_call_of 28 (Value.int .i64 x); refine (H0.out _).mono ?_; rintro e v1 ⟨rfl, hb0⟩; have T0_0 := (hb0.cell (p := ⟨wr.heap.size, 0, none⟩) (by show wr.heap.size < u.heap.size; have := SZ; omega)).trans S0; have T0_1 := (hb0.cell (p := ⟨wr.heap.size, 1, none⟩) (by show wr.heap.size < u.heap.size; have := SZ; omega)).trans S1; have T0_2 := (hb0.cell (p := ⟨wr.heap.size, 2, none⟩) (by show wr.heap.size < u.heap.size; have := SZ; omega)).trans S2; have TB0 := SB.drew.trans (hb0.mono (by show w.heap.size ≤ u.heap.size; have := SZ; omega)); have TZ0 : wr.heap.size + 1 ≤ v1.heap.size := Nat.le_trans (show wr.heap.size + 1 ≤ u.heap.size from SZ) hb0.size)
            | (go_at_call_of 28 (Value.int .i64 y); refine (H1.out _).mono ?_; rintro e v2 ⟨rfl, hb1⟩; have T1_0 := (hb1.cell (p := ⟨wr.heap.size, 0, none⟩) (by show wr.heap.size < v1.heap.size; have := TZ0; omega)).trans T0_0; have T1_1 := (hb1.cell (p := ⟨wr.heap.size, 1, none⟩) (by show wr.heap.size < v1.heap.size; have := TZ0; omega)).trans T0_1; have T1_2 := (hb1.cell (p := ⟨wr.heap.size, 2, none⟩) (by show wr.heap.size < v1.heap.size; have := TZ0; omega)).trans T0_2; have TB1 := TB0.trans (hb1.mono (by show w.heap.size ≤ v1.heap.size; have := TZ0; omega)); have TZ1 : wr.heap.size + 1 ≤ v2.heap.size := Nat.le_trans (show wr.heap.size + 1 ≤ v1.heap.size from TZ0) hb1.size)
            | (go_at_call_of 28 (Value.int .i64 z); refine (H2.out _).mono ?_; rintro e v3 ⟨rfl, hb2⟩; have T2_0 := (hb2.cell (p := ⟨wr.heap.size, 0, none⟩) (by show wr.heap.size < v2.heap.size; have := TZ1; omega)).trans T1_0; have T2_1 := (hb2.cell (p := ⟨wr.heap.size, 1, none⟩) (by show wr.heap.size < v2.heap.size; have := TZ1; omega)).trans T1_1; have T2_2 := (hb2.cell (p := ⟨wr.heap.size, 2, none⟩) (by show wr.heap.size < v2.heap.size; have := TZ1; omega)).trans T1_2; have TB2 := TB1.trans (hb2.mono (by show w.heap.size ≤ v2.heap.size; have := TZ1; omega)); have TZ2 : wr.heap.size + 1 ≤ v3.heap.size := Nat.le_trans (show wr.heap.size + 1 ≤ v2.heap.size from TZ1) hb2.size)
          )
        all_goals
          go_wp2_with fail
          go_roundw
          case rel => exact ⟨k + 1, by omega, by go_num, by rw [HT.out, ← HCL.out], TB2⟩
          case measure => simp [intOf]; omega
    · obtain rfl : k = ps.length := by omega
      go_wp2
      go_ret
      exact ⟨rfl, hbw⟩

set_option maxHeartbeats 1000000 in
theorem specPuzText_any (A : Option Addr) (c : Nat) (ps : List Tri) (B : Nat) (w : World) (hr : RdF w B A c ps) (hB : B ≤ w.heap.size) (hn : ps.length ≤ 1048576) :
    Calls Tryd.prog 6 #[pzv A ps.length c] w (Plain (.tuple #[.string (orS (puzB ps) (pzS ps ps.length)), .bool (puzB ps)]) w) := by
  have X0 : Blk (w.alloc (.cells #[.slice A ps.length c] 30)) w.heap.size 30 #[.slice A ps.length c] := Blk.new _ _ _
  have b0 : Below w.heap.size w (w.alloc (.cells #[.slice A ps.length c] 30)) := below_alloc _ _
  have hr0 := hr.below b0 hB
  have z0 := Nat.le_trans hB b0.size
  clear hr
  cases hp : puzB ps
  · rw [orS_no]
    have HP := Lib.hid hp
    clear hp
    go_enter Tryd.func6, Tryd.ntmps6
    go_wp2_with fail
    refine (pzGood_any A c ps B _ hr0 z0 hn).mono ?_
    rintro e w1 ⟨rfl, hb⟩
    rw [HP.out]
    go_wp2_with fail
    go_ret2
    exact ⟨rfl, b0.trans (hb.mono b0.size)⟩
  · rw [orS_yes]
    have HP := Lib.hid hp
    have h6 := puzB_six hp
    have HX := Lib.hid (puz_ok hp)
    clear hp
    go_enter Tryd.func6, Tryd.ntmps6
    go_wp2_with fail
    refine (pzGood_any A c ps B _ hr0 z0 hn).mono ?_
    rintro e w1 ⟨rfl, hb⟩
    rw [HP.out]
    have X1 := X0.below hb X0.lt
    have hr1 := hr0.below hb z0
    have z1 := Nat.le_trans z0 hb.size
    have b1 := b0.trans (hb.mono b0.size)
    have p0 := X1.cell 0
    have lX := X1.lt
    go_wp2_with fail
    refine (pzText_any A c ps B w1 hr1 z1 (by omega) HX.out).mono ?_
    rintro e w2 ⟨rfl, hb2⟩
    go_wp2_with fail
    go_ret2
    exact ⟨rfl, b1.trans (hb2.mono b1.size)⟩

set_option maxHeartbeats 4000000 in
theorem implPuzText_any (A : Option Addr) (c : Nat) (ps : List Tri) (B : Nat) (w : World) (hr : RdF w B A c ps) (hB : B ≤ w.heap.size) (hn : ps.length ≤ 1048576) (ht : TabI w) :
    Calls Tryd.prog 8 #[pzv A ps.length c] w (Plain (.tuple #[.string (orS (puzB ps) (pzS ps ps.length)), .bool (puzB ps)]) w) := by
  have X0 : Blk (w.alloc (.cells #[.slice A ps.length c] 30)) w.heap.size 30 #[.slice A ps.length c] := Blk.new _ _ _
  have b0 : Below w.heap.size w (w.alloc (.cells #[.slice A ps.length c] 30)) := below_alloc _ _
  have hr0 := hr.below b0 hB
  have z0 := Nat.le_trans hB b0.size
  clear hr
  cases hp : puzB ps
  · rw [orS_no]
    have HP := Lib.hid hp
    clear hp
    go_enter Tryd.func8, Tryd.ntmps8
    go_wp2_with fail
    refine (implIsPuzzle_any A c ps B _ hr0 z0 hn).mono ?_
    rintro e w1 ⟨rfl, hb⟩
    rw [HP.out]
    go_wp2_with fail
    go_ret2
    exact ⟨rfl, b0.trans (hb.mono b0.size)⟩
  · rw [orS_yes]
    have HP := Lib.hid hp
    have h6 := puzB_six hp
    have HX := Lib.hid (puz_ok hp)
    have HSZ := pzS_size (puz_ok hp) ps.length (Nat.le_refl _)
    have HJ := Lib.hid (pzS_join ps)
    clear hp
    go_enter Tryd.func8, Tryd.ntmps8
    go_wp2_with fail
    refine (implIsPuzzle_any A c ps B _ hr0 z0 hn).mono ?_
    rintro e w1 ⟨rfl, hb⟩
    rw [HP.out]
    have X1 := X0.below hb X0.lt
    have hr1 := hr0.below hb z0
    have z1 := Nat.le_trans z0 hb.size
    have b1 := b0.trans (hb.mono b0.size)
    have p0 := X1.cell 0
    have lX := X1.lt
    clear hr0 hb X0
    have HR := Lib.hid hr1
    clear hr1
    go_wp2_with fail
    go_loopw [4, 6, 13] (fun v' _ i wr => ∃ k : Nat, k ≤ ps.length ∧ i = .int .i64 k ∧ OwnS wr w1.heap.size v' (cwL ps k) ∧ Below w1.heap.size w1 wr) (fun _ _ i _ => ps.length - (intOf i).toNat)
    case atStart => exact ⟨0, Nat.zero_le _, rfl, OwnS.nil _ _, Below.refl _ _⟩
    case round =>
      obtain ⟨k, hk, rfl, hown, hbw⟩ := hrel
      have hz : w1.heap.size ≤ wr.heap.size := hbw.size
      have bwr := b1.trans (hbw.mono b1.size)
      by_cases hlt : k < ps.length
      · obtain ⟨bb, o1, rfl, hb0, d0, d1, d2⟩ := (HR.out.below hbw z1).2 k hlt
        have hx1 := HX.out k hlt
        have HC := Lib.hid (cwL_snoc ps k)
        have HKL := Lib.hid (cwL_length ps k)
        have h3 := Lib.hid (show clS (ps.getD k z3) = lsS 46 [(ps.getD k z3).1, (ps.getD k z3).2.1, (ps.getD k z3).2.2] 3 from (cl_three _ _ _).symm)
        change wr.cell? ⟨bb, o1 + k * 3, none⟩ = some (.int .i64 (ps.getD k z3).1) at d0
        change wr.cell? ⟨bb, o1 + k * 3 + 1, none⟩ = some (.int .i64 (ps.getD k z3).2.1) at d1
        change wr.cell? ⟨bb, o1 + k * 3 + 2, none⟩ = some (.int .i64 (ps.getD k z3).2.2) at d2
        obtain ⟨hx0, hx2, hx3⟩ := hx1
        have HN := Lib.hid (show ∀ (u : World) (g : Nat), Blk u g 3 (ints [(ps.getD k z3).1, (ps.getD k z3).2.1, (ps.getD k z3).2.2]) → Below w.heap.size w u → Calls Tryd.prog 19 #[.slice (some ⟨g, 0, none⟩) 3 3, .string ⟨#[46]⟩] u (fun e w' => e = .returned (.string (clS (ps.getD k z3))) ∧ Below u.heap.size u w') from fun u g hg hu => by
          rw [h3.out]
          exact numbersText_any (some ⟨g, 0, none⟩) 3 3 [(ps.getD k z3).1, (ps.getD k z3).2.1, (ps.getD k z3).2.2] 46 u.heap.size u rfl (hg.rd hg.lt (Nat.le_refl _)) (Nat.le_refl _) (by simp) (fun j hj => by
            have : j = 0 ∨ j = 1 ∨ j = 2 := by simp at hj; omega
            rcases this with rfl | rfl | rfl
            · exact ⟨hx0.1, Int.le_trans hx0.2 (by decide)⟩
            · exact ⟨hx2.1, Int.le_trans hx2.2 (by decide)⟩
            · exact ⟨hx3.1, Int.le_trans hx3.2 (by decide)⟩) (ht.below hu))
        generalize clS (ps.getD k z3) = t at *
        generalize (ps.getD k z3).1 = x at *
        generalize (ps.getD k z3).2.1 = y at *
        generalize (ps.getD k z3).2.2 = z at *
        generalize cwL ps k = ws at *
        have hwl : ws.length ≤ 1048576 := by rw [HKL.out]; omega
        have N0 : Blk ((wr.alloc (.cells #[.int .i64 x, .int .i64 y, .int .i64 z] 44)).alloc (.cells #[.int .i64 x, .int .i64 y, .int .i64 z] 3)) (wr.heap.size + 1) 3 (ints [x, y, z]) := Blk.new' (by simp)
        have bN : Below wr.heap.size wr ((wr.alloc (.cells #[.int .i64 x, .int .i64 y, .int .i64 z] 44)).alloc (.cells #[.int .i64 x, .int .i64 y, .int .i64 z] 3)) := (below_alloc _ _).alloc (by simp) _
        have hcall := Lib.hid (HN.out _ _ N0 (bwr.trans (bN.mono bwr.size)))
        have hown2 := (hown.alloc (.cells #[.int .i64 x, .int .i64 y, .int .i64 z] 44)).alloc (.cells #[.int .i64 x, .int .i64 y, .int .i64 z] 3)
        have hbw2 := hbw.trans (bN.mono hz)
        clear hown hbw N0 bN
        go_wp2_with fail
        generalize ((wr.alloc (.cells #[.int .i64 x, .int .i64 y, .int .i64 z] 44)).alloc (.cells #[.int .i64 x, .int .i64 y, .int .i64 z] 3)) = u at *
        refine hcall.out.mono ?_
        rintro e w3 ⟨rfl, hb3⟩
        have hown3 := OwnS.below hown2 hb3 (Nat.le_refl _)
        have hbw3 := hbw2.trans (hb3.mono hbw2.size)
        have z3' := hbw3.size
        go_wp2_with (at_builtin; refine wpList_pushS _ rfl _ _ rfl w1.heap.size _ ws rfl (hown3.alloc _) w3.heap.size t rfl (by simp) hwl (by simp; omega) ?_; intro v4 w4 hown4 hb4)
        go_roundw
        case rel => exact ⟨k + 1, by omega, by go_num, by rw [HC.out]; exact hown4, (hbw3.alloc z3' _).trans hb4⟩
        case measure => simp [intOf]; omega
      · obtain rfl : k = ps.length := by omega
        obtain ⟨A4, c4, hv4, hcs⟩ := hown.form
        rw [cwL_length] at hv4 hcs
        subst hv4
        have hcap := OwnS.cap hown
        rw [cwL_length] at hcap
        by_cases h0 : ps.length = 0
        · have HJN := Lib.hid (Tryd.strings_Join_none A4 c4 ⟨#[44]⟩ wr)
          have HE := Lib.hid (show pzS ps ps.length = ⟨#[]⟩ by rw [h0]; rfl)
          have HL := Lib.hid (show Value.slice A4 ps.length c4 = .slice A4 0 c4 by rw [h0])
          have e0 : ¬ ((ps.length : Int) < (ps.length : Int)) := by omega
          clear hown hcs h0 hcap
          go_wp2_with fail
          rw [HL.out]
          refine HJN.out.mono ?_
          rintro e w3 ⟨rfl, rfl⟩
          go_wp2_with fail
          go_ret2
          exact ⟨by rw [HE.out]; rfl, bwr⟩
        · obtain ⟨g, rfl, hg, _⟩ := hcs 0 (by omega)
          have hJ := Tryd.strings_Join g 0 c4 (cwL ps ps.length) ⟨#[44]⟩ wr (fun j x hj => by
            have hj2 : j < (cwL ps ps.length).length := (List.getElem?_eq_some_iff.1 hj).1
            rw [cwL_length] at hj2
            obtain ⟨g', e, _, hc'⟩ := hcs j hj2
            cases e
            rw [Nat.zero_add, hc']
            simp [List.getD_eq_getElem?_getD, hj]) hg (by rw [cwL_length]; omega) (by rw [cwL_length]; exact hcap) (by
              have e : (Lib.join ((cwL ps ps.length).map (·.data.toList)) (⟨#[44]⟩ : ByteArray).data.toList).length = (pzS ps ps.length).size := by rw [← HJ.out]; rfl
              rw [e]; omega)
          rw [cwL_length, ← HJ.out] at hJ
          have HJ2 := Lib.hid hJ
          clear hJ hown hcs hcap
          go_wp2_with fail
          refine HJ2.out.mono ?_
          rintro e w3 ⟨rfl, hb3⟩
          go_wp2_with fail
          go_ret2
          exact ⟨rfl, bwr.trans (hb3.mono bwr.size)⟩

end Go.Proofs.YtohimcljobpkjaaDoor
