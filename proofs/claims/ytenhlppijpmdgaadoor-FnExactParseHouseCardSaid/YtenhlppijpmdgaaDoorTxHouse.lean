/- Contracts: the text of a house, on both sides. -/
import Derived.Test.YtenhlppijpmdgaaDoorTxNum
import Derived.Test.YtenhlppijpmdgaaDoorHoGood
import Derived.Deep.RegionHeld3
namespace Go.Proofs.YtenhlppijpmdgaaDoor
open Go.RowKit
set_option maxRecDepth 100000

/-- the text of a house up to a floor -/
def hsS (ss bs : List Int) : Nat → ByteArray
  | 0 => numS (bs.getD 0 0)
  | k + 1 => hsS ss bs k ++ (⟨#[94]⟩ ++ numS (ss.getD k 0) ++ ⟨#[58]⟩ ++ numS (bs.getD (k + 1) 0))
def hoS (ss bs : List Int) : ByteArray := hsS ss bs ss.length
theorem good_at {ss bs : List Int} (h : goodH ss bs = true) : (bs.length = ss.length + 1 ∧ ss.length ≤ 11) ∧ (∀ k, k < ss.length → 0 ≤ ss.getD k 0 ∧ ss.getD k 0 ≤ 1000) ∧ (∀ k, k < bs.length → 0 ≤ bs.getD k 0 ∧ bs.getD k 0 ≤ 1000) := by
  simp only [goodH, Bool.and_eq_true, decide_eq_true_eq] at h
  obtain ⟨h1, h2, h3, h4⟩ := h
  have := inB_le h1
  exact ⟨by omega, fun k hk => by have := allB_at h3 hk; omega, fun k hk => by have := allB_at h4 hk; omega⟩
theorem hsS_size {ss bs : List Int} (hs : ∀ k, k < ss.length → 0 ≤ ss.getD k 0 ∧ ss.getD k 0 ≤ 1000) (hb : ∀ k, k < bs.length → 0 ≤ bs.getD k 0 ∧ bs.getD k 0 ≤ 1000) (hl : bs.length = ss.length + 1) : ∀ k, k ≤ ss.length → (hsS ss bs k).size ≤ 10 + 22 * k
  | 0, _ => numS_size (by have := hb 0 (by omega); omega)
  | k + 1, h => by
    have h1 := hsS_size hs hb hl k (by omega)
    have h2 := numS_size (n := ss.getD k 0) (by have := hs k (by omega); omega)
    have h3 := numS_size (n := bs.getD (k + 1) 0) (by have := hb (k + 1) (by omega); omega)
    simp only [hsS, ByteArray.size_append, one_size]
    omega

set_option maxHeartbeats 4000000 in
theorem ldText_any (A A' : Option Addr) (c c' : Nat) (ss bs : List Int) (B : Nat) (w : World) (h : Ho w B A A' c c' ss bs) (hB : B ≤ w.heap.size) (G : (bs.length = ss.length + 1 ∧ ss.length ≤ 11) ∧ (∀ k, k < ss.length → 0 ≤ ss.getD k 0 ∧ ss.getD k 0 ≤ 1000) ∧ (∀ k, k < bs.length → 0 ≤ bs.getD k 0 ∧ bs.getD k 0 ≤ 1000)) :
    Calls Tryd.prog 31 #[.agg #[.slice A ss.length c, .slice A' bs.length c']] w fun e w' => e = .returned (.string (hoS ss bs)) ∧ Below w.heap.size w w' := by
  have hle : bs.length ≤ ss.length + 1 := by omega
  have hge : ss.length + 1 ≤ bs.length := by omega
  have hl2 := G.1.2
  have HS := Lib.hid G.2.1
  have HBB := Lib.hid G.2.2
  have HZ := Lib.hid (fun k hk => hsS_size G.2.1 G.2.2 G.1.1 k hk)
  have HR := Lib.hid h
  obtain ⟨b0, o0, hA', hb0, hcell0⟩ := h.rb.at_ (k := 0) (by omega)
  subst hA'
  rw [Nat.add_zero] at hcell0
  have hx0 := G.2.2 0 (by omega)
  have NN := Lib.hid (fun u => l1Num_any 1001 (bs.getD 0 0) u (by omega) (by omega) (by omega))
  have c1 : (w.alloc (.cells #[.slice A ss.length c, .slice (some ⟨b0, o0, none⟩) bs.length c'] 38)).cell? ⟨b0, o0, none⟩ = some (.int .i64 (bs.getD 0 0)) := ((below_alloc _ _).cell (p := ⟨b0, o0, none⟩) (by show b0 < w.heap.size; omega)).trans hcell0
  have e0 : (0 : Int) < (bs.length : Int) := by omega
  have E0 := Lib.hid (show hsS ss bs 0 = numS (bs.getD 0 0) from rfl)
  unfold hoS
  generalize bs.getD 0 0 = x0 at *
  clear hcell0 G
  go_enter Tryd.func31, Tryd.ntmps31
  go_wp2_with fail
  refine (NN.out _).mono ?_
  rintro e w1 ⟨rfl, hb⟩
  have XB : Blk w1 w.heap.size 38 #[.slice A ss.length c, .slice (some ⟨b0, o0, none⟩) bs.length c'] := (Blk.new _ _ _).below hb (by simp)
  have Bt : Below w.heap.size w w1 := (below_alloc _ _).trans (hb.mono (by simp))
  obtain ⟨y0, y1⟩ := XB.two
  rw [← E0.out]
  clear hb c1
  go_wp2_with fail
  go_loopw [3, 14] (fun v i wr => ∃ k : Nat, k ≤ ss.length ∧ i = .int .i64 k ∧ v = .string (hsS ss bs k) ∧ Blk wr w.heap.size 38 #[.slice A ss.length c, .slice (some ⟨b0, o0, none⟩) bs.length c'] ∧ Below w.heap.size w wr) (fun _ i _ => ss.length - (intOf i).toNat)
  case atStart => exact ⟨0, Nat.zero_le _, rfl, rfl, XB, Bt⟩
  case round =>
    obtain ⟨k, hk, rfl, rfl, X, hbw⟩ := hrel
    obtain ⟨x0, x1⟩ := X.two
    have hz : w.heap.size < wr.heap.size := X.lt
    by_cases hlt : k < ss.length
    · obtain ⟨b1, o1, rfl, hb1, hcell⟩ := (HR.out.rs.below hbw hB).at_ hlt
      obtain ⟨b2, o2, he2, hb2, hcell2⟩ := (HR.out.rb.below hbw hB).at_ (k := k + 1) (by omega)
      obtain ⟨rfl, rfl⟩ : b2 = b0 ∧ o2 = o0 := by injection he2 with e; injection e with e1 e2; exact ⟨e1.symm, e2.symm⟩
      clear he2
      have hs1 := HS.out k hlt
      have hb3 := HBB.out (k + 1) (by omega)
      have N1 := Lib.hid (fun u => l1Num_any 1001 (ss.getD k 0) u (by omega) (by omega) (by omega))
      have N2 := Lib.hid (fun u => l1Num_any 1001 (bs.getD (k + 1) 0) u (by omega) (by omega) (by omega))
      have z1 := numS_size (n := ss.getD k 0) (by omega)
      have z2 := numS_size (n := bs.getD (k + 1) 0) (by omega)
      have z3 := HZ.out k hk
      have HT := Lib.hid (show hsS ss bs (k + 1) = hsS ss bs k ++ (⟨#[94]⟩ ++ numS (ss.getD k 0) ++ ⟨#[58]⟩ ++ numS (bs.getD (k + 1) 0)) from rfl)
      have e1 : IntKind.i64.wrap ((k : Int) + 1) = (k : Int) + 1 := IntWalk.i64_in _ (by omega)
      have e2 : (0 : Int) ≤ (k : Int) + 1 := by omega
      have e3 : (k : Int) + 1 < (bs.length : Int) := by omega
      have e4 : ((k : Int) + 1).toNat = k + 1 := by omega
      generalize numS (ss.getD k 0) = s1 at *
      generalize numS (bs.getD (k + 1) 0) = s2 at *
      generalize ss.getD k 0 = x at *
      generalize bs.getD (k + 1) 0 = y at *
      generalize hsS ss bs k = s0 at *
      have A0 := fun u => run_string_add_sum (P := Tryd.prog) u (⟨#[94]⟩ : ByteArray) s1 (by simp only [one_size]; omega)
      have A1 := fun u => run_string_add_sum (P := Tryd.prog) u (⟨#[94]⟩ ++ s1 : ByteArray) (⟨#[58]⟩ : ByteArray) (by simp only [ByteArray.size_append, one_size]; omega)
      have A2 := fun u => run_string_add_sum (P := Tryd.prog) u (⟨#[94]⟩ ++ s1 ++ ⟨#[58]⟩ : ByteArray) s2 (by simp only [ByteArray.size_append, one_size]; omega)
      have A3 := fun u => run_string_add_sum (P := Tryd.prog) u s0 (⟨#[94]⟩ ++ s1 ++ ⟨#[58]⟩ ++ s2 : ByteArray) (by simp only [ByteArray.size_append, one_size]; omega)
      have hcell3 := hcell2
      go_wp2_with fail
      go_region_held3 (fun u => u.cell? ⟨w.heap.size, 1, none⟩ = some (.slice (some ⟨b2, o2, none⟩) bs.length c') ∧ u.cell? ⟨b2, o2 + (k + 1), none⟩ = some (.int .i64 y) ∧ Blk u w.heap.size 38 #[.slice (some ⟨b1, o1, none⟩) ss.length c, .slice (some ⟨b2, o2, none⟩) bs.length c'] ∧ Below w.heap.size w u) (first | exact ⟨x1, hcell3, X, hbw.drew⟩ | exact ⟨T1, T2, TX, TB⟩ | exact ⟨U1, U2, UX, UB⟩)
        (first
          | (go_at_call_of 40 (Value.int .i64 x); refine (N1.out _).mono ?_; rintro e v1 ⟨rfl, hv1⟩; have TX := X.below (below_undrew hv1) hz; have T1 := TX.two.2; have T2 := (hv1.cell (p := ⟨b2, o2 + (k + 1), none⟩) (by show b2 < wr.heap.size; omega)).trans hcell3; have TB := hbw.drew.trans (hv1.mono (by show w.heap.size ≤ wr.heap.size; omega)); have TZ : wr.heap.size ≤ v1.heap.size := hv1.size)
          | (go_at_call_of 40 (Value.int .i64 y); refine (N2.out _).mono ?_; rintro e v2 ⟨rfl, hv2⟩; have UX := TX.below hv2 (by omega); have U1 := UX.two.2; have U2 := (hv2.cell (p := ⟨b2, o2 + (k + 1), none⟩) (by show b2 < v1.heap.size; omega)).trans T2; have UB := TB.trans (hv2.mono (by omega)))
        )
      all_goals go_wp2_with fail
      all_goals go_roundw
      case rel => exact ⟨k + 1, by omega, by go_num, by rw [HT.out], UX, UB⟩
      case measure => simp [intOf]; omega
    · obtain rfl : k = ss.length := by omega
      go_wp2
      go_ret
      exact ⟨rfl, hbw⟩
set_option maxHeartbeats 1000000 in
theorem specHouseText_any (A A' : Option Addr) (c c' : Nat) (ss bs : List Int) (B : Nat) (w : World) (h : Ho w B A A' c c' ss bs) (hB : B ≤ w.heap.size) :
    Calls Tryd.prog 14 #[.agg #[.slice A ss.length c, .slice A' bs.length c']] w fun e w' => e = .returned (.tuple #[.string (orS (goodH ss bs) (hoS ss bs)), .bool (goodH ss bs)]) ∧ Below w.heap.size w w' := by
  cases g0 : goodH ss bs
  · rw [orS_no]
    have H := Lib.hid g0
    clear g0
    go_enter Tryd.func14, Tryd.ntmps14
    go_wp2_with fail
    refine (ldGood_any _ _ _ _ ss bs w.heap.size _ ((h.more hB).alloc (Nat.le_refl _) _) (by simp)).mono ?_
    rintro e w1 ⟨rfl, hb⟩
    rw [H.out]
    have XB : Blk w1 w.heap.size 38 #[.slice A ss.length c, .slice A' bs.length c'] := (Blk.new _ _ _).below hb (by simp)
    have Bt : Below w.heap.size w w1 := (below_alloc _ _).trans (hb.mono (by simp))
    have hs1 : w.heap.size + 1 ≤ w1.heap.size := XB.lt
    obtain ⟨y0, y1⟩ := XB.two
    clear hb
    go_wp2_with fail
    go_ret2
    exact ⟨rfl, Bt⟩
  · rw [orS_yes]
    have G := Lib.hid (good_at g0)
    have H := Lib.hid g0
    clear g0
    go_enter Tryd.func14, Tryd.ntmps14
    go_wp2_with fail
    refine (ldGood_any _ _ _ _ ss bs w.heap.size _ ((h.more hB).alloc (Nat.le_refl _) _) (by simp)).mono ?_
    rintro e w1 ⟨rfl, hb⟩
    rw [H.out]
    have XB : Blk w1 w.heap.size 38 #[.slice A ss.length c, .slice A' bs.length c'] := (Blk.new _ _ _).below hb (by simp)
    have Bt : Below w.heap.size w w1 := (below_alloc _ _).trans (hb.mono (by simp))
    have hs1 : w.heap.size + 1 ≤ w1.heap.size := XB.lt
    obtain ⟨y0, y1⟩ := XB.two
    clear hb
    go_wp2_with fail
    refine (ldText_any _ _ _ _ ss bs B _ (h.below Bt hB) (by omega) G.out).mono ?_
    rintro e w2 ⟨rfl, hb⟩
    go_wp2_with fail
    go_ret2
    exact ⟨rfl, Bt.trans (hb.mono (by omega))⟩
set_option maxHeartbeats 4000000 in
theorem implHouseText_any (A A' : Option Addr) (c c' : Nat) (ss bs : List Int) (B : Nat) (w : World) (h : Ho w B A A' c c' ss bs) (hB : B ≤ w.heap.size) (ht : TabI w) :
    Calls Tryd.prog 16 #[.agg #[.slice A ss.length c, .slice A' bs.length c']] w fun e w' => e = .returned (.tuple #[.string (orS (goodH ss bs) (hoS ss bs)), .bool (goodH ss bs)]) ∧ Below w.heap.size w w' := by
  cases g0 : goodH ss bs
  · rw [orS_no]
    have H := Lib.hid g0
    clear g0
    go_enter Tryd.func16, Tryd.ntmps16
    go_wp2_with fail
    refine (impHouse_any _ _ _ _ ss bs w.heap.size _ ((h.more hB).alloc (Nat.le_refl _) _) (by simp)).mono ?_
    rintro e w1 ⟨rfl, hb⟩
    rw [H.out]
    have XB : Blk w1 w.heap.size 38 #[.slice A ss.length c, .slice A' bs.length c'] := (Blk.new _ _ _).below hb (by simp)
    have Bt : Below w.heap.size w w1 := (below_alloc _ _).trans (hb.mono (by simp))
    have hs1 : w.heap.size + 1 ≤ w1.heap.size := XB.lt
    obtain ⟨y0, y1⟩ := XB.two
    clear hb
    go_wp2_with fail
    go_ret2
    exact ⟨rfl, Bt⟩
  · rw [orS_yes]
    have H := Lib.hid g0
    have G := good_at g0
    clear g0
    have hle : bs.length ≤ ss.length + 1 := by omega
    have hge : ss.length + 1 ≤ bs.length := by omega
    have hl2 := G.1.2
    have HS := Lib.hid G.2.1
    have HBB := Lib.hid G.2.2
    have HZ := Lib.hid (fun k hk => hsS_size G.2.1 G.2.2 G.1.1 k hk)
    have HR := Lib.hid h
    obtain ⟨b0, o0, hA', hb0, hcell0⟩ := h.rb.at_ (k := 0) (by omega)
    subst hA'
    rw [Nat.add_zero] at hcell0
    have hx0 := G.2.2 0 (by omega)
    have NN := Lib.hid (fun u hu => itoa_any (bs.getD 0 0) u (by omega) (by omega) (ht.below hu))
    have e0 : (0 : Int) < (bs.length : Int) := by omega
    have E0 := Lib.hid (show hsS ss bs 0 = numS (bs.getD 0 0) from rfl)
    unfold hoS
    generalize bs.getD 0 0 = x0 at *
    clear G
    go_enter Tryd.func16, Tryd.ntmps16
    go_wp2_with fail
    refine (impHouse_any _ _ _ _ ss bs w.heap.size _ ((h.more hB).alloc (Nat.le_refl _) _) (by simp)).mono ?_
    rintro e w1 ⟨rfl, hb⟩
    rw [H.out]
    have XB : Blk w1 w.heap.size 38 #[.slice A ss.length c, .slice (some ⟨b0, o0, none⟩) bs.length c'] := (Blk.new _ _ _).below hb (by simp)
    have Bt : Below w.heap.size w w1 := (below_alloc _ _).trans (hb.mono (by simp))
    have hs1 : w.heap.size + 1 ≤ w1.heap.size := XB.lt
    obtain ⟨y0, y1⟩ := XB.two
    clear hb
    have c0 := (Bt.cell (p := ⟨b0, o0, none⟩) (by show b0 < w.heap.size; omega)).trans hcell0
    clear hcell0
    go_wp2_with fail
    refine (NN.out _ Bt).mono ?_
    rintro e w2 ⟨rfl, hb⟩
    replace XB := XB.below hb (by omega)
    replace Bt := Bt.trans (hb.mono (by omega))
    clear y0 y1 c0
    obtain ⟨y0, y1⟩ := XB.two
    rw [← E0.out]
    clear hb
    go_wp2_with fail
    go_loopw [4, 18] (fun v i wr => ∃ k : Nat, k ≤ ss.length ∧ i = .int .i64 k ∧ v = .string (hsS ss bs k) ∧ Blk wr w.heap.size 38 #[.slice A ss.length c, .slice (some ⟨b0, o0, none⟩) bs.length c'] ∧ Below w.heap.size w wr) (fun _ i _ => ss.length - (intOf i).toNat)
    case atStart => exact ⟨0, Nat.zero_le _, rfl, rfl, XB, Bt⟩
    case round =>
      obtain ⟨k, hk, rfl, rfl, X, hbw⟩ := hrel
      obtain ⟨x0, x1⟩ := X.two
      have hz : w.heap.size < wr.heap.size := X.lt
      by_cases hlt : k < ss.length
      · obtain ⟨b1, o1, rfl, hb1, hcell⟩ := (HR.out.rs.below hbw hB).at_ hlt
        obtain ⟨b2, o2, he2, hb2, hcell2⟩ := (HR.out.rb.below hbw hB).at_ (k := k + 1) (by omega)
        obtain ⟨rfl, rfl⟩ : b2 = b0 ∧ o2 = o0 := by injection he2 with e; injection e with e1 e2; exact ⟨e1.symm, e2.symm⟩
        clear he2
        have hs1 := HS.out k hlt
        have hb3 := HBB.out (k + 1) (by omega)
        have N1 := Lib.hid (fun u hu => itoa_any (ss.getD k 0) u (by omega) (by omega) (ht.below hu))
        have N2 := Lib.hid (fun u hu => itoa_any (bs.getD (k + 1) 0) u (by omega) (by omega) (ht.below hu))
        have z1 := numS_size (n := ss.getD k 0) (by omega)
        have z2 := numS_size (n := bs.getD (k + 1) 0) (by omega)
        have z3 := HZ.out k hk
        have HT := Lib.hid (show hsS ss bs (k + 1) = hsS ss bs k ++ (⟨#[94]⟩ ++ numS (ss.getD k 0) ++ ⟨#[58]⟩ ++ numS (bs.getD (k + 1) 0)) from rfl)
        have e1 : IntKind.i64.wrap ((k : Int) + 1) = (k : Int) + 1 := IntWalk.i64_in _ (by omega)
        have e2 : (0 : Int) ≤ (k : Int) + 1 := by omega
        have e3 : (k : Int) + 1 < (bs.length : Int) := by omega
        have e4 : ((k : Int) + 1).toNat = k + 1 := by omega
        generalize numS (ss.getD k 0) = s1 at *
        generalize numS (bs.getD (k + 1) 0) = s2 at *
        generalize ss.getD k 0 = x at *
        generalize bs.getD (k + 1) 0 = y at *
        generalize hsS ss bs k = s0 at *
        have A0 := fun u => run_string_add_sum (P := Tryd.prog) u (⟨#[94]⟩ : ByteArray) s1 (by simp only [one_size]; omega)
        have A1 := fun u => run_string_add_sum (P := Tryd.prog) u (⟨#[94]⟩ ++ s1 : ByteArray) (⟨#[58]⟩ : ByteArray) (by simp only [ByteArray.size_append, one_size]; omega)
        have A2 := fun u => run_string_add_sum (P := Tryd.prog) u (⟨#[94]⟩ ++ s1 ++ ⟨#[58]⟩ : ByteArray) s2 (by simp only [ByteArray.size_append, one_size]; omega)
        have A3 := fun u => run_string_add_sum (P := Tryd.prog) u s0 (⟨#[94]⟩ ++ s1 ++ ⟨#[58]⟩ ++ s2 : ByteArray) (by simp only [ByteArray.size_append, one_size]; omega)
        have hcell3 := hcell2
        go_wp2_with fail
        go_region_held3 (fun u => u.cell? ⟨w.heap.size, 1, none⟩ = some (.slice (some ⟨b2, o2, none⟩) bs.length c') ∧ u.cell? ⟨b2, o2 + (k + 1), none⟩ = some (.int .i64 y) ∧ Blk u w.heap.size 38 #[.slice (some ⟨b1, o1, none⟩) ss.length c, .slice (some ⟨b2, o2, none⟩) bs.length c'] ∧ Below w.heap.size w u) (first | exact ⟨x1, hcell3, X, hbw.drew⟩ | exact ⟨T1, T2, TX, TB⟩ | exact ⟨U1, U2, UX, UB⟩)
          (first
            | (go_at_call_of 25 (Value.int .i64 x); refine (N1.out _ hbw.drew).mono ?_; rintro e v1 ⟨rfl, hv1⟩; have TX := X.below (below_undrew hv1) hz; have T1 := TX.two.2; have T2 := (hv1.cell (p := ⟨b2, o2 + (k + 1), none⟩) (by show b2 < wr.heap.size; omega)).trans hcell3; have TB := hbw.drew.trans (hv1.mono (by show w.heap.size ≤ wr.heap.size; omega)); have TZ : wr.heap.size ≤ v1.heap.size := hv1.size)
            | (go_at_call_of 25 (Value.int .i64 y); refine (N2.out _ TB).mono ?_; rintro e v2 ⟨rfl, hv2⟩; have UX := TX.below hv2 (by omega); have U1 := UX.two.2; have U2 := (hv2.cell (p := ⟨b2, o2 + (k + 1), none⟩) (by show b2 < v1.heap.size; omega)).trans T2; have UB := TB.trans (hv2.mono (by omega)))
          )
        all_goals go_wp2_with fail
        all_goals go_roundw
        case rel => exact ⟨k + 1, by omega, by go_num, by rw [HT.out], UX, UB⟩
        case measure => simp [intOf]; omega
      · obtain rfl : k = ss.length := by omega
        go_wp2
        go_ret2
        exact ⟨rfl, hbw⟩

end Go.Proofs.YtenhlppijpmdgaaDoor
