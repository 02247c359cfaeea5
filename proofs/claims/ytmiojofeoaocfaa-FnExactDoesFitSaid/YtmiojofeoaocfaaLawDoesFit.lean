/- The law FnExactDoesFit: its walk, given what the two functions leave. -/
import Derived.Test.YtmiojofeoaocfaaPzM
import Derived.Deep.RegionHeld3
namespace Go.Proofs.Ytmiojofeoaocfaa
open Go.RowKit
set_option maxRecDepth 100000

set_option maxHeartbeats 2000000 in
theorem doesFit_walk (k a b st : Int) (A A' : Option Addr) (c c' : Nat) (ss bs : List Int) (r0 r1 : Bool) (w0 : World) (S : St w0 w0.heap.size st A A' c c' ss bs) (hs : ss.length + bs.length ≤ 1048576)
    (hf : ∀ (A A' : Option Addr) (c c' B : Nat) (w : World), St w B st A A' c c' ss bs → B ≤ w.heap.size → Calls Try.prog 24 #[.agg #[.int .i64 k, .int .i64 a, .int .i64 b], stv st A A' c c' ss bs] w (Plain (.tuple #[.bool r0, .bool r1]) w))
    (hg : ∀ (A A' : Option Addr) (c c' B : Nat) (w : World), St w B st A A' c c' ss bs → B ≤ w.heap.size → Calls Try.prog 26 #[.agg #[.int .i64 k, .int .i64 a, .int .i64 b], stv st A A' c c' ss bs] w (Plain (.tuple #[.bool r0, .bool r1]) w)) :
    Calls Try.prog 5 #[.agg #[.int .i64 k, .int .i64 a, .int .i64 b], stv st A A' c c' ss bs] w0 fun e w' => e = .returned (.bool true) ∧ Below w0.heap.size w0 w' := by
  have hns := S.ns
  have hnb := S.nb
  have X0 : Blk (w0.alloc (.cells #[.int .i64 k, .int .i64 a, .int .i64 b] 23)) w0.heap.size 23 #[.int .i64 k, .int .i64 a, .int .i64 b] := Blk.new _ _ _
  replace X0 := X0.alloc (.cells #[.int .i64 st, .slice A ss.length c, .slice A' bs.length c'] 41)
  have Y0 : Blk ((w0.alloc (.cells #[.int .i64 k, .int .i64 a, .int .i64 b] 23)).alloc (.cells #[.int .i64 st, .slice A ss.length c, .slice A' bs.length c'] 41)) (w0.heap.size + 1) 41 #[.int .i64 st, .slice A ss.length c, .slice A' bs.length c'] := Blk.new' (by simp)
  replace S := (S.alloc (Nat.le_refl _) (.cells #[.int .i64 k, .int .i64 a, .int .i64 b] 23)).alloc (by simp) (.cells #[.int .i64 st, .slice A ss.length c, .slice A' bs.length c'] 41)
  have Bt : Below w0.heap.size w0 ((w0.alloc (.cells #[.int .i64 k, .int .i64 a, .int .i64 b] 23)).alloc (.cells #[.int .i64 st, .slice A ss.length c, .slice A' bs.length c'] 41)) := (below_alloc _ _).alloc (by simp) _
  have zu : w0.heap.size + 2 ≤ ((w0.alloc (.cells #[.int .i64 k, .int .i64 a, .int .i64 b] 23)).alloc (.cells #[.int .i64 st, .slice A ss.length c, .slice A' bs.length c'] 41)).heap.size := by simp
  go_enter Try.func5, Try.ntmps5
  go_wp2_with fail
  generalize hu : ((w0.alloc (.cells #[.int .i64 k, .int .i64 a, .int .i64 b] 23)).alloc (.cells #[.int .i64 st, .slice A ss.length c, .slice A' bs.length c'] 41)) = u at *
  clear hu
  refine (szStairs_yes _ _ _ _ _ _ _ _ hs).mono ?_
  rintro e w1 ⟨rfl, hb⟩
  replace X0 := X0.below hb X0.lt
  replace Y0 := Y0.below hb Y0.lt
  replace S := S.below hb (by omega)
  replace Bt := Bt.trans (hb.mono (by omega))
  have z1 : w0.heap.size + 2 ≤ w1.heap.size := Nat.le_trans zu hb.size
  clear hb zu
  obtain ⟨pX00, pX01, pX02⟩ := X0.three
  obtain ⟨pY00, pY01, pY02⟩ := Y0.three
  go_wp2_with fail
  go_region_held3 (fun u => u.cell? ⟨w0.heap.size, 0, none⟩ = some (.int .i64 k) ∧ u.cell? ⟨w0.heap.size, 1, none⟩ = some (.int .i64 a) ∧ u.cell? ⟨w0.heap.size, 2, none⟩ = some (.int .i64 b) ∧ u.cell? ⟨w0.heap.size + 1, 0, none⟩ = some (.int .i64 st) ∧ u.cell? ⟨w0.heap.size + 1, 1, none⟩ = some (.slice A ss.length c) ∧ u.cell? ⟨w0.heap.size + 1, 2, none⟩ = some (.slice A' bs.length c')) (first | exact ⟨pX00, pX01, pX02, pY00, pY01, pY02⟩ | exact ⟨caX00, caX01, caX02, caY00, caY01, caY02⟩ | exact ⟨cbX00, cbX01, cbX02, cbY00, cbY01, cbY02⟩ | exact ⟨ccX00, ccX01, ccX02, ccY00, ccY01, ccY02⟩)
    (first
    | (go_at_call 16; (refine (toClue_any k a b w1.drew).mono ?_); rintro e u1 ⟨rfl, k1⟩; have h1 : Below w1.heap.size w1 u1 := below_undrew k1; obtain ⟨caX00, caX01, caX02⟩ := (X0.below h1 X0.lt).three; obtain ⟨caY00, caY01, caY02⟩ := (Y0.below h1 Y0.lt).three)
    | (go_at_call 25; (refine (toStairs_any st A A' c c' ss bs w0.heap.size u1 (S.below h1 (by omega)) (by have := h1.size; omega)).mono ?_); rintro e u2 ⟨m, m', rfl, hm, hmm, hx, hy, k2⟩; have h2 : Below w1.heap.size w1 u2 := h1.trans (k2.mono h1.size); obtain ⟨cbX00, cbX01, cbX02⟩ := (X0.below h2 X0.lt).three; obtain ⟨cbY00, cbY01, cbY02⟩ := (Y0.below h2 Y0.lt).three)
    | (go_at_call 24; (refine (hf _ _ _ _ u2.heap.size u2 (st_of_blks (st := st) hx hy hns hnb) (Nat.le_refl _)).mono ?_); rintro e w2 ⟨rfl, k3⟩; have hb : Below w1.heap.size w1 w2 := h2.trans (k3.mono h2.size); obtain ⟨ccX00, ccX01, ccX02⟩ := (X0.below hb X0.lt).three; obtain ⟨ccY00, ccY01, ccY02⟩ := (Y0.below hb Y0.lt).three)
    | fail)
  clear pX00 pX01 pX02 pY00 pY01 pY02 caX00 caX01 caX02 caY00 caY01 caY02 cbX00 cbX01 cbX02 cbY00 cbY01 cbY02 ccX00 ccX01 ccX02 ccY00 ccY01 ccY02 h1 h2 k1 k2 k3 hx hy hm hmm
  replace X0 := X0.below hb (by omega)
  replace Y0 := Y0.below hb (by omega)
  replace S := S.below hb (by omega)
  replace Bt := Bt.trans (hb.mono (by omega))
  have z2 : w0.heap.size + 2 ≤ w2.heap.size := Nat.le_trans z1 hb.size
  clear hb
  obtain ⟨pX00, pX01, pX02⟩ := X0.three
  obtain ⟨pY00, pY01, pY02⟩ := Y0.three
  go_wp2_with fail
  refine (toStairs_any st A A' c c' ss bs w0.heap.size w2 S (by omega)).mono ?_
  rintro e w3 ⟨b0, b0', rfl, hb0, hbb, Hb, Hb', hb⟩
  replace X0 := X0.below hb (by omega)
  replace Y0 := Y0.below hb (by omega)
  replace S := S.below hb (by omega)
  replace Bt := Bt.trans (hb.mono (by omega))
  have z3' : w0.heap.size + 2 ≤ w3.heap.size := Nat.le_trans z2 hb.size
  clear hb pX00 pX01 pX02 pY00 pY01 pY02
  obtain ⟨pX00, pX01, pX02⟩ := X0.three
  obtain ⟨pY00, pY01, pY02⟩ := Y0.three
  go_wp2_with fail
  have X1 : Blk (w3.alloc (.cells #[.int .i64 st, .slice (some ⟨b0, 0, none⟩) ss.length ss.length, .slice (some ⟨b0', 0, none⟩) bs.length bs.length] 45)) w3.heap.size 45 #[.int .i64 st, .slice (some ⟨b0, 0, none⟩) ss.length ss.length, .slice (some ⟨b0', 0, none⟩) bs.length bs.length] := Blk.new _ _ _
  have hb : Below w3.heap.size w3 (w3.alloc (.cells #[.int .i64 st, .slice (some ⟨b0, 0, none⟩) ss.length ss.length, .slice (some ⟨b0', 0, none⟩) bs.length bs.length] 45)) := below_alloc _ _
  have z4 : w3.heap.size + 1 ≤ (w3.alloc (.cells #[.int .i64 st, .slice (some ⟨b0, 0, none⟩) ss.length ss.length, .slice (some ⟨b0', 0, none⟩) bs.length bs.length] 45)).heap.size := by simp
  generalize hu : w3.alloc (.cells #[.int .i64 st, .slice (some ⟨b0, 0, none⟩) ss.length ss.length, .slice (some ⟨b0', 0, none⟩) bs.length bs.length] 45) = w4 at *
  clear hu
  have lb := Hb.lt
  have lb' := Hb'.lt
  replace X0 := X0.below hb (by omega)
  replace Y0 := Y0.below hb (by omega)
  replace Hb := Hb.below hb (by omega)
  replace Hb' := Hb'.below hb (by omega)
  replace S := S.below hb (by omega)
  replace Bt := Bt.trans (hb.mono (by omega))
  clear hb pX00 pX01 pX02 pY00 pY01 pY02
  obtain ⟨pX00, pX01, pX02⟩ := X0.three
  obtain ⟨pY00, pY01, pY02⟩ := Y0.three
  obtain ⟨pX10, pX11, pX12⟩ := X1.three
  go_region_held3 (fun u => u.cell? ⟨w0.heap.size, 0, none⟩ = some (.int .i64 k) ∧ u.cell? ⟨w0.heap.size, 1, none⟩ = some (.int .i64 a) ∧ u.cell? ⟨w0.heap.size, 2, none⟩ = some (.int .i64 b) ∧ u.cell? ⟨w0.heap.size + 1, 0, none⟩ = some (.int .i64 st) ∧ u.cell? ⟨w0.heap.size + 1, 1, none⟩ = some (.slice A ss.length c) ∧ u.cell? ⟨w0.heap.size + 1, 2, none⟩ = some (.slice A' bs.length c') ∧ u.cell? ⟨w3.heap.size, 0, none⟩ = some (.int .i64 st) ∧ u.cell? ⟨w3.heap.size, 1, none⟩ = some (.slice (some ⟨b0, 0, none⟩) ss.length ss.length) ∧ u.cell? ⟨w3.heap.size, 2, none⟩ = some (.slice (some ⟨b0', 0, none⟩) bs.length bs.length)) (first | exact ⟨pX00, pX01, pX02, pY00, pY01, pY02, pX10, pX11, pX12⟩ | exact ⟨caX00, caX01, caX02, caY00, caY01, caY02, caX10, caX11, caX12⟩ | exact ⟨cbX00, cbX01, cbX02, cbY00, cbY01, cbY02, cbX10, cbX11, cbX12⟩)
    (first
    | (go_at_call 16; (refine (toClue_any k a b w4.drew).mono ?_); rintro e u1 ⟨rfl, k1⟩; have h1 : Below w4.heap.size w4 u1 := below_undrew k1; obtain ⟨caX00, caX01, caX02⟩ := (X0.below h1 X0.lt).three; obtain ⟨caY00, caY01, caY02⟩ := (Y0.below h1 Y0.lt).three; obtain ⟨caX10, caX11, caX12⟩ := (X1.below h1 X1.lt).three)
    | (go_at_call 26; (refine (hg _ _ _ _ u1.heap.size u1 (st_of_blks (st := st) (Hb.below h1 (by omega)) (Hb'.below h1 (by omega)) hns hnb) (Nat.le_refl _)).mono ?_); rintro e w5 ⟨rfl, k2⟩; have hb : Below w4.heap.size w4 w5 := h1.trans (k2.mono h1.size); obtain ⟨cbX00, cbX01, cbX02⟩ := (X0.below hb X0.lt).three; obtain ⟨cbY00, cbY01, cbY02⟩ := (Y0.below hb Y0.lt).three; obtain ⟨cbX10, cbX11, cbX12⟩ := (X1.below hb X1.lt).three)
    | fail)
  clear pX00 pX01 pX02 pY00 pY01 pY02 pX10 pX11 pX12 caX00 caX01 caX02 caY00 caY01 caY02 caX10 caX11 caX12 cbX00 cbX01 cbX02 cbY00 cbY01 cbY02 cbX10 cbX11 cbX12 h1 k1 k2
  replace X0 := X0.below hb (by omega)
  replace Y0 := Y0.below hb (by omega)
  replace X1 := X1.below hb (by omega)
  replace Hb := Hb.below hb (by omega)
  replace Hb' := Hb'.below hb (by omega)
  replace S := S.below hb (by omega)
  replace Bt := Bt.trans (hb.mono (by omega))
  have z5 : w3.heap.size + 1 ≤ w5.heap.size := Nat.le_trans z4 hb.size
  clear hb
  obtain ⟨pX00, pX01, pX02⟩ := X0.three
  obtain ⟨pY00, pY01, pY02⟩ := Y0.three
  obtain ⟨pX10, pX11, pX12⟩ := X1.three
  go_wp2_with fail
  go_region_held3 (fun u => u.cell? ⟨w0.heap.size, 0, none⟩ = some (.int .i64 k) ∧ u.cell? ⟨w0.heap.size, 1, none⟩ = some (.int .i64 a) ∧ u.cell? ⟨w0.heap.size, 2, none⟩ = some (.int .i64 b) ∧ u.cell? ⟨w0.heap.size + 1, 0, none⟩ = some (.int .i64 st) ∧ u.cell? ⟨w0.heap.size + 1, 1, none⟩ = some (.slice A ss.length c) ∧ u.cell? ⟨w0.heap.size + 1, 2, none⟩ = some (.slice A' bs.length c') ∧ u.cell? ⟨w3.heap.size, 0, none⟩ = some (.int .i64 st) ∧ u.cell? ⟨w3.heap.size, 1, none⟩ = some (.slice (some ⟨b0, 0, none⟩) ss.length ss.length) ∧ u.cell? ⟨w3.heap.size, 2, none⟩ = some (.slice (some ⟨b0', 0, none⟩) bs.length bs.length)) (first | exact ⟨pX00, pX01, pX02, pY00, pY01, pY02, pX10, pX11, pX12⟩ | exact ⟨caX00, caX01, caX02, caY00, caY01, caY02, caX10, caX11, caX12⟩ | exact ⟨cbX00, cbX01, cbX02, cbY00, cbY01, cbY02, cbX10, cbX11, cbX12⟩)
    (first
    | (go_at_call 25; (refine (toStairs_any st A A' c c' ss bs w0.heap.size w5.drew S.drew (by show _ ≤ w5.heap.size; omega)).mono ?_); rintro e u1 ⟨m, m', rfl, hm, hmm, hx, hy, k1⟩; have h1 : Below w5.heap.size w5 u1 := below_undrew k1; obtain ⟨caX00, caX01, caX02⟩ := (X0.below h1 X0.lt).three; obtain ⟨caY00, caY01, caY02⟩ := (Y0.below h1 Y0.lt).three; obtain ⟨caX10, caX11, caX12⟩ := (X1.below h1 X1.lt).three)
    | (go_at_call 27; (refine (eqStairs_any _ _ _ _ _ _ _ _ _ _ _ _ _ _ u1.heap.size _ (st_of_blks (Hb.below h1 (by omega)) (Hb'.below h1 (by omega)) hns hnb) (st_of_blks hx hy hns hnb) (Nat.le_refl _)).mono ?_); rintro e w6 ⟨rfl, k2⟩; rw [eqSt_self]; have hb : Below w5.heap.size w5 w6 := h1.trans (k2.mono h1.size); obtain ⟨cbX00, cbX01, cbX02⟩ := (X0.below hb X0.lt).three; obtain ⟨cbY00, cbY01, cbY02⟩ := (Y0.below hb Y0.lt).three; obtain ⟨cbX10, cbX11, cbX12⟩ := (X1.below hb X1.lt).three)
    | fail)
  replace Bt := Bt.trans (hb.mono (by omega))
  go_wp2_with fail
  go_ret
  exact ⟨rfl, Bt⟩

end Go.Proofs.Ytmiojofeoaocfaa
