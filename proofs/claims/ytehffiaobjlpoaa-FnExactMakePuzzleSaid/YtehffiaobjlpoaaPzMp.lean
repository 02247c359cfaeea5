/- Contracts of MakePuzzle: the numbers, the clues, the model. -/
import Derived.Test.YtehffiaobjlpoaaPzAc
import Derived.Test.YtehffiaobjlpoaaPzT
import Derived.Test.YtehffiaobjlpoaaPzM
namespace Go.Proofs.Ytehffiaobjlpoaa
open Go.RowKit
set_option maxRecDepth 100000

def nxZ (z : Int) : Int := (293 * z + 907) % 10007
theorem nxZ_le (z : Int) : 0 ≤ nxZ z ∧ nxZ z ≤ 10006 := by unfold nxZ; omega
def mkZ (z : Int) : Nat → Int
  | 0 => z
  | n + 1 => nxZ (nxZ (mkZ z n))
theorem mkZ_le {z : Int} (h0 : 0 ≤ z) (h1 : z ≤ 9999) : ∀ n, 0 ≤ mkZ z n ∧ mkZ z n ≤ 10006
  | 0 => ⟨h0, by simp only [mkZ]; omega⟩
  | n + 1 => nxZ_le _
def aN (k y : Int) : Int := if k = 2 then y % 3 + 1 else if k = 3 then y % 7 + 1 else 0
def clN (st : Int) (ss bs : List Int) (z : Int) : Tri := (nxZ z % 6, aN (nxZ z % 6) (nxZ (nxZ z)), toldV (nxZ z % 6) (aN (nxZ z % 6) (nxZ (nxZ z))) st ss bs)
def mkL (st : Int) (ss bs : List Int) (z : Int) : Nat → List Tri
  | 0 => []
  | n + 1 => mkL st ss bs z n ++ [clN st ss bs (mkZ z n)]
theorem mkL_len (st : Int) (ss bs : List Int) (z : Int) : ∀ n, (mkL st ss bs z n).length = n
  | 0 => rfl
  | n + 1 => by simp [mkL, mkL_len st ss bs z n]
def mpB (st : Int) (ss bs : List Int) (cl sd : Int) : Bool := hidB st ss bs && (inB cl 0 6 && inB sd 0 9999)
def mpL (st : Int) (ss bs : List Int) (cl sd : Int) : List Tri := if mpB st ss bs cl sd then mkL st ss bs sd cl.toNat else []
theorem mpL_len (st : Int) (ss bs : List Int) (cl sd : Int) : (mpL st ss bs cl sd).length ≤ 1048576 := by
  unfold mpL
  split
  · rename_i h
    simp only [mpB, Bool.and_eq_true] at h
    have := inB_le h.2.1
    rw [mkL_len]
    omega
  · simp

set_option maxHeartbeats 400000 in
theorem pzNext_any (z : Int) (w : World) (h0 : 0 ≤ z) (h1 : z ≤ 10006) :
    Calls Try.prog 56 #[.int .i64 z] w fun e w' => e = .returned (.int .i64 (nxZ z)) ∧ w = w' := by
  have ht : Int.tmod (293 * z + 907) 10007 = nxZ z := Int.tmod_eq_emod_of_nonneg (by omega)
  go_enter Try.func56, Try.ntmps56
  go_wp2
  go_ret
  exact ⟨rfl, rfl⟩

set_option maxHeartbeats 400000 in
theorem nextSeed_any (z : Int) (w : World) (h0 : 0 ≤ z) (h1 : z ≤ 10006) :
    Calls Try.prog 60 #[.int .i64 z] w fun e w' => e = .returned (.int .i64 (nxZ z)) ∧ w = w' := by
  have ht : Int.tmod (z * 293 + 907) 10007 = nxZ z := by rw [Int.mul_comm]; exact Int.tmod_eq_emod_of_nonneg (by omega)
  go_enter Try.func60, Try.ntmps60
  go_wp2
  go_ret
  exact ⟨rfl, rfl⟩

set_option maxHeartbeats 400000 in
theorem madeA_any (k y : Int) (w : World) (h0 : 0 ≤ y) :
    Calls Try.prog 61 #[.int .i64 k, .int .i64 y] w fun e w' => e = .returned (.int .i64 (aN k y)) ∧ w = w' := by
  have t3 : Int.tmod y 3 = y % 3 := Int.tmod_eq_emod_of_nonneg h0
  have t7 : Int.tmod y 7 = y % 7 := Int.tmod_eq_emod_of_nonneg h0
  have b3 : 0 ≤ y % 3 ∧ y % 3 ≤ 2 := by omega
  have b7 : 0 ≤ y % 7 ∧ y % 7 ≤ 6 := by omega
  by_cases k2 : k = 2
  · subst k2
    rw [show aN 2 y = y % 3 + 1 from rfl]
    go_enter Try.func61, Try.ntmps61
    go_wp2
    go_ret
    exact ⟨rfl, rfl⟩
  · by_cases k3 : k = 3
    · subst k3
      rw [show aN 3 y = y % 7 + 1 from rfl]
      go_enter Try.func61, Try.ntmps61
      go_wp2
      go_ret
      exact ⟨rfl, rfl⟩
    · rw [show aN k y = 0 by simp [aN, k2, k3]]
      go_enter Try.func61, Try.ntmps61
      go_wp2
      go_ret
      exact ⟨rfl, rfl⟩

set_option maxHeartbeats 1000000 in
theorem pzOf_any (k y st : Int) (A A' : Option Addr) (c c' : Nat) (ss bs : List Int) (B : Nat) (w : World) (h : St w B st A A' c c' ss bs) (hB : B ≤ w.heap.size) (hh : hidB st ss bs = true) (hk0 : 0 ≤ k) (hk1 : k ≤ 5) (h0 : 0 ≤ y) :
    Calls Try.prog 57 #[.int .i64 k, .int .i64 y, stv st A A' c c' ss bs] w (Plain (.agg #[.int .i64 k, .int .i64 (aN k y), .int .i64 (toldV k (aN k y) st ss bs)]) w) := by
  have t3 : Int.tmod y 3 = y % 3 := Int.tmod_eq_emod_of_nonneg h0
  have t7 : Int.tmod y 7 = y % 7 := Int.tmod_eq_emod_of_nonneg h0
  have b3 : 0 ≤ y % 3 ∧ y % 3 ≤ 2 := by omega
  have b7 : 0 ≤ y % 7 ∧ y % 7 ≤ 6 := by omega
  have X0 : Blk ((w.alloc (.cells #[.int .i64 st, .slice A ss.length c, .slice A' bs.length c'] 24)).alloc (.cells #[.int .i64 0, .int .i64 0, .int .i64 0] 56)) w.heap.size 24 #[.int .i64 st, .slice A ss.length c, .slice A' bs.length c'] := (Blk.new' (by simp)).alloc _
  have R0 : Blk ((w.alloc (.cells #[.int .i64 st, .slice A ss.length c, .slice A' bs.length c'] 24)).alloc (.cells #[.int .i64 0, .int .i64 0, .int .i64 0] 56)) (w.heap.size + 1) 56 #[.int .i64 0, .int .i64 0, .int .i64 0] := Blk.new' (by simp)
  have b0 : Below w.heap.size w ((w.alloc (.cells #[.int .i64 st, .slice A ss.length c, .slice A' bs.length c'] 24)).alloc (.cells #[.int .i64 0, .int .i64 0, .int .i64 0] 56)) := (below_alloc _ _).alloc (by simp) _
  have S0 := h.below b0 hB
  have z0 : B ≤ ((w.alloc (.cells #[.int .i64 st, .slice A ss.length c, .slice A' bs.length c'] 24)).alloc (.cells #[.int .i64 0, .int .i64 0, .int .i64 0] 56)).heap.size := Nat.le_trans hB b0.size
  have key : ∀ a, a = aN k y → ∀ u, u = ((w.alloc (.cells #[.int .i64 st, .slice A ss.length c, .slice A' bs.length c'] 24)).alloc (.cells #[.int .i64 0, .int .i64 0, .int .i64 0] 56)) → Calls Try.prog 74 #[.int .i64 k, .int .i64 a, stv st A A' c c' ss bs] u (fun e w1 => e = .returned (.int .i64 (toldV k (aN k y) st ss bs)) ∧ Below w.heap.size w w1 ∧ Blk w1 (w.heap.size + 1) 56 #[.int .i64 0, .int .i64 0, .int .i64 0]) := by
    intro a ha u hu
    subst ha hu
    exact (pzValue_any k (aN k y) st A A' c c' ss bs B _ S0 z0 hh hk0 hk1).mono fun e w1 ⟨he, hb⟩ => ⟨he, b0.trans (hb.mono b0.size), R0.below hb R0.lt⟩
  have KEY := Lib.hid key
  clear key h
  clear X0 R0 S0 z0 b0
  by_cases k2 : k = 2
  · subst k2
    have ha : y % 3 + 1 = aN 2 y := rfl
    have HA := Lib.hid ha
    clear ha
    go_enter Try.func57, Try.ntmps57
    go_wp2_with fail
    refine (KEY.out _ HA.out _ rfl).mono ?_
    rintro e w1 ⟨rfl, hb, R1⟩
    have f0 := R1.frozen 0
    have f1 := R1.frozen 1
    have f2 := R1.frozen 2
    obtain ⟨c0, c1, c2⟩ := R1.three
    have lR := R1.lt
    go_wp2_with fail
    have R2 := ((R1.set_ 0 (.int .i64 2)).set_ 1 (.int .i64 (y % 3 + 1))).set_ 2 (.int .i64 (toldV 2 (aN 2 y) st ss bs))
    obtain ⟨r0, r1, r2⟩ := R2.three
    refine bodyPost_ret (v := .agg #[.int .i64 2, .int .i64 (y % 3 + 1), .int .i64 (toldV 2 (aN 2 y) st ss bs)]) (by simp [results, Try.results57, go_sem, r0, r1, r2]) rfl ⟨by rw [HA.out], ?_⟩
    exact ((hb.setCell (p := ⟨w.heap.size + 1, 0, none⟩) (by simp) _).setCell (p := ⟨w.heap.size + 1, 1, none⟩) (by simp) _).setCell (p := ⟨w.heap.size + 1, 2, none⟩) (by simp) _
  · by_cases k3 : k = 3
    · subst k3
      have ha : y % 7 + 1 = aN 3 y := rfl
      have HA := Lib.hid ha
      clear ha
      go_enter Try.func57, Try.ntmps57
      go_wp2_with fail
      refine (KEY.out _ HA.out _ rfl).mono ?_
      rintro e w1 ⟨rfl, hb, R1⟩
      have f0 := R1.frozen 0
      have f1 := R1.frozen 1
      have f2 := R1.frozen 2
      obtain ⟨c0, c1, c2⟩ := R1.three
      have lR := R1.lt
      go_wp2_with fail
      have R2 := ((R1.set_ 0 (.int .i64 3)).set_ 1 (.int .i64 (y % 7 + 1))).set_ 2 (.int .i64 (toldV 3 (aN 3 y) st ss bs))
      obtain ⟨r0, r1, r2⟩ := R2.three
      refine bodyPost_ret (v := .agg #[.int .i64 3, .int .i64 (y % 7 + 1), .int .i64 (toldV 3 (aN 3 y) st ss bs)]) (by simp [results, Try.results57, go_sem, r0, r1, r2]) rfl ⟨by rw [HA.out], ?_⟩
      exact ((hb.setCell (p := ⟨w.heap.size + 1, 0, none⟩) (by simp) _).setCell (p := ⟨w.heap.size + 1, 1, none⟩) (by simp) _).setCell (p := ⟨w.heap.size + 1, 2, none⟩) (by simp) _
    · have ha : (0 : Int) = aN k y := by simp [aN, k2, k3]
      have HA := Lib.hid ha
      clear ha
      go_enter Try.func57, Try.ntmps57
      go_wp2_with fail
      refine (KEY.out _ HA.out _ rfl).mono ?_
      rintro e w1 ⟨rfl, hb, R1⟩
      have f0 := R1.frozen 0
      have f1 := R1.frozen 1
      have f2 := R1.frozen 2
      obtain ⟨c0, c1, c2⟩ := R1.three
      have lR := R1.lt
      go_wp2_with fail
      have R2 := ((R1.set_ 0 (.int .i64 k)).set_ 1 (.int .i64 0)).set_ 2 (.int .i64 (toldV k (aN k y) st ss bs))
      obtain ⟨r0, r1, r2⟩ := R2.three
      refine bodyPost_ret (v := .agg #[.int .i64 k, .int .i64 0, .int .i64 (toldV k (aN k y) st ss bs)]) (by simp [results, Try.results57, go_sem, r0, r1, r2]) rfl ⟨by rw [HA.out], ?_⟩
      exact ((hb.setCell (p := ⟨w.heap.size + 1, 0, none⟩) (by simp) _).setCell (p := ⟨w.heap.size + 1, 1, none⟩) (by simp) _).setCell (p := ⟨w.heap.size + 1, 2, none⟩) (by simp) _

set_option maxHeartbeats 4000000 in
theorem specMake9_any (st : Int) (A A' : Option Addr) (c c' : Nat) (ss bs : List Int) (cl sd : Int) (B : Nat) (w : World) (h : St w B st A A' c c' ss bs) (hB : B ≤ w.heap.size) :
    Calls Try.prog 25 #[stv st A A' c c' ss bs, .int .i64 cl, .int .i64 sd] w (NewP w (mpL st ss bs cl sd) (mpB st ss bs cl sd)) := by
  have X0 : Blk ((w.alloc (.cells #[.int .i64 st, .slice A ss.length c, .slice A' bs.length c'] 24)).alloc (.cells #[.slice none 0 0] 52)) w.heap.size 24 #[.int .i64 st, .slice A ss.length c, .slice A' bs.length c'] := (Blk.new' (by simp)).alloc _
  have R0 : Blk ((w.alloc (.cells #[.int .i64 st, .slice A ss.length c, .slice A' bs.length c'] 24)).alloc (.cells #[.slice none 0 0] 52)) (w.heap.size + 1) 52 #[.slice none 0 0] := Blk.new' (by simp)
  have b0 : Below w.heap.size w ((w.alloc (.cells #[.int .i64 st, .slice A ss.length c, .slice A' bs.length c'] 24)).alloc (.cells #[.slice none 0 0] 52)) := (below_alloc _ _).alloc (by simp) _
  have S0 := h.below b0 hB
  have zz : w.heap.size + 2 ≤ ((w.alloc (.cells #[.int .i64 st, .slice A ss.length c, .slice A' bs.length c'] 24)).alloc (.cells #[.slice none 0 0] 52)).heap.size := by simp
  have z0 : B ≤ ((w.alloc (.cells #[.int .i64 st, .slice A ss.length c, .slice A' bs.length c'] 24)).alloc (.cells #[.slice none 0 0] 52)).heap.size := by omega
  clear h
  cases hp : hidB st ss bs
  · have HD := Lib.hid (show mpB st ss bs cl sd = false ∧ mpL st ss bs cl sd = [] by simp [mpB, mpL, hp])
    have HP := Lib.hid hp
    clear hp
    go_enter Try.func25, Try.ntmps25
    go_wp2_with fail
    generalize hu : ((w.alloc (.cells #[.int .i64 st, .slice A ss.length c, .slice A' bs.length c'] 24)).alloc (.cells #[.slice none 0 0] 52)) = u at *
    clear hu
    refine (pzHidden_any st A A' c c' ss bs B u S0 z0).mono ?_
    rintro e w1 ⟨rfl, hb1⟩
    rw [HP.out]
    have R1 := R0.below hb1 R0.lt
    have q0 := R1.cell 0
    have f0 := R1.frozen 0
    have lR := R1.lt
    go_wp2_with fail
    have r0 := (R1.set_ 0 (.slice none 0 0)).cell 0
    refine bodyPost_ret (v := .tuple #[.agg #[.slice none 0 0], .bool false]) (by simp [results, Try.results25, go_sem, r0]) rfl ?_
    exact ⟨_, by rw [HD.out.1], by rw [HD.out.2]; exact OwnF.nil _ _, (b0.trans (hb1.mono b0.size)).setCell (p := ⟨w.heap.size + 1, 0, none⟩) (by simp) _⟩
  · have HP := Lib.hid hp
    cases hc : inB cl 0 6
    · have HD := Lib.hid (show mpB st ss bs cl sd = false ∧ mpL st ss bs cl sd = [] by simp [mpB, mpL, hc])
      have HC := Lib.hid hc
      clear hc hp
      go_enter Try.func25, Try.ntmps25
      go_wp2_with fail
      generalize hu : ((w.alloc (.cells #[.int .i64 st, .slice A ss.length c, .slice A' bs.length c'] 24)).alloc (.cells #[.slice none 0 0] 52)) = u at *
      clear hu
      refine (pzHidden_any st A A' c c' ss bs B u S0 z0).mono ?_
      rintro e w1 ⟨rfl, hb1⟩
      rw [HP.out]
      have R1 := R0.below hb1 R0.lt
      go_wp2_with fail
      refine (l1In_any _ _ _ _).mono ?_
      rintro e w2 ⟨rfl, rfl⟩
      rw [HC.out]
      have q0 := R1.cell 0
      have f0 := R1.frozen 0
      have lR := R1.lt
      go_wp2_with fail
      have r0 := (R1.set_ 0 (.slice none 0 0)).cell 0
      refine bodyPost_ret (v := .tuple #[.agg #[.slice none 0 0], .bool false]) (by simp [results, Try.results25, go_sem, r0]) rfl ?_
      exact ⟨_, by rw [HD.out.1], by rw [HD.out.2]; exact OwnF.nil _ _, (b0.trans (hb1.mono b0.size)).setCell (p := ⟨w.heap.size + 1, 0, none⟩) (by simp) _⟩
    · have HC := Lib.hid hc
      have hc2 := inB_le hc
      clear hc
      cases hs : inB sd 0 9999
      · have HD := Lib.hid (show mpB st ss bs cl sd = false ∧ mpL st ss bs cl sd = [] by simp [mpB, mpL, hs])
        have HS := Lib.hid hs
        clear hs hp
        go_enter Try.func25, Try.ntmps25
        go_wp2_with fail
        generalize hu : ((w.alloc (.cells #[.int .i64 st, .slice A ss.length c, .slice A' bs.length c'] 24)).alloc (.cells #[.slice none 0 0] 52)) = u at *
        clear hu
        refine (pzHidden_any st A A' c c' ss bs B u S0 z0).mono ?_
        rintro e w1 ⟨rfl, hb1⟩
        rw [HP.out]
        have R1 := R0.below hb1 R0.lt
        go_wp2_with fail
        refine (l1In_any _ _ _ _).mono ?_
        rintro e w2 ⟨rfl, rfl⟩
        rw [HC.out]
        go_wp2_with fail
        refine (l1In_any _ _ _ _).mono ?_
        rintro e w2 ⟨rfl, rfl⟩
        rw [HS.out]
        have q0 := R1.cell 0
        have f0 := R1.frozen 0
        have lR := R1.lt
        go_wp2_with fail
        have r0 := (R1.set_ 0 (.slice none 0 0)).cell 0
        refine bodyPost_ret (v := .tuple #[.agg #[.slice none 0 0], .bool false]) (by simp [results, Try.results25, go_sem, r0]) rfl ?_
        exact ⟨_, by rw [HD.out.1], by rw [HD.out.2]; exact OwnF.nil _ _, (b0.trans (hb1.mono b0.size)).setCell (p := ⟨w.heap.size + 1, 0, none⟩) (by simp) _⟩
      · have HS := Lib.hid hs
        have hs2 := inB_le hs
        obtain ⟨m, rfl⟩ : ∃ m : Nat, cl = (m : Int) := ⟨cl.toNat, by omega⟩
        have HD := Lib.hid (show mpB st ss bs m sd = true ∧ mpL st ss bs m sd = mkL st ss bs sd m by have e1 : mpB st ss bs m sd = true := (by simp [mpB, hp, HC.out, hs]); exact ⟨e1, by simp [mpL, e1]⟩)
        have hm6 : m ≤ 6 := by omega
        have hd := hp
        clear hs hp
        go_enter Try.func25, Try.ntmps25
        go_wp2_with fail
        generalize hu : ((w.alloc (.cells #[.int .i64 st, .slice A ss.length c, .slice A' bs.length c'] 24)).alloc (.cells #[.slice none 0 0] 52)) = u at *
        clear hu
        refine (pzHidden_any st A A' c c' ss bs B u S0 z0).mono ?_
        rintro e w1 ⟨rfl, hb1⟩
        rw [HP.out]
        have X1 := X0.below hb1 X0.lt
        have R1 := R0.below hb1 R0.lt
        have S1 := S0.below hb1 z0
        have z1 := Nat.le_trans z0 hb1.size
        have y1 := Nat.le_trans zz hb1.size
        have bw1 := b0.trans (hb1.mono b0.size)
        clear X0 R0 S0 b0 z0 zz hb1
        go_wp2_with fail
        refine (l1In_any _ _ _ _).mono ?_
        rintro e w2 ⟨rfl, rfl⟩
        rw [HC.out]
        go_wp2_with fail
        refine (l1In_any _ _ _ _).mono ?_
        rintro e w2 ⟨rfl, rfl⟩
        rw [HS.out]
        go_wp2_with fail
        have G0 : Blk (w1.alloc (.cells #[.slice none 0 0] 52)) w1.heap.size 52 #[.slice none 0 0] := Blk.new _ _ _
        have b3 : Below w1.heap.size w1 (w1.alloc (.cells #[.slice none 0 0] 52)) := below_alloc _ _
        have S3 := S1.below b3 z1
        have X3 := X1.below b3 X1.lt
        have R3 := R1.below b3 R1.lt
        have y3 : w1.heap.size + 1 ≤ (w1.alloc (.cells #[.slice none 0 0] 52)).heap.size := by simp
        generalize hu3 : w1.alloc (.cells #[.slice none 0 0] 52) = u3 at *
        clear hu3
        go_loopw [1, 9, 10] (fun i z _ wr => ∃ (n : Nat) (Aq : Option Addr) (cq : Nat), n ≤ m ∧ i = .int .i64 ((m : Int) - (n : Int)) ∧ z = .int .i64 (mkZ sd n) ∧ Blk wr w1.heap.size 52 #[.slice Aq (mkL st ss bs sd n).length cq] ∧ OwnF wr (w1.heap.size + 1) (.slice Aq (mkL st ss bs sd n).length cq) (mkL st ss bs sd n) ∧ Blk wr w.heap.size 24 #[.int .i64 st, .slice A ss.length c, .slice A' bs.length c'] ∧ Blk wr (w.heap.size + 1) 52 #[.slice none 0 0] ∧ Below w1.heap.size u3 wr) (fun i _ _ _ => (intOf i).toNat)
        case atStart => exact ⟨0, none, 0, Nat.zero_le _, by simp, rfl, G0, OwnF.nil _ _, X3, R3, Below.refl _ _⟩
        case round =>
          obtain ⟨n, Aq, cq, hn, rfl, rfl, hG, hown, hX, hR, hbw⟩ := hrel
          have hzl := mkZ_le hs2.1 hs2.2 n
          have hzw : u3.heap.size ≤ wr.heap.size := hbw.size
          have lX := hX.lt
          obtain ⟨d0, d1, d2⟩ := hX.three
          by_cases hlt : n < m
          · have hgt : (0 : Int) < (m : Int) - (n : Int) := by omega
            have hk2 : 0 ≤ nxZ (mkZ sd n) % 6 ∧ nxZ (mkZ sd n) % 6 ≤ 5 := by have := (nxZ_le (mkZ sd n)).1; omega
            have hz2 := nxZ_le (mkZ sd n)
            have hz3 := nxZ_le (nxZ (mkZ sd n))
            have ht : Int.tmod (nxZ (mkZ sd n)) 6 = nxZ (mkZ sd n) % 6 := Int.tmod_eq_emod_of_nonneg hz2.1
            have hzN : nxZ (nxZ (mkZ sd n)) = mkZ sd (n + 1) := rfl
            have hcl : clN st ss bs (mkZ sd n) = (nxZ (mkZ sd n) % 6, aN (nxZ (mkZ sd n) % 6) (nxZ (nxZ (mkZ sd n))), toldV (nxZ (mkZ sd n) % 6) (aN (nxZ (mkZ sd n) % 6) (nxZ (nxZ (mkZ sd n)))) st ss bs) := rfl
            have hL : mkL st ss bs sd (n + 1) = mkL st ss bs sd n ++ [clN st ss bs (mkZ sd n)] := rfl
            have HL := Lib.hid hL
            have HN := Lib.hid hzN
            have HCL := Lib.hid hcl
            have hln := mkL_len st ss bs sd n
            have HLN := Lib.hid hln
            have hl6 : (mkL st ss bs sd n).length ≤ 6 := by omega
            have N1 := Lib.hid (pzNext_any (mkZ sd n) wr hzl.1 hzl.2)
            have N2 := Lib.hid (pzNext_any (nxZ (mkZ sd n)) wr hz2.1 hz2.2)
            have S4 := S3.below hbw (by omega)
            have hzB : B ≤ wr.heap.size := by omega
            have PO := Lib.hid (pzOf_any (nxZ (mkZ sd n) % 6) (nxZ (nxZ (mkZ sd n))) st A A' c c' ss bs B wr.drew S4.drew hzB hd hk2.1 hk2.2 hz3.1)
            clear hzN hcl hL hln S1 X1 R1 X3 R3 G0
            generalize nxZ (nxZ (mkZ sd n)) = z3 at *
            generalize nxZ (mkZ sd n) = z2 at *
            generalize mkZ sd n = z1' at *
            generalize mkL st ss bs sd n = qs at *
            generalize clN st ss bs z1' = cn at *
            go_wp2_with fail
            refine N1.out.mono ?_
            rintro e w4 ⟨rfl, rfl⟩
            go_wp2_with fail
            refine N2.out.mono ?_
            rintro e w4 ⟨rfl, rfl⟩
            generalize z2 % 6 = kk at *
            generalize aN kk z3 = aa at *
            generalize toldV kk aa st ss bs = bb at *
            have g0 := hG.cell 0
            have fg := hG.frozen 0
            have lG := hG.lt
            go_wp2_with fail
            go_region_law (first
              | (go_simp; go_at_call 57; refine PO.out.mono ?_; rintro e w4 ⟨rfl, k4⟩; have b4 : Below wr.heap.size wr w4 := below_undrew k4; have G4 := hG.below b4 lG; have o4 := hown.below b4 (Nat.le_refl _); have g4 := G4.cell 0; have lG4 := G4.lt; obtain ⟨x0, x1, x2⟩ := (hX.below b4 lX).three; have lX4 := (hX.below b4 lX).lt; have z4 := b4.size)
              | (refine step_appT _ (by rfl) _ _ (by rfl) (w1.heap.size + 1) _ _ qs [(kk, aa, bb)] (by rfl) (o4.alloc (.cells #[.int .i64 kk, .int .i64 aa, .int .i64 bb] 56)) _ 1 1 rfl (by rfl) (blk_rd1c (Blk.new' rfl)) (by simp; omega) (by show w1.heap.size + 1 ≤ (w4.alloc _).heap.size; simp; omega) ?_; intro v5 w5 o5 k5; have t5 : Turned (w4.alloc (.cells #[.int .i64 kk, .int .i64 aa, .int .i64 bb] 56)) w5 (rowL (.slice Aq qs.length cq)) := k5; have lo4 := fun i h => (o4.lt i (mem_rowL.1 h)).1; have G5 := (G4.alloc (.cells #[.int .i64 kk, .int .i64 aa, .int .i64 bb] 56)).turned t5 (fun hm => by have := lo4 _ hm; omega); obtain ⟨A5, c5, hv5⟩ := o5.form; subst hv5; have g5 := G5.cell 0; have fg5 := G5.frozen 0; have lG5 := G5.lt))
            all_goals
              have hqn : mkL st ss bs sd (n + 1) = qs ++ [(kk, aa, bb)] := by rw [HL.out, HCL.out]
              have elq : (qs ++ [(kk, aa, bb)]).length = qs.length + 1 := by simp
              have bA : Below w1.heap.size wr (w4.alloc (.cells #[.int .i64 kk, .int .i64 aa, .int .i64 bb] 56)) := (b4.alloc z4 (.cells #[.int .i64 kk, .int .i64 aa, .int .i64 bb] 56)).mono (by omega)
              have bB : Below w1.heap.size (w4.alloc (.cells #[.int .i64 kk, .int .i64 aa, .int .i64 bb] 56)) w5 := t5.below (by simp; omega) (fun k hm => by have := lo4 _ hm; omega)
              have bC : Below w1.heap.size wr (w5.setCell ⟨w1.heap.size, 0, none⟩ (.slice A5 (qs.length + 1) c5)) := (bA.trans bB).setCell (p := ⟨w1.heap.size, 0, none⟩) (Nat.le_refl _) _
              have G6 := G5.set_ 0 (.slice A5 (qs.length + 1) c5)
              have X6 := hX.below bC (by omega)
              have R6 := hR.below bC (by omega)
              have bD := hbw.trans bC
              rw [elq] at o5
              have lt5 := fun i h => (o5.lt i h).1
              have O6 : OwnF (w5.setCell ⟨w1.heap.size, 0, none⟩ (.slice A5 (qs.length + 1) c5)) (w1.heap.size + 1) (.slice A5 (qs.length + 1) c5) (mkL st ss bs sd (n + 1)) := by
                rw [hqn]
                exact OwnF.turned o5 (L := [w1.heap.size]) ⟨(below_setF w5).os, (below_setF w5).tape, (below_setF w5).output, (below_setF w5).size, fun i _ hi => Below.heap_setCell w5 _ _ i (by simpa using hi)⟩ (fun i hi h2 => by have := lt5 i hi; simp at h2; omega)
              have hqnl := Lib.hid (show (mkL st ss bs sd (n + 1)).length = qs.length + 1 by rw [hqn, elq])
              have G7 : Blk (w5.setCell ⟨w1.heap.size, 0, none⟩ (.slice A5 (qs.length + 1) c5)) w1.heap.size 52 #[.slice A5 (qs.length + 1) c5] := G6
              clear hqn elq bA bB bC G5 G6 g5 fg5 lG5 o5 lt5 t5 k5 lo4 o4 G4 g4 lG4 x0 x1 x2 lX4 hX hR hG hown g0 fg lG d0 d1 d2 lX hbw b4 k4
              go_wp2_with fail
              go_roundw
              case rel => exact ⟨n + 1, A5, c5, by omega, by go_num, by rw [HN.out], by rw [hqnl.out]; exact G7, by rw [hqnl.out]; exact O6, X6, R6, bD⟩
              case measure => simp [intOf]; omega
          · have hgt : ¬ (0 : Int) < (m : Int) - (n : Int) := by omega
            have el : n = m := by omega
            subst el
            have EL := Lib.hid (mkL_len st ss bs sd n)
            generalize mkL st ss bs sd n = qs at *
            have lt5 := fun i h => (hown.lt i h).1
            have q0 := hR.cell 0
            have f0 := hR.frozen 0
            have lR := hR.lt
            have g0 := hG.cell 0
            have lG := hG.lt
            clear d0 d1 d2 lX hX
            go_wp2_with fail
            have r0 := (hR.set_ 0 (.slice Aq qs.length cq)).cell 0
            refine bodyPost_ret (v := .tuple #[.agg #[.slice Aq qs.length cq], .bool true]) (by simp [results, Try.results25, go_sem, r0]) rfl ?_
            refine ⟨_, by rw [HD.out.1], ?_, (bw1.trans ((b3.trans hbw).mono bw1.size)).setCell (p := ⟨w.heap.size + 1, 0, none⟩) (by simp) _⟩
            rw [HD.out.2]
            exact OwnF.turned (hown.mono (by omega)) (L := [w.heap.size + 1]) ⟨(below_setF wr).os, (below_setF wr).tape, (below_setF wr).output, (below_setF wr).size, fun i _ hi => Below.heap_setCell wr _ _ i (by simpa using hi)⟩ (fun i hi h2 => by have := lt5 i hi; simp at h2; omega)

end Go.Proofs.Ytehffiaobjlpoaa
