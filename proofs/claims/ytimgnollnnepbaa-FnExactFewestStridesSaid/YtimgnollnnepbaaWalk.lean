/- Contracts: one can stand on a step; a list is a climb; the steps of a climb; the set of broken steps. -/
import Derived.Test.YtimgnollnnepbaaClimb
namespace Go.Proofs.Ytimgnollnnepbaa
open Go.RowKit

theorem below_alloc (w : World) (o : Obj) : Below w.heap.size w (w.alloc o) := (Below.refl _ _).alloc (Nat.le_refl _) _

set_option maxHeartbeats 400000 in
theorem clStands_any (st : Int) (A A' : Option Addr) (c c' : Nat) (ss bs : List Int) (k : Int) (B : Nat) (w : World) (h : St w B st A A' c c' ss bs) (hB : B ≤ w.heap.size) :
    Calls Try.prog 64 #[stv st A A' c c' ss bs, .int .i64 k] w fun e w' => e = .returned (.bool (standB st bs k)) ∧ Below w.heap.size w w' := by
  have h1 := h.alloc hB
  cases g1 : inB k 0 st
  · rw [show standB st bs k = false by simp [standB, g1]]
    go_enter Try.func64, Try.ntmps64
    go_wp2_with fail
    refine (l1In_any _ _ _ _).mono ?_
    rintro e w1 ⟨rfl, rfl⟩
    go_wp2_with fail
    go_ret
    exact ⟨rfl, below_alloc _ _⟩
  · rw [show standB st bs k = !hasB bs k by simp [standB, g1]]
    go_enter Try.func64, Try.ntmps64
    go_wp2_with fail
    refine (l1In_any _ _ _ _).mono ?_
    rintro e w1 ⟨rfl, rfl⟩
    go_wp2_with fail
    refine (l1Has_any _ _ _ _ _ _ (h1 _).rb h.nb).mono ?_
    rintro e w1 ⟨rfl, rfl⟩
    go_wp2_with fail
    go_ret
    exact ⟨rfl, below_alloc _ _⟩

theorem climb_step {st : Int} {ss bs : List Int} {v x : Int} {C L : Bool} {xs : List Int} {k : Nat} (H : C = climbB st ss bs v (xs.drop k)) (E : climbB st ss bs v (xs.drop k) = (hasB ss x && (standB st bs (v + x) && L))) (h1 : hasB ss x = true) (h2 : standB st bs (v + x) = true) : C = L := by
  rw [H, E]; simp [h1, h2]
theorem climb_no1 {st : Int} {ss bs : List Int} {v x : Int} {C L : Bool} {xs : List Int} {k : Nat} (H : C = climbB st ss bs v (xs.drop k)) (E : climbB st ss bs v (xs.drop k) = (hasB ss x && (standB st bs (v + x) && L))) (h1 : hasB ss x = false) : false = C := by
  rw [H, E]; simp [h1]
theorem climb_no2 {st : Int} {ss bs : List Int} {v x : Int} {C L : Bool} {xs : List Int} {k : Nat} (H : C = climbB st ss bs v (xs.drop k)) (E : climbB st ss bs v (xs.drop k) = (hasB ss x && (standB st bs (v + x) && L))) (h2 : standB st bs (v + x) = false) : false = C := by
  rw [H, E]; simp [h2]
theorem stand_le {st k : Int} {bs : List Int} (h : standB st bs k = true) : 0 ≤ k ∧ k ≤ st := by
  simp only [standB, Bool.and_eq_true] at h
  exact inB_le h.1

set_option maxHeartbeats 1000000 in
theorem clIs_any (st : Int) (A A' Z : Option Addr) (c c' d : Nat) (ss bs xs : List Int) (B : Nat) (w : World) (h : St w B st A A' c c' ss bs) (hB : B ≤ w.heap.size) (hx : Rd w B Z d xs) (hn : xs.length ≤ 1048576) (G : Good st ss bs) :
    Calls Try.prog 67 #[stv st A A' c c' ss bs, .slice Z xs.length d] w fun e w' => e = .returned (.bool (climbB st ss bs 0 xs)) ∧ Below w.heap.size w w' := by
  have g1 := G.st1
  have g2 := G.st2
  have X0 : Blk (w.alloc (.cells #[.int .i64 st, .slice A ss.length c, .slice A' bs.length c'] 28)) w.heap.size 28 #[.int .i64 st, .slice A ss.length c, .slice A' bs.length c'] := Blk.new _ _ _
  go_enter Try.func67, Try.ntmps67
  go_wp2_with fail
  go_loopw [5, 10] (fun a i wr => ∃ (k : Nat) (v : Int), k ≤ xs.length ∧ 0 ≤ v ∧ v ≤ st ∧ i = .int .i64 k ∧ a = .int .i64 v ∧ Hid (climbB st ss bs 0 xs = climbB st ss bs v (xs.drop k)) ∧ Below (w.heap.size + 1) (w.alloc (.cells #[.int .i64 st, .slice A ss.length c, .slice A' bs.length c'] 28)) wr) (fun _ i _ => xs.length - (intOf i).toNat)
  case atStart => exact ⟨0, 0, Nat.zero_le _, Int.le_refl _, by omega, rfl, rfl, rfl, Below.refl _ _⟩
  case round =>
    obtain ⟨k, v, hk, hv0, hv1, rfl, rfl, H, hbw⟩ := hrel
    have X := X0.below hbw (by omega)
    have hz : w.heap.size < wr.heap.size := by have := hbw.size; simp at this; omega
    have B1 : Below w.heap.size w wr := (below_alloc _ _).trans (hbw.mono (by omega))
    have HB := Lib.hid B1
    have hw := h.below B1 hB
    have hxw := hx.below B1 hB
    obtain ⟨p0, p1, p2⟩ := X.three
    have HW := Lib.hid hbw
    clear X hbw B1
    by_cases hlt : k < xs.length
    · obtain ⟨b, o, rfl, hb, hcell⟩ := hxw.at_ hlt
      have E := Lib.hid (climbB_go st ss bs v xs k hlt)
      have hX := G.hs (xs.getD k 0)
      generalize xs.getD k 0 = x at *
      cases h1 : hasB ss x
      · go_wp2_with fail
        refine (l1Has_any _ _ _ _ _ _ hw.rs h.ns).mono ?_
        rintro e w1 ⟨rfl, rfl⟩
        rw [h1]
        go_wp2_with fail
        go_ret
        exact ⟨ret_bool (climb_no1 H.out E.out h1), HB.out⟩
      · have hx1 := hX (mem_of_hasB h1)
        have hx2 : 1 ≤ x := hx1.1
        have hx3 : x ≤ 9 := hx1.2
        have H1 := Lib.hid h1
        clear h1 hX hx1
        cases h2 : standB st bs (v + x)
        · have H2 := Lib.hid h2
          clear h2
          go_wp2_with fail
          refine (l1Has_any _ _ _ _ _ _ hw.rs h.ns).mono ?_
          rintro e w1 ⟨rfl, rfl⟩
          rw [H1.out]
          go_wp2_with fail
          refine (clStands_any _ _ _ _ _ _ _ _ B _ hw (by omega)).mono ?_
          rintro e w1 ⟨rfl, hb1⟩
          rw [H2.out]
          go_wp2_with fail
          go_ret
          exact ⟨ret_bool (climb_no2 H.out E.out H2.out), HB.out.trans (hb1.mono (by omega))⟩
        · have hs := stand_le h2
          have hs1 : v + x ≤ st := hs.2
          have H2 := Lib.hid h2
          clear h2 hs
          go_wp2_with fail
          refine (l1Has_any _ _ _ _ _ _ hw.rs h.ns).mono ?_
          rintro e w1 ⟨rfl, rfl⟩
          rw [H1.out]
          go_wp2_with fail
          refine (clStands_any _ _ _ _ _ _ _ _ B _ hw (by omega)).mono ?_
          rintro e w1 ⟨rfl, hb1⟩
          rw [H2.out]
          go_wp2_with fail
          go_roundw
          case rel => exact ⟨k + 1, v + x, by omega, by omega, hs1, by go_num, rfl, climb_step H.out E.out H1.out H2.out, HW.out.trans (hb1.mono (by omega))⟩
          case measure => simp [intOf]; omega
    · by_cases hv : v = st
      · subst hv
        go_wp2_with fail
        go_ret
        exact ⟨ret_bool (by rw [H.out, climbB_end _ _ _ _ _ _ hlt]; simp), HB.out⟩
      · go_wp2_with fail
        go_ret
        exact ⟨ret_bool (by rw [H.out, climbB_end _ _ _ _ _ _ hlt]; simp [hv]), HB.out⟩
  
end Go.Proofs.Ytimgnollnnepbaa
