/- Contracts: bears behind climbs, on both sides. -/
import Derived.Test.YtniiiimjgamibaaWearIs
import Derived.Test.YtniiiimjgamibaaGOwn
namespace Go.Proofs.Ytniiiimjgamibaa
open Go.RowKit

/-- behind the first k steps of a climb -/
def wornK (xs cs : List Int) : Nat → List Int
  | 0 => xs
  | k + 1 => (wornK xs cs k).set (cs.getD k 0 - 1).toNat ((wornK xs cs k).getD (cs.getD k 0 - 1).toNat 0 - 1)
def wornX (xs cs : List Int) : List Int := wornK xs cs cs.length
theorem wornK_length (xs cs : List Int) : ∀ k, (wornK xs cs k).length = xs.length
  | 0 => rfl
  | k + 1 => by rw [wornK, List.length_set, wornK_length xs cs k]
theorem wornX_length (xs cs : List Int) : (wornX xs cs).length = xs.length := wornK_length _ _ _
theorem getD_set2 (ys : List Int) (k j : Nat) (v : Int) : (ys.set k v).getD j 0 = if j = k ∧ k < ys.length then v else ys.getD j 0 := by
  by_cases hk : k < ys.length
  · rw [getD_set _ _ _ _ hk]; simp [hk]
  · rw [List.set_eq_of_length_le (by omega), if_neg (by omega)]
theorem wornK_bd (xs cs : List Int) : ∀ (k j : Nat), xs.getD j 0 - (k : Int) ≤ (wornK xs cs k).getD j 0 ∧ (wornK xs cs k).getD j 0 ≤ xs.getD j 0
  | 0, j => by simp only [wornK]; omega
  | k + 1, j => by
    have ih := wornK_bd xs cs k
    rw [wornK, getD_set2]
    split
    · next h => have := ih j; rw [h.1] at this ⊢; omega
    · have := ih j; omega
theorem wclB_mem {xs : List Int} {r : Int} : ∀ {cs : List Int} {v : Int}, 0 ≤ v → wclB xs r v cs = true → ∀ s ∈ cs, 1 ≤ s ∧ s ≤ xs.length
  | [], _, _, _, s, hs => by simp at hs
  | x :: t, v, hv, h, s, hs => by
    simp only [wclB, Bool.and_eq_true] at h
    have h1 := in_least h.1.1
    rcases List.mem_cons.1 hs with rfl | hs
    · omega
    · exact wclB_mem (v := x) (by omega) h.2 s hs
theorem wclB_at {xs cs : List Int} {r : Int} (h : wclB xs r 0 cs = true) {k : Nat} (hk : k < cs.length) : 1 ≤ cs.getD k 0 ∧ cs.getD k 0 ≤ xs.length := by
  refine wclB_mem (Int.le_refl _) h _ ?_
  simp [List.getD_eq_getElem?_getD, hk]

set_option maxHeartbeats 1000000 in
theorem weBy_any (A Z : Option Addr) (c d : Nat) (xs cs : List Int) (r : Int) (B : Nat) (w : World) (hr : Rd w B A c xs) (hc : Rd w B Z d cs) (hB : B ≤ w.heap.size) (hl1 : 1 ≤ xs.length) (hl : xs.length ≤ 20) (hn : cs.length ≤ 1048576) (hx : ∀ b, b < xs.length → 0 ≤ xs.getD b 0 ∧ xs.getD b 0 ≤ 100) (hw : wclB xs r 0 cs = true) :
    Calls Try.prog 18 #[.slice A xs.length c, .slice Z cs.length d] w fun e w' => ∃ v, e = .returned v ∧ OwnI w' w.heap.size v (wornX xs cs) ∧ Below w.heap.size w w' := by
  have HX := Lib.hid hx
  have HW := Lib.hid hw
  obtain ⟨m, hm⟩ : ∃ m, m = xs.length := ⟨_, rfl⟩
  have HM := Lib.hid hm
  clear hx hw
  go_enter Try.func18, Try.ntmps18
  go_wp2_with fail
  refine (l1Own_any _ _ _ _ _ hr hB (by omega)).mono ?_
  rintro e w1 ⟨v, rfl, hown1, hb1⟩
  obtain ⟨g, c1, hvv, hg1, hg2⟩ := hown1.block (by omega)
  subst hvv
  rw [← hm] at hown1 hl hl1
  rw [← hm]
  clear hm
  go_wp2_with fail
  go_loopw [12] (fun i wr => ∃ k : Nat, k ≤ cs.length ∧ i = .int .i64 k ∧ OwnI wr w.heap.size (.slice (some ⟨g, 0, none⟩) m c1) (wornK xs cs k) ∧ Below w.heap.size w wr) (fun i _ => cs.length - (intOf i).toNat)
  case atStart => exact ⟨0, by omega, rfl, hown1, hb1⟩
  case round =>
    obtain ⟨k, hk, rfl, hown, hbw⟩ := hrel
    by_cases hlt : k < cs.length
    · obtain ⟨b, o, rfl, hb, hcell⟩ := (hc.below hbw hB).at_ hlt
      have hs := wclB_at HW.out hlt
      have hml : m = (wornK xs cs k).length := by rw [wornK_length, ← HM.out]
      have hs' := hs
      rw [← HM.out] at hs'
      obtain ⟨p, hpe⟩ : ∃ p : Nat, cs.getD k 0 = (p : Int) + 1 := ⟨(cs.getD k 0 - 1).toNat, by omega⟩
      have hpt : (cs.getD k 0 - 1).toNat = p := by omega
      have hp : p < m := by omega
      rw [hpe] at hcell
      have k1 := hown.cell hml (j := p) (by rw [← hml]; exact hp)
      have f1 := hown.frozen hml p
      have O1 := Lib.hid (hown.set hml p ((wornK xs cs k).getD p 0 - 1))
      have hbd := wornK_bd xs cs k p
      have hxb := HX.out p (by rw [← HM.out]; exact hp)
      have HS := Lib.hid (show (wornK xs cs k).set p ((wornK xs cs k).getD p 0 - 1) = wornK xs cs (k + 1) by rw [wornK, hpt])
      have HB3 := Lib.hid hbw
      clear hown hbw hml hs hs' hpe hpt
      generalize (wornK xs cs k).getD p 0 = y at *
      generalize xs.getD p 0 = x0 at *
      go_wp2_with fail
      go_roundw
      case rel => exact ⟨k + 1, by omega, by go_num, by rw [← HS.out]; exact O1.out.1, HB3.out.setCell (p := ⟨g, p, none⟩) (by show _ ≤ g; omega) _⟩
      case measure => simp [intOf]; omega
    · obtain rfl : k = cs.length := by omega
      go_wp2_with fail
      go_ret
      exact ⟨_, rfl, hown, hbw⟩

def byB (xs : List Int) (n : Int) (cs : List Int) : Bool := reachB xs n && wclB xs n 0 cs
def byR (xs : List Int) (n : Int) (cs : List Int) : List Int := if byB xs n cs then wornX xs cs else []
theorem byR_length (xs : List Int) (n : Int) (cs : List Int) (h : xs.length ≤ 1048576) : (byR xs n cs).length ≤ 1048576 := by
  unfold byR
  split
  · rw [wornX_length]; exact h
  · simp
theorem allB_at' {lo hi : Int} : ∀ {xs : List Int}, allB lo hi xs = true → ∀ b, b < xs.length → lo ≤ xs.getD b 0 ∧ xs.getD b 0 ≤ hi
  | [], _, b, h => by simp at h
  | x :: xs, ha, 0, _ => by
    simp only [allB, Bool.and_eq_true] at ha
    simpa using inB_le ha.1
  | x :: xs, ha, b + 1, h => by
    simp only [allB, Bool.and_eq_true] at ha
    simpa using allB_at' ha.2 b (by simpa using h)
theorem bears_at' {xs : List Int} (h : bearsB xs = true) (b : Nat) (hb : b < xs.length) : 0 ≤ xs.getD b 0 ∧ xs.getD b 0 ≤ 100 := by
  simp only [bearsB, Bool.and_eq_true] at h
  exact allB_at' h.2 b hb


set_option maxHeartbeats 2000000 in
theorem wearAll1_any (A Z : Option Addr) (c d : Nat) (xs cs : List Int) (n : Int) (B : Nat) (w : World) (hr : Rd w B A c xs) (hc : Rd w B Z d cs) (hB : B ≤ w.heap.size) (hn : xs.length ≤ 1048576) (hm : cs.length ≤ 1048576) (q : Nat) (hq : q < w.heap.size) (hqc : w.cell? ⟨q, 0, none⟩ = some (.slice Z cs.length d)) :
    Calls Try.prog 8 #[.slice A xs.length c, .int .i64 n, .slice (some ⟨q, 0, none⟩) 1 1] w (Lists w (byR xs n cs) (byB xs n cs)) := by
  cases h : reachB xs n
  · rw [show byR xs n cs = [] by simp [byR, byB, h], show byB xs n cs = false by simp [byB, h]]
    have H := Lib.hid h
    clear h
    go_enter Try.func8, Try.ntmps8
    go_wp2_with fail
    refine (canWear_any _ _ _ _ _ _ hr hn).mono ?_
    rintro e w' ⟨rfl, rfl⟩
    rw [H.out]
    go_wp2_with fail
    go_ret2
    exact ⟨_, rfl, OwnI.nil _ _, Below.refl _ _⟩
  · have hp := reachB_le h
    have H := Lib.hid h
    have HX := Lib.hid (fun b hb => bears_at' hp.1 b hb)
    have hp2 := hp.2
    obtain ⟨m, hm0⟩ : ∃ m, m = xs.length := ⟨_, rfl⟩
    have HM := Lib.hid hm0
    rw [← hm0] at hp2
    have hnm : m ≤ 20 := by omega
    clear h hp hm0
    go_enter Try.func8, Try.ntmps8
    go_wp2_with fail
    refine (canWear_any _ _ _ _ _ _ hr hn).mono ?_
    rintro e w' ⟨rfl, rfl⟩
    rw [H.out]
    go_wp2_with (at_builtin; refine wpList_append_rd' _ rfl _ _ rfl w.heap.size B _ [] xs rfl (OwnI.nil _ _) A xs.length c rfl rfl hr (by simp; omega) (Nat.le_refl _) ?_; intro v1 w1 hown1 hb1; rw [List.nil_append] at hown1; obtain ⟨g, c1, hvv, hg1, hg2⟩ := hown1.block (by rw [← HM.out]; omega); subst hvv; rw [← HM.out] at hown1; rw [← HM.out])
    go_loopw [26] (fun i wr => ∃ k : Nat, k ≤ 1 ∧ i = .int .i64 k ∧ Below w.heap.size w wr ∧ (Hid (k = 0) ∧ OwnI wr w.heap.size (.slice (some ⟨g, 0, none⟩) m c1) xs ∨ Hid (k = 1) ∧ Hid (wclB xs n 0 cs = true) ∧ OwnI wr w.heap.size (.slice (some ⟨g, 0, none⟩) m c1) (wornX xs cs))) (fun i _ => 1 - (intOf i).toNat)
    case atStart => exact ⟨0, by omega, rfl, hb1, .inl ⟨rfl, hown1⟩⟩
    case round =>
      obtain ⟨ko, hko, rfl, hbw0, HA⟩ := hrel
      have hz0 : w.heap.size ≤ wr.heap.size := hbw0.size
      rcases HA with ⟨h0, hown⟩ | ⟨h0, HW, hown⟩
      · obtain rfl : ko = 0 := h0
        have hqc2 := (hbw0.cell (p := ⟨q, 0, none⟩) hq).trans hqc
        have hrd := hown.rd
        have hcd := (hc.below hbw0 hB).more (show B ≤ wr.heap.size by omega)
        have HLU := leadsUp_any (some ⟨g, 0, none⟩) Z c1 d xs cs n wr.heap.size wr hrd hcd (by rw [← HM.out]; omega) hm (by omega) (by omega)
        rw [← HM.out] at HLU
        obtain ⟨wo, rfl⟩ : ∃ wo : World, wo = wr := ⟨_, rfl⟩
        cases h1 : wclB xs n 0 cs
        · have HB0 := Lib.hid (show byB xs n cs = false by simp [byB, h1])
          have HR0 := Lib.hid (show byR xs n cs = [] by simp [byR, byB, h1])
          have H1 := Lib.hid h1
          clear h1
          go_wp2_with fail
          refine HLU.mono ?_
          rintro e w' ⟨rfl, rfl⟩
          rw [H1.out]
          go_wp2_with fail
          go_ret2
          exact ⟨_, by rw [HB0.out]; rfl, by rw [HR0.out]; exact OwnI.nil _ _, hbw0⟩
        · have HW := Lib.hid h1
          clear h1
          go_wp2_with fail
          refine HLU.mono ?_
          rintro e w' ⟨rfl, rfl⟩
          rw [HW.out]
          clear HLU hrd
          go_wp2_with fail
          go_loopw [37] (fun i wr => ∃ k : Nat, k ≤ cs.length ∧ i = .int .i64 k ∧ OwnI wr w.heap.size (.slice (some ⟨g, 0, none⟩) m c1) (wornK xs cs k) ∧ Below w.heap.size w wr) (fun i _ => cs.length - (intOf i).toNat)
          case atStart => exact ⟨0, by omega, rfl, hown, hbw0⟩
          case round =>
            obtain ⟨k, hk, rfl, hown, hbw⟩ := hrel
            by_cases hlt : k < cs.length
            · obtain ⟨b, o, rfl, hb, hcell⟩ := (hc.below hbw hB).at_ hlt
              have hs := wclB_at HW.out hlt
              have hml : m = (wornK xs cs k).length := by rw [wornK_length, ← HM.out]
              have hs' := hs
              rw [← HM.out] at hs'
              obtain ⟨p, hpe⟩ : ∃ p : Nat, cs.getD k 0 = (p : Int) + 1 := ⟨(cs.getD k 0 - 1).toNat, by omega⟩
              have hpt : (cs.getD k 0 - 1).toNat = p := by omega
              have hp : p < m := by omega
              rw [hpe] at hcell
              have k1 := hown.cell hml (j := p) (by rw [← hml]; exact hp)
              have f1 := hown.frozen hml p
              have O1 := Lib.hid (hown.set hml p ((wornK xs cs k).getD p 0 - 1))
              have hbd := wornK_bd xs cs k p
              have hxb := HX.out p (by rw [← HM.out]; exact hp)
              have HS := Lib.hid (show (wornK xs cs k).set p ((wornK xs cs k).getD p 0 - 1) = wornK xs cs (k + 1) by rw [wornK, hpt])
              have HB3 := Lib.hid hbw
              clear hown hbw hml hs hs' hpe hpt
              generalize (wornK xs cs k).getD p 0 = y at *
              generalize xs.getD p 0 = x0 at *
              go_wp2_with fail
              go_roundw
              case rel => exact ⟨k + 1, by omega, by go_num, by rw [← HS.out]; exact O1.out.1, HB3.out.setCell (p := ⟨g, p, none⟩) (by show _ ≤ g; omega) _⟩
              case measure => simp [intOf]; omega
            · obtain rfl : k = cs.length := by omega
              go_wp2_with fail
              go_roundw
              case rel => exact ⟨1, by omega, rfl, hbw, .inr ⟨rfl, (by first | exact HW | exact Lib.hid trivial), hown⟩⟩
              case measure => simp [intOf]
      · obtain rfl : ko = 1 := h0
        have HB0 := Lib.hid (show byB xs n cs = true by simp [byB, H.out, HW.out])
        have HR0 := Lib.hid (show byR xs n cs = wornX xs cs by simp [byR, byB, H.out, HW.out])
        go_wp2_with fail
        go_ret2
        exact ⟨_, by rw [HB0.out]; rfl, by rw [HR0.out]; exact hown, hbw0⟩


end Go.Proofs.Ytniiiimjgamibaa
