/- Contracts: lists of doors and their floors, on both sides. -/
import Derived.Test.YtmamcjnehnknmaaHoPlace
import Derived.Test.YtmamcjnehnknmaaGMake
namespace Go.Proofs.Ytmamcjnehnknmaa
open Go.RowKit

def orL (b : Bool) (xs : List Int) : List Int := if b then xs else []
theorem orL_no (xs : List Int) : orL false xs = [] := rfl
theorem orL_yes (xs : List Int) : orL true xs = xs := rfl
theorem orL_length {b : Bool} {xs : List Int} {n : Nat} (h : b = true → xs.length ≤ n) : (orL b xs).length ≤ n := by
  cases b
  · simp [orL]
  · exact h rfl
/-- a valid house and a list of doors of it -/
def listB (ss bs ds : List Int) : Bool := goodH ss bs && (inB ds.length 1 20 && allB 1 (sumH bs) ds)
theorem listB_1 {ss bs ds : List Int} (h : goodH ss bs = false) : listB ss bs ds = false := by simp [listB, h]
theorem listB_2 {ss bs ds : List Int} (h : inB ds.length 1 20 = false) : listB ss bs ds = false := by simp [listB, h]
theorem listB_3 {ss bs ds : List Int} (h : goodH ss bs = true) (h2 : inB ds.length 1 20 = true) : listB ss bs ds = allB 1 (sumH bs) ds := by simp [listB, h, h2]
structure GoodD (ss bs ds : List Int) : Prop where
  g : GoodH ss bs
  n0 : 1 ≤ ds.length
  n1 : ds.length ≤ 20
  hd : ∀ k, k < ds.length → 1 ≤ ds.getD k 0 ∧ ds.getD k 0 ≤ sumH bs
theorem listB_good {ss bs ds : List Int} (h : listB ss bs ds = true) : GoodD ss bs ds := by
  simp only [listB, Bool.and_eq_true] at h
  have := inB_le h.2.1
  exact ⟨goodH_of h.1, by omega, by omega, fun k hk => allB_at h.2.2 hk⟩
theorem allB_of {lo hi : Int} : ∀ {xs : List Int}, (∀ k, k < xs.length → inB (xs.getD k 0) lo hi = true) → allB lo hi xs = true
  | [], _ => rfl
  | x :: r, h => by
    have h0 := h 0 (by simp)
    have hr := allB_of (xs := r) (fun k hk => by have := h (k + 1) (by simpa using hk); simpa using this)
    simp at h0
    simp [allB, h0, hr]
theorem listB_all {ss bs ds : List Int} (h : inB ds.length 1 20 = true) (hd : ∀ j, j < ds.length → doorB ss bs (ds.getD j 0) = true) : listB ss bs ds = true := by
  have hn := inB_le h
  have h0 := hd 0 (by omega)
  simp only [doorB, Bool.and_eq_true] at h0
  rw [listB_3 h0.1 h]
  exact allB_of fun k hk => by
    have := hd k hk
    simp only [doorB, Bool.and_eq_true] at this
    exact this.2
theorem listB_not {ss bs ds : List Int} {k : Nat} (hk : k < ds.length) (h : doorB ss bs (ds.getD k 0) = false) : listB ss bs ds = false := by
  cases hl : listB ss bs ds
  · rfl
  · simp only [listB, Bool.and_eq_true] at hl
    have := allB_at hl.2.2 hk
    rw [doorB, hl.1, inB_yes this.1 this.2] at h
    cases h
/-- the floors of doors -/
def flL (bs ds : List Int) : List Int := ds.map fun d => ((pf bs d : Nat) : Int)
theorem flL_length (bs ds : List Int) : (flL bs ds).length = ds.length := by simp [flL]
theorem flL_getD {bs ds : List Int} {k : Nat} (h : k < ds.length) : (flL bs ds).getD k 0 = (pf bs (ds.getD k 0) : Nat) := by simp [flL, List.getD_eq_getElem?_getD, h]
theorem pf_lt : ∀ {xs : List Int} {n : Int}, 1 ≤ n → n ≤ sumH xs → pf xs n < xs.length
  | [], n, h1, h2 => by simp [sumH] at h2; omega
  | x :: r, n, h1, h2 => by
    simp only [sumH] at h2
    simp only [pf, List.length_cons]
    split
    · have := pf_lt (xs := r) (n := n - x) (by omega) (by omega); omega
    · omega
theorem GoodD.fl {ss bs ds : List Int} (G : GoodD ss bs ds) {k : Nat} (h : k < ds.length) : ∃ a : Nat, (flL bs ds).getD k 0 = a ∧ a ≤ ss.length := by
  have h2 := G.hd k h
  have := pf_lt h2.1 h2.2
  have := G.g.nb
  exact ⟨_, flL_getD h, by omega⟩

set_option maxHeartbeats 800000 in
theorem ldList_any (A A' : Option Addr) (c c' : Nat) (ss bs : List Int) (Z : Option Addr) (d : Nat) (ds : List Int) (B : Nat) (w : World) (h : Ho w B A A' c c' ss bs) (hB : B ≤ w.heap.size) (hz : Rd w B Z d ds) (hn : ds.length ≤ 1048576) :
    Calls Try.prog 43 #[.agg #[.slice A ss.length c, .slice A' bs.length c'], .slice Z ds.length d] w (Plain (.bool (listB ss bs ds)) w) := by
  cases g : goodH ss bs
  · rw [listB_1 g]
    have H := Lib.hid g
    clear g
    have h1 := h.alloc hB (.cells #[.slice A ss.length c, .slice A' bs.length c'] 26)
    have X0 : Blk (w.alloc (.cells #[.slice A ss.length c, .slice A' bs.length c'] 26)) w.heap.size 26 #[.slice A ss.length c, .slice A' bs.length c'] := Blk.new _ _ _
    have hns := h.ns
    have hnb := h.nb
    have hcs := h.rs.1
    have hcb := h.rb.1
    go_enter Try.func43, Try.ntmps43
    go_wp2_with fail
    refine (ldGood_any _ _ _ _ _ _ B _ h1 (by simp; omega)).mono ?_
    rintro e w1 ⟨rfl, hb⟩
    have Bt : Below w.heap.size w w1 := (below_alloc _ _).trans (hb.mono (by simp))
    have hs : w.heap.size + 1 ≤ w1.heap.size := by have := hb.size; simp at this; omega
    replace h1 := h1.below hb (by simp; omega)
    replace X0 := X0.below hb (by simp)
    clear hb
    obtain ⟨p0, p1⟩ := X0.two
    rw [H.out]
    go_wp2_with fail
    go_ret
    exact ⟨rfl, Bt⟩
  · cases g2 : inB ds.length 1 20
    · rw [listB_2 g2]
      have H := Lib.hid g
      have H2 := Lib.hid g2
      clear g g2
      have h1 := h.alloc hB (.cells #[.slice A ss.length c, .slice A' bs.length c'] 26)
      have X0 : Blk (w.alloc (.cells #[.slice A ss.length c, .slice A' bs.length c'] 26)) w.heap.size 26 #[.slice A ss.length c, .slice A' bs.length c'] := Blk.new _ _ _
      have hns := h.ns
      have hnb := h.nb
      have hcs := h.rs.1
      have hcb := h.rb.1
      go_enter Try.func43, Try.ntmps43
      go_wp2_with fail
      refine (ldGood_any _ _ _ _ _ _ B _ h1 (by simp; omega)).mono ?_
      rintro e w1 ⟨rfl, hb⟩
      have Bt : Below w.heap.size w w1 := (below_alloc _ _).trans (hb.mono (by simp))
      have hs : w.heap.size + 1 ≤ w1.heap.size := by have := hb.size; simp at this; omega
      replace h1 := h1.below hb (by simp; omega)
      replace X0 := X0.below hb (by simp)
      clear hb
      obtain ⟨p0, p1⟩ := X0.two
      rw [H.out]
      go_wp2_with fail
      refine (l1In_any _ _ _ _).mono ?_
      rintro e w' ⟨rfl, rfl⟩
      rw [H2.out]
      go_wp2_with fail
      go_ret
      exact ⟨rfl, Bt⟩
    · rw [listB_3 g g2]
      have G := goodH_of g
      have hl1 := G.n1
      have hl2 : bs.length ≤ 12 := by have := G.nb; omega
      have H := Lib.hid g
      have H2 := Lib.hid g2
      clear g g2
      have h1 := h.alloc hB (.cells #[.slice A ss.length c, .slice A' bs.length c'] 26)
      have X0 : Blk (w.alloc (.cells #[.slice A ss.length c, .slice A' bs.length c'] 26)) w.heap.size 26 #[.slice A ss.length c, .slice A' bs.length c'] := Blk.new _ _ _
      have hns := h.ns
      have hnb := h.nb
      have hcs := h.rs.1
      have hcb := h.rb.1
      go_enter Try.func43, Try.ntmps43
      go_wp2_with fail
      refine (ldGood_any _ _ _ _ _ _ B _ h1 (by simp; omega)).mono ?_
      rintro e w1 ⟨rfl, hb⟩
      have Bt : Below w.heap.size w w1 := (below_alloc _ _).trans (hb.mono (by simp))
      have hs : w.heap.size + 1 ≤ w1.heap.size := by have := hb.size; simp at this; omega
      replace h1 := h1.below hb (by simp; omega)
      replace X0 := X0.below hb (by simp)
      replace hz := (hz.below (below_alloc _ _) hB).below hb (by simp; omega)
      clear hb
      obtain ⟨p0, p1⟩ := X0.two
      rw [H.out]
      go_wp2_with fail
      refine (l1In_any _ _ _ _).mono ?_
      rintro e w' ⟨rfl, rfl⟩
      rw [H2.out]
      go_wp2_with fail
      refine (ldSum_any _ _ _ bs B _ rfl h1.rb (by omega) G.d).mono ?_
      rintro e w' ⟨rfl, rfl⟩
      go_wp2_with fail
      refine (l1All_any _ _ _ _ _ B _ hz hn).mono ?_
      rintro e w' ⟨rfl, rfl⟩
      go_wp2_with fail
      go_ret
      exact ⟨rfl, Bt⟩

set_option maxHeartbeats 2000000 in
theorem floors_any (A A' Z : Option Addr) (c c' d : Nat) (ss bs ds : List Int) (B : Nat) (w : World) (h : Ho w B A A' c c' ss bs) (hB : B ≤ w.heap.size) (hz : Rd w B Z d ds) (hn : ds.length ≤ 1048576) :
    Calls Try.prog 45 #[.agg #[.slice A ss.length c, .slice A' bs.length c'], .slice Z ds.length d] w (Lists w (orL (listB ss bs ds) (flL bs ds)) (listB ss bs ds)) := by
  cases g : inB ds.length 1 20
  · rw [listB_2 g, orL_no]
    have H := Lib.hid g
    clear g
    go_enter Try.func45, Try.ntmps45
    go_wp2_with fail
    refine (isWithin_any _ _ _ _).mono ?_
    rintro e w' ⟨rfl, rfl⟩
    rw [H.out]
    go_wp2_with fail
    go_ret2
    exact ⟨_, rfl, OwnI.nil _ _, below_alloc _ _⟩
  · have H := Lib.hid g
    have hb := inB_le g
    have hl1 : 1 ≤ ds.length := by omega
    have hl2 : ds.length ≤ 20 := by omega
    clear g hb
    have hmk := make_run ds.length (by omega)
    have hfl := Lib.hid (flL_length bs ds)
    have X0 : Blk ((w.alloc (.cells #[.slice A ss.length c, .slice A' bs.length c'] 26)).alloc (.cells (ints (List.replicate ds.length 0)) 3)) w.heap.size 26 #[.slice A ss.length c, .slice A' bs.length c'] := (Blk.new _ _ _).alloc _
    have XF : Blk ((w.alloc (.cells #[.slice A ss.length c, .slice A' bs.length c'] 26)).alloc (.cells (ints (List.replicate ds.length 0)) 3)) (w.heap.size + 1) 3 (fill (flL bs ds) 0) := by
      have e : fill (flL bs ds) 0 = ints (List.replicate ds.length 0) := by simp [fill, flL_length]
      rw [e]
      exact Blk.new' (by simp)
    have B0 : Below w.heap.size w ((w.alloc (.cells #[.slice A ss.length c, .slice A' bs.length c'] 26)).alloc (.cells (ints (List.replicate ds.length 0)) 3)) := (below_alloc _ _).alloc (by simp) _
    go_enter Try.func45, Try.ntmps45
    go_wp2_with fail
    refine (isWithin_any _ _ _ _).mono ?_
    rintro e w' ⟨rfl, rfl⟩
    rw [H.out]
    go_wp2_with fail
    go_loopw [20] (fun i wr => ∃ k : Nat, k ≤ ds.length ∧ i = .int .i64 k ∧ Blk wr (w.heap.size + 1) 3 (fill (flL bs ds) k) ∧ Blk wr w.heap.size 26 #[.slice A ss.length c, .slice A' bs.length c'] ∧ Below w.heap.size w wr ∧ Hid (∀ j, j < k → doorB ss bs (ds.getD j 0) = true)) (fun i _ => ds.length - (intOf i).toNat)
    case atStart => exact ⟨0, Nat.zero_le _, rfl, XF, X0, B0, fun j hj => absurd hj (by omega)⟩
    case round =>
      clear X0 XF B0 hmk
      obtain ⟨k, hk, rfl, hF, hX, hbw, HD⟩ := hrel
      have hFl := hF.lt
      have hXl := hX.lt
      by_cases hlt : k < ds.length
      · obtain ⟨b, o, rfl, hb0, hcell⟩ := (hz.below hbw hB).at_ hlt
        obtain ⟨p0, p1⟩ := hX.two
        have HFD := Lib.hid (flL_getD (bs := bs) hlt)
        have HFS := Lib.hid (fill_set (flL bs ds) k (by rw [hfl.out]; exact hlt))
        have HNO := Lib.hid (fun hx => listB_not (ss := ss) (bs := bs) hlt hx)
        have HDN : Hid (doorB ss bs (ds.getD k 0) = true → ∀ j, j < k + 1 → doorB ss bs (ds.getD j 0) = true) := fun hx j hj => by
          rcases Nat.lt_succ_iff_lt_or_eq.1 hj with h | rfl
          · exact HD.out j h
          · exact hx
        generalize ds.getD k 0 = x at *
        go_wp2_with fail
        refine (implFloorOfDoor_any _ _ _ _ _ _ _ B _ (h.below hbw hB) (by omega)).mono ?_
        rintro e w2 ⟨rfl, hb⟩
        have hF2 := hF.below hb hFl
        have hX2 := hX.below hb hXl
        have hbw2 := hbw.trans (hb.mono (by omega))
        cases hd : doorB ss bs x
        · rw [orI_no]
          have HL := Lib.hid (HNO.out hd)
          go_wp2_with fail
          go_ret2
          rw [HL.out, orL_no]
          exact ⟨_, rfl, OwnI.nil _ _, hbw2⟩
        · rw [orI_yes]
          have HDN2 := HDN.out hd
          have hf1 := fill_at (flL bs ds) k (by rw [hfl.out]; exact hlt)
          have hc1 : w2.cell? ⟨w.heap.size + 1, k, none⟩ = some (.int .i64 0) := by rw [hF2.cell]; exact hf1
          have hc2 := hF2.frozen k
          rw [HFD.out] at HFS
          clear hf1 HDN HNO hd p0 p1
          generalize ((pf bs x : Nat) : Int) = y at *
          go_wp2_with fail
          go_roundw
          case rel => exact ⟨k + 1, by omega, by go_num, by rw [← HFS.out]; exact hF2.set_ k _, hX2.far (by simp) _, hbw2.setCell (by simp) _, HDN2⟩
          case measure => simp [intOf]; omega
      · obtain rfl : k = ds.length := by omega
        have HL := Lib.hid (listB_all H.out HD.out)
        have hO : OwnI wr (w.heap.size + 1) (.slice (some ⟨w.heap.size + 1, 0, none⟩) ds.length ds.length) (flL bs ds) := by
          have e : fill (flL bs ds) ds.length = ints (flL bs ds) := by
            have := fill_end (flL bs ds)
            rwa [hfl.out] at this
          rw [e] at hF
          have := hF.own (by rw [hfl.out]; omega)
          rwa [hfl.out] at this
        go_wp2_with fail
        go_ret2
        rw [HL.out, orL_yes]
        exact ⟨_, rfl, hO.mono (by omega), hbw⟩

end Go.Proofs.Ytmamcjnehnknmaa
