/- Contracts: doors of floors, stairs above, landings, on both sides. -/
import Derived.Test.YtddeeebjbbnalaaHoFloor
import Derived.BigQuiet
import Derived.Deep.QuietTactic
namespace Go.Proofs.Ytddeeebjbbnalaa
open Go.RowKit

/-- a floor with a door -/
def dfB (ss bs : List Int) (x : Int) : Bool := floorB ss bs x && !decide (bs.getD x.toNat 0 = 0)
theorem dfB_1 {ss bs : List Int} {x : Int} (h : floorB ss bs x = false) : dfB ss bs x = false := by simp [dfB, h]
theorem dfB_2 {ss bs : List Int} {x : Int} (h : bs.getD x.toNat 0 = 0) : dfB ss bs x = false := by simp only [dfB, h, decide_true, Bool.not_true, Bool.and_false]
theorem dfB_3 {ss bs : List Int} {x : Int} (h : floorB ss bs x = true) (h2 : ¬ bs.getD x.toNat 0 = 0) : dfB ss bs x = true := by simp only [dfB, h, h2, decide_false, Bool.not_false, Bool.and_true]

set_option maxHeartbeats 800000 in
theorem specDoorsOfFloor_any (A A' : Option Addr) (c c' : Nat) (ss bs : List Int) (x : Int) (B : Nat) (w : World) (h : Ho w B A A' c c' ss bs) (hB : B ≤ w.heap.size) :
    Calls Try.prog 40 #[.agg #[.slice A ss.length c, .slice A' bs.length c'], .int .i64 x] w (Plain (.tuple #[.int .i64 (orI (dfB ss bs x) (sumH (bs.take x.toNat) + 1)), .int .i64 (orI (dfB ss bs x) (sumH (bs.take x.toNat) + bs.getD x.toNat 0)), .bool (dfB ss bs x)]) w) := by
  cases g : floorB ss bs x
  · rw [dfB_1 g, orI_no, orI_no]
    have H := Lib.hid g
    clear g
    have h1 := h.alloc hB (.cells #[.slice A ss.length c, .slice A' bs.length c'] 27)
    have X0 : Blk (w.alloc (.cells #[.slice A ss.length c, .slice A' bs.length c'] 27)) w.heap.size 27 #[.slice A ss.length c, .slice A' bs.length c'] := Blk.new _ _ _
    have hns := h.ns
    have hnb := h.nb
    have hcs := h.rs.1
    have hcb := h.rb.1
    go_enter Try.func40, Try.ntmps40
    go_wp2_with fail
    refine (ldFloor_any _ _ _ _ _ _ _ B _ h1 (by simp; omega)).mono ?_
    rintro e w1 ⟨rfl, hb⟩
    have Bt : Below w.heap.size w w1 := (below_alloc _ _).trans (hb.mono (by simp))
    have hs : w.heap.size + 1 ≤ w1.heap.size := by have := hb.size; simp at this; omega
    replace h1 := h1.below hb (by simp; omega)
    replace X0 := X0.below hb (by simp)
    clear hb
    obtain ⟨p0, p1⟩ := X0.two
    rw [H.out]
    go_wp2_with fail
    go_ret3
    exact ⟨rfl, Bt⟩
  · obtain ⟨gg, a, rfl, ha⟩ := floorB_good g
    have G := goodH_of gg
    have H := Lib.hid g
    have hl1 := G.n1
    have hl2 : bs.length = ss.length + 1 := G.nb
    have hl3 := Lib.hid hl2
    have hl4 : bs.length ≤ ss.length + 1 := by omega
    have hl5 : ss.length + 1 ≤ bs.length := by omega
    clear hl2
    by_cases hz : bs.getD (a : Int).toNat 0 = 0
    · rw [dfB_2 hz, orI_no, orI_no]
      clear g gg
      rw [Int.toNat_natCast] at hz
      have h1 := h.alloc hB (.cells #[.slice A ss.length c, .slice A' bs.length c'] 27)
      have X0 : Blk (w.alloc (.cells #[.slice A ss.length c, .slice A' bs.length c'] 27)) w.heap.size 27 #[.slice A ss.length c, .slice A' bs.length c'] := Blk.new _ _ _
      have hns := h.ns
      have hnb := h.nb
      have hcs := h.rs.1
      have hcb := h.rb.1
      go_enter Try.func40, Try.ntmps40
      go_wp2_with fail
      refine (ldFloor_any _ _ _ _ _ _ _ B _ h1 (by simp; omega)).mono ?_
      rintro e w1 ⟨rfl, hb⟩
      have Bt : Below w.heap.size w w1 := (below_alloc _ _).trans (hb.mono (by simp))
      have hs : w.heap.size + 1 ≤ w1.heap.size := by have := hb.size; simp at this; omega
      replace h1 := h1.below hb (by simp; omega)
      replace X0 := X0.below hb (by simp)
      clear hb
      obtain ⟨p0, p1⟩ := X0.two
      rw [H.out]
      obtain ⟨b, o, rfl, hb0, hcell⟩ := h1.rb.at_ (k := a) (by omega)
      rw [hz] at hcell
      clear hz
      go_wp2_with fail
      go_ret3
      exact ⟨rfl, Bt⟩
    · rw [dfB_3 g hz, orI_yes, orI_yes]
      clear g gg
      rw [Int.toNat_natCast] at hz ⊢
      have hd := G.d
      have hya := hd a (by omega)
      have hS := sumH_bd (m := 20) (by omega) (fun k hk => G.hb k hk) a (by omega)
      have h1 := h.alloc hB (.cells #[.slice A ss.length c, .slice A' bs.length c'] 27)
      have X0 : Blk (w.alloc (.cells #[.slice A ss.length c, .slice A' bs.length c'] 27)) w.heap.size 27 #[.slice A ss.length c, .slice A' bs.length c'] := Blk.new _ _ _
      have hns := h.ns
      have hnb := h.nb
      have hcs := h.rs.1
      have hcb := h.rb.1
      go_enter Try.func40, Try.ntmps40
      go_wp2_with fail
      refine (ldFloor_any _ _ _ _ _ _ _ B _ h1 (by simp; omega)).mono ?_
      rintro e w1 ⟨rfl, hb⟩
      have Bt : Below w.heap.size w w1 := (below_alloc _ _).trans (hb.mono (by simp))
      have hs : w.heap.size + 1 ≤ w1.heap.size := by have := hb.size; simp at this; omega
      replace h1 := h1.below hb (by simp; omega)
      replace X0 := X0.below hb (by simp)
      clear hb
      obtain ⟨p0, p1⟩ := X0.two
      rw [H.out]
      have hrt := h1.rb.take (k := a) (by omega)
      obtain ⟨b, o, rfl, hb0, hcell⟩ := h1.rb.at_ (k := a) (by omega)
      have GD := Lib.hid (take_bd hd a)
      have G1 := Lib.hid G
      clear G
      generalize hy : bs.getD a 0 = y at *
      have HY := Lib.hid hy
      clear hy
      go_wp2_with fail
      refine (ldSum_any _ _ _ (bs.take a) B _ (by simp; omega) hrt (by first | omega | (simp; omega)) GD.out).mono ?_
      rintro e w' ⟨rfl, rfl⟩
      generalize sumH (bs.take a) = s at *
      go_wp2_with fail
      go_quiet (fail)
      go_wp2_with fail
      go_ret3
      exact ⟨rfl, Below.drewN' Bt _⟩

set_option maxHeartbeats 800000 in
theorem implDoorsOfFloor_any (A A' : Option Addr) (c c' : Nat) (ss bs : List Int) (x : Int) (B : Nat) (w : World) (h : Ho w B A A' c c' ss bs) (hB : B ≤ w.heap.size) :
    Calls Try.prog 41 #[.agg #[.slice A ss.length c, .slice A' bs.length c'], .int .i64 x] w (Plain (.tuple #[.int .i64 (orI (dfB ss bs x) (sumH (bs.take x.toNat) + 1)), .int .i64 (orI (dfB ss bs x) (sumH (bs.take x.toNat) + bs.getD x.toNat 0)), .bool (dfB ss bs x)]) w) := by
  cases g : floorB ss bs x
  · rw [dfB_1 g, orI_no, orI_no]
    have H := Lib.hid g
    clear g
    have h1 := h.alloc hB (.cells #[.slice A ss.length c, .slice A' bs.length c'] 27)
    have X0 : Blk (w.alloc (.cells #[.slice A ss.length c, .slice A' bs.length c'] 27)) w.heap.size 27 #[.slice A ss.length c, .slice A' bs.length c'] := Blk.new _ _ _
    have hns := h.ns
    have hnb := h.nb
    have hcs := h.rs.1
    have hcb := h.rb.1
    go_enter Try.func41, Try.ntmps41
    go_wp2_with fail
    refine (isFloor_any _ _ _ _ _ _ _ B _ h1 (by simp; omega)).mono ?_
    rintro e w1 ⟨rfl, hb⟩
    have Bt : Below w.heap.size w w1 := (below_alloc _ _).trans (hb.mono (by simp))
    have hs : w.heap.size + 1 ≤ w1.heap.size := by have := hb.size; simp at this; omega
    replace h1 := h1.below hb (by simp; omega)
    replace X0 := X0.below hb (by simp)
    clear hb
    obtain ⟨p0, p1⟩ := X0.two
    rw [H.out]
    go_wp2_with fail
    go_ret3
    exact ⟨rfl, Bt⟩
  · obtain ⟨gg, a, rfl, ha⟩ := floorB_good g
    have G := goodH_of gg
    have H := Lib.hid g
    have hl1 := G.n1
    have hl2 : bs.length = ss.length + 1 := G.nb
    have hl3 := Lib.hid hl2
    have hl4 : bs.length ≤ ss.length + 1 := by omega
    have hl5 : ss.length + 1 ≤ bs.length := by omega
    clear hl2
    by_cases hz : bs.getD (a : Int).toNat 0 = 0
    · rw [dfB_2 hz, orI_no, orI_no]
      clear g gg
      rw [Int.toNat_natCast] at hz
      have h1 := h.alloc hB (.cells #[.slice A ss.length c, .slice A' bs.length c'] 27)
      have X0 : Blk (w.alloc (.cells #[.slice A ss.length c, .slice A' bs.length c'] 27)) w.heap.size 27 #[.slice A ss.length c, .slice A' bs.length c'] := Blk.new _ _ _
      have hns := h.ns
      have hnb := h.nb
      have hcs := h.rs.1
      have hcb := h.rb.1
      go_enter Try.func41, Try.ntmps41
      go_wp2_with fail
      refine (isFloor_any _ _ _ _ _ _ _ B _ h1 (by simp; omega)).mono ?_
      rintro e w1 ⟨rfl, hb⟩
      have Bt : Below w.heap.size w w1 := (below_alloc _ _).trans (hb.mono (by simp))
      have hs : w.heap.size + 1 ≤ w1.heap.size := by have := hb.size; simp at this; omega
      replace h1 := h1.below hb (by simp; omega)
      replace X0 := X0.below hb (by simp)
      clear hb
      obtain ⟨p0, p1⟩ := X0.two
      rw [H.out]
      obtain ⟨b, o, rfl, hb0, hcell⟩ := h1.rb.at_ (k := a) (by omega)
      rw [hz] at hcell
      clear hz
      go_wp2_with fail
      go_ret3
      exact ⟨rfl, Bt⟩
    · rw [dfB_3 g hz, orI_yes, orI_yes]
      clear g gg
      rw [Int.toNat_natCast] at hz ⊢
      have hd := G.d
      have hya := hd a (by omega)
      have hS := sumH_bd (m := 20) (by omega) (fun k hk => G.hb k hk) a (by omega)
      have h1 := h.alloc hB (.cells #[.slice A ss.length c, .slice A' bs.length c'] 27)
      have X0 : Blk (w.alloc (.cells #[.slice A ss.length c, .slice A' bs.length c'] 27)) w.heap.size 27 #[.slice A ss.length c, .slice A' bs.length c'] := Blk.new _ _ _
      have hns := h.ns
      have hnb := h.nb
      have hcs := h.rs.1
      have hcb := h.rb.1
      go_enter Try.func41, Try.ntmps41
      go_wp2_with fail
      refine (isFloor_any _ _ _ _ _ _ _ B _ h1 (by simp; omega)).mono ?_
      rintro e w1 ⟨rfl, hb⟩
      have Bt : Below w.heap.size w w1 := (below_alloc _ _).trans (hb.mono (by simp))
      have hs : w.heap.size + 1 ≤ w1.heap.size := by have := hb.size; simp at this; omega
      replace h1 := h1.below hb (by simp; omega)
      replace X0 := X0.below hb (by simp)
      clear hb
      obtain ⟨p0, p1⟩ := X0.two
      rw [H.out]
      have hrt := h1.rb.take (k := a) (by omega)
      obtain ⟨b, o, rfl, hb0, hcell⟩ := h1.rb.at_ (k := a) (by omega)
      have GD := Lib.hid (take_bd hd a)
      have G1 := Lib.hid G
      clear G
      generalize hy : bs.getD a 0 = y at *
      have HY := Lib.hid hy
      clear hy
      go_wp2_with fail
      refine (sum_any _ _ _ (bs.take a) B _ (by simp; omega) hrt (by first | omega | (simp; omega)) GD.out).mono ?_
      rintro e w' ⟨rfl, rfl⟩
      generalize sumH (bs.take a) = s at *
      go_wp2_with fail
      go_quiet (fail)
      go_wp2_with fail
      go_ret3
      exact ⟨rfl, Below.drewN' Bt _⟩

/-- a valid house and a number within bounds -/
def askH (lo : Int) (ss bs : List Int) (x : Int) : Bool := goodH ss bs && inB x lo 40
theorem askH_1 {lo : Int} {ss bs : List Int} {x : Int} (h : goodH ss bs = false) : askH lo ss bs x = false := by simp [askH, h]
theorem askH_2 {lo : Int} {ss bs : List Int} {x : Int} (h : goodH ss bs = true) : askH lo ss bs x = inB x lo 40 := by simp [askH, h]
theorem askH_good {lo : Int} {ss bs : List Int} {x : Int} (h : askH lo ss bs x = true) : GoodH ss bs ∧ (lo ≤ x ∧ x ≤ 40) := by
  simp only [askH, Bool.and_eq_true] at h
  exact ⟨goodH_of h.1, inB_le h.2⟩
def orL (b : Bool) (xs : List Int) : List Int := if b then xs else []
theorem orL_no (xs : List Int) : orL false xs = [] := rfl
theorem orL_yes (xs : List Int) : orL true xs = xs := rfl
theorem orL_length {b : Bool} {xs : List Int} {n : Nat} (h : b = true → xs.length ≤ n) : (orL b xs).length ≤ n := by
  cases b
  · simp [orL]
  · exact h rfl
/-- the first k floors from which more than x steps go up -/
def aboveL (ss : List Int) (x : Int) : Nat → List Int
  | 0 => []
  | k + 1 => if x < ss.getD k 0 then aboveL ss x k ++ [(k : Int)] else aboveL ss x k
theorem aboveL_yes {ss : List Int} {x : Int} {k : Nat} (h : x < ss.getD k 0) : aboveL ss x (k + 1) = aboveL ss x k ++ [(k : Int)] := by rw [aboveL, if_pos h]
theorem aboveL_no {ss : List Int} {x : Int} {k : Nat} (h : ¬ x < ss.getD k 0) : aboveL ss x (k + 1) = aboveL ss x k := by rw [aboveL, if_neg h]
theorem aboveL_length (ss : List Int) (x : Int) : ∀ k, (aboveL ss x k).length ≤ k
  | 0 => Nat.le_refl _
  | k + 1 => by
    have := aboveL_length ss x k
    unfold aboveL
    split
    · simp; omega
    · omega
def aboveR (ss bs : List Int) (x : Int) : List Int := orL (askH 0 ss bs x) (aboveL ss x ss.length)
theorem aboveR_length (ss bs : List Int) (x : Int) : (aboveR ss bs x).length ≤ 1048576 :=
  orL_length fun h => by
    have := aboveL_length ss x ss.length
    have := (askH_good h).1.n1
    omega

set_option maxHeartbeats 2000000 in
theorem specAbove_any (A A' : Option Addr) (c c' : Nat) (ss bs : List Int) (x : Int) (B : Nat) (w : World) (h : Ho w B A A' c c' ss bs) (hB : B ≤ w.heap.size) :
    Calls Try.prog 42 #[.agg #[.slice A ss.length c, .slice A' bs.length c'], .int .i64 x] w (Lists w (aboveR ss bs x) (askH 0 ss bs x)) := by
  unfold aboveR
  cases g : goodH ss bs
  · rw [askH_1 g, orL_no]
    have H := Lib.hid g
    clear g
    have h1 := h.alloc hB (.cells #[.slice A ss.length c, .slice A' bs.length c'] 27)
    have X0 : Blk (w.alloc (.cells #[.slice A ss.length c, .slice A' bs.length c'] 27)) w.heap.size 27 #[.slice A ss.length c, .slice A' bs.length c'] := Blk.new _ _ _
    have hns := h.ns
    have hnb := h.nb
    have hcs := h.rs.1
    have hcb := h.rb.1
    go_enter Try.func42, Try.ntmps42
    go_wp2_with fail
    refine (ldGood_any _ _ _ _ _ _ B _ h1 (by simp; omega)).mono ?_
    rintro e w1 ⟨rfl, hb⟩
    have Bt : Below w.heap.size w w1 := (below_alloc _ _).trans (hb.mono (by simp))
    have hs : w.heap.size + 1 ≤ w1.heap.size := by have := hb.size; simp at this; omega
    replace h1 := h1.below hb (by simp; omega)
    replace X0 := X0.below hb (by simp)
    clear hb
    obtain ⟨p0, p1⟩ := X0.two
    rw [H.out]
    go_wp2_with fail
    go_ret2
    exact ⟨_, rfl, OwnI.nil _ _, Bt⟩
  · rw [askH_2 g]
    have G := goodH_of g
    have H := Lib.hid g
    clear g
    have hl1 := G.n1
    have hl2 : bs.length = ss.length + 1 := G.nb
    have hl3 := Lib.hid hl2
    have hl4 : bs.length ≤ ss.length + 1 := by omega
    have hl5 : ss.length + 1 ≤ bs.length := by omega
    clear hl2
    cases g2 : inB x 0 40
    · rw [orL_no]
      have H2 := Lib.hid g2
      clear g2
      have h1 := h.alloc hB (.cells #[.slice A ss.length c, .slice A' bs.length c'] 27)
      have X0 : Blk (w.alloc (.cells #[.slice A ss.length c, .slice A' bs.length c'] 27)) w.heap.size 27 #[.slice A ss.length c, .slice A' bs.length c'] := Blk.new _ _ _
      have hns := h.ns
      have hnb := h.nb
      have hcs := h.rs.1
      have hcb := h.rb.1
      go_enter Try.func42, Try.ntmps42
      go_wp2_with fail
      refine (ldGood_any _ _ _ _ _ _ B _ h1 (by simp; omega)).mono ?_
      rintro e w1 ⟨rfl, hb⟩
      have Bt : Below w.heap.size w w1 := (below_alloc _ _).trans (hb.mono (by simp))
      have hs : w.heap.size + 1 ≤ w1.heap.size := by have := hb.size; simp at this; omega
      replace h1 := h1.below hb (by simp; omega)
      replace X0 := X0.below hb (by simp)
      clear hb
      obtain ⟨p0, p1⟩ := X0.two
      rw [H.out]
      go_wp2_with fail
      refine (l1In_any _ _ _ _).mono ?_
      rintro e w' ⟨rfl, rfl⟩
      rw [H2.out]
      go_wp2_with fail
      go_ret2
      exact ⟨_, rfl, OwnI.nil _ _, Bt⟩
    · rw [orL_yes]
      have b2 := inB_le g2
      have H2 := Lib.hid g2
      clear g2
      have h1 := h.alloc hB (.cells #[.slice A ss.length c, .slice A' bs.length c'] 27)
      have X0 : Blk (w.alloc (.cells #[.slice A ss.length c, .slice A' bs.length c'] 27)) w.heap.size 27 #[.slice A ss.length c, .slice A' bs.length c'] := Blk.new _ _ _
      have hns := h.ns
      have hnb := h.nb
      have hcs := h.rs.1
      have hcb := h.rb.1
      go_enter Try.func42, Try.ntmps42
      go_wp2_with fail
      refine (ldGood_any _ _ _ _ _ _ B _ h1 (by simp; omega)).mono ?_
      rintro e w1 ⟨rfl, hb⟩
      have Bt : Below w.heap.size w w1 := (below_alloc _ _).trans (hb.mono (by simp))
      have hs : w.heap.size + 1 ≤ w1.heap.size := by have := hb.size; simp at this; omega
      replace h1 := h1.below hb (by simp; omega)
      replace X0 := X0.below hb (by simp)
      clear hb
      obtain ⟨p0, p1⟩ := X0.two
      rw [H.out]
      go_wp2_with fail
      refine (l1In_any _ _ _ _).mono ?_
      rintro e w' ⟨rfl, rfl⟩
      rw [H2.out]
      go_wp2_with fail
      have hs0 := G.hs
      have G1 := Lib.hid G
      clear G
      go_loopw [6, 20] (fun v i wr => ∃ q : Nat, q ≤ ss.length ∧ i = .int .i64 q ∧ OwnI wr w1.heap.size v (aboveL ss x q) ∧ Below w1.heap.size w1 wr) (fun _ i _ => ss.length - (intOf i).toNat)
      case atStart => exact ⟨0, Nat.zero_le _, rfl, OwnI.nil _ _, Below.refl _ _⟩
      case round =>
        obtain ⟨q, hq, rfl, hown, hbw⟩ := hrel
        have hz : w1.heap.size ≤ wr.heap.size := hbw.size
        by_cases hlt : q < ss.length
        · obtain ⟨b, o, rfl, hb0, hcell⟩ := (h1.rs.below hbw (by omega)).at_ hlt
          have hx1 := hs0 q hlt
          have HY := Lib.hid (aboveL_yes (ss := ss) (x := x) (k := q))
          have HN := Lib.hid (aboveL_no (ss := ss) (x := x) (k := q))
          have hlen := aboveL_length ss x q
          generalize ss.getD q 0 = y at *
          by_cases he : x < y
          · have HT := Lib.hid (HY.out he)
            generalize hL : aboveL ss x q = zs at *
            clear hL
            go_wp2_with (at_builtin; refine wpList_pushI _ rfl _ _ rfl w1.heap.size _ zs rfl (hown.alloc _) wr.heap.size (q : Int) rfl (by simp) (by omega) (by simp; omega) ?_; intro A1 c1 w3 hown1 hg1)
            go_roundw
            case rel => exact ⟨q + 1, by omega, by go_num, by rw [HT.out]; exact hown1, (hbw.alloc hz _).trans hg1⟩
            case measure => simp [intOf]; omega
          · have HT := Lib.hid (HN.out he)
            go_wp2_with fail
            go_roundw
            case rel => exact ⟨q + 1, by omega, by go_num, by rw [HT.out]; exact hown, hbw⟩
            case measure => simp [intOf]; omega
        · obtain rfl : q = ss.length := by omega
          go_wp2_with fail
          go_ret2
          exact ⟨_, rfl, hown.mono (by omega), Bt.trans (hbw.mono (by omega))⟩

set_option maxHeartbeats 2000000 in
theorem implAbove_any (A A' : Option Addr) (c c' : Nat) (ss bs : List Int) (x : Int) (B : Nat) (w : World) (h : Ho w B A A' c c' ss bs) (hB : B ≤ w.heap.size) :
    Calls Try.prog 43 #[.agg #[.slice A ss.length c, .slice A' bs.length c'], .int .i64 x] w (Lists w (aboveR ss bs x) (askH 0 ss bs x)) := by
  unfold aboveR
  cases g : goodH ss bs
  · rw [askH_1 g, orL_no]
    have H := Lib.hid g
    clear g
    have h1 := h.alloc hB (.cells #[.slice A ss.length c, .slice A' bs.length c'] 27)
    have X0 : Blk (w.alloc (.cells #[.slice A ss.length c, .slice A' bs.length c'] 27)) w.heap.size 27 #[.slice A ss.length c, .slice A' bs.length c'] := Blk.new _ _ _
    have hns := h.ns
    have hnb := h.nb
    have hcs := h.rs.1
    have hcb := h.rb.1
    go_enter Try.func43, Try.ntmps43
    go_wp2_with fail
    refine (impHouse_any _ _ _ _ _ _ B _ h1 (by simp; omega)).mono ?_
    rintro e w1 ⟨rfl, hb⟩
    have Bt : Below w.heap.size w w1 := (below_alloc _ _).trans (hb.mono (by simp))
    have hs : w.heap.size + 1 ≤ w1.heap.size := by have := hb.size; simp at this; omega
    replace h1 := h1.below hb (by simp; omega)
    replace X0 := X0.below hb (by simp)
    clear hb
    obtain ⟨p0, p1⟩ := X0.two
    rw [H.out]
    go_wp2_with fail
    go_ret2
    exact ⟨_, rfl, OwnI.nil _ _, Bt⟩
  · rw [askH_2 g]
    have G := goodH_of g
    have H := Lib.hid g
    clear g
    have hl1 := G.n1
    have hl2 : bs.length = ss.length + 1 := G.nb
    have hl3 := Lib.hid hl2
    have hl4 : bs.length ≤ ss.length + 1 := by omega
    have hl5 : ss.length + 1 ≤ bs.length := by omega
    clear hl2
    cases g2 : inB x 0 40
    · rw [orL_no]
      have H2 := Lib.hid g2
      clear g2
      have h1 := h.alloc hB (.cells #[.slice A ss.length c, .slice A' bs.length c'] 27)
      have X0 : Blk (w.alloc (.cells #[.slice A ss.length c, .slice A' bs.length c'] 27)) w.heap.size 27 #[.slice A ss.length c, .slice A' bs.length c'] := Blk.new _ _ _
      have hns := h.ns
      have hnb := h.nb
      have hcs := h.rs.1
      have hcb := h.rb.1
      go_enter Try.func43, Try.ntmps43
      go_wp2_with fail
      refine (impHouse_any _ _ _ _ _ _ B _ h1 (by simp; omega)).mono ?_
      rintro e w1 ⟨rfl, hb⟩
      have Bt : Below w.heap.size w w1 := (below_alloc _ _).trans (hb.mono (by simp))
      have hs : w.heap.size + 1 ≤ w1.heap.size := by have := hb.size; simp at this; omega
      replace h1 := h1.below hb (by simp; omega)
      replace X0 := X0.below hb (by simp)
      clear hb
      obtain ⟨p0, p1⟩ := X0.two
      rw [H.out]
      go_wp2_with fail
      refine (isWithin_any _ _ _ _).mono ?_
      rintro e w' ⟨rfl, rfl⟩
      rw [H2.out]
      go_wp2_with fail
      go_ret2
      exact ⟨_, rfl, OwnI.nil _ _, Bt⟩
    · rw [orL_yes]
      have b2 := inB_le g2
      have H2 := Lib.hid g2
      clear g2
      have h1 := h.alloc hB (.cells #[.slice A ss.length c, .slice A' bs.length c'] 27)
      have X0 : Blk (w.alloc (.cells #[.slice A ss.length c, .slice A' bs.length c'] 27)) w.heap.size 27 #[.slice A ss.length c, .slice A' bs.length c'] := Blk.new _ _ _
      have hns := h.ns
      have hnb := h.nb
      have hcs := h.rs.1
      have hcb := h.rb.1
      go_enter Try.func43, Try.ntmps43
      go_wp2_with fail
      refine (impHouse_any _ _ _ _ _ _ B _ h1 (by simp; omega)).mono ?_
      rintro e w1 ⟨rfl, hb⟩
      have Bt : Below w.heap.size w w1 := (below_alloc _ _).trans (hb.mono (by simp))
      have hs : w.heap.size + 1 ≤ w1.heap.size := by have := hb.size; simp at this; omega
      replace h1 := h1.below hb (by simp; omega)
      replace X0 := X0.below hb (by simp)
      clear hb
      obtain ⟨p0, p1⟩ := X0.two
      rw [H.out]
      go_wp2_with fail
      refine (isWithin_any _ _ _ _).mono ?_
      rintro e w' ⟨rfl, rfl⟩
      rw [H2.out]
      go_wp2_with fail
      have hs0 := G.hs
      have G1 := Lib.hid G
      clear G
      go_loopw [6, 20] (fun v i wr => ∃ q : Nat, q ≤ ss.length ∧ i = .int .i64 q ∧ OwnI wr w1.heap.size v (aboveL ss x q) ∧ Below w1.heap.size w1 wr) (fun _ i _ => ss.length - (intOf i).toNat)
      case atStart => exact ⟨0, Nat.zero_le _, rfl, OwnI.nil _ _, Below.refl _ _⟩
      case round =>
        obtain ⟨q, hq, rfl, hown, hbw⟩ := hrel
        have hz : w1.heap.size ≤ wr.heap.size := hbw.size
        by_cases hlt : q < ss.length
        · obtain ⟨b, o, rfl, hb0, hcell⟩ := (h1.rs.below hbw (by omega)).at_ hlt
          have hx1 := hs0 q hlt
          have HY := Lib.hid (aboveL_yes (ss := ss) (x := x) (k := q))
          have HN := Lib.hid (aboveL_no (ss := ss) (x := x) (k := q))
          have hlen := aboveL_length ss x q
          generalize ss.getD q 0 = y at *
          by_cases he : x < y
          · have HT := Lib.hid (HY.out he)
            generalize hL : aboveL ss x q = zs at *
            clear hL
            go_wp2_with (at_builtin; refine wpList_pushI _ rfl _ _ rfl w1.heap.size _ zs rfl (hown.alloc _) wr.heap.size (q : Int) rfl (by simp) (by omega) (by simp; omega) ?_; intro A1 c1 w3 hown1 hg1)
            go_roundw
            case rel => exact ⟨q + 1, by omega, by go_num, by rw [HT.out]; exact hown1, (hbw.alloc hz _).trans hg1⟩
            case measure => simp [intOf]; omega
          · have HT := Lib.hid (HN.out he)
            go_wp2_with fail
            go_roundw
            case rel => exact ⟨q + 1, by omega, by go_num, by rw [HT.out]; exact hown, hbw⟩
            case measure => simp [intOf]; omega
        · obtain rfl : q = ss.length := by omega
          go_wp2_with fail
          go_ret2
          exact ⟨_, rfl, hown.mono (by omega), Bt.trans (hbw.mono (by omega))⟩

/-- landings in stairs from a base: so many, each m steps -/
def innerL (base m : Int) : Nat → List Int
  | 0 => []
  | j + 1 => innerL base m j ++ [base + m * ((j : Int) + 1)]
theorem innerL_length (base m : Int) : ∀ j, (innerL base m j).length = j
  | 0 => rfl
  | j + 1 => by simp [innerL, innerL_length base m j]
def cntL (n m : Int) : Nat := ((n - 1) / m).toNat
theorem cnt_lt {n m : Int} (hm : 1 ≤ m) (hn : 1 ≤ n) (j : Nat) : m * ((j : Int) + 1) < n ↔ j < cntL n m := by
  have h1 := Int.le_ediv_iff_mul_le (a := (j : Int) + 1) (b := n - 1) (c := m) (by omega)
  have h2 : 0 ≤ (n - 1) / m := Int.ediv_nonneg (by omega) (by omega)
  have h3 : m * ((j : Int) + 1) = ((j : Int) + 1) * m := Int.mul_comm _ _
  unfold cntL
  constructor
  · intro h
    have := h1.2 (by omega)
    omega
  · intro h
    have := h1.1 (by omega)
    omega
theorem cnt_le {n m : Int} (_hm : 1 ≤ m) (hn : 1 ≤ n) (h : n ≤ 40) : cntL n m ≤ 40 := by
  have := Int.ediv_le_self (a := n - 1) m (by omega)
  unfold cntL
  omega
/-- the landings of the first k stairs -/
def landL (ss : List Int) (m : Int) : Nat → List Int
  | 0 => []
  | k + 1 => landL ss m k ++ innerL (upTo ss k) m (cntL (ss.getD k 0) m)
theorem landL_length {ss : List Int} {m : Int} (hs : ∀ k, k < ss.length → 1 ≤ ss.getD k 0 ∧ ss.getD k 0 ≤ 40) (hm : 1 ≤ m) : ∀ k, k ≤ ss.length → (landL ss m k).length ≤ 40 * k
  | 0, _ => Nat.le_refl _
  | k + 1, h => by
    have := landL_length hs hm k (by omega)
    have h2 := hs k (by omega)
    have := cnt_le hm h2.1 h2.2
    rw [landL, List.length_append, innerL_length]
    omega
def landR (ss bs : List Int) (m : Int) : List Int := orL (askH 1 ss bs m) (landL ss m ss.length)
theorem landR_length (ss bs : List Int) (m : Int) : (landR ss bs m).length ≤ 1048576 :=
  orL_length fun h => by
    have g := askH_good h
    have := landL_length (m := m) g.1.hs g.2.1 ss.length (Nat.le_refl _)
    have := g.1.n1
    omega
/-- where the inner loop stands: j landings told, the next one p steps up -/
structure LAt (ss : List Int) (m : Int) (k : Nat) (n : Int) (j : Nat) (p : Int) : Prop where
  e : p = m * ((j : Int) + 1)
  le : j ≤ cntL n m
theorem LAt.first (ss : List Int) (m : Int) (k : Nat) (n : Int) : LAt ss m k n 0 m := ⟨by simp, Nat.zero_le _⟩
theorem LAt.next {ss : List Int} {m n p : Int} {k j : Nat} (h : LAt ss m k n j p) (hm : 1 ≤ m) (hn : 1 ≤ n) (hp : p < n) : LAt ss m k n (j + 1) (p + m) ∧ landL ss m k ++ innerL (upTo ss k) m (j + 1) = (landL ss m k ++ innerL (upTo ss k) m j) ++ [upTo ss k + p] := by
  have h1 := (cnt_lt hm hn j).1 (by rw [← h.e]; exact hp)
  refine ⟨⟨?_, h1⟩, ?_⟩
  · rw [h.e, Int.natCast_succ, Int.mul_add m ((j : Int) + 1) 1, Int.mul_one]
  · rw [innerL, ← h.e, List.append_assoc]
theorem LAt.done {ss : List Int} {m n p : Int} {k j : Nat} (h : LAt ss m k n j p) (hm : 1 ≤ m) (hn : 1 ≤ n) (hp : ¬ p < n) (hk : ss.getD k 0 = n) : landL ss m (k + 1) = landL ss m k ++ innerL (upTo ss k) m j := by
  have h1 : ¬ j < cntL n m := fun hj => hp (by rw [h.e]; exact (cnt_lt hm hn j).2 hj)
  have h2 := h.le
  rw [landL, hk, show cntL n m = j by omega]
theorem LAt.zero {ss : List Int} {m : Int} {k : Nat} : landL ss m k = landL ss m k ++ innerL (upTo ss k) m 0 := by simp [innerL]

set_option maxHeartbeats 2000000 in
theorem ldLandings_any (A A' : Option Addr) (c c' : Nat) (ss bs : List Int) (m : Int) (B : Nat) (w : World) (h : Ho w B A A' c c' ss bs) (hB : B ≤ w.heap.size) (G : GoodH ss bs) (hm1 : 1 ≤ m) (hm2 : m ≤ 40) :
    Calls Try.prog 62 #[.agg #[.slice A ss.length c, .slice A' bs.length c'], .int .i64 m] w fun e w' => ∃ v, e = .returned v ∧ OwnI w' w.heap.size v (landL ss m ss.length) ∧ Below w.heap.size w w' := by
  have h1 := h.alloc hB (.cells #[.slice A ss.length c, .slice A' bs.length c'] 27)
  have X0 : Blk (w.alloc (.cells #[.slice A ss.length c, .slice A' bs.length c'] 27)) w.heap.size 27 #[.slice A ss.length c, .slice A' bs.length c'] := Blk.new _ _ _
  have Bt := below_alloc w (.cells #[.slice A ss.length c, .slice A' bs.length c'] 27)
  have hl1 := G.n1
  have hs0 := G.hs
  have HG := Lib.hid G
  have hs : w.heap.size + 1 ≤ (w.alloc (.cells #[.slice A ss.length c, .slice A' bs.length c'] 27)).heap.size := by simp
  clear G
  obtain ⟨p0, p1⟩ := X0.two
  go_enter Try.func62, Try.ntmps62
  go_wp2_with fail
  generalize hW : w.alloc (.cells #[.slice A ss.length c, .slice A' bs.length c'] 27) = w1 at *
  replace hW := trivial
  clear p0 p1
  go_loopw [5, 12] (fun v i wr => ∃ k : Nat, k ≤ ss.length ∧ i = .int .i64 k ∧ OwnI wr w1.heap.size v (landL ss m k) ∧ Below w1.heap.size w1 wr) (fun _ i _ => ss.length - (intOf i).toNat)
  case atStart => exact ⟨0, Nat.zero_le _, rfl, OwnI.nil _ _, Below.refl _ _⟩
  case round =>
    obtain ⟨k, hk, rfl, hown, hbw⟩ := hrel
    by_cases hlt : k < ss.length
    · have hr := h1.rs.below hbw (by omega)
      obtain ⟨b, o, rfl, hb0, hcell⟩ := hr.at_ hlt
      have hx1 := hs0 k hlt
      have hll := landL_length hs0 hm1 k (by omega)
      generalize hN : ss.getD k 0 = n at *
      have HN := Lib.hid hN
      clear hN
      go_wp2_with fail
      go_loopw [5, 8] (fun v s wl => ∃ (j : Nat) (p : Int), s = .int .i64 p ∧ m ≤ p ∧ p ≤ 99 ∧ Hid (LAt ss m k n j p) ∧ OwnI wl w1.heap.size v (landL ss m k ++ innerL (upTo ss k) m j) ∧ Below w1.heap.size w1 wl) (fun _ s _ => (100 - intOf s).toNat)
      case atStart => exact ⟨0, m, rfl, by omega, by omega, LAt.first _ _ _ _, by rw [← LAt.zero]; exact hown, hbw⟩
      case round =>
        obtain ⟨j, p, rfl, hp1, hp2, HL, hown2, hbl⟩ := hrel
        have hzl : w1.heap.size ≤ wr.heap.size := hbl.size
        have hj := HL.out.le
        have hcn := cnt_le hm1 hx1.1 hx1.2
        have hlen2 : (landL ss m k ++ innerL (upTo ss k) m j).length ≤ 1000 := by rw [List.length_append, innerL_length]; omega
        by_cases hp : p < n
        · have e := HL.out.next hm1 hx1.1 hp
          have HL2 := Lib.hid e.1
          have HT := Lib.hid e.2
          clear e
          have hup := HG.out.up (k := k) (by omega)
          have X2 := X0.below hbl (by omega)
          obtain ⟨p0, p1⟩ := X2.two
          go_wp2_with fail
          refine (ldTo_any _ _ _ _ _ _ k B _ (h1.below hbl (by omega)) (by omega) HG.out (by omega)).mono ?_
          rintro e w2 ⟨rfl, hb2⟩
          have hown3 := hown2.below hb2 (Nat.le_refl _)
          have hbl3 := hbl.trans (hb2.mono hzl)
          have hz2 := hb2.size
          generalize landL ss m k ++ innerL (upTo ss k) m j = zs at *
          generalize hU : upTo ss k = u at *
          have HU1 := Lib.hid hU
          clear hU
          clear hown2 hb2 p0 p1
          go_wp2_with (at_builtin; refine wpList_pushI _ rfl _ _ rfl w1.heap.size _ zs rfl (hown3.alloc _) w2.heap.size (u + p) rfl (by simp) (by omega) (by simp; omega) ?_; intro A1 c1 w3 hown4 hg1)
          go_roundw
          case rel => exact ⟨j + 1, p + m, by go_num, by omega, by omega, HL2.out, by rw [HU1.out, HT.out]; exact hown4, (hbl3.alloc (by omega) _).trans hg1⟩
          case measure => simp [intOf] <;> omega
        · have HT := Lib.hid (HL.out.done hm1 hx1.1 hp HN.out)
          go_wp2_with fail
          go_roundw
          case rel => exact ⟨k + 1, by omega, by go_num, by rw [HT.out]; exact hown2, hbl⟩
          case measure => simp [intOf] <;> omega
    · obtain rfl : k = ss.length := by omega
      go_wp2_with fail
      go_ret
      exact ⟨_, rfl, hown.mono (by omega), Bt.trans (hbw.mono (by omega))⟩

set_option maxHeartbeats 2000000 in
theorem implLandings_any (A A' : Option Addr) (c c' : Nat) (ss bs : List Int) (x : Int) (B : Nat) (w : World) (h : Ho w B A A' c c' ss bs) (hB : B ≤ w.heap.size) :
    Calls Try.prog 29 #[.agg #[.slice A ss.length c, .slice A' bs.length c'], .int .i64 x] w (Lists w (landR ss bs x) (askH 1 ss bs x)) := by
  unfold landR
  cases g : goodH ss bs
  · rw [askH_1 g, orL_no]
    have H := Lib.hid g
    clear g
    have h1 := h.alloc hB (.cells #[.slice A ss.length c, .slice A' bs.length c'] 27)
    have X0 : Blk (w.alloc (.cells #[.slice A ss.length c, .slice A' bs.length c'] 27)) w.heap.size 27 #[.slice A ss.length c, .slice A' bs.length c'] := Blk.new _ _ _
    have hns := h.ns
    have hnb := h.nb
    have hcs := h.rs.1
    have hcb := h.rb.1
    go_enter Try.func29, Try.ntmps29
    go_wp2_with fail
    refine (impHouse_any _ _ _ _ _ _ B _ h1 (by simp; omega)).mono ?_
    rintro e w1 ⟨rfl, hb⟩
    have Bt : Below w.heap.size w w1 := (below_alloc _ _).trans (hb.mono (by simp))
    have hs : w.heap.size + 1 ≤ w1.heap.size := by have := hb.size; simp at this; omega
    replace h1 := h1.below hb (by simp; omega)
    replace X0 := X0.below hb (by simp)
    clear hb
    obtain ⟨p0, p1⟩ := X0.two
    rw [H.out]
    go_wp2_with fail
    go_ret2
    exact ⟨_, rfl, OwnI.nil _ _, Bt⟩
  · rw [askH_2 g]
    have G := goodH_of g
    have H := Lib.hid g
    clear g
    have hl1 := G.n1
    have hl2 : bs.length = ss.length + 1 := G.nb
    have hl3 := Lib.hid hl2
    have hl4 : bs.length ≤ ss.length + 1 := by omega
    have hl5 : ss.length + 1 ≤ bs.length := by omega
    clear hl2
    cases g2 : inB x 1 40
    · rw [orL_no]
      have H2 := Lib.hid g2
      clear g2
      have h1 := h.alloc hB (.cells #[.slice A ss.length c, .slice A' bs.length c'] 27)
      have X0 : Blk (w.alloc (.cells #[.slice A ss.length c, .slice A' bs.length c'] 27)) w.heap.size 27 #[.slice A ss.length c, .slice A' bs.length c'] := Blk.new _ _ _
      have hns := h.ns
      have hnb := h.nb
      have hcs := h.rs.1
      have hcb := h.rb.1
      go_enter Try.func29, Try.ntmps29
      go_wp2_with fail
      refine (impHouse_any _ _ _ _ _ _ B _ h1 (by simp; omega)).mono ?_
      rintro e w1 ⟨rfl, hb⟩
      have Bt : Below w.heap.size w w1 := (below_alloc _ _).trans (hb.mono (by simp))
      have hs : w.heap.size + 1 ≤ w1.heap.size := by have := hb.size; simp at this; omega
      replace h1 := h1.below hb (by simp; omega)
      replace X0 := X0.below hb (by simp)
      clear hb
      obtain ⟨p0, p1⟩ := X0.two
      rw [H.out]
      go_wp2_with fail
      refine (isWithin_any _ _ _ _).mono ?_
      rintro e w' ⟨rfl, rfl⟩
      rw [H2.out]
      go_wp2_with fail
      go_ret2
      exact ⟨_, rfl, OwnI.nil _ _, Bt⟩
    · rw [orL_yes]
      have b2 := inB_le g2
      have H2 := Lib.hid g2
      clear g2
      have h1 := h.alloc hB (.cells #[.slice A ss.length c, .slice A' bs.length c'] 27)
      have X0 : Blk (w.alloc (.cells #[.slice A ss.length c, .slice A' bs.length c'] 27)) w.heap.size 27 #[.slice A ss.length c, .slice A' bs.length c'] := Blk.new _ _ _
      have hns := h.ns
      have hnb := h.nb
      have hcs := h.rs.1
      have hcb := h.rb.1
      go_enter Try.func29, Try.ntmps29
      go_wp2_with fail
      refine (impHouse_any _ _ _ _ _ _ B _ h1 (by simp; omega)).mono ?_
      rintro e w1 ⟨rfl, hb⟩
      have Bt : Below w.heap.size w w1 := (below_alloc _ _).trans (hb.mono (by simp))
      have hs : w.heap.size + 1 ≤ w1.heap.size := by have := hb.size; simp at this; omega
      replace h1 := h1.below hb (by simp; omega)
      replace X0 := X0.below hb (by simp)
      clear hb
      obtain ⟨p0, p1⟩ := X0.two
      rw [H.out]
      go_wp2_with fail
      refine (isWithin_any _ _ _ _).mono ?_
      rintro e w' ⟨rfl, rfl⟩
      rw [H2.out]
      go_wp2_with fail
      have hm1 : 1 ≤ x := b2.1
      have hm2 : x ≤ 40 := b2.2
      have hs0 := G.hs
      have HG := Lib.hid G
      clear G p0 p1
      go_loopw [6, 7, 22] (fun v u i wr => ∃ k : Nat, k ≤ ss.length ∧ i = .int .i64 k ∧ u = .int .i64 (upTo ss k) ∧ OwnI wr w1.heap.size v (landL ss x k) ∧ Below w1.heap.size w1 wr) (fun _ _ i _ => ss.length - (intOf i).toNat)
      case atStart => exact ⟨0, Nat.zero_le _, rfl, rfl, OwnI.nil _ _, Below.refl _ _⟩
      case round =>
        obtain ⟨k, hk, rfl, rfl, hown, hbw⟩ := hrel
        have hup := HG.out.up (k := k) hk
        by_cases hlt : k < ss.length
        · obtain ⟨b, o, rfl, hb0, hcell⟩ := (h1.rs.below hbw (by omega)).at_ hlt
          have hx1 := hs0 k hlt
          have hll := landL_length hs0 hm1 k (by omega)
          have hup2 := HG.out.up (k := k + 1) (by omega)
          have HU := Lib.hid (sumH_take ss k hlt)
          generalize hN : ss.getD k 0 = n at *
          have HN := Lib.hid hN
          clear hN
          go_wp2_with fail
          go_loopw [6, 10] (fun v s wl => ∃ (j : Nat) (p : Int), s = .int .i64 p ∧ x ≤ p ∧ p ≤ 99 ∧ Hid (LAt ss x k n j p) ∧ OwnI wl w1.heap.size v (landL ss x k ++ innerL (upTo ss k) x j) ∧ Below w1.heap.size w1 wl) (fun _ s _ => (100 - intOf s).toNat)
          case atStart => exact ⟨0, x, rfl, by omega, by omega, LAt.first _ _ _ _, by rw [← LAt.zero]; exact hown, hbw⟩
          case round =>
            obtain ⟨j, p, rfl, hp1, hp2, HL, hown2, hbl⟩ := hrel
            have hzl : w1.heap.size ≤ wr.heap.size := hbl.size
            have hj := HL.out.le
            have hcn := cnt_le hm1 hx1.1 hx1.2
            have hlen2 : (landL ss x k ++ innerL (upTo ss k) x j).length ≤ 1000 := by rw [List.length_append, innerL_length]; omega
            by_cases hp : p < n
            · have e := HL.out.next hm1 hx1.1 hp
              have HL2 := Lib.hid e.1
              have HT := Lib.hid e.2
              clear e
              generalize landL ss x k ++ innerL (upTo ss k) x j = zs at *
              generalize upTo ss k = u at *
              go_wp2_with (at_builtin; refine wpList_pushI _ rfl _ _ rfl w1.heap.size _ zs rfl (hown2.alloc _) wr.heap.size (u + p) rfl (by simp) (by omega) (by simp; omega) ?_; intro A1 c1 w3 hown4 hg1)
              go_roundw
              case rel => exact ⟨j + 1, p + x, by go_num, by omega, by omega, HL2.out, by rw [HT.out]; exact hown4, (hbl.alloc (by omega) _).trans hg1⟩
              case measure => simp [intOf] <;> omega
            · have HT := Lib.hid (HL.out.done hm1 hx1.1 hp HN.out)
              have HU2 := Lib.hid (show upTo ss k + n = upTo ss (k + 1) from HU.out.symm)
              generalize upTo ss k = u at *
              generalize hU3 : upTo ss (k + 1) = u2 at *
              have HU3 := Lib.hid hU3
              clear hU3
              have hn3 : u + n ≤ 440 := by rw [HU2.out]; omega
              go_wp2_with fail
              go_roundw
              case rel => exact ⟨k + 1, by omega, by go_num, by rw [HU3.out, ← HU2.out], by rw [HT.out]; exact hown2, hbl⟩
              case measure => simp [intOf] <;> omega
        · obtain rfl : k = ss.length := by omega
          go_wp2_with fail
          go_ret2
          exact ⟨_, rfl, hown.mono (by omega), Bt.trans (hbw.mono (by omega))⟩

set_option maxHeartbeats 800000 in
theorem ldMost_any (A A' : Option Addr) (c c' : Nat) (ss bs : List Int) (x : Int) (B : Nat) (w : World) (h : Ho w B A A' c c' ss bs) (hB : B ≤ w.heap.size) :
    Calls Try.prog 61 #[.agg #[.slice A ss.length c, .slice A' bs.length c'], .int .i64 x] w (Plain (.bool (askH 1 ss bs x)) w) := by
  cases g : goodH ss bs
  · rw [askH_1 g]
    have H := Lib.hid g
    clear g
    have h1 := h.alloc hB (.cells #[.slice A ss.length c, .slice A' bs.length c'] 27)
    have X0 : Blk (w.alloc (.cells #[.slice A ss.length c, .slice A' bs.length c'] 27)) w.heap.size 27 #[.slice A ss.length c, .slice A' bs.length c'] := Blk.new _ _ _
    have hns := h.ns
    have hnb := h.nb
    have hcs := h.rs.1
    have hcb := h.rb.1
    go_enter Try.func61, Try.ntmps61
    go_wp2_with fail
    refine (ldGood_any _ _ _ _ _ _ B _ h1 (by simp; omega)).mono ?_
    rintro e w1 ⟨rfl, hb⟩
    have Bt : Below w.heap.size w w1 := (below_alloc _ _).trans (hb.mono (by simp))
    have hs : w.heap.size + 1 ≤ w1.heap.size := by have := hb.size; simp at this; omega
    replace h1 := h1.below hb (by simp; omega)
    replace X0 := X0.below hb (by simp)
    clear hb
    obtain ⟨p0, p1⟩ := X0.two
    rw [H.out]
    go_wp2_with fail
    go_ret
    exact ⟨rfl, Bt⟩
  · rw [askH_2 g]
    have H := Lib.hid g
    clear g
    have h1 := h.alloc hB (.cells #[.slice A ss.length c, .slice A' bs.length c'] 27)
    have X0 : Blk (w.alloc (.cells #[.slice A ss.length c, .slice A' bs.length c'] 27)) w.heap.size 27 #[.slice A ss.length c, .slice A' bs.length c'] := Blk.new _ _ _
    have hns := h.ns
    have hnb := h.nb
    have hcs := h.rs.1
    have hcb := h.rb.1
    go_enter Try.func61, Try.ntmps61
    go_wp2_with fail
    refine (ldGood_any _ _ _ _ _ _ B _ h1 (by simp; omega)).mono ?_
    rintro e w1 ⟨rfl, hb⟩
    have Bt : Below w.heap.size w w1 := (below_alloc _ _).trans (hb.mono (by simp))
    have hs : w.heap.size + 1 ≤ w1.heap.size := by have := hb.size; simp at this; omega
    replace h1 := h1.below hb (by simp; omega)
    replace X0 := X0.below hb (by simp)
    clear hb
    obtain ⟨p0, p1⟩ := X0.two
    rw [H.out]
    go_wp2_with fail
    refine (l1In_any _ _ _ _).mono ?_
    rintro e w' ⟨rfl, rfl⟩
    go_wp2_with fail
    go_ret
    exact ⟨rfl, Bt⟩

set_option maxHeartbeats 2000000 in
theorem specLandings_any (A A' : Option Addr) (c c' : Nat) (ss bs : List Int) (x : Int) (B : Nat) (w : World) (h : Ho w B A A' c c' ss bs) (hB : B ≤ w.heap.size) :
    Calls Try.prog 28 #[.agg #[.slice A ss.length c, .slice A' bs.length c'], .int .i64 x] w (Lists w (landR ss bs x) (askH 1 ss bs x)) := by
  unfold landR
  cases g : askH 1 ss bs x
  · rw [orL_no]
    have H := Lib.hid g
    clear g
    have h1 := h.alloc hB (.cells #[.slice A ss.length c, .slice A' bs.length c'] 27)
    have X0 : Blk (w.alloc (.cells #[.slice A ss.length c, .slice A' bs.length c'] 27)) w.heap.size 27 #[.slice A ss.length c, .slice A' bs.length c'] := Blk.new _ _ _
    have hns := h.ns
    have hnb := h.nb
    have hcs := h.rs.1
    have hcb := h.rb.1
    go_enter Try.func28, Try.ntmps28
    go_wp2_with fail
    refine (ldMost_any _ _ _ _ _ _ _ B _ h1 (by simp; omega)).mono ?_
    rintro e w1 ⟨rfl, hb⟩
    have Bt : Below w.heap.size w w1 := (below_alloc _ _).trans (hb.mono (by simp))
    have hs : w.heap.size + 1 ≤ w1.heap.size := by have := hb.size; simp at this; omega
    replace h1 := h1.below hb (by simp; omega)
    replace X0 := X0.below hb (by simp)
    clear hb
    obtain ⟨p0, p1⟩ := X0.two
    rw [H.out]
    go_wp2_with fail
    go_ret2
    exact ⟨_, rfl, OwnI.nil _ _, Bt⟩
  · rw [orL_yes]
    obtain ⟨G, b2⟩ := askH_good g
    have H := Lib.hid g
    clear g
    have h1 := h.alloc hB (.cells #[.slice A ss.length c, .slice A' bs.length c'] 27)
    have X0 : Blk (w.alloc (.cells #[.slice A ss.length c, .slice A' bs.length c'] 27)) w.heap.size 27 #[.slice A ss.length c, .slice A' bs.length c'] := Blk.new _ _ _
    have hns := h.ns
    have hnb := h.nb
    have hcs := h.rs.1
    have hcb := h.rb.1
    go_enter Try.func28, Try.ntmps28
    go_wp2_with fail
    refine (ldMost_any _ _ _ _ _ _ _ B _ h1 (by simp; omega)).mono ?_
    rintro e w1 ⟨rfl, hb⟩
    have Bt : Below w.heap.size w w1 := (below_alloc _ _).trans (hb.mono (by simp))
    have hs : w.heap.size + 1 ≤ w1.heap.size := by have := hb.size; simp at this; omega
    replace h1 := h1.below hb (by simp; omega)
    replace X0 := X0.below hb (by simp)
    clear hb
    obtain ⟨p0, p1⟩ := X0.two
    rw [H.out]
    go_wp2_with fail
    refine (ldLandings_any _ _ _ _ _ _ _ B _ h1 (by omega) G b2.1 b2.2).mono ?_
    rintro e w2 ⟨v, rfl, hown, hb⟩
    go_wp2_with fail
    go_ret2
    exact ⟨_, rfl, hown.mono (by omega), Bt.trans (hb.mono (by omega))⟩

set_option maxHeartbeats 2000000 in
theorem specNeeded_any (A A' : Option Addr) (c c' : Nat) (ss bs : List Int) (x : Int) (B : Nat) (w : World) (h : Ho w B A A' c c' ss bs) (hB : B ≤ w.heap.size) :
    Calls Try.prog 26 #[.agg #[.slice A ss.length c, .slice A' bs.length c'], .int .i64 x] w (Plain (.tuple #[.int .i64 ((landR ss bs x).length : Nat), .bool (askH 1 ss bs x)]) w) := by
  cases g : askH 1 ss bs x
  · rw [show (landR ss bs x).length = 0 by simp [landR, g, orL]]
    have H := Lib.hid g
    clear g
    have h1 := h.alloc hB (.cells #[.slice A ss.length c, .slice A' bs.length c'] 27)
    have X0 : Blk (w.alloc (.cells #[.slice A ss.length c, .slice A' bs.length c'] 27)) w.heap.size 27 #[.slice A ss.length c, .slice A' bs.length c'] := Blk.new _ _ _
    have hns := h.ns
    have hnb := h.nb
    have hcs := h.rs.1
    have hcb := h.rb.1
    go_enter Try.func26, Try.ntmps26
    go_wp2_with fail
    refine (ldMost_any _ _ _ _ _ _ _ B _ h1 (by simp; omega)).mono ?_
    rintro e w1 ⟨rfl, hb⟩
    have Bt : Below w.heap.size w w1 := (below_alloc _ _).trans (hb.mono (by simp))
    have hs : w.heap.size + 1 ≤ w1.heap.size := by have := hb.size; simp at this; omega
    replace h1 := h1.below hb (by simp; omega)
    replace X0 := X0.below hb (by simp)
    clear hb
    obtain ⟨p0, p1⟩ := X0.two
    rw [H.out]
    go_wp2_with fail
    go_ret2
    exact ⟨rfl, Bt⟩
  · rw [show (landR ss bs x).length = (landL ss x ss.length).length by simp [landR, g, orL]]
    obtain ⟨G, b2⟩ := askH_good g
    have H := Lib.hid g
    clear g
    have h1 := h.alloc hB (.cells #[.slice A ss.length c, .slice A' bs.length c'] 27)
    have X0 : Blk (w.alloc (.cells #[.slice A ss.length c, .slice A' bs.length c'] 27)) w.heap.size 27 #[.slice A ss.length c, .slice A' bs.length c'] := Blk.new _ _ _
    have hns := h.ns
    have hnb := h.nb
    have hcs := h.rs.1
    have hcb := h.rb.1
    go_enter Try.func26, Try.ntmps26
    go_wp2_with fail
    refine (ldMost_any _ _ _ _ _ _ _ B _ h1 (by simp; omega)).mono ?_
    rintro e w1 ⟨rfl, hb⟩
    have Bt : Below w.heap.size w w1 := (below_alloc _ _).trans (hb.mono (by simp))
    have hs : w.heap.size + 1 ≤ w1.heap.size := by have := hb.size; simp at this; omega
    replace h1 := h1.below hb (by simp; omega)
    replace X0 := X0.below hb (by simp)
    clear hb
    obtain ⟨p0, p1⟩ := X0.two
    rw [H.out]
    go_wp2_with fail
    refine (ldLandings_any _ _ _ _ _ _ _ B _ h1 (by omega) G b2.1 b2.2).mono ?_
    rintro e w2 ⟨v, rfl, hown, hb⟩
    obtain ⟨Z, d, rfl, _⟩ := hown.form
    go_wp2_with fail
    go_ret2
    exact ⟨rfl, Bt.trans (hb.mono (by omega))⟩

set_option maxHeartbeats 2000000 in
theorem implNeeded_any (A A' : Option Addr) (c c' : Nat) (ss bs : List Int) (x : Int) (B : Nat) (w : World) (h : Ho w B A A' c c' ss bs) (hB : B ≤ w.heap.size) :
    Calls Try.prog 27 #[.agg #[.slice A ss.length c, .slice A' bs.length c'], .int .i64 x] w (Plain (.tuple #[.int .i64 ((landR ss bs x).length : Nat), .bool (askH 1 ss bs x)]) w) := by
  have h1 := h.alloc hB (.cells #[.slice A ss.length c, .slice A' bs.length c'] 27)
  have X0 : Blk (w.alloc (.cells #[.slice A ss.length c, .slice A' bs.length c'] 27)) w.heap.size 27 #[.slice A ss.length c, .slice A' bs.length c'] := Blk.new _ _ _
  have hns := h.ns
  have hnb := h.nb
  have hcs := h.rs.1
  have hcb := h.rb.1
  go_enter Try.func27, Try.ntmps27
  go_wp2_with fail
  refine (implLandings_any _ _ _ _ _ _ _ B _ h1 (by simp; omega)).mono ?_
  rintro e w2 ⟨v, rfl, hown, hb⟩
  obtain ⟨Z, d, rfl, _⟩ := hown.form
  go_wp2_with fail
  go_ret2
  exact ⟨rfl, (below_alloc _ _).trans (hb.mono (by simp))⟩

end Go.Proofs.Ytddeeebjbbnalaa
