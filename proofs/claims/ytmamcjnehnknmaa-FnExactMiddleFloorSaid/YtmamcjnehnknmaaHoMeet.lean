/- Contracts: MeetFloor and MiddleFloor, on both sides. -/
import Derived.Test.YtmamcjnehnknmaaHoMeetP
namespace Go.Proofs.Ytmamcjnehnknmaa
open Go.RowKit

/-- naturals as numbers -/
def flI (fs : List Nat) : List Int := fs.map fun f : Nat => (f : Int)
theorem flI_length (fs : List Nat) : (flI fs).length = fs.length := by simp [flI]
theorem flL_eq (bs ds : List Int) : flL bs ds = flI (ds.map (pf bs)) := by simp [flL, flI]
theorem flI_getD {fs : List Nat} {k : Nat} (h : k < fs.length) : (flI fs).getD k 0 = (fs.getD k 0 : Nat) := by simp [flI, List.getD_eq_getElem?_getD, h]
theorem getD_memN {fs : List Nat} {k : Nat} (h : k < fs.length) : fs.getD k 0 ∈ fs := by
  have : fs.getD k 0 = fs[k] := by simp [List.getD_eq_getElem?_getD, h]
  rw [this]; exact List.getElem_mem h
def btL (ss : List Int) (fs : List Nat) (to : Nat) : List Int := fs.map fun f => btw ss f to
theorem btL_length (ss : List Int) (fs : List Nat) (to : Nat) : (btL ss fs to).length = fs.length := by simp [btL]
theorem btL_getD {ss : List Int} {fs : List Nat} {to k : Nat} (h : k < fs.length) : (btL ss fs to).getD k 0 = btw ss (fs.getD k 0) to := by simp [btL, List.getD_eq_getElem?_getD, h]

set_option maxHeartbeats 800000 in
theorem nf11_any (A A' : Option Addr) (c c' : Nat) (ss bs : List Int) (q tq a b : Nat) (B : Nat) (w : World) (h : Ho w B A A' c c' ss bs) (hB : B ≤ w.heap.size) (X : Blk w q 26 #[.slice A ss.length c, .slice A' bs.length c']) (T : w.cell? ⟨tq, 0, none⟩ = some (.int .i64 b)) (G : GoodH ss bs) (ha : a ≤ ss.length) (hb : b ≤ ss.length) :
    Calls Try.prog 72 #[.int .i64 a, .pointer (some ⟨q, 0, none⟩), .pointer (some ⟨tq, 0, none⟩)] w (Plain (.int .i64 (btw ss a b)) w) := by
  obtain ⟨p0, p1⟩ := X.two
  go_enter Try.func72, Try.ntmps72
  go_wp2_with fail
  refine (stepsBetween_new _ _ _ _ _ _ a b B _ h hB G ha hb).mono ?_
  rintro e w2 ⟨rfl, hb2⟩
  go_wp2_with fail
  go_ret
  exact ⟨rfl, hb2⟩

set_option maxHeartbeats 1000000 in
theorem sumNear_any (A A' Z : Option Addr) (c c' d : Nat) (ss bs : List Int) (q tq b : Nat) (fs : List Nat) (B : Nat) (w : World) (h : Ho w B A A' c c' ss bs) (hB : B ≤ w.heap.size) (X : Blk w q 26 #[.slice A ss.length c, .slice A' bs.length c']) (T : w.cell? ⟨tq, 0, none⟩ = some (.int .i64 b)) (G : GoodH ss bs) (hb : b ≤ ss.length)
    (hz : Rd w B Z d (flI fs)) (hn : fs.length ≤ 100) (hf : ∀ f ∈ fs, f ≤ ss.length) :
    Calls Try.prog 71 #[.slice Z fs.length d, .func (.func 72) #[] #[.pointer (some ⟨q, 0, none⟩), .pointer (some ⟨tq, 0, none⟩)]] w (Plain (.int .i64 (totL ss fs b)) w) := by
  have hq := X.lt
  have HG := Lib.hid G
  have hW := Lib.hid (btL_length ss fs b)
  have hfl := Lib.hid (flI_length fs)
  have HB : Hid (∀ k, k < (btL ss fs b).length → 0 ≤ (btL ss fs b).getD k 0 ∧ (btL ss fs b).getD k 0 ≤ 1000) := fun k hk => by
    rw [hW.out] at hk
    rw [btL_getD hk]
    have := btw_bd HG.out (hf _ (getD_memN hk)) hb
    omega
  have HF := Lib.hid hf
  have HT := Lib.hid T
  clear G hf T
  go_enter Try.func71, Try.ntmps71
  go_wp2_with fail
  go_loopw [5, 10] (fun s i wr => ∃ (k : Nat), k ≤ fs.length ∧ i = .int .i64 k ∧ s = .int .i64 (sumH ((btL ss fs b).take k)) ∧ Below w.heap.size w wr) (fun _ i _ => fs.length - (intOf i).toNat)
  case atStart => exact ⟨0, Nat.zero_le _, rfl, rfl, Below.refl _ _⟩
  case round =>
    obtain ⟨k, hkk, rfl, rfl, hbw⟩ := hrel
    have hz0 := hbw.size
    have hbd := sumH_bd (m := 1000) (by omega) HB.out k (by rw [hW.out]; exact hkk)
    by_cases hlt : k < fs.length
    · obtain ⟨bb, o, rfl, hb0, hcell⟩ := (hz.below hbw hB).at_ (k := k) (by rw [hfl.out]; exact hlt)
      rw [flI_getD hlt] at hcell
      have hfk := HF.out _ (getD_memN hlt)
      have E := Lib.hid (sumH_take (btL ss fs b) k (by rw [hW.out]; exact hlt))
      rw [btL_getD hlt] at E
      generalize fs.getD k 0 = f at *
      have hbt := btw_bd HG.out hfk hb
      generalize sumH ((btL ss fs b).take k) = s at *
      go_wp2_with fail
      refine (nf11_any A A' c c' ss bs q tq f b B _ (h.below hbw hB) (by omega) (X.below hbw hq) ((hbw.cell (World.block_lt_of_cell? _ _ HT.out)).trans HT.out) HG.out hfk hb).mono ?_
      rintro e2 w2 ⟨rfl, hb2⟩
      generalize btw ss f b = t at *
      go_wp2_with fail
      go_roundw
      case rel => exact ⟨k + 1, by omega, by go_num, by rw [E.out], hbw.trans (hb2.mono hz0)⟩
      case measure => simp [intOf]; omega
    · obtain rfl : k = fs.length := by omega
      have E : Hid (sumH ((btL ss fs b).take fs.length) = totL ss fs b) := by
        have := List.take_length (l := btL ss fs b)
        rw [hW.out] at this
        exact congrArg sumH this
      generalize sumH ((btL ss fs b).take fs.length) = s at *
      go_wp2_with fail
      go_ret
      exact ⟨ret_int E.out, hbw⟩

set_option maxHeartbeats 1000000 in
theorem nf1_any (A A' Z : Option Addr) (c c' d : Nat) (ss bs : List Int) (fq q b : Nat) (fs : List Nat) (B : Nat) (w : World) (h : Ho w B A A' c c' ss bs) (hB : B ≤ w.heap.size) (X : Blk w q 26 #[.slice A ss.length c, .slice A' bs.length c']) (T : w.cell? ⟨fq, 0, none⟩ = some (.slice Z fs.length d)) (G : GoodH ss bs) (hb : b ≤ ss.length)
    (hz : Rd w B Z d (flI fs)) (hn : fs.length ≤ 100) (hf : ∀ f ∈ fs, f ≤ ss.length) :
    Calls Try.prog 70 #[.int .i64 b, .pointer (some ⟨fq, 0, none⟩), .pointer (some ⟨q, 0, none⟩)] w (Plain (.int .i64 (totL ss fs b)) w) := by
  have T1 := keepA (o := .cells #[.int .i64 (b : Int)] 3) T
  go_enter Try.func70, Try.ntmps70
  go_wp2_with fail
  refine (sumNear_any A A' Z c c' d ss bs q w.heap.size b fs B _ (h.alloc hB _) (by simp; omega) (X.alloc _) (by simp) G hb (hz.below (below_alloc _ _) hB) hn hf).mono ?_
  rintro e w2 ⟨rfl, hb2⟩
  go_wp2_with fail
  go_ret
  exact ⟨rfl, (below_alloc _ _).trans (hb2.mono (by simp))⟩

set_option maxHeartbeats 2000000 in
theorem nearest_any (A A' Z : Option Addr) (c c' d : Nat) (ss bs : List Int) (fs : List Nat) (B : Nat) (w : World) (h : Ho w B A A' c c' ss bs) (hB : B ≤ w.heap.size) (hz : Rd w B Z d (flI fs)) (G : GoodH ss bs) (hn : fs.length ≤ 100) (hf : ∀ f ∈ fs, f ≤ ss.length) :
    Calls Try.prog 54 #[.agg #[.slice A ss.length c, .slice A' bs.length c'], .slice Z fs.length d] w (Plain (.tuple #[.int .i64 (mF (totL ss fs) bs.length : Nat), .int .i64 (totL ss fs (mF (totL ss fs) bs.length))]) w) := by
  have hl1 := G.n1
  have hl2 : bs.length ≤ ss.length + 1 := by have := G.nb; omega
  have hl3 : ss.length + 1 ≤ bs.length := by have := G.nb; omega
  have hl0 := G.n0
  have HG := Lib.hid G
  have HF := Lib.hid hf
  have X0 : Blk ((w.alloc (.cells #[.slice A ss.length c, .slice A' bs.length c'] 26)).alloc (.cells #[.slice Z fs.length d] 22)) w.heap.size 26 #[.slice A ss.length c, .slice A' bs.length c'] := (Blk.new _ _ _).alloc _
  have F0 : Blk ((w.alloc (.cells #[.slice A ss.length c, .slice A' bs.length c'] 26)).alloc (.cells #[.slice Z fs.length d] 22)) (w.heap.size + 1) 22 #[.slice Z fs.length d] := Blk.new' (by simp)
  have B0 : Below w.heap.size w ((w.alloc (.cells #[.slice A ss.length c, .slice A' bs.length c'] 26)).alloc (.cells #[.slice Z fs.length d] 22)) := (below_alloc _ _).alloc (by simp) _
  clear G hf
  go_enter Try.func54, Try.ntmps54
  go_wp2_with fail
  generalize hW : (w.alloc (.cells #[.slice A ss.length c, .slice A' bs.length c'] 26)).alloc (.cells #[.slice Z fs.length d] 22) = w1 at *
  replace hW := trivial
  have x0 := X0.lt
  have f0 := F0.lt
  refine (nf1_any A A' Z c c' d ss bs _ _ 0 fs B _ (h.below B0 hB) (by omega) X0 (F0.cell 0) HG.out (by omega) (hz.below B0 hB) hn HF.out).mono ?_
  rintro e w2 ⟨rfl, hb⟩
  have X1 := X0.below hb x0
  have F1 := F0.below hb f0
  have B1 := B0.trans (hb.mono (by omega))
  clear hb X0 F0 B0 x0 f0 hW
  go_wp2_with fail
  go_loopw [7, 8, 9] (fun v u i wr => ∃ k : Nat, 1 ≤ k ∧ k ≤ bs.length ∧ i = .int .i64 k ∧ v = .int .i64 (mF (totL ss fs) k : Nat) ∧ u = .int .i64 (totL ss fs (mF (totL ss fs) k)) ∧ Blk wr w.heap.size 26 #[.slice A ss.length c, .slice A' bs.length c'] ∧ Blk wr (w.heap.size + 1) 22 #[.slice Z fs.length d] ∧ Below w.heap.size w wr) (fun _ _ i _ => bs.length - (intOf i).toNat)
  case atStart => exact ⟨1, by omega, by omega, rfl, by simp [mF], by simp [mF], X1, F1, B1⟩
  case round =>
    clear X1 F1 B1
    obtain ⟨k, hk1, hk, rfl, rfl, rfl, hX, hF, hbw⟩ := hrel
    have x0 := hX.lt
    have f0 := hF.lt
    obtain ⟨p0, p1⟩ := hX.two
    by_cases hlt : k < bs.length
    · have HY := Lib.hid (mF_yes (g := totL ss fs) (k := k))
      have HN := Lib.hid (mF_no (g := totL ss fs) (k := k))
      go_wp2_with fail
      refine (nf1_any A A' Z c c' d ss bs _ _ k fs B _ (h.below hbw hB) (by omega) hX (hF.cell 0) HG.out (by omega) (hz.below hbw hB) hn HF.out).mono ?_
      rintro e w3 ⟨rfl, hb⟩
      have hX3 := hX.below hb x0
      have hF3 := hF.below hb f0
      have hbw3 := hbw.trans (hb.mono (by omega))
      clear hb p0 p1
      by_cases he : totL ss fs k < totL ss fs (mF (totL ss fs) k)
      · have HT := Lib.hid (HY.out he)
        generalize hy : totL ss fs k = y at *
        generalize totL ss fs (mF (totL ss fs) k) = z at *
        have HYY := Lib.hid hy
        clear hy
        go_wp2_with fail
        go_roundw
        case rel => exact ⟨k + 1, by omega, by omega, by go_num, by rw [HT.out], by rw [HT.out, HYY.out], hX3, hF3, hbw3⟩
        case measure => simp [intOf]; omega
      · have HT := Lib.hid (HN.out (by omega))
        generalize totL ss fs k = y at *
        generalize hzz : totL ss fs (mF (totL ss fs) k) = z at *
        have HZZ := Lib.hid hzz
        clear hzz
        go_wp2_with fail
        go_roundw
        case rel => exact ⟨k + 1, by omega, by omega, by go_num, by rw [HT.out], by rw [HT.out, HZZ.out], hX3, hF3, hbw3⟩
        case measure => simp [intOf]; omega
    · obtain rfl : k = bs.length := by omega
      go_wp2_with fail
      go_ret2
      exact ⟨rfl, hbw⟩

/-- what each floor's people walk -/
def prL (ss cs : List Int) (to : Nat) : List Int := tell cs.length fun j => cs.getD j 0 * btw ss to j
theorem prL_length (ss cs : List Int) (to : Nat) : (prL ss cs to).length = cs.length := tell_length _ _
theorem prL_getD {ss cs : List Int} {to j : Nat} (h : j < cs.length) : (prL ss cs to).getD j 0 = cs.getD j 0 * btw ss to j := by unfold prL; rw [tell_getD _ _ _ h]
theorem leastX_zero (g : Nat → Int) : leastX g 0 = -1 := rfl
theorem leastX_pos {g : Nat → Int} {k : Nat} (h : ¬ k = 0) : leastX g k = g (mF g k) := if_neg h

set_option maxHeartbeats 2000000 in
theorem ldMeet_any (A A' Z : Option Addr) (c c' d : Nat) (ss bs cs : List Int) (B : Nat) (w : World) (h : Ho w B A A' c c' ss bs) (hB : B ≤ w.heap.size) (hz : Rd w B Z d cs) (G : GoodH ss bs) (hl : bs.length = cs.length) (hc : ∀ j, j < cs.length → 0 ≤ cs.getD j 0 ∧ cs.getD j 0 ≤ 20) :
    Calls Try.prog 53 #[.agg #[.slice A ss.length c, .slice A' bs.length c'], .slice Z cs.length d] w (Plain (.tuple #[.int .i64 (mF (mS ss cs) cs.length : Nat), .int .i64 (mS ss cs (mF (mS ss cs) cs.length))]) w) := by
  have hl1 := G.n1
  have hl2 : cs.length ≤ ss.length + 1 := by have := G.nb; omega
  have hl3 : ss.length + 1 ≤ cs.length := by have := G.nb; omega
  have hl4 : bs.length ≤ cs.length := by omega
  have hl5 : cs.length ≤ bs.length := by omega
  have HG := Lib.hid G
  have HC := Lib.hid hc
  have hpl := Lib.hid (fun to => prL_length ss cs to)
  have HB : Hid (∀ to, to ≤ ss.length → ∀ j, j < (prL ss cs to).length → 0 ≤ (prL ss cs to).getD j 0 ∧ (prL ss cs to).getD j 0 ≤ 8800) := fun to ht j hj => by
    rw [hpl.out] at hj
    rw [prL_getD hj]
    have b1 := HC.out j hj
    have b2 := btw_bd HG.out ht (show j ≤ ss.length by omega)
    have := mul_bd b1.1 b1.2 b2.1 b2.2
    omega
  have HS : Hid (∀ to, to ≤ ss.length → 0 ≤ mS ss cs to ∧ mS ss cs to ≤ 8800 * 12) := fun to ht => by
    have := sumH_bd (m := 8800) (by omega) (HB.out to ht) (prL ss cs to).length (Nat.le_refl _)
    rw [List.take_length, hpl.out] at this
    have e : mS ss cs to = sumH (prL ss cs to) := rfl
    rw [e]
    omega
  have X0 : Blk (w.alloc (.cells #[.slice A ss.length c, .slice A' bs.length c'] 26)) w.heap.size 26 #[.slice A ss.length c, .slice A' bs.length c'] := Blk.new _ _ _
  have B0 : Below w.heap.size w (w.alloc (.cells #[.slice A ss.length c, .slice A' bs.length c'] 26)) := below_alloc _ _
  clear G hc hl
  go_enter Try.func53, Try.ntmps53
  go_wp2_with fail
  go_loopw [6, 7, 15] (fun v u i wr => ∃ k : Nat, k ≤ bs.length ∧ i = .int .i64 k ∧ v = .int .i64 (mF (mS ss cs) k : Nat) ∧ u = .int .i64 (leastX (mS ss cs) k) ∧ Blk wr w.heap.size 26 #[.slice A ss.length c, .slice A' bs.length c'] ∧ Below w.heap.size w wr) (fun _ _ i _ => bs.length - (intOf i).toNat)
  case atStart => exact ⟨0, by omega, rfl, rfl, rfl, X0, B0⟩
  case round =>
    clear X0 B0
    obtain ⟨k, hk, rfl, rfl, rfl, hX, hbw⟩ := hrel
    by_cases hlt : k < bs.length
    · go_wp2_with fail
      go_loopw [9, 20] (fun s i wr => ∃ j : Nat, j ≤ cs.length ∧ i = .int .i64 j ∧ s = .int .i64 (sumH ((prL ss cs k).take j)) ∧ Blk wr w.heap.size 26 #[.slice A ss.length c, .slice A' bs.length c'] ∧ Below w.heap.size w wr) (fun _ i _ => cs.length - (intOf i).toNat)
      case atStart => exact ⟨0, by omega, rfl, rfl, hX, hbw⟩
      case round =>
        clear hX hbw
        obtain ⟨j, hj, rfl, rfl, hX, hbw⟩ := hrel
        have x0 := hX.lt
        have hbd := sumH_bd (m := 8800) (by omega) (HB.out k (by omega)) j (by rw [hpl.out]; exact hj)
        by_cases hjl : j < cs.length
        · obtain ⟨bb, o, rfl, hb0, hcell⟩ := (hz.below hbw hB).at_ hjl
          obtain ⟨p0, p1⟩ := hX.two
          have b1 := HC.out j hjl
          have b2 := btw_bd HG.out (show k ≤ ss.length by omega) (show j ≤ ss.length by omega)
          have b3 := mul_bd b1.1 b1.2 b2.1 b2.2
          have E := Lib.hid (sumH_take (prL ss cs k) j (by rw [hpl.out]; exact hjl))
          rw [prL_getD hjl] at E
          generalize sumH ((prL ss cs k).take j) = s at *
          generalize cs.getD j 0 = x at *
          go_wp2_with fail
          refine (ldBetween_any _ _ _ _ _ _ k j B _ (h.below hbw hB) (by omega) HG.out (by omega) (by omega)).mono ?_
          rintro e2 w2 ⟨rfl, hb2⟩
          have hX2 := hX.below hb2 x0
          have hbw2 := hbw.trans (hb2.mono (by omega))
          generalize btw ss k j = t at *
          generalize hm : x * t = m at *
          have HM := Lib.hid hm
          have hm1 : 0 ≤ m := b3.1
          have hm2 : m ≤ 20 * 440 := b3.2
          have E9 : IntKind.i64.wrap (x * t) = m := by rw [hm]; exact IntWalk.i64_in _ (by omega)
          clear hm b3 p0 p1 hb2
          go_wp2_with fail
          go_roundw
          case rel => exact ⟨j + 1, by omega, by go_num, by rw [E.out], hX2, hbw2⟩
          case measure => simp [intOf]; omega
        · obtain rfl : j = cs.length := by omega
          have E : Hid (sumH ((prL ss cs k).take cs.length) = mS ss cs k) := by
            have := List.take_length (l := prL ss cs k)
            rw [hpl.out] at this
            exact congrArg sumH this
          rw [E.out]
          have hsk := HS.out k (by omega)
          have hml := mF_le (mS ss cs) k
          have hsm := HS.out (mF (mS ss cs) k) (by omega)
          clear hbd
          by_cases hk0 : k = 0
          · subst hk0
            rw [leastX_zero]
            have hL := Lib.hid (show leastX (mS ss cs) 1 = mS ss cs 0 by simp [leastX, mF])
            have hM := Lib.hid (show mF (mS ss cs) 1 = 0 by simp [mF])
            generalize hy : mS ss cs 0 = y at *
            have HY := Lib.hid hy
            clear hy
            go_wp2_with fail
            go_roundw
            case rel => exact ⟨1, by omega, rfl, by rw [hM.out], by rw [hL.out], hX, hbw⟩
            case measure => simp [intOf] <;> omega
          · rw [leastX_pos hk0]
            have hL := Lib.hid (leastX_pos (g := mS ss cs) (k := k + 1) (by omega))
            have HYs := Lib.hid (mF_yes (g := mS ss cs) (k := k))
            have HNo := Lib.hid (mF_no (g := mS ss cs) (k := k))
            by_cases he : mS ss cs k < mS ss cs (mF (mS ss cs) k)
            · have HT := Lib.hid (HYs.out he)
              generalize hy : mS ss cs k = y at *
              generalize mS ss cs (mF (mS ss cs) k) = z at *
              have HY := Lib.hid hy
              clear hy
              go_wp2_with fail
              go_roundw
              case rel => exact ⟨k + 1, by omega, by go_num, by rw [HT.out], by rw [hL.out, HT.out, HY.out], hX, hbw⟩
              case measure => simp [intOf] <;> omega
            · have HT := Lib.hid (HNo.out (by omega))
              generalize mS ss cs k = y at *
              generalize hzz : mS ss cs (mF (mS ss cs) k) = z at *
              have HZ := Lib.hid hzz
              clear hzz
              go_wp2_with fail
              go_roundw
              case rel => exact ⟨k + 1, by omega, by go_num, by rw [HT.out], by rw [hL.out, HT.out, HZ.out], hX, hbw⟩
              case measure => simp [intOf] <;> omega
    · obtain rfl : k = bs.length := by omega
      have hbc : Hid (bs.length = cs.length) := by
        have : bs.length = cs.length := by omega
        exact this
      rw [leastX_pos (by omega), hbc.out]
      go_wp2_with fail
      go_ret2
      exact ⟨rfl, hbw⟩

/-- the floors of doors, as naturals -/
def dfN (bs ds : List Int) : List Nat := ds.map (pf bs)
theorem dfN_length (bs ds : List Int) : (dfN bs ds).length = ds.length := by simp [dfN]
theorem dfN_le {ss bs ds : List Int} (G : GoodD ss bs ds) : ∀ f ∈ dfN bs ds, f ≤ ss.length := fun f hf => by
  obtain ⟨y, hy, rfl⟩ := List.mem_map.1 hf
  obtain ⟨k, hk, e⟩ := List.getElem_of_mem hy
  have h2 := G.hd k hk
  have := pf_lt h2.1 h2.2
  have := G.g.nb
  rw [show ds.getD k 0 = y by simp [List.getD_eq_getElem?_getD, hk, e]] at *
  omega
/-- where people meet, and how far they walk -/
def meetN (ss bs : List Int) (fs : List Nat) : Nat := mF (totL ss fs) bs.length

set_option maxHeartbeats 2000000 in
theorem implMeet_any (A A' : Option Addr) (c c' : Nat) (ss bs : List Int) (Z : Option Addr) (d : Nat) (ds : List Int) (B : Nat) (w : World) (h : Ho w B A A' c c' ss bs) (hB : B ≤ w.heap.size) (hz : Rd w B Z d ds) (hn : ds.length ≤ 1048576) :
    Calls Try.prog 28 #[.agg #[.slice A ss.length c, .slice A' bs.length c'], .slice Z ds.length d] w (Plain (.tuple #[.int .i64 (orI (listB ss bs ds) (meetN ss bs (dfN bs ds) : Nat)), .int .i64 (orI (listB ss bs ds) (totL ss (dfN bs ds) (meetN ss bs (dfN bs ds)))), .bool (listB ss bs ds)]) w) := by
  cases g : listB ss bs ds
  · rw [orI_no, orI_no]
    have H := Lib.hid g
    clear g
    have hz1 := hz.below (below_alloc w (.cells #[.slice A ss.length c, .slice A' bs.length c'] 26)) hB
    have h1 := h.alloc hB (.cells #[.slice A ss.length c, .slice A' bs.length c'] 26)
    have X0 : Blk (w.alloc (.cells #[.slice A ss.length c, .slice A' bs.length c'] 26)) w.heap.size 26 #[.slice A ss.length c, .slice A' bs.length c'] := Blk.new _ _ _
    have hns := h.ns
    have hnb := h.nb
    have hcs := h.rs.1
    have hcb := h.rb.1
    go_enter Try.func28, Try.ntmps28
    go_wp2_with fail
    refine (floors_any _ _ _ _ _ _ _ _ _ B _ h1 (by simp; omega) hz1 hn).mono ?_
    rintro e w2 ⟨v, rfl, hown, hb⟩
    obtain ⟨Z1, d1, rfl, _⟩ := hown.form
    rw [H.out]
    go_wp2_with fail
    go_ret3
    exact ⟨rfl, (below_alloc _ _).trans (hb.mono (by simp))⟩
  · rw [orI_yes, orI_yes]
    have G := listB_good g
    have H := Lib.hid g
    have HO : Hid (orL (listB ss bs ds) (flL bs ds) = flI (dfN bs ds)) := by rw [g]; exact flL_eq bs ds
    have HL := Lib.hid (show (flI (dfN bs ds)).length = (dfN bs ds).length from flI_length _)
    have hdl := Lib.hid (dfN_length bs ds)
    have hd1 := G.n1
    have hfl : (dfN bs ds).length ≤ 100 := by rw [hdl.out]; omega
    clear g
    have hz1 := hz.below (below_alloc w (.cells #[.slice A ss.length c, .slice A' bs.length c'] 26)) hB
    have h1 := h.alloc hB (.cells #[.slice A ss.length c, .slice A' bs.length c'] 26)
    have X0 : Blk (w.alloc (.cells #[.slice A ss.length c, .slice A' bs.length c'] 26)) w.heap.size 26 #[.slice A ss.length c, .slice A' bs.length c'] := Blk.new _ _ _
    have hns := h.ns
    have hnb := h.nb
    have hcs := h.rs.1
    have hcb := h.rb.1
    go_enter Try.func28, Try.ntmps28
    go_wp2_with fail
    refine (floors_any _ _ _ _ _ _ _ _ _ B _ h1 (by simp; omega) hz1 hn).mono ?_
    rintro e w2 ⟨v, rfl, hown, hb⟩
    rw [HO.out] at hown
    obtain ⟨Z1, d1, rfl, hrd⟩ := hown.form
    rw [H.out, HL.out]
    have hs : w.heap.size + 1 ≤ w2.heap.size := by have := hb.size; simp at this; omega
    have X2 := X0.below hb (by simp)
    have h2 := (h1.below hb (by simp; omega)).more (B' := w2.heap.size) (by omega)
    have Bt : Below w.heap.size w w2 := (below_alloc _ _).trans (hb.mono (by simp))
    clear hown hb hz1 h1 X0
    obtain ⟨p0, p1⟩ := X2.two
    have HDL := Lib.hid (dfN_le G)
    go_wp2_with fail
    refine (nearest_any _ _ _ _ _ _ _ _ (dfN bs ds) w2.heap.size _ h2 (Nat.le_refl _) hrd G.g hfl HDL.out).mono ?_
    rintro e w3 ⟨rfl, hb3⟩
    go_wp2_with fail
    go_ret3
    exact ⟨rfl, Bt.trans (hb3.mono (by omega))⟩

theorem dfN_take {bs ds : List Int} {k : Nat} (h : k < ds.length) : (dfN bs ds).take (k + 1) = (dfN bs ds).take k ++ [pf bs (ds.getD k 0)] := by
  rw [List.take_add_one]
  simp [dfN, List.getD_eq_getElem?_getD, h]
theorem cnt_set {n : Nat} {fs : List Nat} {f : Nat} (hf : f < n) : (cntL n fs).set f ((cntL n fs).getD f 0 + 1) = cntL n (fs ++ [f]) := by
  have e : (cntL n fs).getD f 0 = (fs.count f : Int) := by unfold cntL; rw [tell_getD _ _ _ hf]
  rw [e]
  unfold cntL
  refine tell_set hf ?_ fun j _ hj => ?_
  · simp
  · have hb : (f == j) = false := by simpa using fun h => hj h.symm
    simp [List.count_cons, hb]
theorem cnt_nil (n : Nat) : cntL n [] = List.replicate n 0 := by
  refine list_ext_getD' (by simp [cntL_length]) fun j hj => ?_
  rw [cntL_length] at hj
  unfold cntL
  rw [tell_getD _ _ _ hj]
  simp [List.getD_eq_getElem?_getD, hj]
theorem mF_cnt {ss : List Int} {n : Nat} {fs : List Nat} (h : ∀ f ∈ fs, f < n) : mF (mS ss (cntL n fs)) n = mF (totL ss fs) n ∧ mS ss (cntL n fs) (mF (totL ss fs) n) = totL ss fs (mF (totL ss fs) n) := by
  have e : ∀ to, mS ss (cntL n fs) to = totL ss fs to := mS_cnt ss n fs h
  have e1 := mF_ext (g := mS ss (cntL n fs)) (g' := totL ss fs) n (fun k _ => e k)
  exact ⟨e1, by rw [e]⟩

set_option maxHeartbeats 2000000 in
theorem specMeet_any (A A' : Option Addr) (c c' : Nat) (ss bs : List Int) (Z : Option Addr) (d : Nat) (ds : List Int) (B : Nat) (w : World) (h : Ho w B A A' c c' ss bs) (hB : B ≤ w.heap.size) (hz : Rd w B Z d ds) (hn : ds.length ≤ 1048576) :
    Calls Try.prog 27 #[.agg #[.slice A ss.length c, .slice A' bs.length c'], .slice Z ds.length d] w (Plain (.tuple #[.int .i64 (orI (listB ss bs ds) (meetN ss bs (dfN bs ds) : Nat)), .int .i64 (orI (listB ss bs ds) (totL ss (dfN bs ds) (meetN ss bs (dfN bs ds)))), .bool (listB ss bs ds)]) w) := by
  cases g : listB ss bs ds
  · rw [orI_no, orI_no]
    have H := Lib.hid g
    clear g
    have hz1 := hz.below (below_alloc w (.cells #[.slice A ss.length c, .slice A' bs.length c'] 26)) hB
    have h1 := h.alloc hB (.cells #[.slice A ss.length c, .slice A' bs.length c'] 26)
    have X0 : Blk (w.alloc (.cells #[.slice A ss.length c, .slice A' bs.length c'] 26)) w.heap.size 26 #[.slice A ss.length c, .slice A' bs.length c'] := Blk.new _ _ _
    have hns := h.ns
    have hnb := h.nb
    have hcs := h.rs.1
    have hcb := h.rb.1
    go_enter Try.func27, Try.ntmps27
    go_wp2_with fail
    refine (ldList_any _ _ _ _ _ _ _ _ _ B _ h1 (by simp; omega) hz1 hn).mono ?_
    rintro e w1 ⟨rfl, hb⟩
    have Bt : Below w.heap.size w w1 := (below_alloc _ _).trans (hb.mono (by simp))
    have hs : w.heap.size + 1 ≤ w1.heap.size := by have := hb.size; simp at this; omega
    replace h1 := h1.below hb (by simp; omega)
    replace X0 := X0.below hb (by simp)
    clear hb
    obtain ⟨p0, p1⟩ := X0.two
    rw [H.out]
    go_wp2_with fail
    go_ret3
    exact ⟨rfl, Bt⟩
  · rw [orI_yes, orI_yes]
    have G := listB_good g
    have hl1 := G.g.n1
    have hl2 : bs.length ≤ ss.length + 1 := by have := G.g.nb; omega
    have hl3 : ss.length + 1 ≤ bs.length := by have := G.g.nb; omega
    have hd1 := G.n1
    have H := Lib.hid g
    have hmk := make_run bs.length (by omega)
    have HCL := Lib.hid (fun fs => cntL_length bs.length fs)
    clear g
    have hz1 := hz.below (below_alloc w (.cells #[.slice A ss.length c, .slice A' bs.length c'] 26)) hB
    have h1 := h.alloc hB (.cells #[.slice A ss.length c, .slice A' bs.length c'] 26)
    have X0 : Blk (w.alloc (.cells #[.slice A ss.length c, .slice A' bs.length c'] 26)) w.heap.size 26 #[.slice A ss.length c, .slice A' bs.length c'] := Blk.new _ _ _
    have hns := h.ns
    have hnb := h.nb
    have hcs := h.rs.1
    have hcb := h.rb.1
    go_enter Try.func27, Try.ntmps27
    go_wp2_with fail
    refine (ldList_any _ _ _ _ _ _ _ _ _ B _ h1 (by simp; omega) hz1 hn).mono ?_
    rintro e w1 ⟨rfl, hb⟩
    have Bt : Below w.heap.size w w1 := (below_alloc _ _).trans (hb.mono (by simp))
    have hs : w.heap.size + 1 ≤ w1.heap.size := by have := hb.size; simp at this; omega
    replace h1 := h1.below hb (by simp; omega)
    replace X0 := X0.below hb (by simp)
    replace hz := (hz.below (below_alloc _ _) hB).below hb (by simp; omega)
    clear hb
    obtain ⟨p0, p1⟩ := X0.two
    rw [H.out]
    have XC : Blk (w1.alloc (.cells (ints (List.replicate bs.length 0)) 3)) w1.heap.size 3 (ints (cntL bs.length ((dfN bs ds).take 0))) := by rw [List.take_zero, cnt_nil]; exact Blk.new _ _ _
    have X2 := X0.alloc (.cells (ints (List.replicate bs.length 0)) 3)
    have B2 := below_alloc w1 (.cells (ints (List.replicate bs.length 0)) 3)
    go_wp2_with fail
    clear hmk p0 p1
    go_loopw [22] (fun i wr => ∃ k : Nat, k ≤ ds.length ∧ i = .int .i64 k ∧ Blk wr w1.heap.size 3 (ints (cntL bs.length ((dfN bs ds).take k))) ∧ Blk wr w.heap.size 26 #[.slice A ss.length c, .slice A' bs.length c'] ∧ Below w1.heap.size w1 wr) (fun i _ => ds.length - (intOf i).toNat)
    case atStart => exact ⟨0, Nat.zero_le _, rfl, XC, X2, B2⟩
    case round =>
      clear XC X2 B2 X0
      obtain ⟨k, hk, rfl, hC, hX, hbw⟩ := hrel
      have hCl := hC.lt
      have hXl := hX.lt
      have h2 := h1.below hbw (by omega)
      have hz2 := hz.below hbw (by omega)
      obtain ⟨p0, p1⟩ := hX.two
      by_cases hlt : k < ds.length
      · obtain ⟨b, o, rfl, hb0, hcell⟩ := hz2.at_ hlt
        have hd := G.hd k hlt
        have hpl := pf_lt hd.1 hd.2
        have HT := Lib.hid (dfN_take (bs := bs) hlt)
        generalize ds.getD k 0 = x at *
        go_wp2_with fail
        refine (ldOf_new _ _ _ _ _ _ _ B _ h2 (by omega) G.g hd.1 hd.2).mono ?_
        rintro e w2 ⟨rfl, hb⟩
        have hC2 := hC.below hb hCl
        have hX2 := hX.below hb hXl
        have hbw2 := hbw.trans (hb.mono (by omega))
        generalize pf bs x = f at *
        have hc1 := hC2.int_at (k := f) (by rw [HCL.out]; exact hpl)
        have hc2 := hC2.frozen f
        have hcb2 := cntL_bd bs.length ((dfN bs ds).take k) f (by rw [HCL.out]; exact hpl)
        have htl : ((dfN bs ds).take k).length ≤ 20 := by simp [dfN]; omega
        have HS := Lib.hid (cnt_set (n := bs.length) (fs := (dfN bs ds).take k) hpl)
        rw [← HT.out] at HS
        generalize (cntL bs.length ((dfN bs ds).take k)).getD f 0 = y at *
        have hy0 := hcb2.1
        have hy1 : y ≤ 20 := by omega
        clear hcb2 htl p0 p1 hb
        have HC3 := Lib.hid hC2
        clear hC2 hC
        go_wp2_with fail
        go_roundw
        case rel => exact ⟨k + 1, by omega, by go_num, by rw [← HS.out]; exact HC3.out.int_set f (y + 1), hX2.far (by simp; omega) _, hbw2.setCell (Nat.le_refl _) _⟩
        case measure => simp [intOf]; omega
      · obtain rfl : k = ds.length := by omega
        have e : Hid ((dfN bs ds).take ds.length = dfN bs ds) := by
          have := List.take_length (l := dfN bs ds)
          rwa [dfN_length] at this
        rw [e.out] at hC
        have hcr := hC.rd (B := wr.heap.size) (c := bs.length) hCl (by rw [HCL.out]; omega)
        have HM := Lib.hid (mF_cnt (ss := ss) (n := bs.length) (fs := dfN bs ds) (fun f hf => by have := dfN_le G f hf; omega))
        have HCB : Hid (∀ j, j < (cntL bs.length (dfN bs ds)).length → 0 ≤ (cntL bs.length (dfN bs ds)).getD j 0 ∧ (cntL bs.length (dfN bs ds)).getD j 0 ≤ 20) := fun j hj => by
          have := cntL_bd bs.length (dfN bs ds) j hj
          have := dfN_length bs ds
          omega
        have HCT := ldMeet_any A A' (some ⟨w1.heap.size, 0, none⟩) c c' bs.length ss bs (cntL bs.length (dfN bs ds)) wr.heap.size wr (h2.more (by omega)) (Nat.le_refl _) hcr G.g (HCL.out _).symm HCB.out
        rw [HCL.out, HM.out.1, HM.out.2] at HCT
        go_wp2_with fail
        refine HCT.mono ?_
        rintro e w3 ⟨rfl, hb3⟩
        go_wp2_with fail
        go_ret3
        exact ⟨rfl, Bt.trans ((hbw.trans (hb3.mono (by omega))).mono (by omega))⟩

theorem flI_range (n : Nat) : flI (List.range n) = marksL 0 n := by
  refine list_ext_getD' (by simp [flI, marksL_length]) fun j hj => ?_
  simp only [flI, List.length_map, List.length_range] at hj
  rw [marksL_get 0 n j hj, flI_getD (by simpa using hj)]
  simp [List.getD_eq_getElem?_getD, hj]
/-- the first k of so many ones -/
def onesL (n k : Nat) : List Int := tell n fun j => if j < k then 1 else 0
theorem onesL_length (n k : Nat) : (onesL n k).length = n := tell_length _ _
theorem onesL_zero (n : Nat) : onesL n 0 = List.replicate n 0 := by
  refine list_ext_getD' (by simp [onesL_length]) fun j hj => ?_
  rw [onesL_length] at hj
  unfold onesL
  rw [tell_getD _ _ _ hj]
  simp [List.getD_eq_getElem?_getD, hj]
theorem onesL_set {n k : Nat} (h : k < n) : (onesL n k).set k 1 = onesL n (k + 1) :=
  tell_set h (if_pos (by omega)) fun j _ hj => by
    by_cases h2 : j < k
    · rw [if_pos h2, if_pos (by omega)]
    · rw [if_neg h2, if_neg (by omega)]
theorem count_range : ∀ (n j : Nat), j < n → (List.range n).count j = 1
  | 0, _, h => absurd h (by omega)
  | n + 1, j, h => by
    rw [List.range_succ, List.count_append]
    by_cases hj : j = n
    · subst hj
      rw [List.count_eq_zero.2 (by simp)]
      simp
    · have hb : (n == j) = false := by simpa using fun e => hj e.symm
      rw [count_range n j (by omega)]
      simp [List.count_cons, hb]
theorem onesL_all (n : Nat) : onesL n n = cntL n (List.range n) :=
  tell_ext fun j hj => by rw [if_pos hj, count_range n j hj]; rfl

set_option maxHeartbeats 2000000 in
theorem implMiddle_any (A A' : Option Addr) (c c' : Nat) (ss bs : List Int) (B : Nat) (w : World) (h : Ho w B A A' c c' ss bs) (hB : B ≤ w.heap.size) :
    Calls Try.prog 30 #[.agg #[.slice A ss.length c, .slice A' bs.length c']] w (Plain (.tuple #[.int .i64 (orI (goodH ss bs) (meetN ss bs (List.range bs.length) : Nat)), .int .i64 (orI (goodH ss bs) (totL ss (List.range bs.length) (meetN ss bs (List.range bs.length)))), .bool (goodH ss bs)]) w) := by
  cases g : goodH ss bs
  · rw [orI_no, orI_no]
    have H := Lib.hid g
    clear g
    have h1 := h.alloc hB (.cells #[.slice A ss.length c, .slice A' bs.length c'] 26)
    have X0 : Blk (w.alloc (.cells #[.slice A ss.length c, .slice A' bs.length c'] 26)) w.heap.size 26 #[.slice A ss.length c, .slice A' bs.length c'] := Blk.new _ _ _
    have hns := h.ns
    have hnb := h.nb
    have hcs := h.rs.1
    have hcb := h.rb.1
    go_enter Try.func30, Try.ntmps30
    go_wp2_with fail
    refine (impHouse_any _ _ _ _ _ _ B _ h1 (by simp; omega)).mono ?_
    rintro e w1 ⟨rfl, hb⟩
    have Bt : Below w.heap.size w w1 := (below_alloc _ _).trans (hb.mono (by simp))
    have hs : w.heap.size + 1 ≤ w1.heap.size := by have := hb.size; simp at this; omega
    replace h1 := h1.below hb (by simp; omega)
    replace X0 := X0.below hb (by simp)
    clear hb
    obtain ⟨p0, p1⟩ := X0.two
    rw [H.out]
    go_wp2_with fail
    go_ret3
    exact ⟨rfl, Bt⟩
  · rw [orI_yes, orI_yes]
    have G := goodH_of g
    have H := Lib.hid g
    clear g
    have hl1 := G.n1
    have hl2 : bs.length ≤ ss.length + 1 := by have := G.nb; omega
    have hl3 : ss.length + 1 ≤ bs.length := by have := G.nb; omega
    have h1 := h.alloc hB (.cells #[.slice A ss.length c, .slice A' bs.length c'] 26)
    have X0 : Blk (w.alloc (.cells #[.slice A ss.length c, .slice A' bs.length c'] 26)) w.heap.size 26 #[.slice A ss.length c, .slice A' bs.length c'] := Blk.new _ _ _
    have hns := h.ns
    have hnb := h.nb
    have hcs := h.rs.1
    have hcb := h.rb.1
    go_enter Try.func30, Try.ntmps30
    go_wp2_with fail
    refine (impHouse_any _ _ _ _ _ _ B _ h1 (by simp; omega)).mono ?_
    rintro e w1 ⟨rfl, hb⟩
    have Bt : Below w.heap.size w w1 := (below_alloc _ _).trans (hb.mono (by simp))
    have hs : w.heap.size + 1 ≤ w1.heap.size := by have := hb.size; simp at this; omega
    replace h1 := h1.below hb (by simp; omega)
    replace X0 := X0.below hb (by simp)
    clear hb
    obtain ⟨p0, p1⟩ := X0.two
    rw [H.out]
    go_wp2_with fail
    have HFR := Lib.hid (flI_range bs.length)
    go_loopw [5, 15] (fun v i wr => ∃ k : Nat, k ≤ bs.length ∧ i = .int .i64 k ∧ OwnI wr w1.heap.size v (marksL 0 k) ∧ Below w1.heap.size w1 wr) (fun _ i _ => bs.length - (intOf i).toNat)
    case atStart => exact ⟨0, Nat.zero_le _, rfl, OwnI.nil _ _, Below.refl _ _⟩
    case round =>
      obtain ⟨k, hk, rfl, hown, hbw⟩ := hrel
      have hz0 := hbw.size
      by_cases hlt : k < bs.length
      · have HT := Lib.hid (marksL_snoc 0 k)
        have hml : (marksL 0 k).length ≤ 1048576 := by rw [marksL_length]; omega
        have e0 : (0 : Int) + (k : Int) = (k : Int) := by omega
        rw [e0] at HT
        clear e0
        generalize hL : marksL 0 k = zs at *
        clear hL
        go_wp2_with (at_builtin; refine wpList_pushI _ rfl _ _ rfl w1.heap.size _ zs rfl (hown.alloc _) wr.heap.size (k : Int) rfl (by simp) hml (by simp; omega) ?_; intro A1 c1 w3 hown1 hg1)
        go_roundw
        case rel => exact ⟨k + 1, by omega, by go_num, by rw [HT.out]; exact hown1, (hbw.alloc hz0 _).trans hg1⟩
        case measure => simp [intOf]; omega
      · obtain rfl : k = bs.length := by omega
        rw [← HFR.out] at hown
        obtain ⟨Z1, d1, rfl, hrd⟩ := hown.form
        rw [flI_length, List.length_range]
        have X2 := X0.below hbw (by omega)
        have h2 := (h1.below hbw (by omega)).more (B' := wr.heap.size) (by omega)
        obtain ⟨p0, p1⟩ := X2.two
        have HCT := nearest_any A A' Z1 c c' d1 ss bs (List.range bs.length) wr.heap.size wr h2 (Nat.le_refl _) hrd G (by rw [List.length_range]; omega) (fun f hf => by have := List.mem_range.1 hf; omega)
        rw [List.length_range] at HCT
        go_wp2_with fail
        refine HCT.mono ?_
        rintro e w3 ⟨rfl, hb3⟩
        go_wp2_with fail
        go_ret3
        exact ⟨rfl, Bt.trans ((hbw.trans (hb3.mono (by omega))).mono (by omega))⟩

set_option maxHeartbeats 2000000 in
theorem specMiddle_any (A A' : Option Addr) (c c' : Nat) (ss bs : List Int) (B : Nat) (w : World) (h : Ho w B A A' c c' ss bs) (hB : B ≤ w.heap.size) :
    Calls Try.prog 29 #[.agg #[.slice A ss.length c, .slice A' bs.length c']] w (Plain (.tuple #[.int .i64 (orI (goodH ss bs) (meetN ss bs (List.range bs.length) : Nat)), .int .i64 (orI (goodH ss bs) (totL ss (List.range bs.length) (meetN ss bs (List.range bs.length)))), .bool (goodH ss bs)]) w) := by
  cases g : goodH ss bs
  · rw [orI_no, orI_no]
    have H := Lib.hid g
    clear g
    have h1 := h.alloc hB (.cells #[.slice A ss.length c, .slice A' bs.length c'] 26)
    have X0 : Blk (w.alloc (.cells #[.slice A ss.length c, .slice A' bs.length c'] 26)) w.heap.size 26 #[.slice A ss.length c, .slice A' bs.length c'] := Blk.new _ _ _
    have hns := h.ns
    have hnb := h.nb
    have hcs := h.rs.1
    have hcb := h.rb.1
    go_enter Try.func29, Try.ntmps29
    go_wp2_with fail
    refine (ldGood_any _ _ _ _ _ _ B _ h1 (by simp; omega)).mono ?_
    rintro e w1 ⟨rfl, hb⟩
    have Bt : Below w.heap.size w w1 := (below_alloc _ _).trans (hb.mono (by simp))
    have hs : w.heap.size + 1 ≤ w1.heap.size := by have := hb.size; simp at this; omega
    replace h1 := h1.below hb (by simp; omega)
    replace X0 := X0.below hb (by simp)
    clear hb
    obtain ⟨p0, p1⟩ := X0.two
    rw [H.out]
    go_wp2_with fail
    go_ret3
    exact ⟨rfl, Bt⟩
  · rw [orI_yes, orI_yes]
    have G := goodH_of g
    have H := Lib.hid g
    clear g
    have hl1 := G.n1
    have hl2 : bs.length ≤ ss.length + 1 := by have := G.nb; omega
    have hl3 : ss.length + 1 ≤ bs.length := by have := G.nb; omega
    have hmk := make_run bs.length (by omega)
    have h1 := h.alloc hB (.cells #[.slice A ss.length c, .slice A' bs.length c'] 26)
    have X0 : Blk (w.alloc (.cells #[.slice A ss.length c, .slice A' bs.length c'] 26)) w.heap.size 26 #[.slice A ss.length c, .slice A' bs.length c'] := Blk.new _ _ _
    have hns := h.ns
    have hnb := h.nb
    have hcs := h.rs.1
    have hcb := h.rb.1
    go_enter Try.func29, Try.ntmps29
    go_wp2_with fail
    refine (ldGood_any _ _ _ _ _ _ B _ h1 (by simp; omega)).mono ?_
    rintro e w1 ⟨rfl, hb⟩
    have Bt : Below w.heap.size w w1 := (below_alloc _ _).trans (hb.mono (by simp))
    have hs : w.heap.size + 1 ≤ w1.heap.size := by have := hb.size; simp at this; omega
    replace h1 := h1.below hb (by simp; omega)
    replace X0 := X0.below hb (by simp)
    clear hb
    obtain ⟨p0, p1⟩ := X0.two
    rw [H.out]
    have XC : Blk (w1.alloc (.cells (ints (List.replicate bs.length 0)) 3)) w1.heap.size 3 (ints (onesL bs.length 0)) := by rw [onesL_zero]; exact Blk.new _ _ _
    have X2 := X0.alloc (.cells (ints (List.replicate bs.length 0)) 3)
    have B2 := below_alloc w1 (.cells (ints (List.replicate bs.length 0)) 3)
    go_wp2_with fail
    clear hmk p0 p1
    go_loopw [18] (fun i wr => ∃ k : Nat, k ≤ bs.length ∧ i = .int .i64 k ∧ Blk wr w1.heap.size 3 (ints (onesL bs.length k)) ∧ Blk wr w.heap.size 26 #[.slice A ss.length c, .slice A' bs.length c'] ∧ Below w1.heap.size w1 wr) (fun i _ => bs.length - (intOf i).toNat)
    case atStart => exact ⟨0, Nat.zero_le _, rfl, XC, X2, B2⟩
    case round =>
      clear XC X2 B2 X0
      obtain ⟨k, hk, rfl, hC, hX, hbw⟩ := hrel
      have hCl := hC.lt
      have hXl := hX.lt
      have h2 := h1.below hbw (by omega)
      obtain ⟨p0, p1⟩ := hX.two
      by_cases hlt : k < bs.length
      · have hc1 := hC.int_at (k := k) (by rw [onesL_length]; exact hlt)
        have hc2 := hC.frozen k
        have HS := Lib.hid (onesL_set hlt)
        generalize (onesL bs.length k).getD k 0 = y at *
        have HC3 := Lib.hid hC
        clear hC p0 p1
        go_wp2_with fail
        go_roundw
        case rel => exact ⟨k + 1, by omega, by go_num, by rw [← HS.out]; exact HC3.out.int_set k 1, hX.far (by simp; omega) _, hbw.setCell (Nat.le_refl _) _⟩
        case measure => simp [intOf]; omega
      · obtain rfl : k = bs.length := by omega
        rw [onesL_all] at hC
        have HCL := Lib.hid (cntL_length bs.length (List.range bs.length))
        have hcr := hC.rd (B := wr.heap.size) (c := bs.length) hCl (by rw [HCL.out]; omega)
        have HM := Lib.hid (mF_cnt (ss := ss) (n := bs.length) (fs := List.range bs.length) (fun f hf => List.mem_range.1 hf))
        have HCB : Hid (∀ j, j < (cntL bs.length (List.range bs.length)).length → 0 ≤ (cntL bs.length (List.range bs.length)).getD j 0 ∧ (cntL bs.length (List.range bs.length)).getD j 0 ≤ 20) := fun j hj => by
          have := cntL_bd bs.length (List.range bs.length) j hj
          rw [List.length_range] at this
          omega
        have HCT := ldMeet_any A A' (some ⟨w1.heap.size, 0, none⟩) c c' bs.length ss bs (cntL bs.length (List.range bs.length)) wr.heap.size wr (h2.more (by omega)) (Nat.le_refl _) hcr G HCL.out.symm HCB.out
        rw [HCL.out, HM.out.1, HM.out.2] at HCT
        go_wp2_with fail
        refine HCT.mono ?_
        rintro e w3 ⟨rfl, hb3⟩
        go_wp2_with fail
        go_ret3
        exact ⟨rfl, Bt.trans ((hbw.trans (hb3.mono (by omega))).mono (by omega))⟩

end Go.Proofs.Ytmamcjnehnknmaa
