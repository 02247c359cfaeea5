/- Contracts: balls: fewest changes, the program. -/
import Derived.Test.YtmolfeckeoimbaaBaP
import Derived.Test.YtmolfeckeoimbaaBaC
import Derived.Test.YtmolfeckeoimbaaGRep
import Derived.Deep.RegionWith
import Derived.Deep.LoopGhost
namespace Go.Proofs.Ytmolfeckeoimbaa
open Go.RowKit

/-- a list's numbers by their places -/
def gF (ys : List Int) : Nat → Int := fun k => ys.getD k 0
theorem gF_set (ys : List Int) (u : Nat) (v : Int) (h : u < ys.length) : gF (ys.set u v) = putF (gF ys) u v := by
  funext k
  show (ys.set u v).getD k 0 = if k = u then v else ys.getD k 0
  rw [List.getD_eq_getElem?_getD, List.getElem?_set, List.getD_eq_getElem?_getD]
  by_cases e : k = u
  · subst e; simp [h]
  · rw [if_neg (fun x => e x.symm), if_neg e]
theorem okE_jump {xs : List Int} {u : Nat} {b : Int} (h : inB (xs.getD u 0 + b) (-30) 30 = false) : okE xs u b = false := by
  simp only [okE, Int.toNat_natCast, h]; simp
theorem okE_above {xs : List Int} {u : Nat} {b : Int} (h : (u : Int) + (xs.getD u 0 + b) < 0) : okE xs u b = false := by
  simp only [okE, Int.toNat_natCast]
  rw [show decide (0 ≤ (u : Int) + (xs.getD u 0 + b)) = false from decide_eq_false (by omega)]
  simp
theorem okE_yes {xs : List Int} {u : Nat} {b : Int} (hu : u < xs.length) (hb : -1 ≤ b) (hb' : b ≤ 1) (h : inB (xs.getD u 0 + b) (-30) 30 = true) (h2 : 0 ≤ (u : Int) + (xs.getD u 0 + b)) : okE xs u b = true := by
  simp only [okE, Int.toNat_natCast, h]
  rw [inB_yes (by omega) (by omega), inB_yes hb hb']
  simpa using h2
theorem from_no {xs : List Int} {F : Nat → Int} {u : Nat} {b : Int} (h : okE xs u b = false) : fromI xs F u b = (xs.length : Int) + 1 := by simp [fromI, h]
theorem from_yes {xs : List Int} {F : Nat → Int} {u : Nat} {b : Int} (h : okE xs u b = true) : fromI xs F u b = costE b + (if nxE xs u b < xs.length then F (nxE xs u b).toNat else 0) := by simp [fromI, h]

set_option maxHeartbeats 2000000 in
theorem changesFrom_any (A A' : Option Addr) (c c' : Nat) (xs ys : List Int) (u : Nat) (b : Int) (B B' : Nat) (w : World) (hr : Rd w B A c xs) (hy : Rd w B' A' c' ys) (hJ : jumpsB xs = true) (hl : ys.length = xs.length) (hu : u < xs.length) (hb : -1 ≤ b) (hb' : b ≤ 1)
    (hF : ∀ k, k < xs.length → 0 ≤ ys.getD k 0 ∧ ys.getD k 0 ≤ (xs.length : Int) + 1) :
    Calls Try.prog 55 #[.slice A xs.length c, .int .i64 (u : Int), .int .i64 b, .slice A' xs.length c'] w fun e w' => e = .returned (.int .i64 (fromI xs (gF ys) u b)) ∧ w = w' := by
  have hx := jumpsB_le hJ
  have hat := jumpsB_at hJ u hu
  obtain ⟨q, o, rfl, hq, hcell⟩ := hr.at_ hu
  have HN1 := Lib.hid (fun h => from_no (F := gF ys) (okE_jump (xs := xs) (u := u) (b := b) h))
  have HN2 := Lib.hid (fun h => from_no (F := gF ys) (okE_above (xs := xs) (u := u) (b := b) h))
  have HY := Lib.hid (fun h h2 => from_yes (F := gF ys) (okE_yes (xs := xs) (u := u) (b := b) hu hb hb' h h2))
  have HE : Hid (nxE xs u b = clampI xs.length ((u : Int) + (xs.getD u 0 + b))) := Lib.hid (by simp [nxE])
  generalize xs.getD u 0 = x at *
  have hw1 : IntKind.i64.wrap (x + b) = x + b := IntWalk.i64_in _ (by omega)
  have hw2 : IntKind.i64.wrap ((xs.length : Int) + 1) = (xs.length : Int) + 1 := IntWalk.i64_in _ (by omega)
  cases g1 : inB (x + b) (-30) 30
  · have R := Lib.hid (HN1.out g1)
    have G1 := Lib.hid g1
    clear g1
    go_enter Try.func55, Try.ntmps55
    go_wp2_with fail
    refine (placeBy_any _ _ _ _ _ _ (by omega) (by omega) (by omega) (by omega) (by omega)).mono ?_
    rintro e w' ⟨rfl, rfl⟩
    go_wp2_with fail
    refine (isJump_any _ _).mono ?_
    rintro e w' ⟨rfl, rfl⟩
    rw [G1.out]
    go_wp2_with fail
    go_ret
    exact ⟨ret_int R.out.symm, rfl⟩
  · by_cases g2 : (u : Int) + (x + b) < 0
    · have R := Lib.hid (HN2.out g2)
      have G1 := Lib.hid g1
      have hcl : clampI xs.length ((u : Int) + (x + b)) = -1 := by rw [clampI, if_pos g2]
      clear g1
      go_enter Try.func55, Try.ntmps55
      go_wp2_with fail
      refine (placeBy_any _ _ _ _ _ _ (by omega) (by omega) (by omega) (by omega) (by omega)).mono ?_
      rintro e w' ⟨rfl, rfl⟩
      rw [hcl]
      go_wp2_with fail
      refine (isJump_any _ _).mono ?_
      rintro e w' ⟨rfl, rfl⟩
      rw [G1.out]
      go_wp2_with fail
      go_ret
      exact ⟨ret_int R.out.symm, rfl⟩
    · have R := Lib.hid (HY.out g1 (by omega))
      have G1 := Lib.hid g1
      have hbd : 0 ≤ clampI xs.length ((u : Int) + (x + b)) ∧ clampI xs.length ((u : Int) + (x + b)) ≤ xs.length := by
        unfold clampI
        rw [if_neg g2]
        split <;> omega
      clear g1
      generalize hK : clampI xs.length ((u : Int) + (x + b)) = p at *
      have HK := Lib.hid hK
      clear hK
      obtain ⟨m, rfl⟩ := Int.eq_ofNat_of_zero_le hbd.1
      have hm1 : ¬ (m : Int) = -1 := by omega
      by_cases hml : m < xs.length
      · obtain ⟨q2, o2, rfl, hq2, hcell2⟩ := hy.at_ (k := m) (by omega)
        have hF2 := hF m hml
        have HI := Lib.hid (inB_yes (n := (m : Int)) (lo := 0) (hi := (xs.length : Int) - 1) (by omega) (by omega))
        have R2 : Hid (fromI xs (gF ys) u b = costE b + ys.getD m 0) := Lib.hid (by
          rw [R.out, HE.out, if_pos (by omega), Int.toNat_natCast]; rfl)
        generalize ys.getD m 0 = y at *
        have hw3 : IntKind.i64.wrap (1 + y) = 1 + y := IntWalk.i64_in _ (by omega)
        by_cases hz : b = 0
        · have R3 : Hid (fromI xs (gF ys) u b = y) := Lib.hid (by rw [R2.out, costE, if_pos hz]; omega)
          subst hz
          rw [Int.add_zero] at HK G1
          go_enter Try.func55, Try.ntmps55
          go_wp2_with fail
          refine (placeBy_any _ _ _ _ _ _ (by omega) (by omega) (by omega) (by omega) (by omega)).mono ?_
          rintro e w' ⟨rfl, rfl⟩
          rw [HK.out]
          go_wp2_with fail
          refine (isJump_any _ _).mono ?_
          rintro e w' ⟨rfl, rfl⟩
          rw [G1.out]
          go_wp2_with fail
          refine (isOn_any _ _ _ _ _ (by omega)).mono ?_
          rintro e w' ⟨rfl, rfl⟩
          rw [HI.out]
          go_wp2_with fail
          go_ret
          exact ⟨ret_int (by rw [R3.out]; try omega), rfl⟩
        · have R3 : Hid (fromI xs (gF ys) u b = 1 + y) := Lib.hid (by rw [R2.out, costE, if_neg hz])
          go_enter Try.func55, Try.ntmps55
          go_wp2_with fail
          refine (placeBy_any _ _ _ _ _ _ (by omega) (by omega) (by omega) (by omega) (by omega)).mono ?_
          rintro e w' ⟨rfl, rfl⟩
          rw [HK.out]
          go_wp2_with fail
          refine (isJump_any _ _).mono ?_
          rintro e w' ⟨rfl, rfl⟩
          rw [G1.out]
          go_wp2_with fail
          refine (isOn_any _ _ _ _ _ (by omega)).mono ?_
          rintro e w' ⟨rfl, rfl⟩
          rw [HI.out]
          go_wp2_with fail
          go_ret
          exact ⟨ret_int (by rw [R3.out]; try omega), rfl⟩
      · have HI := Lib.hid (inB_no (n := (m : Int)) (lo := 0) (hi := (xs.length : Int) - 1) (by omega))
        have R2 : Hid (fromI xs (gF ys) u b = costE b) := Lib.hid (by
          rw [R.out, HE.out, if_neg (by omega)]; omega)
        by_cases hz : b = 0
        · have R3 : Hid (fromI xs (gF ys) u b = 0) := Lib.hid (by rw [R2.out, costE, if_pos hz])
          subst hz
          rw [Int.add_zero] at HK G1
          go_enter Try.func55, Try.ntmps55
          go_wp2_with fail
          refine (placeBy_any _ _ _ _ _ _ (by omega) (by omega) (by omega) (by omega) (by omega)).mono ?_
          rintro e w' ⟨rfl, rfl⟩
          rw [HK.out]
          go_wp2_with fail
          refine (isJump_any _ _).mono ?_
          rintro e w' ⟨rfl, rfl⟩
          rw [G1.out]
          go_wp2_with fail
          refine (isOn_any _ _ _ _ _ (by omega)).mono ?_
          rintro e w' ⟨rfl, rfl⟩
          rw [HI.out]
          go_wp2_with fail
          go_ret
          exact ⟨ret_int R3.out.symm, rfl⟩
        · have R3 : Hid (fromI xs (gF ys) u b = 1) := Lib.hid (by rw [R2.out, costE, if_neg hz])
          go_enter Try.func55, Try.ntmps55
          go_wp2_with fail
          refine (placeBy_any _ _ _ _ _ _ (by omega) (by omega) (by omega) (by omega) (by omega)).mono ?_
          rintro e w' ⟨rfl, rfl⟩
          rw [HK.out]
          go_wp2_with fail
          refine (isJump_any _ _).mono ?_
          rintro e w' ⟨rfl, rfl⟩
          rw [G1.out]
          go_wp2_with fail
          refine (isOn_any _ _ _ _ _ (by omega)).mono ?_
          rintro e w' ⟨rfl, rfl⟩
          rw [HI.out]
          go_wp2_with fail
          go_ret
          exact ⟨ret_int R3.out.symm, rfl⟩

/-- what the row holds while a step's jump is changed -/
structure Found (xs : List Int) (r u : Nat) (b : Int) (ys : List Int) : Prop where
  len : ys.length = xs.length
  sound : Sound xs (gF ys)
  all : ∀ v, v < xs.length → Knows' xs r (gF ys) v
  ahead : ∀ v, v < u → Knows' xs (r + 1) (gF ys) v
  here : ∀ b', -1 ≤ b' → b' < b → KnowsB xs r (gF ys) u b'
theorem Found.first {xs : List Int} : Found xs 0 0 (-1) (List.replicate xs.length ((xs.length : Int) + 1)) := by
  have hg : ∀ k, k < xs.length → gF (List.replicate xs.length ((xs.length : Int) + 1)) k = (xs.length : Int) + 1 := fun k hk => by
    simp [gF, List.getD_eq_getElem?_getD, hk]
  refine ⟨by simp, fun u hu => ⟨by rw [hg u hu]; omega, by rw [hg u hu]; omega, fun h => by rw [hg u hu] at h; omega⟩, fun v hv => Knows'.zero _ _ _ hv, fun v hv => absurd hv (by omega), fun b' h1 h2 => absurd h2 (by omega)⟩
theorem Found.put {xs ys : List Int} {r u : Nat} {b : Int} (h : Found xs r u b ys) (hu : u < xs.length) (_hb : -1 ≤ b) : Found xs r u (b + 1) (ys.set u (min (ys.getD u 0) (fromI xs (gF ys) u b))) := by
  have e := gF_set ys u (min (ys.getD u 0) (fromI xs (gF ys) u b)) (by rw [h.len]; exact hu)
  have hle : ∀ k, putF (gF ys) u (min (ys.getD u 0) (fromI xs (gF ys) u b)) k ≤ gF ys k := fun k => by
    unfold putF
    split
    · rename_i e'; subst e'; exact Int.min_le_left _ _
    · exact Int.le_refl _
  refine ⟨by rw [List.length_set]; exact h.len, ?_, ?_, ?_, ?_⟩
  · rw [e]; exact h.sound.put hu b
  · rw [e]; exact fun v hv => (h.all v hv).low (hle v)
  · rw [e]; exact fun v hv => (h.ahead v hv).low (hle v)
  · rw [e]
    intro b' h1 h2
    by_cases hbb : b' = b
    · subst hbb
      intro bs ho he hl
      have h3 := fromI_le (F := gF ys) h.all u b' bs ho he hl
      have h4 : putF (gF ys) u (min (ys.getD u 0) (fromI xs (gF ys) u b')) u = min (ys.getD u 0) (fromI xs (gF ys) u b') := if_pos rfl
      rw [h4]
      exact Int.le_trans (Int.min_le_right _ _) h3
    · exact (h.here b' h1 (by omega)).low (hle u)
theorem Found.next {xs ys : List Int} {r u : Nat} (h : Found xs r u 2 ys) (hu : u < xs.length) : Found xs r (u + 1) (-1) ys :=
  ⟨h.len, h.sound, h.all, fun v hv => by
    rcases Nat.lt_succ_iff_lt_or_eq.1 hv with hv | rfl
    · exact h.ahead v hv
    · exact Knows'.of_all hu fun b h1 h2 => h.here b h1 (by omega), fun b' h1 h2 => absurd h2 (by omega)⟩
theorem Found.round {xs ys : List Int} {r : Nat} (h : Found xs r xs.length (-1) ys) : Found xs (r + 1) 0 (-1) ys :=
  ⟨h.len, h.sound, h.ahead, fun v hv => absurd hv (by omega), fun b' h1 h2 => absurd h2 (by omega)⟩

set_option maxHeartbeats 4000000 in
theorem changesToEnd_any (A : Option Addr) (c : Nat) (xs : List Int) (B : Nat) (w : World) (hr : Rd w B A c xs) (hB : B ≤ w.heap.size) (hJ : jumpsB xs = true) :
    Calls Try.prog 46 #[.slice A xs.length c] w fun e w' => ∃ g ys, e = .returned (.slice (some ⟨g, 0, none⟩) xs.length xs.length) ∧ w.heap.size ≤ g ∧ Blk w' g 3 (ints ys) ∧ Hid (Found xs xs.length 0 (-1) ys) ∧ Below w.heap.size w w' := by
  have hx := jumpsB_le hJ
  have HJ := Lib.hid hJ
  have hw2 : IntKind.i64.wrap ((xs.length : Int) + 1) = (xs.length : Int) + 1 := IntWalk.i64_in _ (by omega)
  have h1 : Rd (w.alloc (.cells #[.int .i64 ((xs.length : Int) + 1)] 3)) (w.heap.size + 1) (some ⟨w.heap.size, 0, none⟩) 1 [(xs.length : Int) + 1] := Blk.rd (xs := [(xs.length : Int) + 1]) (Blk.new _ _ _) (by omega) (by simp)
  clear hJ
  go_enter Try.func46, Try.ntmps46
  go_wp2_with fail
  refine (repeat_any _ _ xs.length _ _ _ h1 (by simp) (by omega) (by omega)).mono ?_
  rintro e w1 ⟨g, rfl, hg, hblk, hb1⟩
  simp only [World.size_alloc] at hg hb1
  have hBt : Below w.heap.size w w1 := (below_alloc w _).trans (hb1.mono (by omega))
  clear h1 hb1
  go_wp2_with fail
  go_loopw [15] (fun i wr => ∃ (r : Nat) (ys : List Int), r ≤ xs.length ∧ i = .int .i64 (r : Int) ∧ Blk wr g 3 (ints ys) ∧ Hid (Found xs r 0 (-1) ys) ∧ Below w.heap.size w wr) (fun i _ => xs.length - (intOf i).toNat)
  case atStart => exact ⟨0, _, Nat.zero_le _, rfl, hblk, Lib.hid Found.first, hBt⟩
  case round =>
    obtain ⟨r, ys, hrl, rfl, hblk, HF, hbw⟩ := hrel
    by_cases hlt : r < xs.length
    · have hlt' : (r : Int) < xs.length := by omega
      go_wp2_with fail
      go_loopw [19] (fun i wr => ∃ (u : Nat) (ys : List Int), u ≤ xs.length ∧ i = .int .i64 (u : Int) ∧ Blk wr g 3 (ints ys) ∧ Hid (Found xs r u (-1) ys) ∧ Below w.heap.size w wr) (fun i _ => xs.length - (intOf i).toNat)
      case atStart => exact ⟨0, ys, Nat.zero_le _, rfl, hblk, HF, hbw⟩
      case round =>
        clear hblk HF hbw
        obtain ⟨u, ys, hul, rfl, hblk, HF, hbw⟩ := hrel
        by_cases hlu : u < xs.length
        · have hlu' : (u : Int) < xs.length := by omega
          go_wp2_with fail
          go_loopw [5] (fun i wr => ∃ (b : Int) (ys : List Int), -1 ≤ b ∧ b ≤ 2 ∧ i = .int .i64 b ∧ Blk wr g 3 (ints ys) ∧ Hid (Found xs r u b ys) ∧ Below w.heap.size w wr) (fun i _ => (2 - intOf i).toNat)
          case atStart => exact ⟨-1, ys, by omega, by omega, rfl, hblk, HF, hbw⟩
          case round =>
            clear hblk HF hbw
            obtain ⟨b, ys, hb1, hb2, rfl, hblk, HF, hbw⟩ := hrel
            by_cases hlb : b ≤ 1
            · have hlen := HF.out.len
              have hS := HF.out.sound
              have hFu := hS u hlu
              have hfb := fromI_bd hS u b
              have hbd : ∀ k, k < xs.length → 0 ≤ ys.getD k 0 ∧ ys.getD k 0 ≤ (xs.length : Int) + 1 := fun k hk => ⟨(hS k hk).1, (hS k hk).2.1⟩
              have hblkd : Blk wr.drew g 3 (ints ys) := hblk
              have HC := Lib.hid (changesFrom_any A (some ⟨g, 0, none⟩) c xs.length xs ys u b B (g + 1) wr.drew ((hr.below hbw hB).keep (fun _ _ _ => rfl)) (hblkd.rd (by omega) (by omega)) HJ.out hlen hlu hb1 hlb hbd)
              have HN := Lib.hid (HF.out.put hlu hb1)
              have k1 : wr.drew.cell? ⟨g, u, none⟩ = some (.int .i64 (ys.getD u 0)) := hblkd.int_at (by omega)
              have k2 := hblkd.frozen u
              have HBW := Lib.hid hbw
              have HBD := Lib.hid hblkd
              have hFu2 : 0 ≤ ys.getD u 0 ∧ ys.getD u 0 ≤ (xs.length : Int) + 1 := ⟨hFu.1, hFu.2.1⟩
              clear hlen hS hFu hbd hblkd hblk hbw
              generalize fromI xs (gF ys) u b = f at *
              generalize ys.getD u 0 = a at *
              have hwb : IntKind.i64.wrap (b + 1) = b + 1 := IntWalk.i64_in _ (by omega)
              rcases Int.lt_trichotomy a f with h3 | h3 | h3
              · have h4 : ¬ f < a := by omega
                have h5 : min a f = a := by omega
                rw [h5] at HN
                clear h5
                go_wp2_with fail
                go_region_with (go_at_call 55; refine HC.out.mono ?_; rintro e w' ⟨rfl, rfl⟩)
                all_goals
                  go_wp2_with fail
                  go_roundw
                  case rel => exact ⟨b + 1, _, by omega, by omega, by go_num, HBD.out.int_set u a, HN, (HBW.out.drew).setCell (p := ⟨g, u, none⟩) (by show w.heap.size ≤ g; omega) _⟩
                  case measure => simp [intOf]; omega
              · subst h3
                have h5 : min a a = a := by omega
                rw [h5] at HN
                clear h5
                go_wp2_with fail
                go_region_with (go_at_call 55; refine HC.out.mono ?_; rintro e w' ⟨rfl, rfl⟩)
                all_goals
                  go_wp2_with fail
                  go_roundw
                  case rel => exact ⟨b + 1, _, by omega, by omega, by go_num, HBD.out.int_set u a, HN, (HBW.out.drew).setCell (p := ⟨g, u, none⟩) (by show w.heap.size ≤ g; omega) _⟩
                  case measure => simp [intOf]; omega
              · have h4 : ¬ a < f := by omega
                have h5 : min a f = f := by omega
                rw [h5] at HN
                clear h5
                go_wp2_with fail
                go_region_with (go_at_call 55; refine HC.out.mono ?_; rintro e w' ⟨rfl, rfl⟩)
                all_goals
                  go_wp2_with fail
                  go_roundw
                  case rel => exact ⟨b + 1, _, by omega, by omega, by go_num, HBD.out.int_set u f, HN, (HBW.out.drew).setCell (p := ⟨g, u, none⟩) (by show w.heap.size ≤ g; omega) _⟩
                  case measure => simp [intOf]; omega
            · obtain rfl : b = 2 := by omega
              go_wp2_with fail
              go_roundw
              case rel => exact ⟨u + 1, ys, by omega, by go_num, hblk, Lib.hid (HF.out.next hlu), hbw⟩
              case measure => simp [intOf]; omega
        · obtain rfl : u = xs.length := by omega
          go_wp2_with fail
          go_roundw
          case rel => exact ⟨r + 1, ys, by omega, by go_num, hblk, Lib.hid HF.out.round, hbw⟩
          case measure => simp [intOf]; omega
    · obtain rfl : r = xs.length := by omega
      go_wp2_with fail
      go_ret
      exact ⟨g, ys, rfl, by omega, hblk, HF, hbw⟩

set_option maxHeartbeats 1000000 in
theorem implFew_any (A : Option Addr) (c : Nat) (xs : List Int) (s : Int) (B : Nat) (w : World) (hr : Rd w B A c xs) (hB : B ≤ w.heap.size) (hn : xs.length ≤ 1048576) :
    Calls Try.prog 26 #[.slice A xs.length c, .int .i64 s] w (Plain (.tuple #[.int .i64 (if ballB xs s then fewX xs s else 0), .bool (ballB xs s && fewB xs s)]) w) := by
  cases h : ballB xs s
  · rw [show (if (false : Bool) = true then fewX xs s else 0) = 0 from rfl, Bool.false_and]
    have H := Lib.hid h
    clear h
    go_enter Try.func26, Try.ntmps26
    go_wp2_with fail
    refine (hasBall_any _ _ _ _ _ _ hr hn).mono ?_
    rintro e w' ⟨rfl, rfl⟩
    rw [H.out]
    go_wp2_with fail
    go_ret2
    exact ⟨rfl, Below.refl _ _⟩
  · obtain ⟨hJ, hs0, hs1⟩ := ballB_le h
    obtain ⟨k, rfl⟩ := Int.eq_ofNat_of_zero_le hs0
    have hk : k < xs.length := by omega
    rw [show (if (true : Bool) = true then fewX xs (k : Int) else 0) = fewX xs (k : Int) from rfl, Bool.true_and]
    obtain ⟨X, hX⟩ : ∃ X, X = fewX xs (k : Int) := ⟨_, rfl⟩
    obtain ⟨Y, hY⟩ : ∃ Y, Y = fewB xs (k : Int) := ⟨_, rfl⟩
    rw [← hX, ← hY]
    have HX := Lib.hid hX
    have HY := Lib.hid hY
    have H := Lib.hid h
    clear h hX hY
    go_enter Try.func26, Try.ntmps26
    go_wp2_with fail
    refine (hasBall_any _ _ _ _ _ _ hr hn).mono ?_
    rintro e w' ⟨rfl, rfl⟩
    rw [H.out]
    go_wp2_with fail
    refine (changesToEnd_any _ _ _ _ _ hr hB hJ).mono ?_
    rintro e w1 ⟨g, ys, rfl, hg, hblk, HF, hb⟩
    have hlen := HF.out.len
    have hc : w1.cell? ⟨g, k, none⟩ = some (.int .i64 (ys.getD k 0)) := hblk.int_at (by omega)
    have HR := Lib.hid (few_of_row HF.out.sound HF.out.all hk)
    have hgf : gF ys k = ys.getD k 0 := rfl
    rw [hgf] at HR
    clear hlen hgf
    generalize ys.getD k 0 = v at *
    by_cases hv : v ≤ xs.length
    · have h1 : ¬ (xs.length : Int) < v := by omega
      have R1 : Hid (X = v) := Lib.hid (HX.out.trans (HR.out.2.1 hv))
      have R2 : Hid (Y = true) := Lib.hid (HY.out.trans (HR.out.1.trans (decide_eq_true hv)))
      clear hv
      go_wp2_with fail
      go_ret2
      exact ⟨by rw [R1.out, R2.out]; rfl, hb⟩
    · have h1 : (xs.length : Int) < v := by omega
      have R1 : Hid (X = 0) := Lib.hid (HX.out.trans (HR.out.2.2 hv))
      have R2 : Hid (Y = false) := Lib.hid (HY.out.trans (HR.out.1.trans (decide_eq_false hv)))
      clear hv
      go_wp2_with fail
      go_ret2
      exact ⟨by rw [R1.out, R2.out]; rfl, hb⟩

end Go.Proofs.Ytmolfeckeoimbaa
