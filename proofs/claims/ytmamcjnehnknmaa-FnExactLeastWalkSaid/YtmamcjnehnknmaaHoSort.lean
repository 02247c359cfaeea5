/- Contracts: sorted doors, FirstLeastWalk and LeastWalk, on both sides. -/
import Derived.Test.YtmamcjnehnknmaaHoSrt
import Derived.Test.YtmamcjnehnknmaaGOwn
import Derived.Test.YtmamcjnehnknmaaShelf
import Derived.Sort.OwnSortedInts
import Derived.Deep.RegionHeld3
namespace Go.Proofs.Ytmamcjnehnknmaa
open Go.RowKit

theorem l1Own_at (A : Option Addr) (n c : Nat) (xs : List Int) (B : Nat) (w : World) (hl : n = xs.length) (hr : Rd w B A c xs) (hB : B ≤ w.heap.size) (hn : xs.length ≤ 1048576) :
    Calls Try.prog 40 #[.slice A n c] w fun e w' => ∃ v, e = .returned v ∧ OwnI w' w.heap.size v xs ∧ Below w.heap.size w w' := by
  subst hl
  exact l1Own_any A c xs B w hr hB hn
theorem drop_none {xs : List Int} {k : Nat} (h : xs.length ≤ k) : xs.drop k = [] := List.drop_eq_nil_of_le h
theorem Rd.drop_lt {w : World} {B c k : Nat} {A : Option Addr} {xs : List Int} (h : Rd w B A c xs) (hk : k ≤ xs.length) (hc : ¬ c = k) : Rd w B (A.map fun x => x.add k) (c - k) (xs.drop k) := by
  have := h.drop hk
  rwa [if_neg hc] at this
set_option maxHeartbeats 2000000 in
theorem ldSort_any (Z : Option Addr) (d : Nat) (ds : List Int) (B : Nat) (w : World) (hz : Rd w B Z d ds) (hB : B ≤ w.heap.size) (hn : ds.length ≤ 1000) :
    Calls Try.prog 50 #[.slice Z ds.length d] w fun e w' => ∃ v, e = .returned v ∧ OwnI w' w.heap.size v (srt ds) ∧ Below w.heap.size w w' := by
  go_enter Try.func50, Try.ntmps50
  go_wp2_with fail
  go_loopw [3, 10] (fun v i wr => ∃ (k : Nat) (acc : List Int), k ≤ ds.length ∧ i = .int .i64 k ∧ acc.length ≤ k ∧ Hid (insAll acc (ds.drop k) = srt ds) ∧ OwnI wr w.heap.size v acc ∧ Below w.heap.size w wr) (fun _ i _ => ds.length - (intOf i).toNat)
  case atStart => exact ⟨0, [], Nat.zero_le _, rfl, by simp, by rw [List.drop_zero]; exact insAll_srt ds, OwnI.nil _ _, Below.refl _ _⟩
  case round =>
    obtain ⟨k, acc, hk, rfl, hal, HE, hown, hbw⟩ := hrel
    have hz0 := hbw.size
    by_cases hlt : k < ds.length
    · obtain ⟨b, o, rfl, hb0, hcell⟩ := (hz.below hbw hB).at_ hlt
      have HG := Lib.hid (insAll_go (acc := acc) hlt)
      rw [HE.out] at HG
      clear HE
      have HL := Lib.hid (show (insK acc (ds.getD k 0)).length = acc.length + 1 by have := (insK_perm acc (ds.getD k 0)).length_eq; rwa [List.length_cons] at this)
      generalize ds.getD k 0 = x at *
      obtain ⟨A, c, rfl, hrd⟩ := hown.form
      have hac := hrd.1
      go_wp2_with fail
      go_loop [6] (fun q => ∃ j : Nat, j ≤ acc.length ∧ q = .int .i64 j ∧ Hid (insAt acc x acc.length = insAt acc x j)) (fun q => (intOf q).toNat)
      case atStart => exact ⟨acc.length, Nat.le_refl _, rfl, rfl⟩
      case round =>
        obtain ⟨j, hj, rfl, HJ⟩ := hrel
        by_cases hj0 : 0 < j
        · obtain ⟨i, rfl⟩ : ∃ i, j = i + 1 := ⟨j - 1, by omega⟩
          obtain ⟨b2, o2, rfl, hb2, hcell2⟩ := hrd.at_ (k := i) (by omega)
          have hi1 : (0 : Int) ≤ (((i + 1 : Nat) : Int) - 1) := by omega
          have hi2 : ((((i + 1 : Nat) : Int)) - 1).toNat = i := by omega
          have HGo := Lib.hid (fun h => insAt_go (xs := acc) (n := x) (j := i) h)
          have HSt := Lib.hid (fun h => insAt_stop (xs := acc) (n := x) (j := i) h)
          generalize acc.getD i 0 = y at *
          by_cases hxy : x < y
          · have HJ2 := Lib.hid (HJ.out.trans (HGo.out hxy))
            go_wp2_with fail
            go_round
            case rel => exact ⟨i, by omega, congrArg (Value.int .i64) (by omega), HJ2.out⟩
            case measure => simp [intOf] <;> omega
          · have HP := Lib.hid (HJ.out.trans (HSt.out hxy))
            have HK := Lib.hid (show insK acc x = (acc.take (i + 1) ++ [x]) ++ acc.drop (i + 1) by rw [insK, HP.out])
            have hpl : i + 1 ≤ acc.length := by omega
            clear HJ
            by_cases hcp : c = i + 1
            · subst hcp
              have HD := Lib.hid (drop_none (xs := acc) (k := i + 1) (by omega))
              go_wp2_with fail
              refine (l1Own_at _ _ _ (acc.take (i + 1)) wr.heap.size _ (by simp; omega) (hrd.take hpl) (Nat.le_refl _) (by simp; omega)).mono ?_
              rintro e w2 ⟨v2, rfl, hown2, hb2⟩
              have hz2 := hb2.size
              go_wp2_with (first
                | (at_builtin; refine wpList_push _ rfl _ _ rfl wr.heap.size _ (acc.take (i + 1)) rfl (hown2.alloc _) w2.heap.size x rfl (by simp) (by simp; omega) (by simp; omega) ?_; intro v3 w3 hown3 hb3)
                | (at_builtin; refine wpList_append_rd' _ rfl _ _ rfl wr.heap.size wr.heap.size _ (acc.take (i + 1) ++ [x]) [] rfl hown3 _ _ _ rfl (by simp; try omega) Rd.nil (by simp; omega) (by have := hb3.size; simp at this; omega) ?_; intro v4 w4 hown4 hb4))
              go_roundw
              case rel => exact ⟨k + 1, insK acc x, by omega, by go_num, by rw [HL.out]; omega, HG.out.symm, by rw [HK.out, HD.out]; exact hown4.mono (by omega), ((hbw.trans (hb2.mono hz0)).alloc (by omega) _).trans ((hb3.trans hb4).mono (by omega))⟩
              case measure => simp [intOf] <;> omega
            · go_wp2_with fail
              refine (l1Own_at _ _ _ (acc.take (i + 1)) wr.heap.size _ (by simp; omega) (hrd.take hpl) (Nat.le_refl _) (by simp; omega)).mono ?_
              rintro e w2 ⟨v2, rfl, hown2, hb2⟩
              have hz2 := hb2.size
              go_wp2_with (first
                | (at_builtin; refine wpList_push _ rfl _ _ rfl wr.heap.size _ (acc.take (i + 1)) rfl (hown2.alloc _) w2.heap.size x rfl (by simp) (by simp; omega) (by simp; omega) ?_; intro v3 w3 hown3 hb3)
                | (at_builtin; refine wpList_append_rd' _ rfl _ _ rfl wr.heap.size wr.heap.size _ (acc.take (i + 1) ++ [x]) (acc.drop (i + 1)) rfl hown3 _ _ _ rfl (by simp; try omega) ((((hrd.below hb2 (Nat.le_refl _)).below (below_alloc _ _) (by omega)).below hb3 (by omega)).drop_lt hpl hcp) (by simp; omega) (by have := hb3.size; simp at this; omega) ?_; intro v4 w4 hown4 hb4))
              go_roundw
              case rel => exact ⟨k + 1, insK acc x, by omega, by go_num, by rw [HL.out]; omega, HG.out.symm, by rw [HK.out]; exact hown4.mono (by omega), ((hbw.trans (hb2.mono hz0)).alloc (by omega) _).trans ((hb3.trans hb4).mono (by omega))⟩
              case measure => simp [intOf] <;> omega
        · have HP : Hid (insAt acc x acc.length = j) := by
            have h0 : j = 0 := by omega
            have := HJ.out
            rw [h0] at this ⊢
            exact this
          have HK := Lib.hid (show insK acc x = (acc.take (j) ++ [x]) ++ acc.drop (j) by rw [insK, HP.out])
          have hpl : j ≤ acc.length := hj
          clear HJ
          by_cases hcp : c = j
          · subst hcp
            have HD := Lib.hid (drop_none (xs := acc) (k := c) (by omega))
            go_wp2_with fail
            refine (l1Own_at _ _ _ (acc.take (c)) wr.heap.size _ (by simp; omega) (hrd.take hpl) (Nat.le_refl _) (by simp; omega)).mono ?_
            rintro e w2 ⟨v2, rfl, hown2, hb2⟩
            have hz2 := hb2.size
            go_wp2_with (first
              | (at_builtin; refine wpList_push _ rfl _ _ rfl wr.heap.size _ (acc.take (c)) rfl (hown2.alloc _) w2.heap.size x rfl (by simp) (by simp; omega) (by simp; omega) ?_; intro v3 w3 hown3 hb3)
              | (at_builtin; refine wpList_append_rd' _ rfl _ _ rfl wr.heap.size wr.heap.size _ (acc.take (c) ++ [x]) [] rfl hown3 _ _ _ rfl (by simp; try omega) Rd.nil (by simp; omega) (by have := hb3.size; simp at this; omega) ?_; intro v4 w4 hown4 hb4))
            go_roundw
            case rel => exact ⟨k + 1, insK acc x, by omega, by go_num, by rw [HL.out]; omega, HG.out.symm, by rw [HK.out, HD.out]; exact hown4.mono (by omega), ((hbw.trans (hb2.mono hz0)).alloc (by omega) _).trans ((hb3.trans hb4).mono (by omega))⟩
            case measure => simp [intOf] <;> omega
          · go_wp2_with fail
            refine (l1Own_at _ _ _ (acc.take (j)) wr.heap.size _ (by simp; omega) (hrd.take hpl) (Nat.le_refl _) (by simp; omega)).mono ?_
            rintro e w2 ⟨v2, rfl, hown2, hb2⟩
            have hz2 := hb2.size
            go_wp2_with (first
              | (at_builtin; refine wpList_push _ rfl _ _ rfl wr.heap.size _ (acc.take (j)) rfl (hown2.alloc _) w2.heap.size x rfl (by simp) (by simp; omega) (by simp; omega) ?_; intro v3 w3 hown3 hb3)
              | (at_builtin; refine wpList_append_rd' _ rfl _ _ rfl wr.heap.size wr.heap.size _ (acc.take (j) ++ [x]) (acc.drop (j)) rfl hown3 _ _ _ rfl (by simp; try omega) ((((hrd.below hb2 (Nat.le_refl _)).below (below_alloc _ _) (by omega)).below hb3 (by omega)).drop_lt hpl hcp) (by simp; omega) (by have := hb3.size; simp at this; omega) ?_; intro v4 w4 hown4 hb4))
            go_roundw
            case rel => exact ⟨k + 1, insK acc x, by omega, by go_num, by rw [HL.out]; omega, HG.out.symm, by rw [HK.out]; exact hown4.mono (by omega), ((hbw.trans (hb2.mono hz0)).alloc (by omega) _).trans ((hb3.trans hb4).mono (by omega))⟩
            case measure => simp [intOf] <;> omega
    · have HD := Lib.hid (drop_none (xs := ds) (k := k) (by omega))
      rw [HD.out, insAll] at HE
      go_wp2_with fail
      go_ret
      rw [HE.out] at hown
      exact ⟨_, rfl, hown, hbw⟩

theorem sortInts_any (g cap : Nat) (xs : List Int) (B : Nat) (w : World) (ho : OwnI w B (.slice (some ⟨g, 0, none⟩) xs.length cap) xs) (hn : xs.length ≤ 1048576) :
    Calls Try.prog 51 #[.slice (some ⟨g, 0, none⟩) xs.length cap] w fun e w' => e = .returned (.tuple #[]) ∧ OwnI w' B (.slice (some ⟨g, 0, none⟩) xs.length cap) (srt xs) ∧ Turned w w' [g] := by
  rcases ho.2 with ⟨h0, _⟩ | ⟨g', cap', cur, hv, hg, hb, h1, h2, h3, h4⟩
  · cases h0
  · simp only [Value.slice.injEq, Option.some.injEq, Addr.mk.injEq, and_true, true_and] at hv
    obtain ⟨rfl, rfl⟩ := hv
    have hgl : g < w.heap.size := (Array.getElem?_eq_some_iff.1 hb).1
    refine (Try.slices_Sort_int g 0 cap xs w (holds_of_blockI hb (by rw [Nat.mul_one] at h4; exact h4)) hgl (by omega)).mono fun e w' ⟨he, n, os, hw⟩ => ⟨he, ?_, ?_⟩
    · rw [hw]
      have := ownsRow_sortedI (n := n) (os := os) (ts := srt xs) (srt_length xs) hg hb h1 h2 (by rw [h3])
      unfold OwnI
      rw [srt_length]
      exact this
    · rw [hw]
      exact Turned.of_grown (grownBy_sortedI _) (fun k hk => by cases hk; simp)
theorem OwnI.some_form {w : World} {B : Nat} {v : Value} {xs : List Int} (h : OwnI w B v xs) (h1 : 1 ≤ xs.length) : ∃ g cap, v = .slice (some ⟨g, 0, none⟩) xs.length cap ∧ B ≤ g := by
  rcases h.2 with ⟨_, h0⟩ | ⟨g, cap, cur, rfl, hg, hh, hc, _⟩
  · omega
  · exact ⟨g, cap, rfl, hg⟩

set_option maxHeartbeats 800000 in
theorem specFirstLeast_any (A A' : Option Addr) (c c' : Nat) (ss bs : List Int) (Z : Option Addr) (d : Nat) (ds : List Int) (B : Nat) (w : World) (h : Ho w B A A' c c' ss bs) (hB : B ≤ w.heap.size) (hz : Rd w B Z d ds) (hn : ds.length ≤ 1048576) :
    Calls Try.prog 23 #[.agg #[.slice A ss.length c, .slice A' bs.length c'], .slice Z ds.length d] w (Lists w (orL (listB ss bs ds) (srt ds)) (listB ss bs ds)) := by
  cases g : listB ss bs ds
  · rw [orL_no]
    have H := Lib.hid g
    clear g
    have hz1 := hz.below (below_alloc w (.cells #[.slice A ss.length c, .slice A' bs.length c'] 26)) hB
    have h1 := h.alloc hB (.cells #[.slice A ss.length c, .slice A' bs.length c'] 26)
    have X0 : Blk (w.alloc (.cells #[.slice A ss.length c, .slice A' bs.length c'] 26)) w.heap.size 26 #[.slice A ss.length c, .slice A' bs.length c'] := Blk.new _ _ _
    have hns := h.ns
    have hnb := h.nb
    have hcs := h.rs.1
    have hcb := h.rb.1
    go_enter Try.func23, Try.ntmps23
    go_wp2_with fail
    refine (ldList_any _ _ _ _ _ _ _ _ _ B _ h1 (by simp; omega) hz1 hn).mono ?_
    rintro e w1 ⟨rfl, hb⟩
    have Bt : Below w.heap.size w w1 := (below_alloc _ _).trans (hb.mono (by simp))
    have hs : w.heap.size + 1 ≤ w1.heap.size := by have := hb.size; simp at this; omega
    replace h1 := h1.below hb (by simp; omega)
    replace X0 := X0.below hb (by simp)
    clear hb
    obtain ⟨p0, p1⟩ := X0.two
    rw [H.out]
    go_wp2_with fail
    go_ret2
    exact ⟨_, rfl, OwnI.nil _ _, Bt⟩
  · rw [orL_yes]
    have G := listB_good g
    have hd1 := G.n1
    have H := Lib.hid g
    clear g G
    have hz1 := hz.below (below_alloc w (.cells #[.slice A ss.length c, .slice A' bs.length c'] 26)) hB
    have h1 := h.alloc hB (.cells #[.slice A ss.length c, .slice A' bs.length c'] 26)
    have X0 : Blk (w.alloc (.cells #[.slice A ss.length c, .slice A' bs.length c'] 26)) w.heap.size 26 #[.slice A ss.length c, .slice A' bs.length c'] := Blk.new _ _ _
    have hns := h.ns
    have hnb := h.nb
    have hcs := h.rs.1
    have hcb := h.rb.1
    go_enter Try.func23, Try.ntmps23
    go_wp2_with fail
    refine (ldList_any _ _ _ _ _ _ _ _ _ B _ h1 (by simp; omega) hz1 hn).mono ?_
    rintro e w1 ⟨rfl, hb⟩
    have Bt : Below w.heap.size w w1 := (below_alloc _ _).trans (hb.mono (by simp))
    have hs : w.heap.size + 1 ≤ w1.heap.size := by have := hb.size; simp at this; omega
    replace h1 := h1.below hb (by simp; omega)
    replace X0 := X0.below hb (by simp)
    replace hz := (hz.below (below_alloc _ _) hB).below hb (by simp; omega)
    clear hb
    obtain ⟨p0, p1⟩ := X0.two
    rw [H.out]
    go_wp2_with fail
    refine (ldSort_any _ _ _ B _ hz (by omega) (by omega)).mono ?_
    rintro e w2 ⟨v, rfl, hown, hb⟩
    go_wp2_with fail
    go_ret2
    exact ⟨_, rfl, hown.mono (by omega), Bt.trans (hb.mono (by omega))⟩

set_option maxHeartbeats 2000000 in
theorem implFirstLeast_any (A A' : Option Addr) (c c' : Nat) (ss bs : List Int) (Z : Option Addr) (d : Nat) (ds : List Int) (B : Nat) (w : World) (h : Ho w B A A' c c' ss bs) (hB : B ≤ w.heap.size) (hz : Rd w B Z d ds) (hn : ds.length ≤ 1048576) :
    Calls Try.prog 24 #[.agg #[.slice A ss.length c, .slice A' bs.length c'], .slice Z ds.length d] w (Lists w (orL (listB ss bs ds) (srt ds)) (listB ss bs ds)) := by
  cases g : listB ss bs ds
  · rw [orL_no]
    have H := Lib.hid g
    clear g
    have hz1 := hz.below (below_alloc w (.cells #[.slice A ss.length c, .slice A' bs.length c'] 26)) hB
    have h1 := h.alloc hB (.cells #[.slice A ss.length c, .slice A' bs.length c'] 26)
    have X0 : Blk (w.alloc (.cells #[.slice A ss.length c, .slice A' bs.length c'] 26)) w.heap.size 26 #[.slice A ss.length c, .slice A' bs.length c'] := Blk.new _ _ _
    have hns := h.ns
    have hnb := h.nb
    have hcs := h.rs.1
    have hcb := h.rb.1
    go_enter Try.func24, Try.ntmps24
    go_wp2_with fail
    refine (floors_any _ _ _ _ _ _ _ _ _ B _ h1 (by simp; omega) hz1 hn).mono ?_
    rintro e w2 ⟨v, rfl, hown, hb⟩
    obtain ⟨Z1, d1, rfl, _⟩ := hown.form
    rw [H.out]
    go_wp2_with fail
    go_ret2
    exact ⟨_, rfl, OwnI.nil _ _, (below_alloc _ _).trans (hb.mono (by simp))⟩
  · rw [orL_yes]
    have G := listB_good g
    have hd1 := G.n1
    have hd0 := G.n0
    have H := Lib.hid g
    clear g G
    have hz1 := hz.below (below_alloc w (.cells #[.slice A ss.length c, .slice A' bs.length c'] 26)) hB
    have h1 := h.alloc hB (.cells #[.slice A ss.length c, .slice A' bs.length c'] 26)
    have X0 : Blk (w.alloc (.cells #[.slice A ss.length c, .slice A' bs.length c'] 26)) w.heap.size 26 #[.slice A ss.length c, .slice A' bs.length c'] := Blk.new _ _ _
    have hns := h.ns
    have hnb := h.nb
    have hcs := h.rs.1
    have hcb := h.rb.1
    go_enter Try.func24, Try.ntmps24
    go_wp2_with fail
    refine (floors_any _ _ _ _ _ _ _ _ _ B _ h1 (by simp; omega) hz1 hn).mono ?_
    rintro e w2 ⟨v, rfl, hown, hb⟩
    obtain ⟨Z1, d1, rfl, _⟩ := hown.form
    rw [H.out]
    have hs : w.heap.size + 1 ≤ w2.heap.size := by have := hb.size; simp at this; omega
    have hz2 := hz1.below hb (by simp; omega)
    have Bt : Below w.heap.size w w2 := (below_alloc _ _).trans (hb.mono (by simp))
    clear hown hb hz1 h1 X0
    go_wp2_with (at_builtin; refine wpList_append_rd' _ rfl _ _ rfl w2.heap.size B (.slice none 0 0) [] ds rfl (OwnI.nil _ _) _ _ _ rfl rfl hz2 (by simp; omega) (Nat.le_refl _) ?_; intro v3 w3 hown3 hb3)
    rw [List.nil_append] at hown3
    obtain ⟨g3, cap3, rfl, hg3⟩ := hown3.some_form (by omega)
    go_wp2_with fail
    refine (sortInts_any _ _ _ _ _ hown3 hn).mono ?_
    rintro e w4 ⟨rfl, hown4, ht⟩
    go_wp2_with fail
    go_ret2
    exact ⟨_, rfl, hown4.mono (by omega), (Bt.trans (hb3.mono (by omega))).trans (ht.below (by have := hb3.size; omega) (fun k hk => by simp at hk; omega))⟩

theorem rdD {w : World} {B c : Nat} {A : Option Addr} {xs : List Int} (h : Rd w B A c xs) : Rd w.drew B A c xs := h

set_option maxHeartbeats 2000000 in
theorem specLeast_any (A A' : Option Addr) (c c' : Nat) (ss bs : List Int) (Z : Option Addr) (d : Nat) (ds : List Int) (B : Nat) (w : World) (h : Ho w B A A' c c' ss bs) (hB : B ≤ w.heap.size) (hz : Rd w B Z d ds) (hn : ds.length ≤ 1048576) :
    Calls Try.prog 21 #[.agg #[.slice A ss.length c, .slice A' bs.length c'], .slice Z ds.length d] w (Plain (.tuple #[.int .i64 (orI (listB ss bs ds) (walkF ss 0 (fsN bs (srt ds)))), .bool (listB ss bs ds)]) w) := by
  cases g : listB ss bs ds
  · rw [orI_no]
    have H := Lib.hid g
    clear g
    have hz1 := hz.below (below_alloc w (.cells #[.slice A ss.length c, .slice A' bs.length c'] 26)) hB
    have h1 := h.alloc hB (.cells #[.slice A ss.length c, .slice A' bs.length c'] 26)
    have X0 : Blk (w.alloc (.cells #[.slice A ss.length c, .slice A' bs.length c'] 26)) w.heap.size 26 #[.slice A ss.length c, .slice A' bs.length c'] := Blk.new _ _ _
    have hns := h.ns
    have hnb := h.nb
    have hcs := h.rs.1
    have hcb := h.rb.1
    go_enter Try.func21, Try.ntmps21
    go_wp2_with fail
    refine (ldList_any _ _ _ _ _ _ _ _ _ B _ h1 (by simp; omega) hz1 hn).mono ?_
    rintro e w1 ⟨rfl, hb⟩
    have Bt : Below w.heap.size w w1 := (below_alloc _ _).trans (hb.mono (by simp))
    have hs : w.heap.size + 1 ≤ w1.heap.size := by have := hb.size; simp at this; omega
    replace h1 := h1.below hb (by simp; omega)
    replace X0 := X0.below hb (by simp)
    clear hb
    obtain ⟨p0, p1⟩ := X0.two
    rw [H.out]
    go_wp2_with fail
    go_ret2
    exact ⟨rfl, Bt⟩
  · rw [orI_yes]
    have G := listB_good g
    have G2 := listB_good (by rw [listB_srt]; exact g : listB ss bs (srt ds) = true)
    have hd1 := G.n1
    have H := Lib.hid g
    have hsl := Lib.hid (srt_length ds)
    clear g G
    have hz1 := hz.below (below_alloc w (.cells #[.slice A ss.length c, .slice A' bs.length c'] 26)) hB
    have h1 := h.alloc hB (.cells #[.slice A ss.length c, .slice A' bs.length c'] 26)
    have X0 : Blk (w.alloc (.cells #[.slice A ss.length c, .slice A' bs.length c'] 26)) w.heap.size 26 #[.slice A ss.length c, .slice A' bs.length c'] := Blk.new _ _ _
    have hns := h.ns
    have hnb := h.nb
    have hcs := h.rs.1
    have hcb := h.rb.1
    go_enter Try.func21, Try.ntmps21
    go_wp2_with fail
    refine (ldList_any _ _ _ _ _ _ _ _ _ B _ h1 (by simp; omega) hz1 hn).mono ?_
    rintro e w1 ⟨rfl, hb⟩
    have Bt : Below w.heap.size w w1 := (below_alloc _ _).trans (hb.mono (by simp))
    have hs : w.heap.size + 1 ≤ w1.heap.size := by have := hb.size; simp at this; omega
    replace h1 := h1.below hb (by simp; omega)
    replace X0 := X0.below hb (by simp)
    replace hz := (hz.below (below_alloc _ _) hB).below hb (by simp; omega)
    clear hb
    obtain ⟨p0, p1⟩ := X0.two
    rw [H.out]
    go_wp2_with fail
    go_region_held3 (fun w' => w'.cell? ⟨w.heap.size, 0, none⟩ = some (.slice A ss.length c) ∧ w'.cell? ⟨w.heap.size, 1, none⟩ = some (.slice A' bs.length c')) (first | exact ⟨p0, p1⟩ | exact ⟨q0, q1⟩ | exact ⟨r0, r1⟩ | go_keep) (first | (go_at_call 50; refine (ldSort_any _ _ _ B _ (by first | exact hz | exact rdD hz | exact rdD (rdD hz)) (by first | omega | (show B ≤ w1.heap.size; omega)) (by omega)).mono ?_; rintro e w2 ⟨v, rfl, hown, hb'⟩; have hb : Below w1.heap.size w1 w2 := (by first | exact hb' | exact below_undrew hb' | exact below_undrew (below_undrew hb')); obtain ⟨Z2, d2, rfl, hrd⟩ := hown.form; have q0 := (hb.cell (p := ⟨w.heap.size, 0, none⟩) (by show w.heap.size < w1.heap.size; omega)).trans p0; have q1 := (hb.cell (p := ⟨w.heap.size, 1, none⟩) (by show w.heap.size < w1.heap.size; omega)).trans p1) | (go_at_call 44; refine (ldWalk_any _ _ _ _ _ _ _ _ _ w2.heap.size _ ((h1.below hb (by omega)).more (by have := hb.size; omega)) (Nat.le_refl _) hrd G2).mono ?_; rintro e w3 ⟨rfl, hb3⟩; have hz23 := hb.size; have r0 := (hb3.cell (p := ⟨w.heap.size, 0, none⟩) (by show w.heap.size < w2.heap.size; omega)).trans q0; have r1 := (hb3.cell (p := ⟨w.heap.size, 1, none⟩) (by show w.heap.size < w2.heap.size; omega)).trans q1))
    all_goals (go_wp2_with fail; go_ret2; exact ⟨rfl, (Bt.trans (hb.mono (by omega))).trans (hb3.mono (by have := hb.size; omega))⟩)

set_option maxHeartbeats 2000000 in
theorem implLeast_any (A A' : Option Addr) (c c' : Nat) (ss bs : List Int) (Z : Option Addr) (d : Nat) (ds : List Int) (B : Nat) (w : World) (h : Ho w B A A' c c' ss bs) (hB : B ≤ w.heap.size) (hz : Rd w B Z d ds) (hn : ds.length ≤ 1048576) :
    Calls Try.prog 22 #[.agg #[.slice A ss.length c, .slice A' bs.length c'], .slice Z ds.length d] w (Plain (.tuple #[.int .i64 (orI (listB ss bs ds) (walkF ss 0 (fsN bs (srt ds)))), .bool (listB ss bs ds)]) w) := by
  cases g : listB ss bs ds
  · rw [orI_no]
    have H := Lib.hid g
    clear g
    have hz1 := hz.below (below_alloc w (.cells #[.slice A ss.length c, .slice A' bs.length c'] 26)) hB
    have h1 := h.alloc hB (.cells #[.slice A ss.length c, .slice A' bs.length c'] 26)
    have X0 : Blk (w.alloc (.cells #[.slice A ss.length c, .slice A' bs.length c'] 26)) w.heap.size 26 #[.slice A ss.length c, .slice A' bs.length c'] := Blk.new _ _ _
    have hns := h.ns
    have hnb := h.nb
    have hcs := h.rs.1
    have hcb := h.rb.1
    go_enter Try.func22, Try.ntmps22
    go_wp2_with fail
    refine (implFirstLeast_any _ _ _ _ _ _ _ _ _ B _ h1 (by simp; omega) hz1 hn).mono ?_
    rintro e w2 ⟨v, rfl, hown, hb⟩
    obtain ⟨Z1, d1, rfl, _⟩ := hown.form
    rw [H.out]
    go_wp2_with fail
    go_ret2
    exact ⟨rfl, (below_alloc _ _).trans (hb.mono (by simp))⟩
  · rw [orI_yes]
    have H := Lib.hid g
    have H2 := Lib.hid (listB_srt ss bs ds)
    have hsl := Lib.hid (srt_length ds)
    have HO : Hid (orL (listB ss bs ds) (srt ds) = srt ds) := by rw [g]; rfl
    clear g
    have hz1 := hz.below (below_alloc w (.cells #[.slice A ss.length c, .slice A' bs.length c'] 26)) hB
    have h1 := h.alloc hB (.cells #[.slice A ss.length c, .slice A' bs.length c'] 26)
    have X0 : Blk (w.alloc (.cells #[.slice A ss.length c, .slice A' bs.length c'] 26)) w.heap.size 26 #[.slice A ss.length c, .slice A' bs.length c'] := Blk.new _ _ _
    have hns := h.ns
    have hnb := h.nb
    have hcs := h.rs.1
    have hcb := h.rb.1
    go_enter Try.func22, Try.ntmps22
    go_wp2_with fail
    refine (implFirstLeast_any _ _ _ _ _ _ _ _ _ B _ h1 (by simp; omega) hz1 hn).mono ?_
    rintro e w2 ⟨v, rfl, hown, hb⟩
    rw [HO.out] at hown
    obtain ⟨Z1, d1, rfl, hrd⟩ := hown.form
    rw [H.out]
    have hs : w.heap.size + 1 ≤ w2.heap.size := by have := hb.size; simp at this; omega
    have X2 := X0.below hb (by simp)
    have h2 := (h1.below hb (by simp; omega)).more (B' := w2.heap.size) (by omega)
    have Bt : Below w.heap.size w w2 := (below_alloc _ _).trans (hb.mono (by simp))
    clear hown hb hz1 h1 X0
    obtain ⟨p0, p1⟩ := X2.two
    go_wp2_with fail
    refine (implWalk_any _ _ _ _ _ _ _ _ _ w2.heap.size _ h2 (Nat.le_refl _) hrd (by rw [hsl.out]; exact hn)).mono ?_
    rintro e w3 ⟨rfl, hb3⟩
    rw [H2.out, H.out, orI_yes]
    go_wp2_with fail
    go_ret2
    exact ⟨rfl, Bt.trans (hb3.mono (by omega))⟩

end Go.Proofs.Ytmamcjnehnknmaa
