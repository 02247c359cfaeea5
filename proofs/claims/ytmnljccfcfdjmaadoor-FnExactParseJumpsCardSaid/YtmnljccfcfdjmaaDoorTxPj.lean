/- Contracts: reading jumps, on both sides. -/
import Derived.Test.YtmnljccfcfdjmaaDoorTxIs
import Derived.Test.YtmnljccfcfdjmaaDoorTxJmp
namespace Go.Proofs.YtmnljccfcfdjmaaDoor
open Go.RowKit
set_option maxRecDepth 100000

/-- the numbers of the words, as the model reads them -/
def jwL (s : ByteArray) : List Int := (splitS s 44).map jwI
def jwA (s : ByteArray) : Bool := (splitS s 44).all jwB
def pjB (s : ByteArray) : Bool := decide (s.size ≤ 120) && (jwA s && jumpsB (jwL s))
def pjR (s : ByteArray) : List Int := if pjB s then jwL s else []
theorem pjR_no {s : ByteArray} (h : pjB s = false) : pjR s = [] := by unfold pjR; rw [h]; rfl
theorem pjR_yes {s : ByteArray} (h : pjB s = true) : pjR s = jwL s := by unfold pjR; rw [h]; rfl
theorem jumps_mem {xs : List Int} (h : jumpsB xs = true) : ∀ n ∈ xs, -30 ≤ n ∧ n ≤ 30 := mem_of_at (P := fun n => -30 ≤ n ∧ n ≤ 30) (fun _ hk => jumpsB_at h _ hk)
theorem pj_parts {s : ByteArray} (h : pjB s = true) : s.size ≤ 120 ∧ jwA s = true ∧ jumpsB (jwL s) = true := by
  simpa [pjB] using h
theorem jw_split {s : ByteArray} (h : jwA s = true) : splitS s 44 = (jwL s).map intS := by
  unfold jwL
  rw [List.map_map]
  conv => lhs; rw [← List.map_id (splitS s 44)]
  exact List.map_congr_left fun x hx => (int_of_jw (List.all_eq_true.1 h x hx)).symm
theorem pj_nin {s : ByteArray} (h : pjB s = true) : ninR s 44 = jwL s := by
  obtain ⟨_, h2, h3⟩ := pj_parts h
  exact nin_ints (jw_split h2) (fun n hn => by have := jumps_mem h3 n hn; omega)
theorem pj_text {s : ByteArray} (h : pjB s = true) : juS (jwL s) = s := by
  obtain ⟨_, h2, h3⟩ := pj_parts h
  refine split_inj (b := 44) ?_
  rw [jw_split h2]
  exact li_split (.inl (by decide)) (by decide) (jumpsB_le h3).1
theorem pj_of {s : ByteArray} (h1 : jumpsB (ninR s 44) = true) (h2 : juS (ninR s 44) = s) : pjB s = true := by
  have b := jumps_mem h1
  have hs := li_split (b := 44) (.inl (by decide)) (by decide) (jumpsB_le h1).1
  rw [show liS 44 (ninR s 44) (ninR s 44).length = s from h2] at hs
  have hj : ∀ n ∈ ninR s 44, jwB (intS n) = true ∧ jwI (intS n) = n := fun n hn => by have := b n hn; exact jw_of_int (by omega) (by omega)
  have hl : jwL s = ninR s 44 := by
    unfold jwL
    rw [hs, List.map_map]
    conv => rhs; rw [← List.map_id (ninR s 44)]
    exact List.map_congr_left fun n hn => (hj n hn).2
  have ha : jwA s = true := by
    unfold jwA
    rw [hs, List.all_eq_true]
    rintro x hx
    obtain ⟨n, hn, rfl⟩ := List.mem_map.1 hx
    exact (hj n hn).1
  have hz := liS_len 44 (xs := ninR s 44) (m := 3) (fun n hn => by
    have := b n hn
    by_cases h : n < 0
    · rw [intS_neg h]
      have := num_len (k := 1) (n := -n) (by omega)
      simp only [ByteArray.size_append, one_size]
      omega
    · rw [intS_pos h]
      have := num_len (k := 1) (n := n) (by omega)
      omega) _ (Nat.le_refl _)
  rw [show liS 44 (ninR s 44) (ninR s 44).length = s from h2] at hz
  have := jumpsB_le h1
  unfold pjB
  rw [hl, ha, h1, decide_eq_true (by omega)]
  rfl
theorem pjR_length (s : ByteArray) : (pjR s).length ≤ 1048576 := by
  cases h : pjB s
  · rw [pjR_no h]; simp
  · rw [pjR_yes h]
    have := jumpsB_le (pj_parts h).2.2
    omega
theorem jwL_length (s : ByteArray) : (jwL s).length ≤ s.size + 1 := by
  have := rdL_length s 44
  simpa [jwL, rdL] using this

theorem rdI_bd (y : ByteArray) : -1 ≤ rdI y ∧ rdI y ≤ 999999 := by
  unfold rdI
  cases g : rdB y
  · simp
  · rw [if_pos rfl]
    simp only [rdB, Bool.and_eq_true] at g
    have h1 := inB_le g.1
    have h2 := rdN_in (s := y) y.size g.2.2
    have hp : (10 : Int) ^ y.size ≤ 1000000 := by
      have : y.size = 1 ∨ y.size = 2 ∨ y.size = 3 ∨ y.size = 4 ∨ y.size = 5 ∨ y.size = 6 := by omega
      rcases this with e | e | e | e | e | e <;> rw [e] <;> decide
    omega
theorem jw_minus {x : ByteArray} (h : sgB x = true) : jwB x = (decide (0 ≤ rdI (x.extract 1 x.size)) && !decide (rdI (x.extract 1 x.size) = 0)) ∧ jwI x = -rdI (x.extract 1 x.size) := by
  simp [jwB, jwI, mgI, h]
theorem jw_plain {x : ByteArray} (h : sgB x = false) : jwB x = decide (0 ≤ rdI x) ∧ jwI x = rdI x := by
  simp [jwB, jwI, mgI, h]

set_option maxHeartbeats 4000000 in
theorem baParse_any (s : ByteArray) (w : World) (hn : s.size ≤ 1048576) :
    Calls Tryd.prog 17 #[.string s] w (Lists w (pjR s) (pjB s)) := by
  by_cases h8 : s.size ≤ 120
  · have h8' : ¬ (120 : Int) < (s.size : Int) := by omega
    have HSZ := Lib.hid (fun x hx => word_le s 44 x hx)
    have HP := Lib.hid (show pjB s = (jwA s && jumpsB (jwL s)) by rw [pjB, decide_eq_true h8, Bool.true_and])
    have HY := Lib.hid (fun h => pjR_yes (s := s) h)
    have HNO := Lib.hid (fun h => pjR_no (s := s) h)
    have HRL := jwL_length s
    have SP := Lib.hid (fun u => l1Split_any s 44 u hn)
    have hlen : (splitS s 44).length = (jwL s).length := by simp [jwL]
    have HW := Lib.hid hlen
    have HG := Lib.hid (show ∀ k, k < (splitS s 44).length → (jwL s).take (k + 1) = (jwL s).take k ++ [jwI ((splitS s 44).getD k ⟨#[]⟩)] from fun k hk => by
      have hk2 : k < (jwL s).length := by omega
      rw [List.take_succ_eq_append_getElem hk2]
      simp [jwL, List.getD_eq_getElem?_getD, hk])
    have HA : Hid ((∀ k, k < (splitS s 44).length → jwB ((splitS s 44).getD k ⟨#[]⟩) = true) → jwA s = true) := Lib.hid (fun h => by
      unfold jwA
      rw [List.all_eq_true]
      intro x hx
      obtain ⟨k, hk, rfl⟩ := List.getElem_of_mem hx
      have := h k hk
      rwa [List.getD_eq_getElem?_getD, List.getElem?_eq_getElem hk, Option.getD_some] at this)
    have HN : Hid (∀ k, k < (splitS s 44).length → jwB ((splitS s 44).getD k ⟨#[]⟩) = false → jwA s = false) := Lib.hid (fun k hk h => by
      cases hc : jwA s
      · rfl
      · have := List.all_eq_true.1 hc ((splitS s 44).getD k ⟨#[]⟩) (by rw [List.getD_eq_getElem?_getD, List.getElem?_eq_getElem hk, Option.getD_some]; exact List.getElem_mem hk)
        rw [h] at this; cases this)
    clear hlen
    generalize hZ : jwL s = zs at *
    clear hZ
    go_enter Tryd.func17, Tryd.ntmps17
    go_wp2_with fail
    refine (SP.out _).mono ?_
    rintro e w1 ⟨v, rfl, ho, hb⟩
    obtain ⟨A, c, rfl, hc⟩ := ho.form
    have HC := Lib.hid hc
    clear hc ho
    rw [HW.out]
    go_wp2_with fail
    go_loopw [4, 15] (fun v i wr => ∃ k : Nat, k ≤ zs.length ∧ i = .int .i64 k ∧ OwnI wr w1.heap.size v (zs.take k) ∧ Hid (∀ j, j < k → jwB ((splitS s 44).getD j ⟨#[]⟩) = true) ∧ Below w1.heap.size w1 wr) (fun _ i _ => zs.length - (intOf i).toNat)
    case atStart => exact ⟨0, Nat.zero_le _, rfl, OwnI.nil _ _, Lib.hid (fun j hj => absurd hj (by omega)), Below.refl _ _⟩
    case round =>
      obtain ⟨k, hk, rfl, hown, HK0, hbw⟩ := hrel
      have hz : w1.heap.size ≤ wr.heap.size := hbw.size
      by_cases hlt : k < zs.length
      · have hks : k < (splitS s 44).length := by rw [HW.out]; exact hlt
        obtain ⟨g, rfl, hg, hcell⟩ := HC.out k hks
        have hcell2 := (hbw.cell (p := ⟨g, k, none⟩) hg).trans hcell
        have hxs : ((splitS s 44).getD k ⟨#[]⟩).size ≤ 1048576 := by
          rw [List.getD_eq_getElem?_getD, List.getElem?_eq_getElem hks, Option.getD_some]
          exact Nat.le_trans (HSZ.out _ (List.getElem_mem hks)) hn
        have HK := Lib.hid (HG.out k hks)
        have HBD := Lib.hid (HN.out k hks)
        have HNX : Hid (jwB ((splitS s 44).getD k ⟨#[]⟩) = true → ∀ j, j < k + 1 → jwB ((splitS s 44).getD j ⟨#[]⟩) = true) := Lib.hid (fun h j hj => by
          rcases Nat.lt_succ_iff_lt_or_eq.1 hj with hj | rfl
          · exact HK0.out j hj
          · exact h)
        have hln : (zs.take k).length ≤ 200 := by rw [List.length_take]; omega
        clear hcell hks HK0
        generalize zs.take k = ys at *
        generalize hx : (splitS s 44).getD k ⟨#[]⟩ = x at *
        clear hx
        cases hsg : sgB x
        · obtain ⟨j1, j2⟩ := jw_plain hsg
          have HI := Lib.hid j2
          have HJ := Lib.hid j1
          have hneg : ¬ 1 < x.size ∨ ¬ btS x 0 = 45 := by
            simp only [sgB, Bool.and_eq_false_iff, decide_eq_false_iff_not] at hsg
            exact hsg
          have hbd := rdI_bd x
          have RX := Lib.hid (l1Read_any x wr hxs)
          clear j1 j2 hsg
          rw [HJ.out] at HBD HNX
          generalize hm : rdI x = m at *
          clear hm
          by_cases h1 : 1 < x.size
          · have h0 : 0 < x.size := by omega
            have e0 := btS_at h0
            have l0 := btS_lt x 0
            have n45 : ¬ (x[0]'h0).toNat = 45 := by rw [e0]; omega
            have h1' : (1 : Int) < (x.size : Int) := by omega
            by_cases hm0 : 0 ≤ m
            · have HNY := Lib.hid (HNX.out (decide_eq_true hm0))
              have hm1 : ¬ m < 0 := by omega
              go_wp2_with fail
              refine RX.out.mono ?_
              rintro e w' ⟨rfl, rfl⟩
              go_wp2_with (at_builtin; refine wpList_pushI _ rfl _ _ rfl w1.heap.size _ ys rfl (hown.alloc _) wr.heap.size (m) rfl (by simp) (by omega) (by simp; omega) ?_; intro A2 c2 w2 hown1 hg1)
              go_roundw
              case rel => exact ⟨k + 1, by omega, by go_num, by rw [HK.out, HI.out]; exact hown1, HNY, (hbw.alloc (by omega) _).trans hg1⟩
              case measure => simp [intOf]; omega
            · have hB : pjB s = false := by rw [HP.out, HBD.out (decide_eq_false hm0), Bool.false_and]
              have hm1 : m < 0 := by omega
              have R0 := Lib.hid (HNO.out hB)
              have B0 := Lib.hid hB
              clear hB
              go_wp2_with fail
              refine RX.out.mono ?_
              rintro e w' ⟨rfl, rfl⟩
              go_wp2_with fail
              go_ret2
              exact ⟨_, by rw [B0.out]; rfl, by rw [R0.out]; exact OwnI.nil _ _, hb.trans (hbw.mono hb.size)⟩
          · have h1' : ¬ (1 : Int) < (x.size : Int) := by omega
            by_cases hm0 : 0 ≤ m
            · have HNY := Lib.hid (HNX.out (decide_eq_true hm0))
              have hm1 : ¬ m < 0 := by omega
              go_wp2_with fail
              refine RX.out.mono ?_
              rintro e w' ⟨rfl, rfl⟩
              go_wp2_with (at_builtin; refine wpList_pushI _ rfl _ _ rfl w1.heap.size _ ys rfl (hown.alloc _) wr.heap.size (m) rfl (by simp) (by omega) (by simp; omega) ?_; intro A2 c2 w2 hown1 hg1)
              go_roundw
              case rel => exact ⟨k + 1, by omega, by go_num, by rw [HK.out, HI.out]; exact hown1, HNY, (hbw.alloc (by omega) _).trans hg1⟩
              case measure => simp [intOf]; omega
            · have hB : pjB s = false := by rw [HP.out, HBD.out (decide_eq_false hm0), Bool.false_and]
              have hm1 : m < 0 := by omega
              have R0 := Lib.hid (HNO.out hB)
              have B0 := Lib.hid hB
              clear hB
              go_wp2_with fail
              refine RX.out.mono ?_
              rintro e w' ⟨rfl, rfl⟩
              go_wp2_with fail
              go_ret2
              exact ⟨_, by rw [B0.out]; rfl, by rw [R0.out]; exact OwnI.nil _ _, hb.trans (hbw.mono hb.size)⟩
        · obtain ⟨j1, j2⟩ := jw_minus hsg
          have HI := Lib.hid j2
          have HJ := Lib.hid j1
          have hpos : 1 < x.size ∧ btS x 0 = 45 := by
            simp only [sgB, Bool.and_eq_true, decide_eq_true_eq] at hsg
            exact hsg
          have hbd := rdI_bd (x.extract 1 x.size)
          have RX := Lib.hid (l1Read_any (x.extract 1 x.size) wr (by simp only [ByteArray.size_extract]; omega))
          clear j1 j2 hsg
          rw [HJ.out] at HBD HNX
          generalize hm : rdI (x.extract 1 x.size) = m at *
          clear hm
          have h1 := hpos.1
          have h0 : 0 < x.size := by omega
          have e0 := btS_at h0
          have n45 : (x[0]'h0).toNat = 45 := by rw [e0]; exact hpos.2
          have h1' : (1 : Int) < (x.size : Int) := by omega
          have hwm : IntKind.i64.wrap (-m) = -m := IntWalk.i64_in _ (by omega)
          by_cases hm0 : 0 ≤ m
          · by_cases hmz : m = 0
            · have hB : pjB s = false := by rw [HP.out, HBD.out (by simp [hmz]), Bool.false_and]
              subst hmz
              have R0 := Lib.hid (HNO.out hB)
              have B0 := Lib.hid hB
              clear hB
              go_wp2_with fail
              refine RX.out.mono ?_
              rintro e w' ⟨rfl, rfl⟩
              go_wp2_with fail
              go_ret2
              exact ⟨_, by rw [B0.out]; rfl, by rw [R0.out]; exact OwnI.nil _ _, hb.trans (hbw.mono hb.size)⟩
            · have HNY := Lib.hid (HNX.out (by simp [hm0, hmz]))
              have hm1 : ¬ m < 0 := by omega
              have hmb : (m == 0) = false := by simpa using hmz
              go_wp2_with fail
              refine RX.out.mono ?_
              rintro e w' ⟨rfl, rfl⟩
              go_wp2_with (at_builtin; refine wpList_pushI _ rfl _ _ rfl w1.heap.size _ ys rfl (hown.alloc _) wr.heap.size (-m) rfl (by simp) (by omega) (by simp; omega) ?_; intro A2 c2 w2 hown1 hg1)
              go_roundw
              case rel => exact ⟨k + 1, by omega, by go_num, by rw [HK.out, HI.out]; exact hown1, HNY, (hbw.alloc (by omega) _).trans hg1⟩
              case measure => simp [intOf]; omega
          · have hB : pjB s = false := by rw [HP.out, HBD.out (by simp; omega), Bool.false_and]
            have hm1 : m < 0 := by omega
            have R0 := Lib.hid (HNO.out hB)
            have B0 := Lib.hid hB
            clear hB
            go_wp2_with fail
            refine RX.out.mono ?_
            rintro e w' ⟨rfl, rfl⟩
            go_wp2_with fail
            go_ret2
            exact ⟨_, by rw [B0.out]; rfl, by rw [R0.out]; exact OwnI.nil _ _, hb.trans (hbw.mono hb.size)⟩
      · obtain rfl : k = zs.length := by omega
        rw [List.take_length] at hown
        obtain ⟨A2, c2, rfl, hr2⟩ := hown.form
        have hJA := HA.out (by rw [HW.out]; exact HK0.out)
        go_wp2_with fail
        refine (baGood_any A2 c2 zs _ wr hr2 (by omega)).mono ?_
        rintro e w' ⟨rfl, rfl⟩
        cases g1 : jumpsB zs
        · have hB : pjB s = false := by rw [HP.out, hJA, g1]; rfl
          have R0 := Lib.hid (HNO.out hB)
          have B0 := Lib.hid hB
          clear hB g1 hJA
          go_wp2_with fail
          go_ret2
          exact ⟨_, by rw [B0.out]; rfl, by rw [R0.out]; exact OwnI.nil _ _, hb.trans (hbw.mono hb.size)⟩
        · have hB : pjB s = true := by rw [HP.out, hJA, g1]; rfl
          have R0 := Lib.hid (HY.out hB)
          have B0 := Lib.hid hB
          clear hB g1 hJA
          go_wp2_with fail
          go_ret2
          exact ⟨_, by rw [B0.out]; rfl, by rw [R0.out]; exact hown.mono hb.size, hb.trans (hbw.mono hb.size)⟩
  · have h8' : (120 : Int) < (s.size : Int) := by omega
    have hB : pjB s = false := by rw [pjB, decide_eq_false h8, Bool.false_and]
    rw [pjR_no hB, hB]
    clear hB
    go_enter Tryd.func17, Tryd.ntmps17
    go_wp2_with fail
    go_ret2
    exact ⟨_, rfl, OwnI.nil _ _, Below.refl _ _⟩

theorem specParJumps_any (s : ByteArray) (w : World) (hn : s.size ≤ 1048576) :
    Calls Tryd.prog 9 #[.string s] w (Lists w (pjR s) (pjB s)) := by
  have H := Lib.hid (baParse_any s w hn)
  go_enter Tryd.func9, Tryd.ntmps9
  go_wp2_with fail
  refine H.out.mono ?_
  rintro e w1 ⟨v, rfl, ho, hb⟩
  go_wp2_with fail
  go_ret2
  exact ⟨_, rfl, ho, hb⟩

set_option maxHeartbeats 2000000 in
theorem implParJumps_any (s : ByteArray) (w : World) (hn : s.size ≤ 1048576) (ht : TabI w) (hE : ErrI w) :
    Calls Tryd.prog 10 #[.string s] w (Lists w (pjR s) (pjB s)) := by
  have NI := Lib.hid (fun u hu => numbersIn_any s 44 u hn (hE.below hu (Nat.le_refl _)))
  have NL := ninR_length s 44
  cases g : pjB s
  · rw [pjR_no g]
    have HB := Lib.hid (fun h1 h2 => pj_of (s := s) h1 h2)
    have HG := Lib.hid g
    clear g
    go_enter Tryd.func10, Tryd.ntmps10
    go_wp2_with fail
    refine (NI.out _ (Below.refl _ _)).mono ?_
    rintro e w1 ⟨v, rfl, ho, hb⟩
    obtain ⟨A, c, rfl, hc⟩ := ho.form
    generalize ninR s 44 = xs at *
    go_wp2_with fail
    refine (implJumpsText_any A c xs _ w1 hc (Nat.le_refl _) (by omega) (ht.below hb)).mono ?_
    rintro e w2 ⟨rfl, hb2⟩
    cases g2 : jumpsB xs
    · rw [orS_no]
      go_wp2_with fail
      go_ret2
      exact ⟨_, rfl, OwnI.nil _ _, hb.trans (hb2.mono hb.size)⟩
    · rw [orS_yes]
      have e1 := text_ne (a := juS xs) (b := s) (fun h => by have := HB.out g2 h; rw [HG.out] at this; cases this)
      have e2 : (!((juS xs).toList == s.toList)) = true := by rw [e1]; rfl
      have G2 := Lib.hid g2
      clear g2
      go_wp2_with fail
      go_ret2
      exact ⟨_, rfl, OwnI.nil _ _, hb.trans (hb2.mono hb.size)⟩
  · rw [pjR_yes g]
    have HN := Lib.hid (pj_nin g)
    have G1 := Lib.hid (pj_parts g).2.2
    have G2 := Lib.hid (pj_text g)
    clear g
    rw [HN.out] at NL
    generalize jwL s = xs at *
    go_enter Tryd.func10, Tryd.ntmps10
    go_wp2_with fail
    refine (NI.out _ (Below.refl _ _)).mono ?_
    rintro e w1 ⟨v, rfl, ho, hb⟩
    rw [HN.out] at ho
    obtain ⟨A, c, rfl, hc⟩ := ho.form
    go_wp2_with fail
    refine (implJumpsText_any A c xs _ w1 hc (Nat.le_refl _) (by omega) (ht.below hb)).mono ?_
    rintro e w2 ⟨rfl, hb2⟩
    rw [G1.out, orS_yes, G2.out]
    go_wp2_with fail
    go_ret2
    exact ⟨_, rfl, ho.below hb2 (Nat.le_refl _), hb.trans (hb2.mono hb.size)⟩

end Go.Proofs.YtmnljccfcfdjmaaDoor
