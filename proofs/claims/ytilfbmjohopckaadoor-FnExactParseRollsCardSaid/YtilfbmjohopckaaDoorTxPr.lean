/- Contracts: reading rolls, on both sides. -/
import Derived.Test.YtilfbmjohopckaaDoorTxLs
import Derived.Test.YtilfbmjohopckaaDoorTxRol
namespace Go.Proofs.YtilfbmjohopckaaDoor
open Go.RowKit
set_option maxRecDepth 100000

def prB (s : ByteArray) : Bool := rollsB (rdL s 43) && decide (roS (rdL s 43) = s)
def prR (s : ByteArray) : List Int := if prB s then rdL s 43 else []
theorem prR_no {s : ByteArray} (h : prB s = false) : prR s = [] := by unfold prR; rw [h]; rfl
theorem prR_yes {s : ByteArray} (h : prB s = true) : prR s = rdL s 43 := by unfold prR; rw [h]; rfl
theorem all_mem {lo hi : Int} {xs : List Int} (h : allB lo hi xs = true) : ∀ n ∈ xs, lo ≤ n ∧ n ≤ hi := mem_of_at (P := fun n => lo ≤ n ∧ n ≤ hi) (fun _ hk => allB_at h hk)
theorem rolls_mem {xs : List Int} (h : rollsB xs = true) : (1 ≤ xs.length ∧ xs.length ≤ 8) ∧ ∀ n ∈ xs, 0 ≤ n ∧ n ≤ 2000 := by
  refine ⟨(rolls_at h).1, ?_⟩
  simp only [rollsB, Bool.and_eq_true] at h
  exact fun n hn => by have := all_mem h.2 n hn; omega
theorem pr_parts {s : ByteArray} (h : prB s = true) : rollsB (rdL s 43) = true ∧ roS (rdL s 43) = s := by
  simpa [prB] using h
theorem pr_size {s : ByteArray} (h : prB s = true) : s.size ≤ 40 := by
  obtain ⟨h1, h2⟩ := pr_parts h
  have b := rolls_mem h1
  have := lsS_len 43 (xs := rdL s 43) (m := 4) (fun n hn => num_len (k := 3) (by have := b.2 n hn; omega)) _ (Nat.le_refl _)
  rw [show lsS 43 (rdL s 43) (rdL s 43).length = s from h2] at this
  omega
theorem pr_nin {s : ByteArray} (h : prB s = true) : ninR s 43 = rdL s 43 := by
  obtain ⟨h1, h2⟩ := pr_parts h
  have b := rolls_mem h1
  have := ninR_ls (b := 43) (.inl (by decide)) (xs := rdL s 43) (by omega) (fun n hn => by have := b.2 n hn; omega)
  rwa [show lsS 43 (rdL s 43) (rdL s 43).length = s from h2] at this
theorem pr_of {s : ByteArray} (h1 : rollsB (ninR s 43) = true) (h2 : roS (ninR s 43) = s) : prB s = true := by
  have b := rolls_mem h1
  have := rdL_ls (b := 43) (.inl (by decide)) (xs := ninR s 43) (by omega) (fun n hn => by have := b.2 n hn; omega)
  rw [show lsS 43 (ninR s 43) (ninR s 43).length = s from h2] at this
  unfold prB
  rw [this, h1, h2]
  simp
theorem prR_length (s : ByteArray) : (prR s).length ≤ 1048576 := by
  cases h : prB s
  · rw [prR_no h]; simp
  · rw [prR_yes h]
    have := (rolls_mem (pr_parts h).1).1
    omega

set_option maxHeartbeats 2000000 in
theorem specParRolls_any (s : ByteArray) (w : World) (hn : s.size ≤ 1048576) :
    Calls Tryd.prog 9 #[.string s] w (Lists w (prR s) (prB s)) := by
  by_cases h8 : s.size ≤ 40
  · have h8' : ¬ (40 : Int) < (s.size : Int) := by omega
    have HSZ := Lib.hid (fun x hx => word_le s 43 x hx)
    have HL := Lib.hid (show ∀ k, ((splitS s 43).take k).map rdI = (rdL s 43).take k from fun k => by simp [rdL])
    have HP := Lib.hid (show prB s = (rollsB (rdL s 43) && decide (roS (rdL s 43) = s)) from rfl)
    have HY := Lib.hid (fun h => prR_yes (s := s) h)
    have HNO := Lib.hid (fun h => prR_no (s := s) h)
    have HRL := rdL_length s 43
    have SP := Lib.hid (fun u => l1Split_any s 43 u hn)
    have hlen : (splitS s 43).length = (rdL s 43).length := by simp [rdL]
    have HW := Lib.hid hlen
    have HG := Lib.hid (show ∀ k, k < (splitS s 43).length → (rdL s 43).take (k + 1) = (rdL s 43).take k ++ [rdI ((splitS s 43).getD k ⟨#[]⟩)] from fun k hk => by
      have hk2 : k < (rdL s 43).length := by omega
      rw [List.take_succ_eq_append_getElem hk2]
      simp [rdL, List.getD_eq_getElem?_getD, hk])
    have hfull := Lib.hid (show (rdL s 43).take (splitS s 43).length = rdL s 43 from List.take_of_length_le (by omega))
    clear hlen
    generalize hZ : rdL s 43 = zs at *
    clear hZ
    go_enter Tryd.func9, Tryd.ntmps9
    go_wp2_with fail
    refine (SP.out _).mono ?_
    rintro e w1 ⟨v, rfl, ho, hb⟩
    obtain ⟨A, c, rfl, hc⟩ := ho.form
    have HC := Lib.hid hc
    clear hc ho
    rw [HW.out]
    go_wp2_with fail
    go_loopw [4, 6, 13] (fun v _ i wr => ∃ k : Nat, k ≤ zs.length ∧ i = .int .i64 k ∧ OwnI wr w1.heap.size v (zs.take k) ∧ Below w1.heap.size w1 wr) (fun _ _ i _ => zs.length - (intOf i).toNat)
    case atStart => exact ⟨0, Nat.zero_le _, rfl, OwnI.nil _ _, Below.refl _ _⟩
    case round =>
      obtain ⟨k, hk, rfl, hown, hbw⟩ := hrel
      have hz : w1.heap.size ≤ wr.heap.size := hbw.size
      by_cases hlt : k < zs.length
      · have hks : k < (splitS s 43).length := by rw [HW.out]; exact hlt
        obtain ⟨g, rfl, hg, hcell⟩ := HC.out k hks
        have hcell2 := (hbw.cell (p := ⟨g, k, none⟩) hg).trans hcell
        have hxs : ((splitS s 43).getD k ⟨#[]⟩).size ≤ 1048576 := by
          rw [List.getD_eq_getElem?_getD, List.getElem?_eq_getElem hks, Option.getD_some]
          exact Nat.le_trans (HSZ.out _ (List.getElem_mem hks)) hn
        have HK := Lib.hid (HG.out k hks)
        have hln : (zs.take k).length ≤ 100 := by rw [List.length_take]; omega
        clear hcell hks
        generalize zs.take k = ys at *
        generalize (splitS s 43).getD k ⟨#[]⟩ = x at *
        go_wp2_with fail
        refine (l1Read_any x _ hxs).mono ?_
        rintro e w' ⟨rfl, rfl⟩
        generalize rdI x = n at *
        go_wp2_with (at_builtin; refine wpList_pushI _ rfl _ _ rfl w1.heap.size _ ys rfl (hown.alloc _) wr.heap.size n rfl (by simp) (by omega) (by simp; omega) ?_; intro A2 c2 w2 hown1 hg1)
        go_roundw
        case rel => exact ⟨k + 1, by omega, by go_num, by rw [HK.out]; exact hown1, (hbw.alloc (by omega) _).trans hg1⟩
        case measure => simp [intOf]; omega
      · obtain rfl : k = zs.length := by omega
        rw [List.take_length] at hown
        obtain ⟨A2, c2, rfl, hr2⟩ := hown.form
        go_wp2_with fail
        refine (cpRolls_any A2 c2 zs _ wr hr2 (by omega)).mono ?_
        rintro e w' ⟨rfl, rfl⟩
        cases g1 : rollsB zs
        · have hB : prB s = false := by rw [HP.out, g1]; rfl
          have R0 := Lib.hid (HNO.out hB)
          have B0 := Lib.hid hB
          clear hB g1
          go_wp2_with fail
          go_ret2
          exact ⟨_, by rw [B0.out]; rfl, by rw [R0.out]; exact OwnI.nil _ _, hb.trans (hbw.mono hb.size)⟩
        · obtain ⟨hl, hx⟩ := rolls_at g1
          have HX := Lib.hid hx
          have G1 := Lib.hid g1
          clear g1 hx
          go_wp2_with fail
          refine (cpText_any A2 _ c2 zs _ wr rfl hr2 (Nat.le_refl _) (by omega) HX.out).mono ?_
          rintro e w3 ⟨rfl, hb3⟩
          by_cases hT : roS zs = s
          · have hB : prB s = true := by rw [HP.out, G1.out, hT]; simp
            rw [show lsS 43 zs zs.length = s from hT]
            have R0 := Lib.hid (HY.out hB)
            have B0 := Lib.hid hB
            clear hB hT
            go_wp2_with fail
            go_ret2
            exact ⟨_, by rw [B0.out]; rfl, by rw [R0.out]; exact (hown.below hb3 (Nat.le_refl _)).mono hb.size, (hb.trans (hbw.mono hb.size)).trans (hb3.mono (by have := hb.size; omega))⟩
          · have hB : prB s = false := by rw [HP.out, G1.out]; simp [hT]
            have e1 := text_ne hT
            have e2 : (!((roS zs).toList == s.toList)) = true := by rw [e1]; rfl
            rw [show lsS 43 zs zs.length = roS zs from rfl]
            have R0 := Lib.hid (HNO.out hB)
            have B0 := Lib.hid hB
            clear hB hT
            generalize roS zs = t at *
            go_wp2_with fail
            go_ret2
            exact ⟨_, by rw [B0.out]; rfl, by rw [R0.out]; exact OwnI.nil _ _, (hb.trans (hbw.mono hb.size)).trans (hb3.mono (by have := hb.size; omega))⟩
  · have h8' : (40 : Int) < (s.size : Int) := by omega
    have hB : prB s = false := by
      cases h : prB s
      · rfl
      · exact absurd (pr_size h) h8
    rw [prR_no hB, hB]
    clear hB
    go_enter Tryd.func9, Tryd.ntmps9
    go_wp2_with fail
    go_ret2
    exact ⟨_, rfl, OwnI.nil _ _, Below.refl _ _⟩

set_option maxHeartbeats 2000000 in
theorem implParRolls_any (s : ByteArray) (w : World) (hn : s.size ≤ 1048576) (ht : TabI w) (hE : ErrI w) :
    Calls Tryd.prog 10 #[.string s] w (Lists w (prR s) (prB s)) := by
  have NI := Lib.hid (fun u hu => numbersIn_any s 43 u hn (hE.below hu (Nat.le_refl _)))
  have NL := ninR_length s 43
  cases g : prB s
  · rw [prR_no g]
    have HB := Lib.hid (fun h1 h2 => pr_of (s := s) h1 h2)
    have HG := Lib.hid g
    clear g
    go_enter Tryd.func10, Tryd.ntmps10
    go_wp2_with fail
    refine (NI.out _ (Below.refl _ _)).mono ?_
    rintro e w1 ⟨v, rfl, ho, hb⟩
    obtain ⟨A, c, rfl, hc⟩ := ho.form
    generalize ninR s 43 = xs at *
    go_wp2_with fail
    refine (implRollsText_any A c xs _ w1 hc (Nat.le_refl _) (by omega) (ht.below hb)).mono ?_
    rintro e w2 ⟨rfl, hb2⟩
    cases g2 : rollsB xs
    · rw [orS_no]
      go_wp2_with fail
      go_ret2
      exact ⟨_, rfl, OwnI.nil _ _, hb.trans (hb2.mono hb.size)⟩
    · rw [orS_yes]
      have e1 := text_ne (a := roS xs) (b := s) (fun h => by have := HB.out g2 h; rw [HG.out] at this; cases this)
      have e2 : (!((roS xs).toList == s.toList)) = true := by rw [e1]; rfl
      have G2 := Lib.hid g2
      clear g2
      go_wp2_with fail
      go_ret2
      exact ⟨_, rfl, OwnI.nil _ _, hb.trans (hb2.mono hb.size)⟩
  · rw [prR_yes g]
    have HN := Lib.hid (pr_nin g)
    obtain ⟨g1, g2⟩ := pr_parts g
    have G1 := Lib.hid g1
    have G2 := Lib.hid g2
    clear g g1 g2
    rw [HN.out] at NL
    generalize rdL s 43 = xs at *
    go_enter Tryd.func10, Tryd.ntmps10
    go_wp2_with fail
    refine (NI.out _ (Below.refl _ _)).mono ?_
    rintro e w1 ⟨v, rfl, ho, hb⟩
    rw [HN.out] at ho
    obtain ⟨A, c, rfl, hc⟩ := ho.form
    go_wp2_with fail
    refine (implRollsText_any A c xs _ w1 hc (Nat.le_refl _) (by omega) (ht.below hb)).mono ?_
    rintro e w2 ⟨rfl, hb2⟩
    rw [G1.out, orS_yes, G2.out]
    go_wp2_with fail
    go_ret2
    exact ⟨_, rfl, ho.below hb2 (Nat.le_refl _), hb.trans (hb2.mono hb.size)⟩

end Go.Proofs.YtilfbmjohopckaaDoor
