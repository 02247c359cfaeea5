/- Contracts: reading bears, on both sides. -/
import Derived.Test.YtfojcefbgdaelaaDoorTxLs
import Derived.Test.YtfojcefbgdaelaaDoorTxBears
namespace Go.Proofs.YtfojcefbgdaelaaDoor
open Go.RowKit
set_option maxRecDepth 100000

def pbB (s : ByteArray) : Bool := bearsB (rdL s 45) && decide (beS (rdL s 45) = s)
def pbR (s : ByteArray) : List Int := if pbB s then rdL s 45 else []
theorem pbR_no {s : ByteArray} (h : pbB s = false) : pbR s = [] := by unfold pbR; rw [h]; rfl
theorem pbR_yes {s : ByteArray} (h : pbB s = true) : pbR s = rdL s 45 := by unfold pbR; rw [h]; rfl
theorem all_mem {lo hi : Int} {xs : List Int} (h : allB lo hi xs = true) : ∀ n ∈ xs, lo ≤ n ∧ n ≤ hi := mem_of_at (P := fun n => lo ≤ n ∧ n ≤ hi) (fun _ hk => allB_at h _ hk)
theorem bears_mem {xs : List Int} (h : bearsB xs = true) : (1 ≤ xs.length ∧ xs.length ≤ 20) ∧ ∀ n ∈ xs, 0 ≤ n ∧ n ≤ 100 := by
  refine ⟨(bears_at h).1, ?_⟩
  simp only [bearsB, Bool.and_eq_true] at h
  exact all_mem h.2
theorem pb_parts {s : ByteArray} (h : pbB s = true) : bearsB (rdL s 45) = true ∧ beS (rdL s 45) = s := by
  simpa [pbB] using h
theorem pb_size {s : ByteArray} (h : pbB s = true) : s.size ≤ 80 := by
  obtain ⟨h1, h2⟩ := pb_parts h
  have b := bears_mem h1
  have := lsS_len 45 (xs := rdL s 45) (m := 3) (fun n hn => num_len (k := 2) (by have := b.2 n hn; omega)) _ (Nat.le_refl _)
  rw [show lsS 45 (rdL s 45) (rdL s 45).length = s from h2] at this
  omega
theorem pb_nin {s : ByteArray} (h : pbB s = true) : ninR s 45 = rdL s 45 := by
  obtain ⟨h1, h2⟩ := pb_parts h
  have b := bears_mem h1
  have := ninR_ls (b := 45) (.inl (by decide)) (xs := rdL s 45) (by omega) (fun n hn => by have := b.2 n hn; omega)
  rwa [show lsS 45 (rdL s 45) (rdL s 45).length = s from h2] at this
theorem pb_of {s : ByteArray} (h1 : bearsB (ninR s 45) = true) (h2 : beS (ninR s 45) = s) : pbB s = true := by
  have b := bears_mem h1
  have := rdL_ls (b := 45) (.inl (by decide)) (xs := ninR s 45) (by omega) (fun n hn => by have := b.2 n hn; omega)
  rw [show lsS 45 (ninR s 45) (ninR s 45).length = s from h2] at this
  unfold pbB
  rw [this, h1, h2]
  simp
theorem pbR_length (s : ByteArray) : (pbR s).length ≤ 1048576 := by
  cases h : pbB s
  · rw [pbR_no h]; simp
  · rw [pbR_yes h]
    have := (bears_mem (pb_parts h).1).1
    omega

set_option maxHeartbeats 2000000 in
theorem specParBears_any (s : ByteArray) (w : World) (hn : s.size ≤ 1048576) :
    Calls Tryd.prog 38 #[.string s] w (Lists w (pbR s) (pbB s)) := by
  by_cases h8 : s.size ≤ 80
  · have h8' : ¬ (80 : Int) < (s.size : Int) := by omega
    have HSZ := Lib.hid (fun x hx => word_le s 45 x hx)
    have HL := Lib.hid (show ∀ k, ((splitS s 45).take k).map rdI = (rdL s 45).take k from fun k => by simp [rdL])
    have HP := Lib.hid (show pbB s = (bearsB (rdL s 45) && decide (beS (rdL s 45) = s)) from rfl)
    have HY := Lib.hid (fun h => pbR_yes (s := s) h)
    have HNO := Lib.hid (fun h => pbR_no (s := s) h)
    have HRL := rdL_length s 45
    have SP := Lib.hid (fun u => l1Split_any s 45 u hn)
    have hlen : (splitS s 45).length = (rdL s 45).length := by simp [rdL]
    have HW := Lib.hid hlen
    have HG := Lib.hid (show ∀ k, k < (splitS s 45).length → (rdL s 45).take (k + 1) = (rdL s 45).take k ++ [rdI ((splitS s 45).getD k ⟨#[]⟩)] from fun k hk => by
      have hk2 : k < (rdL s 45).length := by omega
      rw [List.take_succ_eq_append_getElem hk2]
      simp [rdL, List.getD_eq_getElem?_getD, hk])
    have hfull := Lib.hid (show (rdL s 45).take (splitS s 45).length = rdL s 45 from List.take_of_length_le (by omega))
    clear hlen
    generalize hZ : rdL s 45 = zs at *
    clear hZ
    go_enter Tryd.func38, Tryd.ntmps38
    go_wp2_with fail
    refine (SP.out _).mono ?_
    rintro e w1 ⟨v, rfl, ho, hb⟩
    obtain ⟨A, c, rfl, hc⟩ := ho.form
    have HC := Lib.hid hc
    clear hc ho
    rw [HW.out]
    go_wp2_with fail
    go_loopw [4, 6, 13] (fun v _ i wr => ∃ k : Nat, k ≤ zs.length ∧ i = .int .i64 k ∧ OwnI wr w1.heap.size v (zs.take k) ∧ Below w1.heap.size w1 wr) (fun _ _ i _ => zs.length - (intOf i).toNat)
    case atStart => exact ⟨0, Nat.zero_le _, rfl, OwnI.nil _ _, Below.refl _ _⟩
    case round =>
      obtain ⟨k, hk, rfl, hown, hbw⟩ := hrel
      have hz : w1.heap.size ≤ wr.heap.size := hbw.size
      by_cases hlt : k < zs.length
      · have hks : k < (splitS s 45).length := by rw [HW.out]; exact hlt
        obtain ⟨g, rfl, hg, hcell⟩ := HC.out k hks
        have hcell2 := (hbw.cell (p := ⟨g, k, none⟩) hg).trans hcell
        have hxs : ((splitS s 45).getD k ⟨#[]⟩).size ≤ 1048576 := by
          rw [List.getD_eq_getElem?_getD, List.getElem?_eq_getElem hks, Option.getD_some]
          exact Nat.le_trans (HSZ.out _ (List.getElem_mem hks)) hn
        have HK := Lib.hid (HG.out k hks)
        have hln : (zs.take k).length ≤ 100 := by rw [List.length_take]; omega
        clear hcell hks
        generalize zs.take k = ys at *
        generalize (splitS s 45).getD k ⟨#[]⟩ = x at *
        go_wp2_with fail
        refine (l1Read_any x _ hxs).mono ?_
        rintro e w' ⟨rfl, rfl⟩
        generalize rdI x = n at *
        go_wp2_with (at_builtin; refine wpList_pushI _ rfl _ _ rfl w1.heap.size _ ys rfl (hown.alloc _) wr.heap.size n rfl (by simp) (by omega) (by simp; omega) ?_; intro A2 c2 w2 hown1 hg1)
        go_roundw
        case rel => exact ⟨k + 1, by omega, by go_num, by rw [HK.out]; exact hown1, (hbw.alloc (by omega) _).trans hg1⟩
        case measure => simp [intOf]; omega
      · obtain rfl : k = zs.length := by omega
        rw [List.take_length] at hown
        obtain ⟨A2, c2, rfl, hr2⟩ := hown.form
        go_wp2_with fail
        refine (weGood_any A2 c2 zs _ wr hr2 (by omega)).mono ?_
        rintro e w' ⟨rfl, rfl⟩
        cases g1 : bearsB zs
        · have hB : pbB s = false := by rw [HP.out, g1]; rfl
          have R0 := Lib.hid (HNO.out hB)
          have B0 := Lib.hid hB
          clear hB g1
          go_wp2_with fail
          go_ret2
          exact ⟨_, by rw [B0.out]; rfl, by rw [R0.out]; exact OwnI.nil _ _, hb.trans (hbw.mono hb.size)⟩
        · obtain ⟨hl, hx⟩ := bears_at g1
          have HX := Lib.hid hx
          have G1 := Lib.hid g1
          clear g1 hx
          go_wp2_with fail
          refine (weText_any A2 _ c2 zs _ wr rfl hr2 (Nat.le_refl _) (by omega) HX.out).mono ?_
          rintro e w3 ⟨rfl, hb3⟩
          by_cases hT : beS zs = s
          · have hB : pbB s = true := by rw [HP.out, G1.out, hT]; simp
            rw [show lsS 45 zs zs.length = s from hT]
            have R0 := Lib.hid (HY.out hB)
            have B0 := Lib.hid hB
            clear hB hT
            go_wp2_with fail
            go_ret2
            exact ⟨_, by rw [B0.out]; rfl, by rw [R0.out]; exact (hown.below hb3 (Nat.le_refl _)).mono hb.size, (hb.trans (hbw.mono hb.size)).trans (hb3.mono (by have := hb.size; omega))⟩
          · have hB : pbB s = false := by rw [HP.out, G1.out]; simp [hT]
            have e1 := text_ne hT
            have e2 : (!((beS zs).toList == s.toList)) = true := by rw [e1]; rfl
            rw [show lsS 45 zs zs.length = beS zs from rfl]
            have R0 := Lib.hid (HNO.out hB)
            have B0 := Lib.hid hB
            clear hB hT
            generalize beS zs = t at *
            go_wp2_with fail
            go_ret2
            exact ⟨_, by rw [B0.out]; rfl, by rw [R0.out]; exact OwnI.nil _ _, (hb.trans (hbw.mono hb.size)).trans (hb3.mono (by have := hb.size; omega))⟩
  · have h8' : (80 : Int) < (s.size : Int) := by omega
    have hB : pbB s = false := by
      cases h : pbB s
      · rfl
      · exact absurd (pb_size h) h8
    rw [pbR_no hB, hB]
    clear hB
    go_enter Tryd.func38, Tryd.ntmps38
    go_wp2_with fail
    go_ret2
    exact ⟨_, rfl, OwnI.nil _ _, Below.refl _ _⟩

set_option maxHeartbeats 2000000 in
theorem implParBears_any (s : ByteArray) (w : World) (hn : s.size ≤ 1048576) (ht : TabI w) (hE : ErrI w) :
    Calls Tryd.prog 39 #[.string s] w (Lists w (pbR s) (pbB s)) := by
  have NI := Lib.hid (fun u hu => numbersIn_any s 45 u hn (hE.below hu (Nat.le_refl _)))
  have NL := ninR_length s 45
  cases g : pbB s
  · rw [pbR_no g]
    have HB := Lib.hid (fun h1 h2 => pb_of (s := s) h1 h2)
    have HG := Lib.hid g
    clear g
    go_enter Tryd.func39, Tryd.ntmps39
    go_wp2_with fail
    refine (NI.out _ (Below.refl _ _)).mono ?_
    rintro e w1 ⟨v, rfl, ho, hb⟩
    obtain ⟨A, c, rfl, hc⟩ := ho.form
    generalize ninR s 45 = xs at *
    go_wp2_with fail
    refine (implBearsText_any A c xs _ w1 hc (Nat.le_refl _) (by omega) (ht.below hb)).mono ?_
    rintro e w2 ⟨rfl, hb2⟩
    cases g2 : bearsB xs
    · rw [orS_no]
      go_wp2_with fail
      go_ret2
      exact ⟨_, rfl, OwnI.nil _ _, hb.trans (hb2.mono hb.size)⟩
    · rw [orS_yes]
      have e1 := text_ne (a := beS xs) (b := s) (fun h => by have := HB.out g2 h; rw [HG.out] at this; cases this)
      have e2 : (!((beS xs).toList == s.toList)) = true := by rw [e1]; rfl
      have G2 := Lib.hid g2
      clear g2
      go_wp2_with fail
      go_ret2
      exact ⟨_, rfl, OwnI.nil _ _, hb.trans (hb2.mono hb.size)⟩
  · rw [pbR_yes g]
    have HN := Lib.hid (pb_nin g)
    obtain ⟨g1, g2⟩ := pb_parts g
    have G1 := Lib.hid g1
    have G2 := Lib.hid g2
    clear g g1 g2
    rw [HN.out] at NL
    generalize rdL s 45 = xs at *
    go_enter Tryd.func39, Tryd.ntmps39
    go_wp2_with fail
    refine (NI.out _ (Below.refl _ _)).mono ?_
    rintro e w1 ⟨v, rfl, ho, hb⟩
    rw [HN.out] at ho
    obtain ⟨A, c, rfl, hc⟩ := ho.form
    go_wp2_with fail
    refine (implBearsText_any A c xs _ w1 hc (Nat.le_refl _) (by omega) (ht.below hb)).mono ?_
    rintro e w2 ⟨rfl, hb2⟩
    rw [G1.out, orS_yes, G2.out]
    go_wp2_with fail
    go_ret2
    exact ⟨_, rfl, ho.below hb2 (Nat.le_refl _), hb.trans (hb2.mono hb.size)⟩

end Go.Proofs.YtfojcefbgdaelaaDoor
