/- Contracts: FirstFewest, the model. -/
import Derived.Test.YtbenlmkhcdfgmaaStFfI
import Derived.Deep.QuietTactic
import Derived.BigQuiet
namespace Go.Proofs.Ytbenlmkhcdfgmaa
open Go.RowKit

theorem cell_new (u : World) (s : Int) (t : TypeId) : (u.alloc (.cells #[.int .i64 s] t)).cell? ⟨u.heap.size, 0, none⟩ = some (.int .i64 s) := by simp
theorem leL_at {most : Bool} {n : Nat} {ss bs : List Int} {p : Nat} (h : p ≤ n) : (leL most n ss bs).getD p 0 = lv most n ss bs (n - p) := by
  unfold leL
  rw [tell_getD _ _ _ (by omega)]
  unfold leS
  rw [if_pos (by omega)]

set_option maxRecDepth 100000 in
set_option maxHeartbeats 4000000 in
theorem specFirstFew_any (st : Int) (A A' : Option Addr) (c c' : Nat) (ss bs : List Int) (B : Nat) (w : World) (h : St w B st A A' c c' ss bs) (hB : B ≤ w.heap.size) :
    Calls Try.prog 8 #[stv st A A' c c' ss bs] w (Lists w (ffL st ss bs) (strB false st ss bs)) := by
  have h1 := h.alloc hB (.cells #[.int .i64 st, .slice A ss.length c, .slice A' bs.length c'] 28)
  have X0 : Blk (w.alloc (.cells #[.int .i64 st, .slice A ss.length c, .slice A' bs.length c'] 28)) w.heap.size 28 #[.int .i64 st, .slice A ss.length c, .slice A' bs.length c'] := Blk.new _ _ _
  cases g : strB false st ss bs
  · rw [show ffL st ss bs = [] by simp [ffL, g]]
    have H := Lib.hid g
    clear g
    go_enter Try.func8, Try.ntmps8
    go_wp2_with fail
    refine (specFewest_any _ _ _ _ _ _ _ B _ h1 (by simp; omega)).mono ?_
    rintro e w1 ⟨rfl, hb⟩
    have Bt : Below w.heap.size w w1 := (below_alloc _ _).trans (hb.mono (by simp))
    rw [H.out]
    go_wp2_with fail
    go_ret2
    exact ⟨_, rfl, OwnI.nil _ _, Bt⟩
  · have gg : goodB st ss bs = true := by simp only [strB, Bool.and_eq_true] at g; exact g.1
    have G := good_of gg
    obtain ⟨n, rfl⟩ : ∃ n : Nat, st = (n : Int) := ⟨st.toNat, by have := G.st1; omega⟩
    have g1 : 1 ≤ n := by have := G.st1; omega
    have g2 : n ≤ 60 := by have := G.st2; omega
    have hl2 : ss.length ≤ 5 := G.l2
    have hlv := lv_bd (most := false) (n := n) (bs := bs) (fun s hs => (G.hs s hs).1) n
    have hlp : 0 ≤ lv false n ss bs n := by simp only [strB, gg, Int.toNat_natCast, Bool.true_and, Bool.not_eq_true', decide_eq_false_iff_not] at g; omega
    obtain ⟨M, hM⟩ : ∃ M : Nat, lv false n ss bs n = (M : Int) := ⟨(lv false n ss bs n).toNat, by omega⟩
    have hM2 : M ≤ n := by omega
    have hP0 := Lib.hid hM
    rw [show ffL n ss bs = ffR n ss bs M n by simp only [ffL, g, Int.toNat_natCast, hM, if_true]]
    have HS1 := Lib.hid (fun s hs => (G.hs s hs).1)
    have HBD := Lib.hid (fun d => lv_bd (most := false) (n := n) (bs := bs) (fun s hs => (G.hs s hs).1) d)
    have GH := Lib.hid G
    have H := Lib.hid g
    clear g gg hlv hlp hM G
    go_enter Try.func8, Try.ntmps8
    go_wp2_with fail
    refine (specFewest_any _ _ _ _ _ _ _ B _ h1 (by simp; omega)).mono ?_
    rintro e w1 ⟨rfl, hb⟩
    have Bt : Below w.heap.size w w1 := (below_alloc _ _).trans (hb.mono (by simp))
    have hs : w.heap.size + 1 ≤ w1.heap.size := by have := hb.size; simp at this; omega
    replace h1 := h1.below hb (by simp; omega)
    replace X0 := X0.below hb (by simp)
    clear hb
    obtain ⟨p0, p1, p2⟩ := X0.three
    rw [H.out]
    go_wp2_with fail
    refine (clLeft_few n _ _ _ _ _ _ B _ h1 (by omega) GH.out).mono ?_
    rintro e w2 ⟨g, rfl, hgg, hblk, hb⟩
    replace Bt := Bt.trans (hb.mono (by omega))
    replace h1 := h1.below hb (by omega)
    replace X0 := X0.below hb (by omega)
    replace hs : w.heap.size + 1 ≤ w2.heap.size := by have := hb.size; omega
    have hgl := hblk.lt
    clear p0 p1 p2 hb
    obtain ⟨p0, p1, p2⟩ := X0.three
    go_wp2_with fail
    clear p0 p1 p2
    go_loopw [7, 8] (fun o i wr => ∃ (ys : List Int) (a d m : Nat), a + d = n ∧ i = .int .i64 (a : Int) ∧ Hid (lv false n ss bs d = (m : Int)) ∧ ys.length + m ≤ n ∧ m ≤ n ∧ Hid (ffR n ss bs M n = ys ++ ffR n ss bs m d) ∧ OwnI wr w2.heap.size o ys ∧ Below w2.heap.size w2 wr) (fun _ i _ => (61 - intOf i).toNat)
    case atStart => exact ⟨[], 0, n, M, by omega, rfl, hP0, by simpa using hM2, hM2, Lib.hid rfl, OwnI.nil _ _, Below.refl _ _⟩
    case round =>
      obtain ⟨ys, a, d, m, had, rfl, HX, hyl, hm, HC, hown, hbw⟩ := hrel
      have X := X0.below hbw (by omega)
      have hon := hblk.below hbw hgl
      have hz : w2.heap.size ≤ wr.heap.size := hbw.size
      have hw := h1.below hbw (by omega)
      obtain ⟨q0, q1, q2⟩ := X.three
      have HBW := Lib.hid hbw
      clear X hbw
      by_cases hd : d = 0
      · have hm0 : m = 0 := by have := HX.out; rw [hd, lv_zero] at this; omega
        subst hd hm0
        have HY := Lib.hid (by rw [HC.out]; simp [ffR] : ffR n ss bs M n = ys)
        obtain rfl : a = n := by omega
        go_wp2_with fail
        go_ret2
        exact ⟨_, rfl, by rw [HY.out]; exact hown.mono (by omega), Bt.trans (HBW.out.mono (by omega))⟩
      · obtain ⟨d, rfl⟩ : ∃ d', d = d' + 1 := ⟨d - 1, by omega⟩
        have hm1 : m ≠ 0 := fun e => lv_one HS1.out (by have := HX.out; rw [e] at this; exact this)
        obtain ⟨m, rfl⟩ : ∃ m', m = m' + 1 := ⟨m - 1, by omega⟩
        have HA := Lib.hid had
        have han : a < n := by omega
        have HS := Lib.hid (ff_some (lv_pos HS1.out HX.out))
        have a1 := hon.int_at (k := a) (by unfold leL; rw [tell_length]; omega)
        rw [leL_at (by omega), show n - a = d + 1 by omega, HX.out] at a1
        have e1 : ((m + 1 : Nat) : Int) - 1 = (m : Int) := by omega
        go_wp2_with fail
        go_loopw [7, 8, 27] (fun v7 v8 i wx => ∃ (k : Nat), (∃ q, wx = wr.drewN q) ∧ k ≤ ss.length ∧ v8 = .int .i64 (a : Int) ∧ OwnI wr w2.heap.size v7 ys ∧ i = .int .i64 (k : Int) ∧ Hid (ss.find? (ffP n ss bs m (d + 1)) = (ss.drop k).find? (ffP n ss bs m (d + 1)))) (fun _ _ i _ => ss.length - (intOf i).toNat)
        case atStart => exact ⟨0, ⟨0, rfl⟩, Nat.zero_le _, rfl, hown, rfl, Lib.hid (by simp)⟩
        case round =>
          clear hown
          obtain ⟨k, ⟨q, rfl⟩, hk, rfl, hown, rfl, HP⟩ := hrel
          by_cases hkl : k < ss.length
          · obtain ⟨bb, o, rfl, hb, hcell⟩ := hw.rs.at_ hkl
            obtain ⟨s, hs'⟩ : ∃ s : Nat, ss.getD k 0 = (s : Int) := ⟨(ss.getD k 0).toNat, by have := GH.out.hs _ (getD_mem hkl); omega⟩
            have hsb : 1 ≤ s ∧ s ≤ 9 := by have := GH.out.hs _ (getD_mem hkl); rw [hs'] at this; omega
            have hs1 := hsb.1
            have hs2 := hsb.2
            have hmem : (s : Int) ∈ ss := by rw [← hs']; exact getD_mem hkl
            have HKL := Lib.hid hkl
            rw [hs'] at hcell
            have HSS := Lib.hid hs'
            have has : 0 ≤ (a : Int) + (s : Int) := by omega
            have has3 : ((a : Int) + (s : Int)).toNat = a + s := by omega
            have ew : IntKind.i64.wrap ((a : Int) + (s : Int)) = (a : Int) + (s : Int) := IntWalk.i64_in _ (by omega)
            have ew2 : IntKind.i64.wrap (((m + 1 : Nat) : Int) - 1) = (m : Int) := by rw [IntWalk.i64_in _ (by omega)]; omega
            clear hsb hs'
            by_cases hsn : a + s ≤ n
            · have hsd : s ≤ d + 1 := by omega
              have has2 : (a : Int) + (s : Int) ≤ (n : Int) := by omega
              have has5 : (a : Int) + (s : Int) < (n : Int) + 1 := by omega
              have has4 : a + s < n + 1 := by omega
              have k2 := hon.int_at (k := a + s) (by unfold leL; rw [tell_length]; omega)
              rw [leL_at hsn, show n - (a + s) = d + 1 - s by omega] at k2
              have bd := HBD.out (d + 1 - s)
              have iff := ff_least HS1.out hmem HX.out hsd
              clear hmem
              by_cases hlt : lv false n ss bs (d + 1 - s) = m
              · have HN := Lib.hid (HP.out.trans (find_yes HKL.out (by rw [HSS.out]; exact ff_yes hsd (iff.2 hlt))))
                rw [HSS.out] at HN
                have HST := Lib.hid (ffR_step HN.out)
                have HLT := Lib.hid hlt
                rw [hlt] at k2
                have d1 : decide ((a : Int) + (s : Int) ≤ (n : Int)) = true := by simpa using has2
                have d2 : decide ((0 : Int) ≤ (m : Int)) = true := by simp
                clear iff hlt bd
                go_wp2_with fail
                go_quiet (fail)
                go_wp2_with (at_builtin; refine wpList_push _ rfl _ _ rfl w2.heap.size _ ys rfl (OwnI.alloc (w := wr.drewN (q + nq)) hown _) wr.heap.size (s : Int) rfl (cell_new (wr.drewN (q + nq)) _ _) (by omega) (Nat.le_trans (show w2.heap.size ≤ (wr.drewN (q + nq)).heap.size from hz) (by simp)) ?_; intro v1 w4 hown1 hg1)
                go_roundw
                case rel => exact ⟨ys ++ [(s : Int)], a + s, d + 1 - s, m, by omega, by go_num, HLT, by simp; omega, by omega, Lib.hid (by rw [HC.out, HST.out, List.append_assoc, Int.toNat_natCast]; rfl), hown1, ((Below.drewN' HBW.out (q + nq)).alloc (by show _ ≤ wr.heap.size; omega) _).trans hg1⟩
                case measure => simp [intOf] <;> omega
              · have HN := Lib.hid (HP.out.trans (find_no HKL.out (by rw [HSS.out]; exact ff_no (fun h => hlt (iff.1 h)))))
                generalize lv false n ss bs (d + 1 - s) = v at *
                have hvm : v ≠ ((m + 1 : Nat) : Int) - 1 := by omega
                have hvm2 : (v == (m : Int)) = false := by simpa using hlt
                clear iff
                by_cases hv : 0 ≤ v
                · have d1 : decide ((a : Int) + (s : Int) ≤ (n : Int)) = true := by simpa using has2
                  have d2 : decide ((0 : Int) ≤ v) = true := by simpa using hv
                  go_wp2_with fail
                  go_quiet (fail)
                  go_wp2_with fail
                  go_roundw
                  case rel => exact ⟨k + 1, ⟨_, rfl⟩, by omega, rfl, hown, by go_num, HN⟩
                  case measure => simp [intOf] <;> omega
                · have d1 : decide ((a : Int) + (s : Int) ≤ (n : Int)) = true := by simpa using has2
                  have d2 : decide ((0 : Int) ≤ v) = false := by simpa using hv
                  go_wp2_with fail
                  go_quiet (fail)
                  go_wp2_with fail
                  go_roundw
                  case rel => exact ⟨k + 1, ⟨_, rfl⟩, by omega, rfl, hown, by go_num, HN⟩
                  case measure => simp [intOf] <;> omega
            · have HN := Lib.hid (HP.out.trans (find_no HKL.out (by rw [HSS.out]; exact ff_over (by omega))))
              have hsn2 : (n : Int) < (a : Int) + (s : Int) := by omega
              have d1 : decide ((a : Int) + (s : Int) ≤ (n : Int)) = false := by simpa using hsn2
              go_wp2_with fail
              go_quiet (fail)
              go_wp2_with fail
              go_roundw
              case rel => exact ⟨k + 1, ⟨_, rfl⟩, by omega, rfl, hown, by go_num, HN⟩
              case measure => simp [intOf] <;> omega
          · exfalso
            obtain rfl : k = ss.length := by omega
            exact HS.out (HP.out.trans (by simp))

end Go.Proofs.Ytbenlmkhcdfgmaa
