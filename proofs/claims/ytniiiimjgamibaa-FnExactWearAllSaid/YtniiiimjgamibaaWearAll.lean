/- Contracts: bears behind many climbs, one after the other, on both sides. -/
import Derived.Test.YtniiiimjgamibaaWearBy
import Derived.Test.YtniiiimjgamibaaGSS
namespace Go.Proofs.Ytniiiimjgamibaa
open Go.RowKit

/-- the last of the first k steps of a climb, or 0 -/
def lastK (cs : List Int) : Nat → Int
  | 0 => 0
  | k + 1 => cs.getD k 0
theorem worn_inv {xs cs : List Int} {r : Int} (h : wclB xs r 0 cs = true) (hx : ∀ b, 0 ≤ xs.getD b 0) : ∀ k, k ≤ cs.length →
    wclB xs r (lastK cs k) (cs.drop k) = true ∧ 0 ≤ lastK cs k ∧ ∀ b : Nat, 0 ≤ (wornK xs cs k).getD b 0 ∧ (wornK xs cs k).getD b 0 ≤ xs.getD b 0 ∧ (lastK cs k < (b : Int) + 1 → (wornK xs cs k).getD b 0 = xs.getD b 0)
  | 0, _ => ⟨h, Int.le_refl _, fun b => ⟨hx b, Int.le_refl _, fun _ => rfl⟩⟩
  | k + 1, hk => by
    obtain ⟨h1, h2, h3⟩ := worn_inv h hx k (by omega)
    rw [wclB_go _ _ _ _ _ (show k < cs.length by omega), Bool.and_eq_true, Bool.and_eq_true] at h1
    obtain ⟨⟨h4, h5⟩, h6⟩ := h1
    have h7 := in_least h4
    have h8 : ¬ xs.getD (cs.getD k 0 - 1).toNat 0 = 0 := by simpa using h5
    refine ⟨h6, by show 0 ≤ cs.getD k 0; omega, fun b => ?_⟩
    show 0 ≤ (wornK xs cs (k + 1)).getD b 0 ∧ (wornK xs cs (k + 1)).getD b 0 ≤ xs.getD b 0 ∧ (cs.getD k 0 < (b : Int) + 1 → (wornK xs cs (k + 1)).getD b 0 = xs.getD b 0)
    rw [wornK, getD_set2]
    obtain ⟨i1, i2, i3⟩ := h3 b
    split
    · next e =>
      obtain ⟨e1, _⟩ := e
      have i4 := i3 (by omega)
      rw [← e1] at h8
      rw [← e1]
      have := hx b
      refine ⟨by omega, by omega, fun hc => by omega⟩
    · next e => exact ⟨i1, i2, fun hc => i3 (by omega)⟩
theorem worn_ok {xs cs : List Int} {r : Int} (h : wclB xs r 0 cs = true) (hx : ∀ b, 0 ≤ xs.getD b 0) (b : Nat) : 0 ≤ (wornX xs cs).getD b 0 ∧ (wornX xs cs).getD b 0 ≤ xs.getD b 0 := by
  obtain ⟨_, _, h3⟩ := worn_inv h hx cs.length (Nat.le_refl _)
  exact ⟨(h3 b).1, (h3 b).2.1⟩
/-- behind the first k climbs; were they all climbs -/
def accA (xs : List Int) (cf : Nat → List Int) : Nat → List Int
  | 0 => xs
  | k + 1 => wornX (accA xs cf k) (cf k)
def accB (xs : List Int) (r : Int) (cf : Nat → List Int) : Nat → Bool
  | 0 => true
  | k + 1 => accB xs r cf k && wclB (accA xs cf k) r 0 (cf k)
theorem accA_length (xs : List Int) (cf : Nat → List Int) : ∀ k, (accA xs cf k).length = xs.length
  | 0 => rfl
  | k + 1 => by rw [accA, wornX_length, accA_length xs cf k]
theorem accB_bd {xs : List Int} {r : Int} {cf : Nat → List Int} (hx : ∀ b : Nat, 0 ≤ xs.getD b 0 ∧ xs.getD b 0 ≤ 100) : ∀ k, accB xs r cf k = true → ∀ b : Nat, 0 ≤ (accA xs cf k).getD b 0 ∧ (accA xs cf k).getD b 0 ≤ 100
  | 0, _, b => hx b
  | k + 1, h, b => by
    rw [accB, Bool.and_eq_true] at h
    have ih := accB_bd hx k h.1
    have := worn_ok h.2 (fun b => (ih b).1) b
    have := ih b
    rw [accA]
    omega
theorem accB_stop {xs : List Int} {r : Int} {cf : Nat → List Int} {k : Nat} (h : accB xs r cf k = false) : ∀ {n : Nat}, k ≤ n → accB xs r cf n = false
  | 0, hn => by rw [show (0 : Nat) = k by omega]; exact h
  | n + 1, hn => by
    by_cases e : n + 1 = k
    · rw [e]; exact h
    · rw [accB, accB_stop h (by omega)]; rfl
def alB (xs : List Int) (r : Int) (n : Nat) (cf : Nat → List Int) : Bool := reachB xs r && (decide (n ≤ 100) && accB xs r cf n)
def alR (xs : List Int) (r : Int) (n : Nat) (cf : Nat → List Int) : List Int := if alB xs r n cf then accA xs cf n else []
theorem alR_length (xs : List Int) (r : Int) (n : Nat) (cf : Nat → List Int) (h : xs.length ≤ 1048576) : (alR xs r n cf).length ≤ 1048576 := by
  unfold alR
  split
  · rw [accA_length]; exact h
  · simp
theorem getD_past {xs : List Int} {b : Nat} (h : ¬ b < xs.length) : xs.getD b 0 = 0 := by
  rw [List.getD_eq_getElem?_getD, List.getElem?_eq_none (by omega)]; rfl
theorem bears_all {xs : List Int} (h : bearsB xs = true) (b : Nat) : 0 ≤ xs.getD b 0 ∧ xs.getD b 0 ≤ 100 := by
  by_cases hb : b < xs.length
  · exact bears_at' h b hb
  · rw [getD_past hb]; omega

set_option maxHeartbeats 4000000 in
theorem specAll_any (A Z : Option Addr) (c d n : Nat) (F : Nat → Option Addr) (C : Nat → Nat) (xs : List Int) (cf : Nat → List Int) (r : Int) (B : Nat) (w : World) (hr : Rd w B A c xs) (hz : RdSS w B Z d n F C cf) (hB : B ≤ w.heap.size) (hn : xs.length ≤ 1048576) (hm : n ≤ 1048576) (hl : ∀ i, i < n → (cf i).length ≤ 1048576) :
    Calls Try.prog 5 #[.slice A xs.length c, .int .i64 r, .slice Z n d] w (Lists w (alR xs r n cf) (alB xs r n cf)) := by
  cases h : reachB xs r
  · rw [show alR xs r n cf = [] by simp [alR, alB, h], show alB xs r n cf = false by simp [alB, h]]
    have H := Lib.hid h
    clear h
    go_enter Try.func5, Try.ntmps5
    go_wp2_with fail
    refine (weReach_any _ _ _ _ _ _ hr hn).mono ?_
    rintro e w' ⟨rfl, rfl⟩
    rw [H.out]
    go_wp2_with fail
    go_ret2
    exact ⟨_, rfl, OwnI.nil _ _, Below.refl _ _⟩
  · have hp := reachB_le h
    have H := Lib.hid h
    by_cases h100 : 100 < n
    · have e0 : decide (n ≤ 100) = false := decide_eq_false (by omega)
      rw [show alR xs r n cf = [] by simp [alR, alB, e0], show alB xs r n cf = false by simp [alB, e0]]
      clear h hp e0
      go_enter Try.func5, Try.ntmps5
      go_wp2_with fail
      refine (weReach_any _ _ _ _ _ _ hr hn).mono ?_
      rintro e w' ⟨rfl, rfl⟩
      rw [H.out]
      go_wp2_with fail
      go_ret2
      exact ⟨_, rfl, OwnI.nil _ _, Below.refl _ _⟩
    · have HBB := Lib.hid (show alB xs r n cf = accB xs r cf n by simp [alB, h, show n ≤ 100 by omega])
      have HRR := Lib.hid (show alR xs r n cf = if accB xs r cf n then accA xs cf n else [] by unfold alR; rw [HBB.out])
      have HX := Lib.hid (fun b => bears_all hp.1 b)
      have hp2 := hp.2
      have HL := Lib.hid hl
      have HZ := Lib.hid hz
      obtain ⟨RB, hRB⟩ : ∃ RB, alB xs r n cf = RB := ⟨_, rfl⟩
      obtain ⟨RR, hRR⟩ : ∃ RR, alR xs r n cf = RR := ⟨_, rfl⟩
      rw [hRB] at HBB
      rw [hRR] at HRR
      rw [hRB, hRR]
      clear h hp hl hz hRB hRR
      go_enter Try.func5, Try.ntmps5
      go_wp2_with fail
      refine (weReach_any _ _ _ _ _ _ hr hn).mono ?_
      rintro e w' ⟨rfl, rfl⟩
      rw [H.out]
      go_wp2_with fail
      refine (l1Own_any _ _ _ _ _ hr hB hn).mono ?_
      rintro e w1 ⟨v1, rfl, hown1, hb1⟩
      go_wp2_with fail
      go_loopw [8, 24] (fun v i wr => ∃ k : Nat, k ≤ n ∧ i = .int .i64 k ∧ OwnI wr w.heap.size v (accA xs cf k) ∧ Below w.heap.size w wr ∧ Hid (accB xs r cf k = true)) (fun _ i _ => n - (intOf i).toNat)
      case atStart => exact ⟨0, Nat.zero_le _, rfl, hown1, hb1, Lib.hid rfl⟩
      case round =>
        obtain ⟨k, hk, rfl, hown, hbw, HK⟩ := hrel
        have hzw : w.heap.size ≤ wr.heap.size := hbw.size
        have hlen := accA_length xs cf k
        by_cases hlt : k < n
        · obtain ⟨⟨b, o, rfl, hb, hcell⟩, hrk⟩ := (HZ.out.below hbw hB).2 k hlt
          have hlk := HL.out k hlt
          have hrk2 := hrk.more (show B ≤ wr.heap.size by omega)
          have HBD := Lib.hid (accB_bd HX.out k HK.out)
          have HS1 := Lib.hid (show accA xs cf (k + 1) = wornX (accA xs cf k) (cf k) from rfl)
          have HS2 := Lib.hid (show accB xs r cf (k + 1) = (accB xs r cf k && wclB (accA xs cf k) r 0 (cf k)) from rfl)
          have hy1 : 1 ≤ (accA xs cf k).length := by rw [hlen]; omega
          have hy2 : (accA xs cf k).length ≤ 20 := by rw [hlen]; omega
          clear hlen hrk
          generalize accA xs cf k = ys at *
          obtain ⟨A1, c1, rfl, hrd⟩ := hown.form
          have HW := Lib.hid (fun hw => weBy_any A1 (F k) c1 (C k) ys (cf k) r wr.heap.size wr hrd hrk2 (Nat.le_refl _) hy1 hy2 hlk (fun b _ => HBD.out b) hw)
          have HI := Lib.hid (weIs_any A1 (F k) c1 (C k) ys (cf k) r wr.heap.size wr hrd hrk2 hy2 hlk (by omega) (by omega))
          cases hw : wclB ys r 0 (cf k)
          · have HN := Lib.hid (show accB xs r cf n = false from accB_stop (k := k + 1) (by rw [HS2.out, hw, Bool.and_false]) hlt)
            have H1 := Lib.hid hw
            have HRB := Lib.hid (show RB = false by rw [HBB.out, HN.out])
            have HR0 := Lib.hid (show RR = [] by rw [HRR.out, HN.out]; rfl)
            clear hw
            go_wp2_with fail
            refine HI.out.mono ?_
            rintro e w' ⟨rfl, rfl⟩
            rw [H1.out]
            go_wp2_with fail
            go_ret2
            exact ⟨_, by rw [HRB.out]; rfl, by rw [HR0.out]; exact OwnI.nil _ _, hbw⟩
          · have H1 := Lib.hid hw
            have HK2 := Lib.hid (show accB xs r cf (k + 1) = true by rw [HS2.out, HK.out, hw]; rfl)
            have HW1 := Lib.hid (HW.out hw)
            clear hw
            generalize hcl : (cf k).length = q at *
            clear hcl
            go_wp2_with fail
            refine HI.out.mono ?_
            rintro e w' ⟨rfl, rfl⟩
            rw [H1.out]
            go_wp2_with fail
            refine HW1.out.mono ?_
            rintro e w2 ⟨v2, rfl, ho2, hb2⟩
            go_wp2_with fail
            go_roundw
            case rel => exact ⟨k + 1, by omega, by go_num, by rw [HS1.out]; exact ho2.mono hzw, hbw.trans (hb2.mono hzw), HK2⟩
            case measure => simp [intOf]; omega
        · obtain rfl : k = n := by omega
          have HRB := Lib.hid (show RB = true by rw [HBB.out, HK.out])
          have HR0 := Lib.hid (show RR = accA xs cf k by rw [HRR.out, HK.out]; rfl)
          go_wp2_with fail
          go_ret2
          exact ⟨_, by rw [HRB.out]; rfl, by rw [HR0.out]; exact hown, hbw⟩

set_option maxHeartbeats 4000000 in
theorem implAll_any (A Z : Option Addr) (c d n : Nat) (F : Nat → Option Addr) (C : Nat → Nat) (xs : List Int) (cf : Nat → List Int) (r : Int) (B : Nat) (w : World) (hr : Rd w B A c xs) (hz : RdSS w B Z d n F C cf) (hB : B ≤ w.heap.size) (hn : xs.length ≤ 1048576) (hm : n ≤ 1048576) (hl : ∀ i, i < n → (cf i).length ≤ 1048576) :
    Calls Try.prog 8 #[.slice A xs.length c, .int .i64 r, .slice Z n d] w (Lists w (alR xs r n cf) (alB xs r n cf)) := by
  cases h : reachB xs r
  · rw [show alR xs r n cf = [] by simp [alR, alB, h], show alB xs r n cf = false by simp [alB, h]]
    have H := Lib.hid h
    clear h
    go_enter Try.func8, Try.ntmps8
    go_wp2_with fail
    refine (canWear_any _ _ _ _ _ _ hr hn).mono ?_
    rintro e w' ⟨rfl, rfl⟩
    rw [H.out]
    go_wp2_with fail
    go_ret2
    exact ⟨_, rfl, OwnI.nil _ _, Below.refl _ _⟩
  · have hp := reachB_le h
    have H := Lib.hid h
    by_cases h100 : 100 < n
    · have e0 : decide (n ≤ 100) = false := decide_eq_false (by omega)
      rw [show alR xs r n cf = [] by simp [alR, alB, e0], show alB xs r n cf = false by simp [alB, e0]]
      clear h hp e0
      go_enter Try.func8, Try.ntmps8
      go_wp2_with fail
      refine (canWear_any _ _ _ _ _ _ hr hn).mono ?_
      rintro e w' ⟨rfl, rfl⟩
      rw [H.out]
      go_wp2_with fail
      go_ret2
      exact ⟨_, rfl, OwnI.nil _ _, Below.refl _ _⟩
    · have HBB := Lib.hid (show alB xs r n cf = accB xs r cf n by simp [alB, h, show n ≤ 100 by omega])
      have HRR := Lib.hid (show alR xs r n cf = if accB xs r cf n then accA xs cf n else [] by unfold alR; rw [HBB.out])
      have HX := Lib.hid (fun b => bears_all hp.1 b)
      have hp2 := hp.2
      have HL := Lib.hid hl
      have HZ := Lib.hid hz
      obtain ⟨RB, hRB⟩ : ∃ RB, alB xs r n cf = RB := ⟨_, rfl⟩
      obtain ⟨RR, hRR⟩ : ∃ RR, alR xs r n cf = RR := ⟨_, rfl⟩
      rw [hRB] at HBB
      rw [hRR] at HRR
      rw [hRB, hRR]
      clear h hp hl hz hRB hRR
      go_enter Try.func8, Try.ntmps8
      go_wp2_with fail
      refine (canWear_any _ _ _ _ _ _ hr hn).mono ?_
      rintro e w' ⟨rfl, rfl⟩
      rw [H.out]
      obtain ⟨m, hm0⟩ : ∃ m, m = xs.length := ⟨_, rfl⟩
      have HM := Lib.hid hm0
      rw [← hm0] at hp2
      have hnm : m ≤ 20 := by omega
      clear hm0
      go_wp2_with (at_builtin; refine wpList_append_rd' _ rfl _ _ rfl w.heap.size B _ [] xs rfl (OwnI.nil _ _) A xs.length c rfl rfl hr (by simp; omega) (Nat.le_refl _) ?_; intro v1 w1 hown1 hb1; rw [List.nil_append] at hown1; obtain ⟨g, c1, hvv, hg1, hg2⟩ := hown1.block (by rw [← HM.out]; omega); subst hvv; rw [← HM.out] at hown1; rw [← HM.out])
      go_loopw [26] (fun i wr => ∃ k : Nat, k ≤ n ∧ i = .int .i64 k ∧ OwnI wr w.heap.size (.slice (some ⟨g, 0, none⟩) m c1) (accA xs cf k) ∧ Below w.heap.size w wr ∧ Hid (accB xs r cf k = true)) (fun i _ => n - (intOf i).toNat)
      case atStart => exact ⟨0, Nat.zero_le _, rfl, hown1, hb1, Lib.hid rfl⟩
      case round =>
        obtain ⟨k, hk, rfl, hown, hbw, HK⟩ := hrel
        have hzw : w.heap.size ≤ wr.heap.size := hbw.size
        have hlen := accA_length xs cf k
        rw [← HM.out] at hlen
        by_cases hlt : k < n
        · obtain ⟨⟨b, o, rfl, hb, hcell⟩, hrk⟩ := (HZ.out.below hbw hB).2 k hlt
          have hlk := HL.out k hlt
          have hrk2 := hrk.more (show B ≤ wr.heap.size by omega)
          have HRW := Lib.hid ((HZ.out.2 k hlt).2)
          have HBD := Lib.hid (accB_bd HX.out k HK.out)
          have HS1 := Lib.hid (show accA xs cf (k + 1) = wornX (accA xs cf k) (cf k) from rfl)
          have HS2 := Lib.hid (show accB xs r cf (k + 1) = (accB xs r cf k && wclB (accA xs cf k) r 0 (cf k)) from rfl)
          have HM2 := Lib.hid hlen.symm
          clear hrk
          generalize accA xs cf k = ys at *
          have hrd := hown.rd
          have HI := leadsUp_any (some ⟨g, 0, none⟩) (F k) c1 (C k) ys (cf k) r wr.heap.size wr hrd hrk2 (by omega) hlk (by omega) (by omega)
          rw [hlen] at HI
          clear hlen hrd hrk2
          generalize cf k = cs at *
          generalize F k = Zk at *
          generalize C k = dk at *
          obtain ⟨wo, rfl⟩ : ∃ wo : World, wo = wr := ⟨_, rfl⟩
          cases hw : wclB ys r 0 cs
          · have HN := Lib.hid (show accB xs r cf n = false from accB_stop (k := k + 1) (by rw [HS2.out, hw, Bool.and_false]) hlt)
            have H1 := Lib.hid hw
            have HRB := Lib.hid (show RB = false by rw [HBB.out, HN.out])
            have HR0 := Lib.hid (show RR = [] by rw [HRR.out, HN.out]; rfl)
            clear hw
            go_wp2_with fail
            refine HI.mono ?_
            rintro e w' ⟨rfl, rfl⟩
            rw [H1.out]
            go_wp2_with fail
            go_ret2
            exact ⟨_, by rw [HRB.out]; rfl, by rw [HR0.out]; exact OwnI.nil _ _, hbw⟩
          · have HW := Lib.hid hw
            have HK2 := Lib.hid (show accB xs r cf (k + 1) = true by rw [HS2.out, HK.out, hw]; rfl)
            clear hw
            go_wp2_with fail
            refine HI.mono ?_
            rintro e w' ⟨rfl, rfl⟩
            rw [HW.out]
            clear HI
            have hlt2 : (k : Int) < (n : Int) := by omega
            go_wp2_with fail
            go_loopw [37] (fun i wr => ∃ j : Nat, j ≤ cs.length ∧ i = .int .i64 j ∧ OwnI wr w.heap.size (.slice (some ⟨g, 0, none⟩) m c1) (wornK ys cs j) ∧ Below w.heap.size w wr) (fun i _ => cs.length - (intOf i).toNat)
            case atStart => exact ⟨0, Nat.zero_le _, rfl, hown, hbw⟩
            case round =>
              obtain ⟨j, hj, rfl, hown, hbw⟩ := hrel
              by_cases hlt3 : j < cs.length
              · obtain ⟨b3, o3, rfl, hb3, hcell3⟩ := (HRW.out.below hbw hB).at_ hlt3
                have hs := wclB_at HW.out hlt3
                have hml : m = (wornK ys cs j).length := by rw [wornK_length, ← HM2.out]
                have hs' := hs
                rw [← HM2.out] at hs'
                obtain ⟨p, hpe⟩ : ∃ p : Nat, cs.getD j 0 = (p : Int) + 1 := ⟨(cs.getD j 0 - 1).toNat, by omega⟩
                have hpt : (cs.getD j 0 - 1).toNat = p := by omega
                have hp : p < m := by omega
                rw [hpe] at hcell3
                have k1 := hown.cell hml (j := p) (by rw [← hml]; exact hp)
                have f1 := hown.frozen hml p
                have O1 := Lib.hid (hown.set hml p ((wornK ys cs j).getD p 0 - 1))
                have hbd := wornK_bd ys cs j p
                have hxb := HBD.out p
                have HS := Lib.hid (show (wornK ys cs j).set p ((wornK ys cs j).getD p 0 - 1) = wornK ys cs (j + 1) by rw [wornK, hpt])
                have HB3 := Lib.hid hbw
                clear hown hbw hml hs hs' hpe hpt
                generalize (wornK ys cs j).getD p 0 = y at *
                generalize ys.getD p 0 = x0 at *
                go_wp2_with fail
                go_roundw
                case rel => exact ⟨j + 1, by omega, by go_num, by rw [← HS.out]; exact O1.out.1, HB3.out.setCell (p := ⟨g, p, none⟩) (by show _ ≤ g; omega) _⟩
                case measure => simp [intOf]; omega
              · obtain rfl : j = cs.length := by omega
                go_wp2_with fail
                go_roundw
                case rel => exact ⟨k + 1, by omega, by go_num, by rw [HS1.out]; exact hown, hbw, HK2⟩
                case measure => simp [intOf]; omega
        · obtain rfl : k = n := by omega
          have HRB := Lib.hid (show RB = true by rw [HBB.out, HK.out])
          have HR0 := Lib.hid (show RR = accA xs cf k by rw [HRR.out, HK.out]; rfl)
          clear hlen
          go_wp2_with fail
          go_ret2
          exact ⟨_, by rw [HRB.out]; rfl, by rw [HR0.out]; exact hown, hbw⟩


end Go.Proofs.Ytniiiimjgamibaa
