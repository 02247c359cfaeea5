/- Contracts: bears with what each part lacks put on its last step, on both sides. -/
import Derived.Test.YtkfacfhneooaiaaWearReach
import Derived.Test.YtkfacfhneooaiaaGOwn
import Derived.Deep.RegionWith
namespace Go.Proofs.Ytkfacfhneooaiaa
open Go.RowKit

/-- behind j parts -/
def mendK (xs : List Int) (r : Nat) (n : Int) : Nat → List Int
  | 0 => xs
  | j + 1 => (mendK xs r n j).set (j + r - 1) ((mendK xs r n j).getD (j + r - 1) 0 + max (n - partS (mendK xs r n j) r j) 0)
theorem mendK_length (xs : List Int) (r : Nat) (n : Int) : ∀ j, (mendK xs r n j).length = xs.length
  | 0 => rfl
  | j + 1 => by rw [mendK, List.length_set, mendK_length xs r n j]
def mendX (xs : List Int) (r : Nat) (n : Int) : List Int := mendK xs r n (xs.length - r + 1)
def mendB (xs : List Int) (n d : Int) : Bool := endsB xs n && inB d 0 1000
def mendR (xs : List Int) (n d : Int) : List Int := if mendB xs n d then mendX xs n.toNat d else []
theorem mendR_length (xs : List Int) (n d : Int) (h : xs.length ≤ 1048576) : (mendR xs n d).length ≤ 1048576 := by
  unfold mendR
  split
  · unfold mendX; rw [mendK_length]; exact h
  · simp
theorem mem_getD_of {ys : List Int} {k : Nat} (h : k < ys.length) : ys.getD k 0 ∈ ys := by simp [List.getD_eq_getElem?_getD, h]
theorem sub_bd2 {ys : List Int} {M : Int} (h : ∀ x ∈ ys, 0 ≤ x ∧ x ≤ M) (hM : 0 ≤ M) (hM2 : M ≤ 30000) (k j : Nat) (hj : j ≤ 20) : 0 ≤ total ((ys.drop k).take j) ∧ total ((ys.drop k).take j) ≤ 600000 := by
  have hb := total_bd (L := (ys.drop k).take j) (M := 30000) (fun x hx => by
    have := h x (List.mem_of_mem_drop (List.mem_of_mem_take hx)); omega)
  have hl : ((ys.drop k).take j).length ≤ 20 := by rw [List.length_take]; omega
  exact ⟨hb.1, by omega⟩
theorem row_bd2 {ys : List Int} {M : Int} (h : ∀ x ∈ ys, 0 ≤ x ∧ x ≤ M) (hM : 0 ≤ M) (hM2 : M ≤ 30000) (k r : Nat) : (∀ j, j ≤ 20 → 0 ≤ total ((partL ys r k).take j) ∧ total ((partL ys r k).take j) ≤ 1000000) ∧ (∀ j, j < 20 → 0 ≤ (partL ys r k).getD j 0 ∧ (partL ys r k).getD j 0 ≤ 1000000) := by
  have hm : ∀ x ∈ partL ys r k, 0 ≤ x ∧ x ≤ 30000 := by
    intro x hx
    unfold partL at hx
    rcases List.mem_append.1 hx with hx | hx
    · have := h x (List.mem_of_mem_drop (List.mem_of_mem_take hx)); omega
    · have := (List.mem_replicate.1 hx).2; omega
  refine ⟨fun j hj => ?_, fun j hj => ?_⟩
  · have hb := total_bd (L := (partL ys r k).take j) (M := 30000) (fun x hx => hm x (List.mem_of_mem_take hx))
    have hl : ((partL ys r k).take j).length ≤ 20 := by rw [List.length_take]; omega
    exact ⟨hb.1, by omega⟩
  · by_cases hl : j < (partL ys r k).length
    · have := hm _ (mem_getD_of hl)
      exact ⟨this.1, by have := this.2; omega⟩
    · rw [List.getD_eq_getElem?_getD, List.getElem?_eq_none (by omega)]; simp
/-- no number behind j parts is greater than this -/
theorem mendK_bd {xs : List Int} {r : Nat} {n : Int} (h : bearsB xs = true) (hn : 0 ≤ n) (hn2 : n ≤ 1000) (hr : r ≤ 20) : ∀ j, j ≤ 20 → ∀ x ∈ mendK xs r n j, 0 ≤ x ∧ x ≤ 100 + 1000 * (j : Int)
  | 0, _, x, hx => by
    have hm : x ∈ xs := hx
    obtain ⟨i, hi, e⟩ := List.getElem_of_mem hm
    have := bears_at h i hi
    rw [List.getD_eq_getElem?_getD, List.getElem?_eq_getElem hi] at this
    simp only [Option.getD_some, e] at this
    omega
  | j + 1, hj, x, hx => by
    have ih := mendK_bd h hn hn2 hr j (by omega)
    rw [mendK] at hx
    rcases List.mem_or_eq_of_mem_set hx with hx | rfl
    · have := ih x hx; omega
    · have hs := (sub_bd2 ih (by omega) (by omega) j r hr).1
      have hp : 0 ≤ partS (mendK xs r n j) r j := hs
      by_cases hl : j + r - 1 < (mendK xs r n j).length
      · have := ih _ (mem_getD_of hl); omega
      · rw [List.getD_eq_getElem?_getD, List.getElem?_eq_none (by omega)]
        simp only [Option.getD_none]; omega
theorem mendK_at {xs : List Int} {r : Nat} {n : Int} (h : bearsB xs = true) (hn : 0 ≤ n) (hn2 : n ≤ 1000) (hr : r ≤ 20) {j : Nat} (hj : j ≤ 20) {i : Nat} (hi : i < xs.length) : 0 ≤ (mendK xs r n j).getD i 0 ∧ (mendK xs r n j).getD i 0 ≤ 30000 := by
  have := mendK_bd h hn hn2 hr j hj _ (mem_getD_of (ys := mendK xs r n j) (k := i) (by rw [mendK_length]; exact hi))
  omega

set_option maxHeartbeats 2000000 in
theorem impMend_any (A : Option Addr) (c : Nat) (xs : List Int) (n d : Int) (B : Nat) (w : World) (hr : Rd w B A c xs) (_hB : B ≤ w.heap.size) (hn : xs.length ≤ 1048576) :
    Calls Try.prog 36 #[.slice A xs.length c, .int .i64 n, .int .i64 d] w (Lists w (mendR xs n d) (mendB xs n d)) := by
  cases h : endsB xs n
  · rw [show mendR xs n d = [] by simp [mendR, mendB, h], show mendB xs n d = false by simp [mendB, h]]
    have H := Lib.hid h
    clear h
    go_enter Try.func36, Try.ntmps36
    go_wp2_with fail
    refine (wearEnds_any _ _ _ _ _ _ hr hn).mono ?_
    rintro e w' ⟨rfl, rfl⟩
    rw [H.out]
    go_wp2_with fail
    go_ret2
    exact ⟨_, rfl, OwnI.nil _ _, Below.refl _ _⟩
  · cases h1 : inB d 0 1000
    · rw [show mendR xs n d = [] by simp [mendR, mendB, h1], show mendB xs n d = false by simp [mendB, h1]]
      have H := Lib.hid h
      have H1 := Lib.hid h1
      clear h h1
      go_enter Try.func36, Try.ntmps36
      go_wp2_with fail
      refine (wearEnds_any _ _ _ _ _ _ hr hn).mono ?_
      rintro e w' ⟨rfl, rfl⟩
      rw [H.out]
      go_wp2_with fail
      refine (isAsked_any _ _).mono ?_
      rintro e w' ⟨rfl, rfl⟩
      rw [H1.out]
      go_wp2_with fail
      go_ret2
      exact ⟨_, rfl, OwnI.nil _ _, Below.refl _ _⟩
    · have hp := endsB_le h
      have hd := inB_le h1
      obtain ⟨r, rfl⟩ : ∃ r : Nat, n = (r : Int) := ⟨n.toNat, by omega⟩
      rw [show mendR xs (r : Int) d = mendX xs r d by simp [mendR, mendB, h, h1], show mendB xs (r : Int) d = true by simp [mendB, h, h1]]
      have H := Lib.hid h
      have H1 := Lib.hid h1
      have HBe := Lib.hid hp.1
      obtain ⟨m, hm⟩ : ∃ m, m = xs.length := ⟨_, rfl⟩
      have hp2 : 1 ≤ m ∧ m ≤ 20 ∧ 1 ≤ r ∧ r ≤ m := by omega
      have HM := Lib.hid hm
      rw [← hm]
      clear h h1 hp hm
      go_enter Try.func36, Try.ntmps36
      go_wp2_with fail
      rw [HM.out]
      refine (wearEnds_any _ _ _ _ _ _ hr hn).mono ?_
      rintro e w' ⟨rfl, rfl⟩
      rw [H.out, ← HM.out]
      go_wp2_with fail
      refine (isAsked_any _ _).mono ?_
      rintro e w' ⟨rfl, rfl⟩
      rw [H1.out]
      go_wp2_with (at_builtin; refine wpList_append_rd' _ rfl _ _ rfl w.heap.size B _ [] xs rfl (OwnI.nil _ _) A m c rfl HM.out hr (by simp; omega) (Nat.le_refl _) ?_; intro v1 w1 hown1 hb1; rw [List.nil_append] at hown1; obtain ⟨g, c1, hvv, hg1, hg2⟩ := hown1.block (by rw [← HM.out]; omega); subst hvv; rw [← HM.out] at hown1; rw [← HM.out])
      have hz1 : w.heap.size ≤ w1.heap.size := hb1.size
      go_loopw [9] (fun i wr => ∃ j : Nat, j + r ≤ m + 1 ∧ i = .int .i64 ((j : Int) + r) ∧ OwnI wr w.heap.size (.slice (some ⟨g, 0, none⟩) m c1) (mendK xs r d j) ∧ Below w.heap.size w wr) (fun i _ => (22 - intOf i).toNat)
      case atStart => exact ⟨0, by omega, by go_num, hown1, hb1⟩
      case round =>
        obtain ⟨j, hj, rfl, hown, hbw⟩ := hrel
        have hz : w.heap.size ≤ wr.heap.size := hbw.size
        by_cases hlt : j + r ≤ m
        · have hml : m = (mendK xs r d j).length := by rw [mendK_length, ← HM.out]
          have HML := Lib.hid hml
          have hbd := mendK_bd (r := r) (n := d) HBe.out hd.1 hd.2 (by omega) j (by omega)
          have hrb := row_bd2 hbd (by omega) (by omega) j r
          have HR1 := Lib.hid hrb.1
          have HR2 := Lib.hid hrb.2
          have HPL := Lib.hid (partL_length (xs := mendK xs r d j) (r := r) (k := j) (by rw [← hml]; omega) (by omega))
          have HPT := Lib.hid (partL_total (mendK xs r d j) r j)
          have hsb := sub_bd2 hbd (by omega) (by omega) j r (by omega)
          have hsb2 : 0 ≤ partS (mendK xs r d j) r j ∧ partS (mendK xs r d j) r j ≤ 600000 := hsb
          have hat := mendK_at (r := r) (n := d) (j := j) HBe.out hd.1 hd.2 (by omega) (by omega) (i := j + r - 1) (by rw [← HM.out]; omega)
          have HC := partFrom_any (some ⟨g, 0, none⟩) c1 (mendK xs r d j) r j wr.heap.size wr hown.rd (Nat.le_refl _) (by rw [← hml]; omega) (by rw [← hml]; omega) (by omega) (by omega)
          rw [← hml] at HC
          clear hml hbd hrb hsb
          go_wp2_with fail
          refine HC.mono ?_
          rintro e w2 ⟨rfl, hb2⟩
          clear HC
          go_wp2_with fail
          refine (feet_any _ _ HPL.out HR1.out HR2.out).mono ?_
          rintro e w3 ⟨rfl, hb3⟩
          rw [HPT.out]
          have hz2 := hb2.size
          have hown3 := (hown.below hb2 (Nat.le_refl _)).below hb3 (Nat.le_refl _)
          have HB3 := Lib.hid ((hbw.trans (hb2.mono hz)).trans (hb3.mono (by omega)))
          have k1 := hown3.cell HML.out (j := j + r - 1) (by rw [← HML.out]; omega)
          have f1 := hown3.frozen HML.out (j + r - 1)
          have O1 := Lib.hid (hown3.set HML.out (j + r - 1) ((mendK xs r d j).getD (j + r - 1) 0 + max (d - partS (mendK xs r d j) r j) 0))
          have HS := Lib.hid (show (mendK xs r d j).set (j + r - 1) ((mendK xs r d j).getD (j + r - 1) 0 + max (d - partS (mendK xs r d j) r j) 0) = mendK xs r d (j + 1) from rfl)
          clear hown hown3 hbw hb2 hb3
          generalize partS (mendK xs r d j) r j = s at *
          generalize (mendK xs r d j).getD (j + r - 1) 0 = y at *
          have hpos : (0 : Int) < (j : Int) + r := by omega
          by_cases hmx : 0 ≤ d - s
          all_goals
            go_wp2_with fail
            go_roundw
            case rel => exact ⟨j + 1, by omega, by go_num, by rw [← HS.out]; first | (rw [Int.max_eq_left hmx] at O1 ⊢; exact O1.out.1) | (rw [Int.max_eq_right (by omega), Int.add_zero] at O1 ⊢; exact O1.out.1), HB3.out.setCell (p := ⟨g, j + r - 1, none⟩) hg1 _⟩
            case measure => simp [intOf]; omega
        · obtain rfl : j = m - r + 1 := by omega
          have HE := Lib.hid (show mendK xs r d (m - r + 1) = mendX xs r d by unfold mendX; rw [← HM.out])
          rw [HE.out] at hown
          have hgt : (m : Int) < ((m - r + 1 : Nat) : Int) + (r : Int) := by omega
          go_wp2_with fail
          go_ret2
          exact ⟨_, rfl, hown, hbw⟩

theorem l1Most_any (a b : Int) (w : World) :
    Calls Try.prog 71 #[.int .i64 a, .int .i64 b] w fun e w' => e = .returned (.int .i64 (max b a)) ∧ w = w' := by
  by_cases h : b < a
  · rw [show max b a = a by omega]
    go_enter Try.func71, Try.ntmps71
    go_wp2
    all_goals (go_ret; exact ⟨by first | rfl | (exact ret_int (by omega)), rfl⟩)
  · by_cases h2 : a = b
    · subst h2
      rw [show max a a = a by omega]
      go_enter Try.func71, Try.ntmps71
      go_wp2
      all_goals (go_ret; exact ⟨rfl, rfl⟩)
    · rw [show max b a = b by omega]
      have h3 : a < b := by omega
      go_enter Try.func71, Try.ntmps71
      go_wp2
      all_goals (go_ret; exact ⟨by first | rfl | (exact ret_int (by omega)), rfl⟩)

set_option maxHeartbeats 2000000 in
theorem weMend_any (A : Option Addr) (c : Nat) (xs : List Int) (r : Nat) (d : Int) (B : Nat) (w : World) (hr : Rd w B A c xs) (hB : B ≤ w.heap.size) (hl : xs.length ≤ 20) (hr1 : 1 ≤ r) (hr2 : r ≤ xs.length) (hbe : bearsB xs = true) (hd1 : 0 ≤ d) (hd2 : d ≤ 1000) :
    Calls Try.prog 58 #[.slice A xs.length c, .int .i64 (r : Int), .int .i64 d] w (ListP w (mendX xs r d)) := by
  have HBe := Lib.hid hbe
  obtain ⟨m, hm⟩ : ∃ m, m = xs.length := ⟨_, rfl⟩
  have HM := Lib.hid hm
  have hp2 : 1 ≤ m ∧ m ≤ 20 ∧ 1 ≤ r ∧ r ≤ m := by omega
  clear hbe hm hl hr1 hr2
  go_enter Try.func58, Try.ntmps58
  go_wp2_with fail
  refine (l1Own_any _ _ _ _ _ hr hB (by rw [← HM.out]; omega)).mono ?_
  rintro e w1 ⟨v, rfl, hown1, hb1⟩
  obtain ⟨g, c1, hvv, hg1, hg2⟩ := hown1.block (by rw [← HM.out]; omega)
  subst hvv
  rw [← HM.out] at hown1
  rw [← HM.out]
  have hz1 : w.heap.size ≤ w1.heap.size := hb1.size
  have hcap : m ≤ c1 := by
    have := hown1.rd.1
    rw [← HM.out] at this
    exact this
  go_wp2_with fail
  go_loopw [8] (fun i wr => ∃ j : Nat, j + r ≤ m + 1 ∧ i = .int .i64 ((j : Int) + r) ∧ OwnI wr w.heap.size (.slice (some ⟨g, 0, none⟩) m c1) (mendK xs r d j) ∧ Below w.heap.size w wr) (fun i _ => (22 - intOf i).toNat)
  case atStart => exact ⟨0, by omega, by go_num, hown1, hb1⟩
  case round =>
    obtain ⟨j, hj, rfl, hown, hbw⟩ := hrel
    have hz : w.heap.size ≤ wr.heap.size := hbw.size
    by_cases hlt : j + r ≤ m
    · have hml : m = (mendK xs r d j).length := by rw [mendK_length, ← HM.out]
      have HML := Lib.hid hml
      have hbd := mendK_bd (r := r) (n := d) HBe.out hd1 hd2 (by omega) j (by omega)
      have HBD := Lib.hid hbd
      have hsb := sub_bd2 hbd (by omega) (by omega) j r (by omega)
      have hsb2 : 0 ≤ partS (mendK xs r d j) r j ∧ partS (mendK xs r d j) r j ≤ 600000 := hsb
      have hat := mendK_at (r := r) (n := d) (j := j) HBe.out hd1 hd2 (by omega) (by omega) (i := j + r - 1) (by rw [← HM.out]; omega)
      have HO := Lib.hid hown
      have k1 := hown.cell HML.out (j := j + r - 1) (by rw [← HML.out]; omega)
      have f1 := hown.frozen HML.out (j + r - 1)
      have O1 := Lib.hid (hown.set HML.out (j + r - 1) ((mendK xs r d j).getD (j + r - 1) 0 + max (d - partS (mendK xs r d j) r j) 0))
      have HS := Lib.hid (show (mendK xs r d j).set (j + r - 1) ((mendK xs r d j).getD (j + r - 1) 0 + max (d - partS (mendK xs r d j) r j) 0) = mendK xs r d (j + 1) from rfl)
      have HPS := Lib.hid (show partS (mendK xs r d j) r j = total (((mendK xs r d j).drop j).take r) from rfl)
      have HB3 := Lib.hid hbw
      clear hml hbd hsb hown hbw
      generalize hyy : mendK xs r d j = ys at *
      have HYY := Lib.hid hyy
      clear hyy
      generalize partS ys r j = s at *
      generalize ys.getD (j + r - 1) 0 = y at *
      have hpos : (0 : Int) < (j : Int) + r := by omega
      have q1 : (j : Int) + (r : Int) ≤ (c1 : Int) := by omega
      have q2 : ¬ c1 = j := by omega
      have q3 : (j : Int) + (r : Int) ≤ (m : Int) := by omega
      go_wp2_with fail
      go_loop [9, 28] (fun s i => ∃ q : Nat, q ≤ r ∧ i = .int .i64 q ∧ s = .int .i64 (total ((ys.drop j).take q))) (fun _ i => (20 - intOf i).toNat)
      case atStart => exact ⟨0, by omega, rfl, by simp [total]⟩
      case round =>
        obtain ⟨q, hq, rfl, rfl⟩ := hrel
        by_cases hqr : q < r
        · have hcell := HO.out.cell HML.out (j := j + q) (by rw [← HML.out]; omega)
          have bd := sub_bd2 HBD.out (by omega) (by omega) j q (by omega)
          have bd2 := sub_bd2 HBD.out (by omega) (by omega) j (q + 1) (by omega)
          have TS : total ((ys.drop j).take (q + 1)) = total ((ys.drop j).take q) + ys.getD (j + q) 0 := by
            rw [total_take_succ (by rw [List.length_drop, ← HML.out]; omega)]
            simp [List.getD_eq_getElem?_getD]
          have HT := Lib.hid TS
          rw [TS] at bd2
          clear TS
          generalize total ((ys.drop j).take q) = u at *
          generalize ys.getD (j + q) 0 = x at *
          go_wp2
          go_round
          case rel => exact ⟨q + 1, by omega, by go_num, by rw [HT.out]⟩
          case measure => simp [intOf]; omega
        · obtain rfl : q = r := by omega
          rw [← HPS.out]
          have E1 : IntKind.i64.wrap (d - s) = d - s := IntWalk.i64_in _ (by omega)
          have E2 : IntKind.i64.wrap (y + max (d - s) 0) = y + max (d - s) 0 := IntWalk.i64_in _ (by omega)
          have E3 : IntKind.i64.wrap ((j : Int) + (q : Int) - 1) = (j : Int) + (q : Int) - 1 := IntWalk.i64_in _ (by omega)
          have E4 : ((j : Int) + (q : Int) - 1).toNat = j + q - 1 := by omega
          have q4 : (0 : Int) ≤ (j : Int) + (q : Int) - 1 := by omega
          have q5 : (j : Int) + (q : Int) - 1 < (m : Int) := by omega
          go_wp2_with fail
          go_region_with (go_at_call 71; refine (l1Most_any _ _ _).mono ?_; rintro e w' ⟨rfl, rfl⟩)
          all_goals
            go_wp2
            go_roundw
            case rel => exact ⟨j + 1, by omega, by go_num, by rw [← HS.out]; exact O1.out.1, (HB3.out.setCell (p := ⟨g, j + q - 1, none⟩) hg1 _).drew⟩
            case measure => simp [intOf]; omega
    · obtain rfl : j = m - r + 1 := by omega
      have HE := Lib.hid (show mendK xs r d (m - r + 1) = mendX xs r d by unfold mendX; rw [← HM.out])
      rw [HE.out] at hown
      have hgt : (m : Int) < ((m - r + 1 : Nat) : Int) + (r : Int) := by omega
      go_wp2_with fail
      go_ret
      exact ⟨_, rfl, hown, hbw⟩

end Go.Proofs.Ytkfacfhneooaiaa
