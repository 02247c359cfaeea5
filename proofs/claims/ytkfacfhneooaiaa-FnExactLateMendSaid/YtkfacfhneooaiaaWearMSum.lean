/- Contracts: mended bears (the model), and how many feet more, on both sides. -/
import Derived.Test.YtkfacfhneooaiaaWearMend
namespace Go.Proofs.Ytkfacfhneooaiaa
open Go.RowKit

/-- by how much the first k numbers of one list are more than another's -/
def diffK (ys xs : List Int) : Nat → Int
  | 0 => 0
  | k + 1 => diffK ys xs k + (ys.getD k 0 - xs.getD k 0)
def mendSumX (xs : List Int) (n d : Int) : Int := diffK (mendX xs n.toNat d) xs xs.length
theorem diffK_bd {ys xs : List Int} (hy : ∀ i, i < xs.length → 0 ≤ ys.getD i 0 ∧ ys.getD i 0 ≤ 30000) (hx : ∀ i, i < xs.length → 0 ≤ xs.getD i 0 ∧ xs.getD i 0 ≤ 100) : ∀ k, k ≤ xs.length → -100 * (k : Int) ≤ diffK ys xs k ∧ diffK ys xs k ≤ 30000 * (k : Int)
  | 0, _ => by simp [diffK]
  | k + 1, hk => by
    have := diffK_bd hy hx k (by omega)
    have h1 := hy k (by omega)
    have h2 := hx k (by omega)
    simp only [diffK]
    omega
theorem mendX_at {xs : List Int} {r : Nat} {d : Int} (h : bearsB xs = true) (hd : 0 ≤ d) (hd2 : d ≤ 1000) (hr1 : 1 ≤ r) (hr : r ≤ 20) (hl : xs.length ≤ 20) (i : Nat) (hi : i < xs.length) : 0 ≤ (mendX xs r d).getD i 0 ∧ (mendX xs r d).getD i 0 ≤ 30000 :=
  mendK_at h hd hd2 hr (by omega) hi
theorem mendX_length (xs : List Int) (r : Nat) (d : Int) : (mendX xs r d).length = xs.length := mendK_length _ _ _ _

set_option maxHeartbeats 2000000 in
theorem specMend_any (A : Option Addr) (c : Nat) (xs : List Int) (n d : Int) (B : Nat) (w : World) (hr : Rd w B A c xs) (hB : B ≤ w.heap.size) (hn : xs.length ≤ 1048576) :
    Calls Try.prog 35 #[.slice A xs.length c, .int .i64 n, .int .i64 d] w (Lists w (mendR xs n d) (mendB xs n d)) := by
  cases h : endsB xs n
  · rw [show mendR xs n d = [] by simp [mendR, mendB, h], show mendB xs n d = false by simp [mendB, h]]
    have H := Lib.hid h
    clear h
    go_enter Try.func35, Try.ntmps35
    go_wp2_with fail
    refine (weEnds_any _ _ _ _ _ _ hr hn).mono ?_
    rintro e w' ⟨rfl, rfl⟩
    rw [H.out]
    go_wp2_with fail
    go_ret2
    exact ⟨_, rfl, OwnI.nil _ _, Below.refl _ _⟩
  · cases h1 : inB d 0 1000
    · rw [show mendR xs n d = [] by simp [mendR, mendB, h1], show mendB xs n d = false by simp [mendB, h1]]
      have H := Lib.hid h
      have H1 := Lib.hid h1
      clear h h1
      go_enter Try.func35, Try.ntmps35
      go_wp2_with fail
      refine (weEnds_any _ _ _ _ _ _ hr hn).mono ?_
      rintro e w' ⟨rfl, rfl⟩
      rw [H.out]
      go_wp2_with fail
      refine (weClimbs_any _ _).mono ?_
      rintro e w' ⟨rfl, rfl⟩
      rw [H1.out]
      go_wp2_with fail
      go_ret2
      exact ⟨_, rfl, OwnI.nil _ _, Below.refl _ _⟩
    · have hp := endsB_le h
      have hd := inB_le h1
      obtain ⟨r, rfl⟩ : ∃ r : Nat, n = (r : Int) := ⟨n.toNat, by omega⟩
      have hv : mendB xs (r : Int) d = true := by simp [mendB, h, h1]
      have H := Lib.hid h
      have H1 := Lib.hid h1
      have HBe := Lib.hid hp.1
      have hp2 : 1 ≤ xs.length ∧ xs.length ≤ 20 ∧ 1 ≤ r ∧ r ≤ xs.length := by omega
      rw [show mendR xs (r : Int) d = mendX xs r d by simp [mendR, hv], hv]
      clear h h1 hp hv
      go_enter Try.func35, Try.ntmps35
      go_wp2_with fail
      refine (weEnds_any _ _ _ _ _ _ hr hn).mono ?_
      rintro e w' ⟨rfl, rfl⟩
      rw [H.out]
      go_wp2_with fail
      refine (weClimbs_any _ _).mono ?_
      rintro e w' ⟨rfl, rfl⟩
      rw [H1.out]
      go_wp2_with fail
      refine (weMend_any _ _ _ _ _ _ _ hr hB hp2.2.1 hp2.2.2.1 hp2.2.2.2 HBe.out hd.1 hd.2).mono ?_
      rintro e w1 ⟨v, rfl, hown, hb⟩
      obtain ⟨Z, dd, hvv, hrd⟩ := hown.form
      subst hvv
      go_wp2_with fail
      go_ret2
      exact ⟨_, rfl, hown, hb⟩

set_option maxHeartbeats 2000000 in
theorem specMSum_any (A : Option Addr) (c : Nat) (xs : List Int) (n d : Int) (B : Nat) (w : World) (hr : Rd w B A c xs) (hB : B ≤ w.heap.size) (hn : xs.length ≤ 1048576) :
    Calls Try.prog 33 #[.slice A xs.length c, .int .i64 n, .int .i64 d] w (Plain (.tuple #[.int .i64 (orI (mendB xs n d) (mendSumX xs n d)), .bool (mendB xs n d)]) w) := by
  cases h : endsB xs n
  · rw [show mendB xs n d = false by simp [mendB, h], orI_no]
    have H := Lib.hid h
    clear h
    go_enter Try.func33, Try.ntmps33
    go_wp2_with fail
    refine (weEnds_any _ _ _ _ _ _ hr hn).mono ?_
    rintro e w' ⟨rfl, rfl⟩
    rw [H.out]
    go_wp2_with fail
    go_ret2
    exact ⟨rfl, Below.refl _ _⟩
  · cases h1 : inB d 0 1000
    · rw [show mendB xs n d = false by simp [mendB, h1], orI_no]
      have H := Lib.hid h
      have H1 := Lib.hid h1
      clear h h1
      go_enter Try.func33, Try.ntmps33
      go_wp2_with fail
      refine (weEnds_any _ _ _ _ _ _ hr hn).mono ?_
      rintro e w' ⟨rfl, rfl⟩
      rw [H.out]
      go_wp2_with fail
      refine (weClimbs_any _ _).mono ?_
      rintro e w' ⟨rfl, rfl⟩
      rw [H1.out]
      go_wp2_with fail
      go_ret2
      exact ⟨rfl, Below.refl _ _⟩
    · have hp := endsB_le h
      have hd := inB_le h1
      obtain ⟨r, rfl⟩ : ∃ r : Nat, n = (r : Int) := ⟨n.toNat, by omega⟩
      have hv : mendB xs (r : Int) d = true := by simp [mendB, h, h1]
      have H := Lib.hid h
      have H1 := Lib.hid h1
      have HBe := Lib.hid hp.1
      have hp2 : 1 ≤ xs.length ∧ xs.length ≤ 20 ∧ 1 ≤ r ∧ r ≤ xs.length := by omega
      rw [hv, orI_yes]
      clear h h1 hp hv
      go_enter Try.func33, Try.ntmps33
      go_wp2_with fail
      refine (weEnds_any _ _ _ _ _ _ hr hn).mono ?_
      rintro e w' ⟨rfl, rfl⟩
      rw [H.out]
      go_wp2_with fail
      refine (weClimbs_any _ _).mono ?_
      rintro e w' ⟨rfl, rfl⟩
      rw [H1.out]
      go_wp2_with fail
      refine (weMend_any _ _ _ _ _ _ _ hr hB hp2.2.1 hp2.2.2.1 hp2.2.2.2 HBe.out hd.1 hd.2).mono ?_
      rintro e w1 ⟨v, rfl, hown, hb⟩
      obtain ⟨Z, dd, hvv, hrd⟩ := hown.form
      subst hvv
      have hml := mendX_length xs r d
      rw [hml]
      have HD := Lib.hid (diffK_bd (ys := mendX xs r d) (xs := xs) (fun i hi => mendX_at HBe.out hd.1 hd.2 hp2.2.2.1 (by omega) hp2.2.1 i hi) (fun i hi => bears_at HBe.out i hi))
      have HMA := Lib.hid (fun i hi => mendX_at (xs := xs) (r := r) (d := d) HBe.out hd.1 hd.2 hp2.2.2.1 (by omega) hp2.2.1 i hi)
      have HBA := Lib.hid (fun i hi => bears_at HBe.out i hi)
      have HSX := Lib.hid (show mendSumX xs (r : Int) d = diffK (mendX xs r d) xs xs.length by simp [mendSumX])
      have HRD := Lib.hid hrd
      have HR1 := Lib.hid (hr.below hb hB)
      have HML := Lib.hid hml
      clear hml hrd hown
      generalize mendX xs r d = ys at *
      go_wp2_with fail
      go_loop [8, 25] (fun s i => ∃ k : Nat, k ≤ xs.length ∧ i = .int .i64 k ∧ s = .int .i64 (diffK ys xs k)) (fun _ i => (20 - intOf i).toNat)
      case atStart => exact ⟨0, by omega, rfl, rfl⟩
      case round =>
        obtain ⟨k, hk, rfl, rfl⟩ := hrel
        by_cases hlt : k < xs.length
        · obtain ⟨b1, o1, rfl, hb1, hc1⟩ := HRD.out.at_ (k := k) (by rw [HML.out]; exact hlt)
          obtain ⟨b2, o2, rfl, hb2, hc2⟩ := HR1.out.at_ (k := k) hlt
          have d1 := HD.out k hk
          have d2 := HD.out (k + 1) hlt
          have d3 := HMA.out k hlt
          have d4 := HBA.out k hlt
          have HK := Lib.hid (show diffK ys xs (k + 1) = diffK ys xs k + (ys.getD k 0 - xs.getD k 0) from rfl)
          rw [HK.out] at d2
          generalize diffK ys xs k = u at *
          generalize ys.getD k 0 = y at *
          generalize xs.getD k 0 = x at *
          go_wp2
          go_round
          case rel => exact ⟨k + 1, by omega, by go_num, by rw [HK.out]⟩
          case measure => simp [intOf]; omega
        · obtain rfl : k = xs.length := by omega
          go_wp2_with fail
          go_ret2
          exact ⟨by rw [HSX.out]; rfl, hb⟩

set_option maxHeartbeats 2000000 in
theorem impMSum_any (A : Option Addr) (c : Nat) (xs : List Int) (n d : Int) (B : Nat) (w : World) (hr : Rd w B A c xs) (hB : B ≤ w.heap.size) (hn : xs.length ≤ 1048576) :
    Calls Try.prog 34 #[.slice A xs.length c, .int .i64 n, .int .i64 d] w (Plain (.tuple #[.int .i64 (orI (mendB xs n d) (mendSumX xs n d)), .bool (mendB xs n d)]) w) := by
  cases hv : mendB xs n d
  · rw [orI_no]
    have H := Lib.hid hv
    clear hv
    go_enter Try.func34, Try.ntmps34
    go_wp2_with fail
    refine (impMend_any _ _ _ _ _ _ _ hr hB hn).mono ?_
    rintro e w1 ⟨v, rfl, hown, hb⟩
    obtain ⟨Z, dd, hvv, hrd⟩ := hown.form
    subst hvv
    rw [H.out]
    go_wp2_with fail
    go_ret2
    exact ⟨rfl, hb⟩
  · have h := hv
    simp only [mendB, Bool.and_eq_true] at h
    have hp := endsB_le h.1
    have hd := inB_le h.2
    obtain ⟨r, rfl⟩ : ∃ r : Nat, n = (r : Int) := ⟨n.toNat, by omega⟩
    have H := Lib.hid hv
    have HBe := Lib.hid hp.1
    have hp2 : 1 ≤ xs.length ∧ xs.length ≤ 20 ∧ 1 ≤ r ∧ r ≤ xs.length := by omega
    have HMR := Lib.hid (show mendR xs (r : Int) d = mendX xs r d by simp [mendR, hv])
    rw [orI_yes]
    clear h hp hv
    go_enter Try.func34, Try.ntmps34
    go_wp2_with fail
    refine (impMend_any _ _ _ _ _ _ _ hr hB hn).mono ?_
    rintro e w1 ⟨v, rfl, hown, hb⟩
    rw [HMR.out] at hown
    obtain ⟨Z, dd, hvv, hrd⟩ := hown.form
    subst hvv
    rw [H.out]
    have hml := mendX_length xs r d
    rw [hml]
    have HD := Lib.hid (diffK_bd (ys := mendX xs r d) (xs := xs) (fun i hi => mendX_at HBe.out hd.1 hd.2 hp2.2.2.1 (by omega) hp2.2.1 i hi) (fun i hi => bears_at HBe.out i hi))
    have HMA := Lib.hid (fun i hi => mendX_at (xs := xs) (r := r) (d := d) HBe.out hd.1 hd.2 hp2.2.2.1 (by omega) hp2.2.1 i hi)
    have HBA := Lib.hid (fun i hi => bears_at HBe.out i hi)
    have HSX := Lib.hid (show mendSumX xs (r : Int) d = diffK (mendX xs r d) xs xs.length by simp [mendSumX])
    have HRD := Lib.hid hrd
    have HR1 := Lib.hid (hr.below hb hB)
    have HML := Lib.hid hml
    clear hml hrd hown
    generalize mendX xs r d = ys at *
    go_wp2_with fail
    go_loop [10, 24] (fun s i => ∃ k : Nat, k ≤ xs.length ∧ i = .int .i64 k ∧ s = .int .i64 (diffK ys xs k)) (fun _ i => (20 - intOf i).toNat)
    case atStart => exact ⟨0, by omega, rfl, rfl⟩
    case round =>
      obtain ⟨k, hk, rfl, rfl⟩ := hrel
      by_cases hlt : k < xs.length
      · obtain ⟨b1, o1, rfl, hb1, hc1⟩ := HRD.out.at_ (k := k) (by rw [HML.out]; exact hlt)
        obtain ⟨b2, o2, rfl, hb2, hc2⟩ := HR1.out.at_ (k := k) hlt
        have d1 := HD.out k hk
        have d2 := HD.out (k + 1) hlt
        have d3 := HMA.out k hlt
        have d4 := HBA.out k hlt
        have HK := Lib.hid (show diffK ys xs (k + 1) = diffK ys xs k + (ys.getD k 0 - xs.getD k 0) from rfl)
        rw [HK.out] at d2
        generalize diffK ys xs k = u at *
        generalize ys.getD k 0 = y at *
        generalize xs.getD k 0 = x at *
        go_wp2
        go_round
        case rel => exact ⟨k + 1, by omega, by go_num, by rw [HK.out]⟩
        case measure => simp [intOf]; omega
      · obtain rfl : k = xs.length := by omega
        go_wp2_with fail
        go_ret2
        exact ⟨by rw [HSX.out]; rfl, hb⟩


end Go.Proofs.Ytkfacfhneooaiaa
