/- Contracts: carpets: stripes and the colour at a place; both sides. -/
import Derived.Test.YtkglkknccbjefaaCaB
import Derived.Lib.OthersKept
import Derived.Laws.RangeAny
import Derived.Laws.DeepStrings4
import Derived.Laws.Runes
import Derived.WalkSpells
namespace Go.Proofs.Ytkglkknccbjefaa
open Go.RowKit

set_option maxRecDepth 100000
/-- the first k bytes are letters a to z -/
def okZ (s : ByteArray) : Nat → Bool
  | 0 => true
  | k + 1 => okZ s k && (decide (97 ≤ (s.data.getD k 0).toNat) && decide ((s.data.getD k 0).toNat ≤ 122))
theorem okZ_yes {s : ByteArray} {k : Nat} (h : okZ s k = true) (h1 : 97 ≤ (s.data.getD k 0).toNat) (h2 : (s.data.getD k 0).toNat ≤ 122) : okZ s (k + 1) = true := by
  simp only [okZ, h, decide_eq_true h1, decide_eq_true h2]; rfl
theorem okZ_no {s : ByteArray} {k : Nat} (h : ¬ (97 ≤ (s.data.getD k 0).toNat ∧ (s.data.getD k 0).toNat ≤ 122)) : ∀ {n : Nat}, k < n → okZ s n = false
  | 0, hk => absurd hk (by omega)
  | n + 1, hk => by
    by_cases e : k = n
    · subst e
      simp only [okZ, Bool.and_eq_false_iff, decide_eq_false_iff_not]
      omega
    · simp [okZ, okZ_no h (show k < n by omega)]
theorem okZ_at {s : ByteArray} : ∀ {n : Nat}, okZ s n = true → ∀ k, k < n → 97 ≤ (s.data.getD k 0).toNat ∧ (s.data.getD k 0).toNat ≤ 122
  | 0, _, k, hk => absurd hk (by omega)
  | n + 1, h, k, hk => by
    simp only [okZ, Bool.and_eq_true, decide_eq_true_eq] at h
    by_cases e : k = n
    · subst e; exact h.2
    · exact okZ_at h.1 k (by omega)
/-- a striped carpet -/
def stripeB (s : ByteArray) : Bool := inB s.size 1 10 && okZ s s.size
theorem stripeB_le {s : ByteArray} (h : stripeB s = true) : (1 ≤ s.size ∧ s.size ≤ 10) ∧ ∀ k, k < s.size → 97 ≤ (s.data.getD k 0).toNat ∧ (s.data.getD k 0).toNat ≤ 122 := by
  simp only [stripeB, Bool.and_eq_true] at h
  have := inB_le h.1
  exact ⟨by omega, okZ_at h.2⟩
theorem byte_at {s : ByteArray} {k : Nat} (h : k < s.size) : s.data.getD k 0 = s[k]'h := by simp [ByteArray.getElem_eq_getElem_data, Array.getD, h]
def wideB (s : ByteArray) (wd : Int) : Bool := stripeB s && inB wd 1 100

set_option maxHeartbeats 1000000 in
theorem cpStripes_any (s : ByteArray) (w : World) :
    Calls Try.prog 18 #[.string s] w fun e w' => e = .returned (.bool (stripeB s)) ∧ w = w' := by
  cases g0 : inB s.size 1 10
  · rw [show stripeB s = false by simp [stripeB, g0]]
    have H0 := Lib.hid g0
    clear g0
    go_enter Try.func18, Try.ntmps18
    go_wp2_with fail
    refine (l1In_any _ _ _ _).mono ?_
    rintro e w' ⟨rfl, rfl⟩
    rw [H0.out]
    go_wp2_with fail
    go_ret
    exact ⟨rfl, rfl⟩
  · have hl := inB_le g0
    have HV := Lib.hid (show stripeB s = okZ s s.size by simp [stripeB, g0])
    have H0 := Lib.hid g0
    clear g0
    go_enter Try.func18, Try.ntmps18
    go_wp2_with fail
    refine (l1In_any _ _ _ _).mono ?_
    rintro e w' ⟨rfl, rfl⟩
    rw [H0.out]
    go_wp2_with fail
    go_loop [3] (fun i => ∃ k : Nat, k ≤ s.size ∧ i = .int .i64 k ∧ Hid (okZ s k = true)) (fun i => s.size - (intOf i).toNat)
    case atStart => exact ⟨0, Nat.zero_le _, rfl, Lib.hid rfl⟩
    case round =>
      obtain ⟨k, hk, rfl, HK⟩ := hrel
      by_cases hlt : k < s.size
      · have i0 : (0 : Int) ≤ (k : Int) := by omega
        have i1 : (k : Int) < (s.size : Int) := by omega
        have HY := Lib.hid (fun a b => okZ_yes (s := s) (k := k) HK.out a b)
        have HN := Lib.hid (fun a => okZ_no (s := s) (k := k) a hlt)
        rw [byte_at hlt] at HY HN
        by_cases h1 : (s[k]'hlt).toNat < 97
        · have h1' : ((s[k]'hlt).toNat : Int) < 97 := by omega
          have HF := Lib.hid (HN.out (by omega))
          go_wp2_with fail
          go_ret
          exact ⟨ret_bool (by rw [HV.out, HF.out]), rfl⟩
        · have h1' : ¬ ((s[k]'hlt).toNat : Int) < 97 := by omega
          by_cases h2 : 122 < (s[k]'hlt).toNat
          · have h2' : (122 : Int) < ((s[k]'hlt).toNat : Int) := by omega
            have HF := Lib.hid (HN.out (by omega))
            go_wp2_with fail
            go_ret
            exact ⟨ret_bool (by rw [HV.out, HF.out]), rfl⟩
          · have h2' : ¬ (122 : Int) < ((s[k]'hlt).toNat : Int) := by omega
            have HT := Lib.hid (HY.out (by omega) (by omega))
            go_wp2_with fail
            go_round
            case rel => exact ⟨k + 1, by omega, by go_num, HT⟩
            case measure => simp [intOf]; omega
      · obtain rfl : k = s.size := by omega
        go_wp2_with fail
        go_ret
        exact ⟨ret_bool (by rw [HV.out, HK.out]), rfl⟩

theorem specIsStriped_any (s : ByteArray) (w : World) :
    Calls Try.prog 7 #[.string s] w fun e w' => e = .returned (.bool (stripeB s)) ∧ w = w' := by
  go_enter Try.func7, Try.ntmps7
  go_wp2_with fail
  refine (cpStripes_any _ _).mono ?_
  rintro e w' ⟨rfl, rfl⟩
  go_wp2_with fail
  go_ret
  exact ⟨rfl, rfl⟩

set_option maxHeartbeats 1000000 in
theorem impStriped_any (s : ByteArray) (w : World) :
    Calls Try.prog 8 #[.string s] w fun e w' => e = .returned (.bool (stripeB s)) ∧ Below w.heap.size w w' := by
  cases g0 : inB s.size 1 10
  · rw [show stripeB s = false by simp [stripeB, g0]]
    have H0 := Lib.hid g0
    clear g0
    go_enter Try.func8, Try.ntmps8
    go_wp2_with fail
    refine (isWithin_any _ _ _ _).mono ?_
    rintro e w' ⟨rfl, rfl⟩
    rw [H0.out]
    go_wp2_with fail
    go_ret
    exact ⟨rfl, Below.refl _ _⟩
  · have hl := inB_le g0
    have HV := Lib.hid (show stripeB s = okZ s s.size by simp [stripeB, g0])
    have H0 := Lib.hid g0
    clear g0
    go_enter Try.func8, Try.ntmps8
    go_wp2_with fail
    refine (isWithin_any _ _ _ _).mono ?_
    rintro e w' ⟨rfl, rfl⟩
    rw [H0.out]
    go_wp2_with fail
    go_loopw [4] (fun _ wr => ∃ k : Nat, k ≤ s.size ∧ Hid (okZ s k = true) ∧ wr.heap[w.heap.size]? = some (.stringIter s k) ∧ Below w.heap.size w wr) (fun _ wr => s.size - wr.iterPos w.heap.size)
    case atStart => exact ⟨0, Nat.zero_le _, Lib.hid rfl, heap_alloc_new _ _, below_alloc _ _⟩
    case round =>
      obtain ⟨k, hk, HK, hit, hbw⟩ := hrel
      by_cases hlt : k < s.size
      · have HY := Lib.hid (fun a b => okZ_yes (s := s) (k := k) HK.out a b)
        have HN := Lib.hid (fun a => okZ_no (s := s) (k := k) a hlt)
        rw [byte_at hlt] at HY HN
        have hnx := fun ty => Go.Lib.run_next_any_at (P := Try.prog) wr w.heap.size s k ty hit hlt
        have hA := decode_ascii s k hlt
        have hH := decode_high s k hlt
        have hL := decode_le s k
        have hpos : wr.iterPos w.heap.size = k := by simp [World.iterPos, hit]
        have hit' := fun q => Go.Lib.iterAt_heap wr w.heap.size s k q hit
        have hbw' := fun q => Go.Lib.below_iterAt hbw (Nat.le_refl _) s q
        by_cases hc : 97 ≤ (s[k]'hlt).toNat ∧ (s[k]'hlt).toNat ≤ 122
        · have HT := Lib.hid (HY.out hc.1 hc.2)
          rw [hA (by omega)] at hnx
          have hit2 := hit' (k + 1)
          have hbw2 := hbw' (k + 1)
          simp only at hnx
          have hpos2 : (wr.iterAt w.heap.size s (k + 1)).iterPos w.heap.size = k + 1 := by simp [World.iterPos, hit2]
          generalize wr.iterAt w.heap.size s (k + 1) = W2 at *
          have h1 : ¬ (s[k]'hlt).toNat < 97 := by omega
          have h2 : ¬ 122 < (s[k]'hlt).toNat := by omega
          have h1' : ¬ ((s[k]'hlt).toNat : Int) < 97 := by omega
          have h2' : ¬ (122 : Int) < ((s[k]'hlt).toNat : Int) := by omega
          clear hA hH hL hc hit' hbw'
          generalize (s[k]'hlt).toNat = r at *
          have HP := Lib.hid hpos
          have HP2 := Lib.hid hpos2
          clear hpos hpos2
          go_wp2_with fail
          go_roundw
          case rel => exact ⟨k + 1, by omega, HT, hit2, hbw2⟩
          case measure => rw [HP.out, HP2.out]; omega
        · have HF := Lib.hid (HN.out hc)
          have hr : (Utf8.decode s k).1 < 97 ∨ 122 < (Utf8.decode s k).1 := by
            by_cases h8 : (s[k]'hlt).toNat < 128
            · rw [hA h8]; show (s[k]'hlt).toNat < 97 ∨ 122 < (s[k]'hlt).toNat; omega
            · have := (hH (by omega)).1; omega
          have hbw2 := hbw' (k + (Utf8.decode s k).2)
          generalize wr.iterAt w.heap.size s (k + (Utf8.decode s k).2) = W2 at *
          generalize (Utf8.decode s k).1 = r at *
          clear hA hH hc hit' hbw' hpos
          by_cases h1 : r < 97
          · have h1' : (r : Int) < 97 := by omega
            go_wp2_with fail
            go_ret
            exact ⟨ret_bool (by rw [HV.out, HF.out]), hbw2⟩
          · have h2 : 122 < r := by omega
            have h1' : ¬ (r : Int) < 97 := by omega
            have h2' : (122 : Int) < (r : Int) := by omega
            go_wp2_with fail
            go_ret
            exact ⟨ret_bool (by rw [HV.out, HF.out]), hbw2⟩
      · obtain rfl : k = s.size := by omega
        have hnx := fun ty => Go.Lib.run_next_end_at (P := Try.prog) wr w.heap.size s s.size ty hit (by omega)
        go_wp2_with fail
        go_ret
        exact ⟨ret_bool (by rw [HV.out, HK.out]), hbw⟩

set_option maxHeartbeats 400000 in
theorem cpWide_any (s : ByteArray) (wd : Int) (w : World) :
    Calls Try.prog 20 #[.string s, .int .i64 wd] w fun e w' => e = .returned (.bool (wideB s wd)) ∧ w = w' := by
  cases g0 : stripeB s
  · rw [show wideB s wd = false by simp [wideB, g0]]
    have H0 := Lib.hid g0
    clear g0
    go_enter Try.func20, Try.ntmps20
    go_wp2_with fail
    refine (cpStripes_any _ _).mono ?_
    rintro e w' ⟨rfl, rfl⟩
    rw [H0.out]
    go_wp2_with fail
    go_ret
    exact ⟨rfl, rfl⟩
  · have _hk := True.intro
    rw [show wideB s wd = inB wd 1 100 by simp [wideB, g0]]
    have H0 := Lib.hid g0
    clear g0
    go_enter Try.func20, Try.ntmps20
    go_wp2_with fail
    refine (cpStripes_any _ _).mono ?_
    rintro e w' ⟨rfl, rfl⟩
    rw [H0.out]
    go_wp2_with fail
    refine (cpNeed_any _ _).mono ?_
    rintro e w' ⟨rfl, rfl⟩
    go_wp2_with fail
    go_ret
    exact ⟨rfl, rfl⟩

set_option maxHeartbeats 400000 in
theorem isWide_any (m : Int) (w : World) :
    Calls Try.prog 22 #[.int .i64 m] w fun e w' => e = .returned (.bool (inB m 1 100)) ∧ w = w' := by
  skip
  go_enter Try.func22, Try.ntmps22
  go_wp2_with fail
  refine (isWithin_any _ _ _ _).mono ?_
  rintro e w' ⟨rfl, rfl⟩
  go_wp2_with fail
  go_ret
  exact ⟨rfl, rfl⟩

/-- which stripe stands at a place -/
def colJ (s : ByteArray) (wd place : Int) : Nat := ((place / wd) % (s.size : Int)).toNat
def colB (s : ByteArray) (wd place : Int) : UInt8 := s.data.getD (colJ s wd place) 0
theorem colJ_facts (s : ByteArray) {wd place : Int} (hs : 1 ≤ s.size) (hw : 1 ≤ wd) (hp : 0 ≤ place) : ∃ q : Int, place.tdiv wd = q ∧ 0 ≤ q ∧ q ≤ place ∧ q.tmod (s.size : Int) = (colJ s wd place : Int) ∧ colJ s wd place < s.size := by
  have q0 : 0 ≤ place / wd := Int.ediv_nonneg (by omega) (by omega)
  have q1 : place / wd ≤ place := Int.ediv_le_self _ (by omega)
  have r0 : 0 ≤ place / wd % (s.size : Int) := Int.emod_nonneg _ (by omega)
  have r1 : place / wd % (s.size : Int) < s.size := Int.emod_lt_of_pos _ (by omega)
  refine ⟨place / wd, Int.tdiv_eq_ediv_of_nonneg (by omega), q0, q1, ?_, ?_⟩
  · rw [Int.tmod_eq_emod_of_nonneg q0, colJ]; omega
  · unfold colJ; omega
theorem extract_one {s : ByteArray} {k : Nat} (h : k < s.size) : s.extract k (k + 1) = ⟨#[s.data.getD k 0]⟩ := by
  rw [byte_at h]
  apply ByteArray.ext
  simp only [ByteArray.data_extract]
  apply Array.ext
  · simp; have : k < s.data.size := h; omega
  · intro i h1 h2
    simp at h2
    subst h2
    simp [ByteArray.getElem_eq_getElem_data]
/-- a letter's text -/
theorem enc_az (b : UInt8) (h1 : 97 ≤ b.toNat) (h2 : b.toNat ≤ 122) : Utf8.encode (b.toNat : Int) = ⟨#[b]⟩ := by
  have h : ∀ n : Fin 123, 97 ≤ n.1 → Utf8.encode (n.1 : Int) = ⟨#[UInt8.ofNat n.1]⟩ := by decide +kernel
  have := h ⟨b.toNat, by omega⟩ h1
  simpa using this

set_option maxHeartbeats 1000000 in
theorem colourAt_any (s : ByteArray) (wd place : Int) (w : World) (hs : 1 ≤ s.size) (hs2 : s.size ≤ 10) (hw : 1 ≤ wd) (hp : 0 ≤ place) (hp2 : place ≤ 1000000) :
    Calls Try.prog 23 #[.string s, .int .i64 wd, .int .i64 place] w fun e w' => e = .returned (.int .u8 ((colB s wd place).toNat : Int)) ∧ w = w' := by
  obtain ⟨q, ht, q0, q1, hm, hj⟩ := colJ_facts s hs hw hp
  have HB := Lib.hid (show colB s wd place = s[colJ s wd place]'hj from byte_at hj)
  rw [HB.out]
  clear HB
  have hz : ¬ wd = 0 := by omega
  have hz2 : ¬ (s.size : Int) = 0 := by omega
  have hz3 : ¬ s.size = 0 := by omega
  generalize colJ s wd place = j at *
  have i0 : (0 : Int) ≤ (j : Int) := by omega
  have i1 : (j : Int) < (s.size : Int) := by omega
  have hwj : IntKind.i64.wrap (j : Int) = j := IntWalk.i64_in _ (by omega)
  go_enter Try.func23, Try.ntmps23
  go_wp2_with fail
  go_ret
  exact ⟨rfl, rfl⟩

def caB (s : ByteArray) (wd place : Int) : Bool := stripeB s && (inB wd 1 100 && inB place 0 2000)
def caS (s : ByteArray) (wd place : Int) : ByteArray := if caB s wd place then ⟨#[colB s wd place]⟩ else ⟨#[]⟩
theorem caS_no {s : ByteArray} {wd place : Int} (h : caB s wd place = false) : caS s wd place = ⟨#[]⟩ := by simp [caS, h]
theorem caS_yes {s : ByteArray} {wd place : Int} (h : caB s wd place = true) : caS s wd place = ⟨#[colB s wd place]⟩ := by simp [caS, h]

theorem wide_no {s : ByteArray} {wd : Int} (h : wideB s wd = false) (place : Int) : caB s wd place = false := by
  simp only [wideB] at h
  simp only [caB, ← Bool.and_assoc, h, Bool.false_and]

set_option maxHeartbeats 1000000 in
theorem specColourAt_any (s : ByteArray) (wd place : Int) (w : World) :
    Calls Try.prog 9 #[.string s, .int .i64 wd, .int .i64 place] w fun e w' => e = .returned (.tuple #[.string (caS s wd place), .bool (caB s wd place)]) ∧ Below w.heap.size w w' := by
  cases g0 : wideB s wd
  · have hV : caB s wd place = false := wide_no g0 place
    rw [caS_no hV, hV]
    clear hV
    have H0 := Lib.hid g0
    clear g0
    go_enter Try.func9, Try.ntmps9
    go_wp2_with fail
    refine (cpWide_any _ _ _).mono ?_
    rintro e w' ⟨rfl, rfl⟩
    rw [H0.out]
    go_wp2_with fail
    go_ret2
    exact ⟨rfl, Below.refl _ _⟩
  · have _h := True.intro
    cases g1 : inB place 0 2000
    · have hV : caB s wd place = false := by simp [caB, g1]
      rw [caS_no hV, hV]
      clear hV
      have H0 := Lib.hid g0
      clear g0
      have H1 := Lib.hid g1
      clear g1
      go_enter Try.func9, Try.ntmps9
      go_wp2_with fail
      refine (cpWide_any _ _ _).mono ?_
      rintro e w' ⟨rfl, rfl⟩
      rw [H0.out]
      go_wp2_with fail
      refine (l1In_any _ _ _ _).mono ?_
      rintro e w' ⟨rfl, rfl⟩
      rw [H1.out]
      go_wp2_with fail
      go_ret2
      exact ⟨rfl, Below.refl _ _⟩
    · have _h := True.intro
      have hST : stripeB s = true ∧ inB wd 1 100 = true := by simpa [wideB] using g0
      have hV : caB s wd place = true := by simp [caB, hST.1, hST.2, g1]
      have hs := (stripeB_le hST.1).1
      have hw := inB_le hST.2
      have hp := inB_le g1
      obtain ⟨q, ht, q0, q1, hm, hj⟩ := colJ_facts s hs.1 hw.1 hp.1
      have HX := Lib.hid (show s.extract (colJ s wd place) (colJ s wd place + 1) = ⟨#[colB s wd place]⟩ from extract_one hj)
      rw [caS_yes hV, hV, ← HX.out]
      clear HX hV hST
      have hz : ¬ wd = 0 := by omega
      have hz2 : ¬ (s.size : Int) = 0 := by omega
      have hz3 : ¬ s.size = 0 := by omega
      generalize colJ s wd place = j at *
      have i0 : (0 : Int) ≤ (j : Int) := by omega
      have i1 : (j : Int) < (s.size : Int) := by omega
      have i2 : j + 1 ≤ s.size := by omega
      have hwj : IntKind.i64.wrap (j : Int) = j := IntWalk.i64_in _ (by omega)
      have hwj2 : IntKind.i64.wrap ((j : Int) + 1) = ((j + 1 : Nat) : Int) := IntWalk.i64_in _ (by omega)
      have H0 := Lib.hid g0
      have H1 := Lib.hid g1
      clear g0
      clear g1
      go_enter Try.func9, Try.ntmps9
      go_wp2_with fail
      refine (cpWide_any _ _ _).mono ?_
      rintro e w' ⟨rfl, rfl⟩
      rw [H0.out]
      go_wp2_with fail
      refine (l1In_any _ _ _ _).mono ?_
      rintro e w' ⟨rfl, rfl⟩
      rw [H1.out]
      go_wp2_with fail
      go_ret2
      exact ⟨rfl, Below.refl _ _⟩

set_option maxHeartbeats 1000000 in
theorem implColourAt_any (s : ByteArray) (wd place : Int) (w : World) :
    Calls Try.prog 10 #[.string s, .int .i64 wd, .int .i64 place] w fun e w' => e = .returned (.tuple #[.string (caS s wd place), .bool (caB s wd place)]) ∧ Below w.heap.size w w' := by
  cases g0 : stripeB s
  · have hV : caB s wd place = false := by simp [caB, g0]
    rw [caS_no hV, hV]
    clear hV
    have H0 := Lib.hid g0
    clear g0
    go_enter Try.func10, Try.ntmps10
    go_wp2_with fail
    refine (impStriped_any _ _).mono ?_
    rintro e v0 ⟨rfl, hb0⟩
    have BT0 := hb0
    rw [H0.out]
    go_wp2_with fail
    go_ret2
    exact ⟨rfl, BT0⟩
  · have _h := True.intro
    cases g1 : inB wd 1 100
    · have hV : caB s wd place = false := by simp [caB, g0, g1]
      rw [caS_no hV, hV]
      clear hV
      have H0 := Lib.hid g0
      clear g0
      have H1 := Lib.hid g1
      clear g1
      go_enter Try.func10, Try.ntmps10
      go_wp2_with fail
      refine (impStriped_any _ _).mono ?_
      rintro e v0 ⟨rfl, hb0⟩
      have BT0 := hb0
      rw [H0.out]
      go_wp2_with fail
      refine (isWide_any _ _).mono ?_
      rintro e w' ⟨rfl, rfl⟩
      rw [H1.out]
      go_wp2_with fail
      go_ret2
      exact ⟨rfl, BT0⟩
    · have _h := True.intro
      cases g2 : inB place 0 2000
      · have hV : caB s wd place = false := by simp [caB, g0, g1, g2]
        rw [caS_no hV, hV]
        clear hV
        have H0 := Lib.hid g0
        clear g0
        have H1 := Lib.hid g1
        clear g1
        have H2 := Lib.hid g2
        clear g2
        go_enter Try.func10, Try.ntmps10
        go_wp2_with fail
        refine (impStriped_any _ _).mono ?_
        rintro e v0 ⟨rfl, hb0⟩
        have BT0 := hb0
        rw [H0.out]
        go_wp2_with fail
        refine (isWide_any _ _).mono ?_
        rintro e w' ⟨rfl, rfl⟩
        rw [H1.out]
        go_wp2_with fail
        refine (isWithin_any _ _ _ _).mono ?_
        rintro e w' ⟨rfl, rfl⟩
        rw [H2.out]
        go_wp2_with fail
        go_ret2
        exact ⟨rfl, BT0⟩
      · have _h := True.intro
        have hV : caB s wd place = true := by simp [caB, g0, g1, g2]
        have hs := stripeB_le g0
        have hw := inB_le g1
        have hp := inB_le g2
        obtain ⟨_, _, _, _, _, hj⟩ := colJ_facts s hs.1.1 hw.1 hp.1
        have hc := hs.2 _ hj
        have HE := Lib.hid (enc_az (colB s wd place) hc.1 hc.2)
        have HC := Lib.hid (fun u => colourAt_any s wd place u hs.1.1 hs.1.2 hw.1 hp.1 (by omega))
        rw [caS_yes hV, hV, ← HE.out]
        clear HE hV hj hc hs
        generalize colB s wd place = b at *
        have H0 := Lib.hid g0
        have H1 := Lib.hid g1
        have H2 := Lib.hid g2
        clear g0
        clear g1
        clear g2
        go_enter Try.func10, Try.ntmps10
        go_wp2_with fail
        refine (impStriped_any _ _).mono ?_
        rintro e v0 ⟨rfl, hb0⟩
        have BT0 := hb0
        rw [H0.out]
        go_wp2_with fail
        refine (isWide_any _ _).mono ?_
        rintro e w' ⟨rfl, rfl⟩
        rw [H1.out]
        go_wp2_with fail
        refine (isWithin_any _ _ _ _).mono ?_
        rintro e w' ⟨rfl, rfl⟩
        rw [H2.out]
        go_wp2_with fail
        refine (HC.out _).mono ?_
        rintro e w' ⟨rfl, rfl⟩
        go_wp2_with fail
        go_ret2
        exact ⟨rfl, BT0⟩


end Go.Proofs.Ytkglkknccbjefaa
