/- Contracts: carpets: steps that look alike; both sides. -/
import Derived.Test.YtkglkknccbjefaaCaU
import Derived.Deep.RegionWith
import Derived.BigQuiet
import Derived.Deep.RegionLaw
import Derived.Laws.Strings
namespace Go.Proofs.Ytkglkknccbjefaa
open Go.RowKit

set_option maxRecDepth 100000
theorem text_beq (a b : ByteArray) : (a.toList == b.toList) = decide (a = b) := by
  by_cases h : a = b
  · subst h; simp
  · rw [decide_eq_false h, beq_eq_false_iff_ne]
    intro e
    exact h (ByteArray.ext (Array.ext' (by rwa [ByteArray.toList_eq, ByteArray.toList_eq] at e)))
/-- the colours of k places from b on -/
def lkL (s : ByteArray) (wd b : Int) (k : Nat) : List UInt8 := (List.range k).map fun (j : Nat) => colB s wd (b + (j : Int))
theorem lkL_length (s : ByteArray) (wd b : Int) (k : Nat) : (lkL s wd b k).length = k := by simp [lkL]
theorem lkL_snoc (s : ByteArray) (wd b : Int) (k : Nat) : lkL s wd b (k + 1) = lkL s wd b k ++ [colB s wd (b + (k : Int))] := by simp [lkL, List.range_succ]
def lookT (s : ByteArray) (wd m n : Int) : ByteArray := txt (lkL s wd ((n - 1) * m) m.toNat)
def alikeP (s : ByteArray) (wd m y : Int) : Bool := decide (1 < y) && decide (lookT s wd m y = lookT s wd m 1)
theorem alikeP_one (s : ByteArray) (wd m : Int) : alikeP s wd m 1 = false := by simp [alikeP]
theorem alike_length (s : ByteArray) (wd m n : Int) : (orL (csB s wd m n) (selL (alikeP s wd m) n.toNat)).length ≤ 1048576 := by
  cases h : csB s wd m n
  · simp [orL]
  · have := (csB_le h).2.2.2
    have h2 := selL_length (alikeP s wd m) n.toNat
    rw [orL_yes]; omega

set_option maxHeartbeats 1000000 in
theorem cpOf_any (s : ByteArray) (wd m n : Int) (w : World) (hs : 1 ≤ s.size ∧ s.size ≤ 10) (hw : 1 ≤ wd ∧ wd ≤ 100) (hm : 1 ≤ m ∧ m ≤ 100) (hn : 1 ≤ n ∧ n ≤ 100) :
    Calls Try.prog 26 #[.string s, .int .i64 wd, .int .i64 m, .int .i64 n] w fun e w' => e = .returned (.string (lookT s wd m n)) ∧ w = w' := by
  obtain ⟨e0, e1⟩ := mul_bd (a := n - 1) (A := 99) (b := m) (B := 100) (by omega) (by omega) (by omega) (by omega)
  obtain ⟨f0, f1⟩ := mul_bd (a := n) (A := 100) (b := m) (B := 100) (by omega) (by omega) (by omega) (by omega)
  have hnm : n * m = (n - 1) * m + m := by rw [Int.sub_mul]; omega
  have HR := Lib.hid (show lookT s wd m n = txt (lkL s wd ((n - 1) * m) m.toNat) from rfl)
  obtain ⟨b, hb⟩ : ∃ b, b = (n - 1) * m := ⟨_, rfl⟩
  have hwb : IntKind.i64.wrap ((n - 1) * m) = b := by rw [← hb] at e0 e1 ⊢; exact IntWalk.i64_in _ (by omega)
  obtain ⟨e, he⟩ : ∃ e, e = n * m := ⟨_, rfl⟩
  have hwe : IntKind.i64.wrap (n * m) = e := by rw [← he] at f0 f1 ⊢; exact IntWalk.i64_in _ (by omega)
  rw [← hb, ← he] at hnm
  rw [← hb] at e0 e1 HR
  rw [← he] at f0 f1
  rw [HR.out]
  have hwn : IntKind.i64.wrap (n - 1) = n - 1 := IntWalk.i64_in _ (by omega)
  have hz : ¬ wd = 0 := by omega
  have hz2 : ¬ (s.size : Int) = 0 := by omega
  have hz3 : ¬ s.size = 0 := by omega
  obtain ⟨M, hM⟩ := Int.eq_ofNat_of_zero_le (show 0 ≤ m by omega)
  have HE := Lib.hid (show e = b + M by omega)
  rw [hM, Int.toNat_natCast, ← hM]
  have hM1 : M ≤ 100 := by omega
  have HMM := Lib.hid hM
  clear hb he hnm HR hM
  go_enter Try.func26, Try.ntmps26
  go_wp2_with fail
  go_loop [9, 10] (fun t i => ∃ k : Nat, k ≤ M ∧ i = .int .i64 (b + k) ∧ t = .string (txt (lkL s wd b k))) (fun _ i => (b + M - intOf i).toNat)
  case atStart => exact ⟨0, Nat.zero_le _, by simp, rfl⟩
  case round =>
    obtain ⟨k, hk, rfl, rfl⟩ := hrel
    have hT : (txt (lkL s wd b k)).size ≤ 101 := by rw [txt_size, lkL_length]; omega
    obtain ⟨x, hxe⟩ : ∃ x : Int, x = b + k := ⟨_, rfl⟩
    obtain ⟨q, ht, q0, q1, hj, hjs⟩ := colJ_facts s (wd := wd) (place := x) hs.1 hw.1 (by omega)
    have HX := Lib.hid (show s.extract (colJ s wd x) (colJ s wd x + 1) = ⟨#[colB s wd x]⟩ from extract_one hjs)
    have HT := Lib.hid (show txt (lkL s wd b k) ++ s.extract (colJ s wd x) (colJ s wd x + 1) = txt (lkL s wd b (k + 1)) by rw [HX.out, txt_snoc, lkL_snoc, hxe])
    have hxs : (s.extract (colJ s wd x) (colJ s wd x + 1)).size = 1 := by rw [HX.out]; rfl
    rw [← hxe]
    have x0 : 0 ≤ x := by omega
    have x1 : x ≤ 10100 := by omega
    have HXE := Lib.hid hxe
    clear hxe HX
    generalize colJ s wd x = j at *
    by_cases hlt : k < M
    · have h1 : x < e := by have := HE.out; have := HXE.out; omega
      have i0 : (0 : Int) ≤ (j : Int) := by omega
      have i1 : (j : Int) < (s.size : Int) := by omega
      have i2 : j + 1 ≤ s.size := by omega
      have hwj2 : IntKind.i64.wrap ((j : Int) + 1) = ((j + 1 : Nat) : Int) := IntWalk.i64_in _ (by omega)
      have hwj : IntKind.i64.wrap (j : Int) = j := IntWalk.i64_in _ (by omega)
      have A0 := fun u => run_string_add_sum (P := Try.prog) u (txt (lkL s wd b k)) (s.extract j (j + 1)) (by omega)
      clear hxs
      generalize hTT : txt (lkL s wd b k) = T at *
      have HTT := Lib.hid hTT
      clear hTT
      go_wp2_with fail
      go_round
      case rel => exact ⟨k + 1, by omega, congrArg (Value.int .i64) (by have := HXE.out; omega), by rw [HT.out]⟩
      case measure => have := HXE.out; simp [intOf]; omega
    · obtain rfl : k = M := by omega
      have h1 : ¬ x < e := by have := HE.out; have := HXE.out; omega
      clear HT hxs hj hjs
      go_wp2_with fail
      go_ret
      exact ⟨rfl, rfl⟩

/-- bytes in memory -/
def bys (l : List UInt8) : Array Value := (l.map fun b => Value.int .u8 (b.toNat : Int)).toArray
theorem bys_set (l : List UInt8) (k : Nat) (c : UInt8) : (bys l).setIfInBounds k (.int .u8 (c.toNat : Int)) = bys (l.set k c) := by
  apply Array.ext_getElem?
  intro i
  simp only [bys, Array.getElem?_setIfInBounds, List.getElem?_toArray, List.getElem?_map, List.getElem?_set, List.size_toArray, List.length_map]
  by_cases h : k = i
  · subst h; by_cases h2 : k < l.length <;> simp [h2]
  · simp [h]
theorem bys_at (l : List UInt8) (k : Nat) (h : k < l.length) : (bys l)[k]? = some (.int .u8 (l[k].toNat : Int)) := by
  simp [bys, h]
theorem made_bys (n : Nat) : madeCells (Value.int .u8 0).cells (n * 1) = bys (List.replicate n 0) := by
  apply Array.ext_getElem?
  intro i
  by_cases h : i < n <;> simp [bys, madeCells, Value.cells, Nat.mod_one, h]
theorem make_bys (n : Nat) (hn : n ≤ 1048576) (u : World) : (Instr.makeSlice 38 (.int .i64 (n : Int)) (.int .i64 (n : Int))).run Try.prog u = .ok (.slice (some ⟨u.heap.size, 0, none⟩) n n) (u.alloc (.cells (bys (List.replicate n 0)) 5)) := by
  obtain ⟨i0, hi, hz, hs, hby⟩ := info_parts uint8_info
  have := run_make (P := Try.prog) u 38 5 i0 (.int .u8 0) Try.underlying38 hi hz .i64 .i64 n n (by omega) (Int.le_refl _) (by rw [hby]; omega) (by omega)
  rw [Int.toNat_natCast, hs, made_bys] at this
  exact this
def lkF (s : ByteArray) (wd b : Int) (M k : Nat) : List UInt8 := (List.range M).map fun j => if j < k then colB s wd (b + (j : Nat)) else 0
theorem lkF_length (s : ByteArray) (wd b : Int) (M k : Nat) : (lkF s wd b M k).length = M := by simp [lkF]
theorem lkF_zero (s : ByteArray) (wd b : Int) (M : Nat) : List.replicate M 0 = lkF s wd b M 0 := by
  apply List.ext_getElem
  · simp [lkF]
  · intro i h1 h2
    simp [lkF]
theorem lkF_set (s : ByteArray) (wd b : Int) {M k : Nat} (_hk : k < M) : (lkF s wd b M k).set k (colB s wd (b + (k : Nat))) = lkF s wd b M (k + 1) := by
  apply List.ext_getElem
  · simp [lkF]
  · intro i h1 h2
    simp only [List.getElem_set, lkF, List.getElem_map, List.getElem_range]
    by_cases e : k = i
    · subst e; simp
    · rw [if_neg e]
      by_cases e2 : i < k
      · rw [if_pos e2, if_pos (by omega)]
      · rw [if_neg e2, if_neg (by omega)]
theorem lkF_all (s : ByteArray) (wd b : Int) (M : Nat) : lkF s wd b M M = lkL s wd b M := by
  apply List.ext_getElem
  · simp [lkF, lkL]
  · intro i h1 h2
    have : i < M := by simpa [lkF] using h1
    simp [lkF, lkL, this]
theorem conv_bys {w : World} {g : Nat} {t : TypeId} {l : List UInt8} {c : Nat} (h : Blk w g t (bys l)) : (convert 38 9 (.slice (some ⟨g, 0, none⟩) l.length c)).run Try.prog w = .ok (.string (txt l)) w :=
  run_convert_bytes_back (P := Try.prog) w 38 9 5 ⟨g, 0, none⟩ c l Try.underlying38 Try.underlying5 Try.underlying9 (fun j hj => by
    rw [Addr.add_lit, Nat.zero_add, h.cell, bys_at l j hj])

set_option maxHeartbeats 1000000 in
theorem lookOf_any (s : ByteArray) (wd m n : Int) (w : World) (hs : 1 ≤ s.size ∧ s.size ≤ 10) (hw : 1 ≤ wd ∧ wd ≤ 100) (hm : 1 ≤ m ∧ m ≤ 100) (hn : 1 ≤ n ∧ n ≤ 100) :
    Calls Try.prog 27 #[.string s, .int .i64 wd, .int .i64 m, .int .i64 n] w fun e w' => e = .returned (.string (lookT s wd m n)) ∧ Below w.heap.size w w' := by
  obtain ⟨e0, e1⟩ := mul_bd (a := n - 1) (A := 99) (b := m) (B := 100) (by omega) (by omega) (by omega) (by omega)
  have HR := Lib.hid (show lookT s wd m n = txt (lkL s wd ((n - 1) * m) m.toNat) from rfl)
  obtain ⟨b, hb⟩ : ∃ b, b = (n - 1) * m := ⟨_, rfl⟩
  obtain ⟨M, rfl⟩ := Int.eq_ofNat_of_zero_le (show 0 ≤ m by omega)
  have hwb : IntKind.i64.wrap ((n - 1) * (M : Int)) = b := by rw [← hb] at e0 e1 ⊢; exact IntWalk.i64_in _ (by omega)
  rw [← hb] at e0 e1 HR
  rw [HR.out, Int.toNat_natCast]
  have hwn : IntKind.i64.wrap (n - 1) = n - 1 := IntWalk.i64_in _ (by omega)
  have hM1 : M ≤ 100 := by omega
  have hmk := make_bys M (by omega)
  have HS := Lib.hid (fun place (u : World) h0 h1 => colourAt_any s wd place u hs.1 hs.2 hw.1 h0 h1)
  have XF : Blk (w.alloc (.cells (bys (List.replicate M 0)) 5)) w.heap.size 5 (bys (lkF s wd b M 0)) := by
    rw [← lkF_zero]; exact Blk.new _ _ _
  have B0 : Below w.heap.size w (w.alloc (.cells (bys (List.replicate M 0)) 5)) := below_alloc _ _
  clear hb HR
  go_enter Try.func27, Try.ntmps27
  go_wp2_with fail
  go_loopw [15] (fun i wr => ∃ k : Nat, k ≤ M ∧ i = .int .i64 (k : Int) ∧ Blk wr w.heap.size 5 (bys (lkF s wd b M k)) ∧ Below w.heap.size w wr) (fun i _ => M - (intOf i).toNat)
  case atStart => exact ⟨0, by omega, rfl, XF, B0⟩
  case round =>
    clear XF B0 hmk
    obtain ⟨k, hk, rfl, hF, hbw⟩ := hrel
    have hFl := hF.lt
    by_cases hlt : k < M
    · have HT := Lib.hid (lkF_set s wd b hlt)
      have HC := Lib.hid (HS.out (b + (k : Int)) wr (by omega) (by omega))
      have hc1 : ∃ v, wr.cell? ⟨w.heap.size, k, none⟩ = some v := ⟨_, by rw [hF.cell]; exact bys_at _ k (by rw [lkF_length]; exact hlt)⟩
      obtain ⟨v0, hc1⟩ := hc1
      have hc2 := hF.frozen k
      generalize colB s wd (b + (k : Int)) = c at *
      go_wp2_with fail
      refine HC.out.mono ?_
      rintro e' w' ⟨rfl, rfl⟩
      go_wp2_with fail
      go_roundw
      case rel => exact ⟨k + 1, by omega, by go_num, by rw [← HT.out, ← bys_set]; exact hF.set_ _ _, hbw.setCell (by simp) _⟩
      case measure => simp [intOf]; omega
    · obtain rfl : k = M := by omega
      rw [lkF_all] at hF
      have HCV := conv_bys (c := k) hF
      rw [lkL_length] at HCV
      go_wp2_with fail
      go_ret
      exact ⟨rfl, hbw⟩

set_option maxHeartbeats 1000000 in
theorem specAlike_any (s : ByteArray) (wd m n : Int) (w : World) :
    Calls Try.prog 13 #[.string s, .int .i64 wd, .int .i64 m, .int .i64 n] w fun e w' => Lists w (orL (csB s wd m n) (selL (alikeP s wd m) n.toNat)) (csB s wd m n) e w' := by
  cases g0 : wideB s wd
  · have hV : csB s wd m n = false := by simp [csB, g0]
    rw [hV, orL_no]
    clear hV
    have H0 := Lib.hid g0
    clear g0
    go_enter Try.func13, Try.ntmps13
    go_wp2_with fail
    refine (cpWide_any _ _ _).mono ?_
    rintro e w' ⟨rfl, rfl⟩
    rw [H0.out]
    go_wp2_with fail
    go_ret2
    exact ⟨_, rfl, OwnI.nil _ _, Below.refl _ _⟩
  · have _h := True.intro
    cases g1 : stepsB n m
    · have hV : csB s wd m n = false := by simp [csB, g0, g1]
      rw [hV, orL_no]
      clear hV
      have H0 := Lib.hid g0
      clear g0
      have H1 := Lib.hid g1
      clear g1
      go_enter Try.func13, Try.ntmps13
      go_wp2_with fail
      refine (cpWide_any _ _ _).mono ?_
      rintro e w' ⟨rfl, rfl⟩
      rw [H0.out]
      go_wp2_with fail
      refine (cpSteps_any _ _ _).mono ?_
      rintro e w' ⟨rfl, rfl⟩
      rw [H1.out]
      go_wp2_with fail
      go_ret2
      exact ⟨_, rfl, OwnI.nil _ _, Below.refl _ _⟩
    · have _h := True.intro
      have hV : csB s wd m n = true := by simp [csB, g0, g1]
      obtain ⟨hST, hw, hm, hn⟩ := csB_le hV
      have hs := (stripeB_le hST).1
      rw [hV, orL_yes]
      obtain ⟨N, rfl⟩ := Int.eq_ofNat_of_zero_le (show 0 ≤ n by omega)
      rw [Int.toNat_natCast]
      have HC := Lib.hid (fun (y : Int) (u : World) h => cpOf_any s wd m y u hs hw hm h)
      clear hV hST
      have H0 := Lib.hid g0
      have H1 := Lib.hid g1
      clear g0
      clear g1
      go_enter Try.func13, Try.ntmps13
      go_wp2_with fail
      refine (cpWide_any _ _ _).mono ?_
      rintro e w' ⟨rfl, rfl⟩
      rw [H0.out]
      go_wp2_with fail
      refine (cpSteps_any _ _ _).mono ?_
      rintro e w' ⟨rfl, rfl⟩
      rw [H1.out]
      go_wp2_with fail
      refine (HC.out 1 _ (by omega)).mono ?_
      rintro e' w' ⟨rfl, rfl⟩
      have HA := Lib.hid (fun y => show alikeP s wd m y = (decide (1 < y) && decide (lookT s wd m y = lookT s wd m 1)) from rfl)
      have HO1 : Hid (selL (alikeP s wd m) 1 = []) := Lib.hid (by simp [selL, alikeP])
      generalize lookT s wd m 1 = T1 at *
      go_wp2_with fail
      go_loopw [10, 12] (fun v i wr => ∃ k : Nat, 1 ≤ k ∧ k ≤ N ∧ i = .int .i64 ((k : Int) + 1) ∧ OwnI wr w.heap.size v (selL (alikeP s wd m) k) ∧ Below w.heap.size w wr) (fun _ i _ => N + 1 - (intOf i).toNat)
      case atStart => exact ⟨1, by omega, by omega, rfl, by rw [HO1.out]; exact OwnI.nil _ _, Below.refl _ _⟩
      case round =>
        obtain ⟨k, hk1, hk, rfl, hown, hbw⟩ := hrel
        have hz : w.heap.size ≤ wr.heap.size := hbw.size
        by_cases hlt : k < N
        · have hkl := selL_length (alikeP s wd m) k
          have HY1 := Lib.hid (fun h => selL_yes (p := alikeP s wd m) (k := k) h)
          have HN1 := Lib.hid (fun h => selL_no (p := alikeP s wd m) (k := k) h)
          have HC2 := Lib.hid (HC.out ((k : Int) + 1) wr (by omega))
          have HA2 := HA.out ((k : Int) + 1)
          rw [decide_eq_true (show (1 : Int) < (k : Int) + 1 by omega), Bool.true_and] at HA2
          obtain ⟨y, hy⟩ : ∃ y : Int, y = (k : Int) + 1 := ⟨_, rfl⟩
          rw [← hy] at HC2 HY1 HN1 HA2 ⊢
          have hy1 : y ≤ N := by omega
          have hy0 : 1 ≤ y := by omega
          have HY := Lib.hid hy
          clear hy
          generalize lookT s wd m y = T at *
          by_cases hp : T = T1
          · have HT := Lib.hid (HY1.out (by rw [HA2]; exact decide_eq_true hp))
            generalize hL : selL (alikeP s wd m) k = zs at *
            have HL := Lib.hid hL
            have hdd : (T.toList == T1.toList) = true := by rw [text_beq]; exact decide_eq_true hp
            have HPP := Lib.hid hp
            clear hL HA2 hp
            go_wp2_with fail
            refine HC2.out.mono ?_
            rintro e' w' ⟨rfl, rfl⟩
            go_wp2_with (at_builtin; refine wpList_pushI _ rfl _ _ rfl w.heap.size _ zs rfl (hown.alloc _) wr.heap.size y rfl (by simp) (by omega) (by simp; omega) ?_; intro A1 c1 w3 hown1 hg1)
            go_roundw
            case rel => exact ⟨k + 1, by omega, by omega, congrArg (Value.int .i64) (by have := HY.out; omega), by rw [HT.out]; exact hown1, (hbw.alloc hz _).trans hg1⟩
            case measure => have := HY.out; simp [intOf]; omega
          · have HT := Lib.hid (HN1.out (by rw [HA2]; exact decide_eq_false hp))
            have hdd : (T.toList == T1.toList) = false := by rw [text_beq]; exact decide_eq_false hp
            clear HA2 hp
            go_wp2_with fail
            refine HC2.out.mono ?_
            rintro e' w' ⟨rfl, rfl⟩
            go_wp2_with fail
            go_roundw
            case rel => exact ⟨k + 1, by omega, by omega, congrArg (Value.int .i64) (by have := HY.out; omega), by rw [HT.out]; exact hown, hbw⟩
            case measure => have := HY.out; simp [intOf]; omega
        · obtain rfl : k = N := by omega
          have hno : ¬ (k : Int) + 1 ≤ (k : Int) := by omega
          go_wp2_with fail
          go_ret2
          exact ⟨_, rfl, hown, hbw⟩

set_option maxHeartbeats 1000000 in
theorem alikeC_any (s : ByteArray) (wd m : Int) (k g1 g2 g3 g4 : Nat) (w : World) (hs : 1 ≤ s.size ∧ s.size ≤ 10) (hw : 1 ≤ wd ∧ wd ≤ 100) (hm : 1 ≤ m ∧ m ≤ 100) (hk : k < 100)
    (h1 : Blk w g1 9 #[.string s]) (h2 : Blk w g2 3 #[.int .i64 wd]) (h3 : Blk w g3 3 #[.int .i64 m]) (h4 : Blk w g4 9 #[.string (lookT s wd m 1)]) :
    Calls Try.prog 29 #[.int .i64 ((k : Int) + 1), .pointer (some ⟨g1, 0, none⟩), .pointer (some ⟨g2, 0, none⟩), .pointer (some ⟨g3, 0, none⟩), .pointer (some ⟨g4, 0, none⟩)] w fun e w' => e = .returned (.bool (alikeP s wd m ((k : Int) + 1))) ∧ Below w.heap.size w w' := by
  have d1 : w.cell? ⟨g1, 0, none⟩ = some (.string s) := h1.cell 0
  have d2 : w.cell? ⟨g2, 0, none⟩ = some (.int .i64 wd) := h2.cell 0
  have d3 : w.cell? ⟨g3, 0, none⟩ = some (.int .i64 m) := h3.cell 0
  have d4 : w.cell? ⟨g4, 0, none⟩ = some (.string (lookT s wd m 1)) := h4.cell 0
  have l4 := h4.lt
  have HC := Lib.hid (fun (u : World) => lookOf_any s wd m ((k : Int) + 1) u hs hw hm (by omega))
  have HA := Lib.hid (show alikeP s wd m ((k : Int) + 1) = (decide (1 < (k : Int) + 1) && decide (lookT s wd m ((k : Int) + 1) = lookT s wd m 1)) from rfl)
  by_cases hk0 : k = 0
  · subst hk0
    have hd : decide ((1 : Int) < ((0 : Nat) : Int) + 1) = false := by decide
    rw [hd, Bool.false_and] at HA
    rw [show ((0 : Nat) : Int) + 1 = 1 from rfl] at *
    go_enter Try.func29, Try.ntmps29
    go_wp2_with fail
    go_quiet (fail)
    go_wp2_with fail
    go_ret
    exact ⟨ret_bool HA.out.symm, drew_below rfl⟩
  · have hd : decide ((1 : Int) < (k : Int) + 1) = true := decide_eq_true (by omega)
    rw [hd, Bool.true_and] at HA
    obtain ⟨y, hy⟩ : ∃ y : Int, y = (k : Int) + 1 := ⟨_, rfl⟩
    rw [← hy] at HC HA hd ⊢
    clear hy
    generalize lookT s wd m 1 = T1 at *
    generalize lookT s wd m y = T at *
    go_enter Try.func29, Try.ntmps29
    go_wp2_with fail
    first | (go_region_law (first | (go_simp; go_at_call 27; (refine (HC.out w.drew).mono ?_); rintro e2 w2 ⟨rfl, hb2'⟩; have hb2 : Below w.heap.size w w2 := below_undrew hb2'; have d4' : w2.cell? ⟨g4, 0, none⟩ = some (.string T1) := (hb2.cell (p := ⟨g4, 0, none⟩) l4).trans d4) | fail)) | fail
    all_goals go_wp2_with fail
    all_goals go_ret
    all_goals exact ⟨ret_bool (show (T.toList == T1.toList) = alikeP s wd m y by rw [HA.out, text_beq]), hb2⟩

set_option maxHeartbeats 1000000 in
theorem implAlike_any (s : ByteArray) (wd m n : Int) (w : World) :
    Calls Try.prog 14 #[.string s, .int .i64 wd, .int .i64 m, .int .i64 n] w (Lists w (orL (csB s wd m n) (selL (alikeP s wd m) n.toNat)) (csB s wd m n)) := by
  have hb0 : Below w.heap.size w (((w.alloc (.cells #[.string s] 9)).alloc (.cells #[.int .i64 wd] 3)).alloc (.cells #[.int .i64 m] 3)) := (((Below.refl _ _).alloc (Nat.le_refl _) _).alloc (by simp) _).alloc (by simp; omega) _
  have X1 : Blk (((w.alloc (.cells #[.string s] 9)).alloc (.cells #[.int .i64 wd] 3)).alloc (.cells #[.int .i64 m] 3)) w.heap.size 9 #[.string s] := ((Blk.new' rfl).alloc _).alloc _
  have X2 : Blk (((w.alloc (.cells #[.string s] 9)).alloc (.cells #[.int .i64 wd] 3)).alloc (.cells #[.int .i64 m] 3)) (w.heap.size + 1) 3 #[.int .i64 wd] := (Blk.new' (by simp)).alloc _
  have X3 : Blk (((w.alloc (.cells #[.string s] 9)).alloc (.cells #[.int .i64 wd] 3)).alloc (.cells #[.int .i64 m] 3)) (w.heap.size + 2) 3 #[.int .i64 m] := Blk.new' (by simp)
  have hsz : (((w.alloc (.cells #[.string s] 9)).alloc (.cells #[.int .i64 wd] 3)).alloc (.cells #[.int .i64 m] 3)).heap.size = w.heap.size + 3 := by simp
  cases g0 : csB s wd m n
  · rw [orL_no]
    have H0 := Lib.hid g0
    clear g0
    go_enter Try.func14, Try.ntmps14
    go_wp2_with fail
    refine (canStripe_any _ _ _ _ _).mono ?_
    rintro e w1 ⟨rfl, hb1⟩
    rw [H0.out]
    go_wp2_with fail
    go_ret2
    exact ⟨_, rfl, OwnI.nil _ _, hb0.trans (hb1.mono (by rw [hsz]; omega))⟩
  · obtain ⟨hST, hw, hm, hn⟩ := csB_le g0
    have hs := (stripeB_le hST).1
    rw [orL_yes]
    obtain ⟨N, rfl⟩ := Int.eq_ofNat_of_zero_le (show 0 ≤ n by omega)
    rw [Int.toNat_natCast]
    have H0 := Lib.hid g0
    clear g0 hST
    go_enter Try.func14, Try.ntmps14
    go_wp2_with fail
    refine (canStripe_any _ _ _ _ _).mono ?_
    rintro e w1 ⟨rfl, hb1⟩
    rw [H0.out]
    have Y1 := X1.below hb1 (by rw [hsz]; omega)
    have Y2 := X2.below hb1 (by rw [hsz]; omega)
    have Y3 := X3.below hb1 (by rw [hsz]; omega)
    have d1 : w1.cell? ⟨w.heap.size, 0, none⟩ = some (.string s) := Y1.cell 0
    have d2 : w1.cell? ⟨w.heap.size + 1, 0, none⟩ = some (.int .i64 wd) := Y2.cell 0
    have d3 : w1.cell? ⟨w.heap.size + 2, 0, none⟩ = some (.int .i64 m) := Y3.cell 0
    have z1 : w.heap.size + 3 ≤ w1.heap.size := by have := hb1.size; rw [hsz] at this; exact this
    have B1 := hb0.trans (hb1.mono (by rw [hsz]; omega))
    clear hb1 X1 X2 X3 hb0 hsz
    go_wp2_with fail
    refine (lookOf_any s wd m 1 _ hs hw hm (by omega)).mono ?_
    rintro e w2 ⟨rfl, hb2⟩
    have Z1 := Y1.below hb2 (by omega)
    have Z2 := Y2.below hb2 (by omega)
    have Z3 := Y3.below hb2 (by omega)
    have B2 := B1.trans (hb2.mono (by omega))
    have z2 : w.heap.size + 3 ≤ w2.heap.size := by have := hb2.size; omega
    clear hb2 Y1 Y2 Y3 d1 d2 d3 B1
    go_wp2_with fail
    refine (stepsUpTo_any N 29 #[.pointer (some ⟨w.heap.size, 0, none⟩), .pointer (some ⟨w.heap.size + 1, 0, none⟩), .pointer (some ⟨w.heap.size + 2, 0, none⟩), .pointer (some ⟨w2.heap.size, 0, none⟩)] (alikeP s wd m) _ (by omega) (enters_of Try.func29 (by kernel_rfl) rfl) ?_).mono ?_
    · intro k W hk hbW
      simp only [World.size_alloc] at hbW
      have hbx : Below w2.heap.size w2 W := ((Below.refl _ _).alloc (Nat.le_refl _) (.cells #[.string (lookT s wd m 1)] 9)).trans (hbW.mono (by omega))
      exact alikeC_any s wd m k _ _ _ _ W hs hw hm (by omega) (Z1.below hbx (by omega)) (Z2.below hbx (by omega)) (Z3.below hbx (by omega)) ((Blk.new' rfl).below hbW (by omega))
    rintro e w9 ⟨v9, rfl, hO, hb⟩
    simp only [World.size_alloc] at hO hb
    go_wp2_with fail
    go_ret2
    exact ⟨_, rfl, hO.mono (by omega), (B2.alloc (by omega) _).trans (hb.mono (by omega))⟩


end Go.Proofs.Ytkglkknccbjefaa
