/- Contracts: reading a flight, on both sides. -/
import Derived.Test.YtfojcefbgdaelaaDoorTxLs
import Derived.Test.YtfojcefbgdaelaaDoorTxCut
import Derived.Test.YtfojcefbgdaelaaDoorTxFli
import Derived.Test.YtfojcefbgdaelaaDoorGApp
import Derived.Deep.RegionHeld3
namespace Go.Proofs.YtfojcefbgdaelaaDoor
open Go.RowKit
set_option maxRecDepth 100000

def pfR (s : ByteArray) : ByteArray := (splitS s 114).getD 1 ⟨#[]⟩
def pfA (s : ByteArray) : Int := rdI ((splitS s 114).getD 0 ⟨#[]⟩)
def pfX (s : ByteArray) : Int := rdI ((splitS (pfR s) 116).getD 0 ⟨#[]⟩)
def pfY (s : ByteArray) : Int := rdI ((splitS (pfR s) 116).getD 1 ⟨#[]⟩)
def pfB (s : ByteArray) : Bool := decide (s.size ≤ 12) && (decide ((splitS s 114).length = 2) && (decide ((splitS (pfR s) 116).length = 2) && fliB (pfA s) (pfX s) (pfY s)))
/-- a number or 0 -/
def orN (b : Bool) (x : Int) : Int := if b then x else 0
theorem orN_no (x : Int) : orN false x = 0 := rfl
theorem orN_yes (x : Int) : orN true x = x := rfl
theorem two_words {s : ByteArray} {b : UInt8} (h : (splitS s b).length = 2) : ∃ x y, splitS s b = [x, y] ∧ s.data.toList = x.data.toList ++ b :: y.data.toList := by
  obtain ⟨ws, l, e1, e2⟩ := split_cat s b
  rw [e1] at h
  have h4 : ws.length = 1 := by simpa using h
  match ws, h4 with
  | [a], _ => exact ⟨a, l, e1, by rw [← e2]; rfl⟩
/-- the text behind the first number -/
def flR (y z : Int) : ByteArray := numS y ++ ⟨#[116]⟩ ++ numS z
theorem flS_toL (x y z : Int) : (flS x y z).data.toList = (numS x).data.toList ++ 114 :: (flR y z).data.toList := by
  simp [flS, flR]
theorem flR_no {y z : Int} (hy : 0 ≤ y) (hz : 0 ≤ z) : (114 : UInt8) ∉ (flR y z).data.toList := by
  unfold flR
  rw [toList_snoc]
  intro h
  rcases List.mem_append.1 h with h | h
  · exact num_none y hy (.inr (by decide)) h
  · rcases List.mem_cons.1 h with h | h
    · exact absurd h (by decide)
    · exact num_none z hz (.inr (by decide)) h
theorem flS_split {x y z : Int} (hx : 0 ≤ x) (hy : 0 ≤ y) (hz : 0 ≤ z) : splitS (flS x y z) 114 = [numS x, flR y z] :=
  split_eq (ws := [numS x]) (fun w hw => by obtain rfl := List.mem_singleton.1 hw; exact num_none x hx (.inr (by decide))) (flR_no hy hz) (flS_toL x y z).symm
theorem flR_split {y z : Int} (hy : 0 ≤ y) (hz : 0 ≤ z) : splitS (flR y z) 116 = [numS y, numS z] :=
  split_eq (ws := [numS y]) (fun w hw => by obtain rfl := List.mem_singleton.1 hw; exact num_none y hy (.inr (by decide))) (num_none z hz (.inr (by decide))) (by unfold flR; rw [toList_snoc]; rfl)
theorem pf_of {x y z : Int} (h : fliB x y z = true) : pfB (flS x y z) = true ∧ pfA (flS x y z) = x ∧ pfX (flS x y z) = y ∧ pfY (flS x y z) = z := by
  have b := fliB_le h
  have lx : (numS x).size ≤ 3 := num_len (k := 2) (by omega)
  have ly : (numS y).size ≤ 3 := num_len (k := 2) (by omega)
  have lz : (numS z).size ≤ 3 := num_len (k := 2) (by omega)
  have e1 := flS_split (x := x) (y := y) (z := z) (by omega) (by omega) (by omega)
  have e2 := flR_split (y := y) (z := z) (by omega) (by omega)
  have eR : pfR (flS x y z) = flR y z := by unfold pfR; rw [e1]; rfl
  have eA : pfA (flS x y z) = x := by unfold pfA; rw [e1]; exact rdI_numS (by omega) (by omega)
  have eX : pfX (flS x y z) = y := by unfold pfX; rw [eR, e2]; exact rdI_numS (by omega) (by omega)
  have eY : pfY (flS x y z) = z := by unfold pfY; rw [eR, e2]; exact rdI_numS (by omega) (by omega)
  have sz : (flS x y z).size ≤ 12 := by unfold flS; simp only [ByteArray.size_append, one_size]; omega
  exact ⟨by unfold pfB; rw [eA, eX, eY, h, e1, eR, e2]; simp [sz], eA, eX, eY⟩
theorem pf_to {s : ByteArray} (h : pfB s = true) : fliB (pfA s) (pfX s) (pfY s) = true ∧ flS (pfA s) (pfX s) (pfY s) = s := by
  simp only [pfB, Bool.and_eq_true, decide_eq_true_eq] at h
  obtain ⟨_, h2, h3, h4⟩ := h
  refine ⟨h4, ?_⟩
  have b := fliB_le h4
  obtain ⟨a, r, e1, c1⟩ := two_words h2
  have eR : pfR s = r := by unfold pfR; rw [e1]; rfl
  have eA : pfA s = rdI a := by unfold pfA; rw [e1]; rfl
  rw [eR] at h3
  obtain ⟨p, q, e2, c2⟩ := two_words h3
  have eX : pfX s = rdI p := by unfold pfX; rw [eR, e2]; rfl
  have eY : pfY s = rdI q := by unfold pfY; rw [eR, e2]; rfl
  rw [eA, eX, eY] at b ⊢
  apply ext_list
  rw [flS_toL, c1]
  unfold flR
  rw [toList_snoc, numS_rdI (by omega), numS_rdI (by omega), numS_rdI (by omega), c2]
/-- what the program finds -/
def pfL (s : ByteArray) : List Int := ninR (cutA s 114) 116 ++ ninR (cutZ s 114) 116
theorem pfL_of {x y z : Int} (h : fliB x y z = true) : pfL (flS x y z) = [x, y, z] := by
  have b := fliB_le h
  obtain ⟨c1, c2⟩ := cut_is (s := flS x y z) (x := numS x) (r := flR y z) (b := 114) (flS_toL x y z) (num_none x (by omega) (.inr (by decide)))
  have s1 : splitS (numS x) 116 = [x].map numS := split_eq (ws := []) (fun w hw => by cases hw) (num_none x (by omega) (.inr (by decide))) rfl
  have s2 : splitS (flR y z) 116 = [y, z].map numS := flR_split (by omega) (by omega)
  unfold pfL
  rw [c1, c2, nin_nums s1 (fun n hn => by simp only [List.mem_cons, List.not_mem_nil, or_false] at hn; omega),
    nin_nums s2 (fun n hn => by simp only [List.mem_cons, List.not_mem_nil, or_false] at hn; rcases hn with rfl | rfl <;> omega)]
  rfl
theorem pf_nin {s : ByteArray} (h : pfB s = true) : pfL s = [pfA s, pfX s, pfY s] := by
  obtain ⟨h1, h2⟩ := pf_to h
  have := pfL_of h1
  rwa [h2] at this
theorem pf_none {s : ByteArray} {x y z : Int} (h : fliB x y z = true) (e : flS x y z = s) : pfB s = true := by rw [← e]; exact (pf_of h).1

set_option maxHeartbeats 4000000 in
theorem riParse_any (s : ByteArray) (w : World) (hn : s.size ≤ 1048576) :
    Calls Tryd.prog 60 #[.string s] w fun e w' => e = .returned (.tuple #[.agg #[.int .i64 (orN (pfB s) (pfA s)), .int .i64 (orN (pfB s) (pfX s)), .int .i64 (orN (pfB s) (pfY s))], .bool (pfB s)]) ∧ Below w.heap.size w w' := by
  by_cases h6 : s.size ≤ 12
  · have h6' : ¬ (12 : Int) < (s.size : Int) := by omega
    have h6b : decide ((12 : Int) < (s.size : Int)) = false := decide_eq_false (by omega)
    by_cases h2 : (splitS s 114).length = 2
    · obtain ⟨a, r, har, _⟩ := two_words h2
      have sa := word_le s 114 a (by rw [har]; simp)
      have sr := word_le s 114 r (by rw [har]; simp)
      have eR : pfR s = r := by simp [pfR, har]
      have eA : pfA s = rdI a := by simp [pfA, har]
      have L1 := Lib.hid (fun u => l1Read_any a u (by omega))
      have SP := Lib.hid (fun u => l1Split_any r 116 u (by omega))
      by_cases h3 : (splitS r 116).length = 2
      · obtain ⟨p, q, hpq, _⟩ := two_words h3
        have sp := word_le r 116 p (by rw [hpq]; simp)
        have sq := word_le r 116 q (by rw [hpq]; simp)
        have eX : pfX s = rdI p := by simp [pfX, eR, hpq]
        have eY : pfY s = rdI q := by simp [pfY, eR, hpq]
        have eB : pfB s = fliB (rdI a) (rdI p) (rdI q) := by simp [pfB, eR, eA, eX, eY, har, hpq, h6]
        have L2 := Lib.hid (fun u => l1Read_any p u (by omega))
        have L3 := Lib.hid (fun u => l1Read_any q u (by omega))
        have GM := Lib.hid (fun u => riGood_any (rdI a) (rdI p) (rdI q) u)
        rw [eB, eA, eX, eY]
        have HAR := Lib.hid har
        have HPQ := Lib.hid hpq
        clear eB eA eX eY eR h2 h3 har hpq
        generalize rdI a = X0 at *
        generalize rdI p = Y0 at *
        generalize rdI q = Z0 at *
        go_enter Tryd.func60, Tryd.ntmps60
        go_wp2_with fail
        refine (l1Split_any s 114 _ hn).mono ?_
        rintro e w1 ⟨v, rfl, ho, hb⟩
        rw [HAR.out] at ho
        obtain ⟨A, c, rfl, hc⟩ := ho.form
        have X := (Blk.new w 36 #[.int .i64 0, .int .i64 0, .int .i64 0]).below hb (by simp)
        have Bt : Below w.heap.size w w1 := (below_alloc _ _).trans (hb.mono (by simp))
        have hs := X.lt
        obtain ⟨x0, x1, x2⟩ := X.three
        have f0 := X.frozen 0
        have f1 := X.frozen 1
        have f2 := X.frozen 2
        clear hb ho
        obtain ⟨g, hA, hg, d0⟩ := hc 0 (by simp)
        obtain ⟨g', hA', _, d1⟩ := hc 1 (by simp)
        obtain rfl : g = g' := by rw [hA] at hA'; injection hA' with e; injection e
        subst hA
        simp only [List.getD_cons_zero, List.getD_cons_succ] at d0 d1
        clear hc hA'
        go_wp2_with fail
        refine (SP.out _).mono ?_
        rintro e w2 ⟨v2, rfl, ho2, hb2⟩
        rw [HPQ.out] at ho2
        obtain ⟨A2, c2, rfl, hc⟩ := ho2.form
        replace d0 := (hb2.cell (p := ⟨g, 0, none⟩) hg).trans d0
        replace d1 := (hb2.cell (p := ⟨g, 1, none⟩) hg).trans d1
        replace X := X.below hb2 hs
        replace Bt := Bt.trans (hb2.mono (by omega))
        replace hs := X.lt
        clear x0 x1 x2 f0 f1 f2
        obtain ⟨x0, x1, x2⟩ := X.three
        have f0 := X.frozen 0
        have f1 := X.frozen 1
        have f2 := X.frozen 2
        clear hb2 ho2 hg
        obtain ⟨k, hA, hk, m0⟩ := hc 0 (by simp)
        obtain ⟨k', hA', _, m1⟩ := hc 1 (by simp)
        obtain rfl : k = k' := by rw [hA] at hA'; injection hA' with e; injection e
        subst hA
        simp only [List.getD_cons_zero, List.getD_cons_succ] at m0 m1
        clear hc hA' d1
        go_wp2_with fail
        go_region_held3 (fun u => u.cell? ⟨g, 0, none⟩ = some (.string a) ∧ u.cell? ⟨k, 0, none⟩ = some (.string p) ∧ u.cell? ⟨k, 1, none⟩ = some (.string q)) (first | exact ⟨d0, m0, m1⟩ | go_keep)
          (first
            | (go_at_call_of 73 (Value.string a); refine (L1.out _).mono ?_; rintro e w' ⟨rfl, rfl⟩)
            | (go_at_call_of 73 (Value.string p); refine (L2.out _).mono ?_; rintro e w' ⟨rfl, rfl⟩)
            | (go_at_call_of 73 (Value.string q); refine (L3.out _).mono ?_; rintro e w' ⟨rfl, rfl⟩)
          )
        all_goals
          have XM := Blk.new w2 36 #[.int .i64 X0, .int .i64 Y0, .int .i64 Z0]
          have XR := X.alloc (.cells #[.int .i64 X0, .int .i64 Y0, .int .i64 Z0] 36)
          have BR := (Bt.alloc (Nat.le_of_lt hs) (.cells #[.int .i64 X0, .int .i64 Y0, .int .i64 Z0] 36)).drew
          replace XM := XM.drew'
          replace XR := XR.drew'
          clear X x0 x1 x2 f0 f1 f2 d0 m0 m1
          generalize (w2.alloc (.cells #[.int .i64 X0, .int .i64 Y0, .int .i64 Z0] 36)).drew = w4 at *
          obtain ⟨m0, m1, m2⟩ := XM.three
          have zm := XM.lt
          go_wp2_with fail
          refine (GM.out _).mono ?_
          rintro e w3 ⟨rfl, hb3⟩
          have X := XR.below hb3 XR.lt
          have XM3 := XM.below hb3 zm
          obtain ⟨x0, x1, x2⟩ := X.three
          obtain ⟨p0, p1, p2⟩ := XM3.three
          have f0 := X.frozen 0
          have f1 := X.frozen 1
          have f2 := X.frozen 2
          have B3 := BR.trans (hb3.mono (by omega))
          cases hm : fliB X0 Y0 Z0
          · have HM := Lib.hid hm
            clear hm
            go_wp2_with fail
            have X2 : Blk (((w3.setCell ⟨w.heap.size, 0, none⟩ (.int .i64 0)).setCell ⟨w.heap.size, 1, none⟩ (.int .i64 0)).setCell ⟨w.heap.size, 2, none⟩ (.int .i64 0)) w.heap.size 36 #[.int .i64 0, .int .i64 0, .int .i64 0] := ((X.set_ 0 _).set_ 1 _).set_ 2 _
            obtain ⟨y0, y1, y2⟩ := X2.three
            refine bodyPost_ret (v := .tuple #[.agg #[.int .i64 0, .int .i64 0, .int .i64 0], .bool false]) ?hr rfl ⟨by rw [HM.out]; rfl, ?_⟩
            (case hr => simp [results, Tryd.results60, go_sem, y0, y1, y2])
            exact ((B3.setCell (Nat.le_refl _) _).setCell (Nat.le_refl _) _).setCell (Nat.le_refl _) _
          · have HM := Lib.hid hm
            clear hm
            go_wp2_with fail
            have X2 : Blk (((w3.setCell ⟨w.heap.size, 0, none⟩ (.int .i64 X0)).setCell ⟨w.heap.size, 1, none⟩ (.int .i64 Y0)).setCell ⟨w.heap.size, 2, none⟩ (.int .i64 Z0)) w.heap.size 36 #[.int .i64 X0, .int .i64 Y0, .int .i64 Z0] := ((X.set_ 0 _).set_ 1 _).set_ 2 _
            obtain ⟨y0, y1, y2⟩ := X2.three
            refine bodyPost_ret (v := .tuple #[.agg #[.int .i64 X0, .int .i64 Y0, .int .i64 Z0], .bool true]) ?hr rfl ⟨by rw [HM.out]; rfl, ?_⟩
            (case hr => simp [results, Tryd.results60, go_sem, y0, y1, y2])
            exact ((B3.setCell (Nat.le_refl _) _).setCell (Nat.le_refl _) _).setCell (Nat.le_refl _) _
      · have eB : pfB s = false := by simp [pfB, eR, h3]
        rw [eB, orN_no, orN_no, orN_no]
        have h3' : ¬ ((splitS r 116).length : Int) = 2 := by omega
        have h3b : (((splitS r 116).length : Int) == 2) = false := by simpa using h3'
        have HAR := Lib.hid har
        clear eB eA eR h2 h3 har
        go_enter Tryd.func60, Tryd.ntmps60
        go_wp2_with fail
        refine (l1Split_any s 114 _ hn).mono ?_
        rintro e w1 ⟨v, rfl, ho, hb⟩
        rw [HAR.out] at ho
        obtain ⟨A, c, rfl, hc⟩ := ho.form
        have X := (Blk.new w 36 #[.int .i64 0, .int .i64 0, .int .i64 0]).below hb (by simp)
        have Bt : Below w.heap.size w w1 := (below_alloc _ _).trans (hb.mono (by simp))
        have hs := X.lt
        obtain ⟨x0, x1, x2⟩ := X.three
        have f0 := X.frozen 0
        have f1 := X.frozen 1
        have f2 := X.frozen 2
        clear hb ho
        obtain ⟨g, hA, hg, d0⟩ := hc 0 (by simp)
        obtain ⟨g', hA', _, d1⟩ := hc 1 (by simp)
        obtain rfl : g = g' := by rw [hA] at hA'; injection hA' with e; injection e
        subst hA
        simp only [List.getD_cons_zero, List.getD_cons_succ] at d0 d1
        clear hc hA'
        go_wp2_with fail
        refine (SP.out _).mono ?_
        rintro e w2 ⟨v2, rfl, ho2, hb2⟩
        obtain ⟨A2, c2, rfl, hc⟩ := ho2.form
        replace X := X.below hb2 hs
        replace Bt := Bt.trans (hb2.mono (by omega))
        replace hs := X.lt
        clear x0 x1 x2 f0 f1 f2
        obtain ⟨x0, x1, x2⟩ := X.three
        have f0 := X.frozen 0
        have f1 := X.frozen 1
        have f2 := X.frozen 2
        clear hb2 ho2 hc
        go_wp2_with fail
        have X2 : Blk (((w2.setCell ⟨w.heap.size, 0, none⟩ (.int .i64 0)).setCell ⟨w.heap.size, 1, none⟩ (.int .i64 0)).setCell ⟨w.heap.size, 2, none⟩ (.int .i64 0)) w.heap.size 36 #[.int .i64 0, .int .i64 0, .int .i64 0] := ((X.set_ 0 _).set_ 1 _).set_ 2 _
        obtain ⟨y0, y1, y2⟩ := X2.three
        refine bodyPost_ret (v := .tuple #[.agg #[.int .i64 0, .int .i64 0, .int .i64 0], .bool false]) ?hr rfl ⟨rfl, ?_⟩
        (case hr => simp [results, Tryd.results60, go_sem, y0, y1, y2])
        exact ((Bt.setCell (Nat.le_refl _) _).setCell (Nat.le_refl _) _).setCell (Nat.le_refl _) _
    · have eB : pfB s = false := by simp [pfB, h2]
      rw [eB, orN_no, orN_no, orN_no]
      have h2' : ¬ ((splitS s 114).length : Int) = 2 := by omega
      have h2b : (((splitS s 114).length : Int) == 2) = false := by simpa using h2'
      go_enter Tryd.func60, Tryd.ntmps60
      go_wp2_with fail
      refine (l1Split_any s 114 _ hn).mono ?_
      rintro e w1 ⟨v, rfl, ho, hb⟩
      obtain ⟨A, c, rfl, hc⟩ := ho.form
      have X := (Blk.new w 36 #[.int .i64 0, .int .i64 0, .int .i64 0]).below hb (by simp)
      have Bt : Below w.heap.size w w1 := (below_alloc _ _).trans (hb.mono (by simp))
      have hs := X.lt
      obtain ⟨x0, x1, x2⟩ := X.three
      have f0 := X.frozen 0
      have f1 := X.frozen 1
      have f2 := X.frozen 2
      clear hb ho
      go_wp2_with fail
      have X2 : Blk (((w1.setCell ⟨w.heap.size, 0, none⟩ (.int .i64 0)).setCell ⟨w.heap.size, 1, none⟩ (.int .i64 0)).setCell ⟨w.heap.size, 2, none⟩ (.int .i64 0)) w.heap.size 36 #[.int .i64 0, .int .i64 0, .int .i64 0] := ((X.set_ 0 _).set_ 1 _).set_ 2 _
      obtain ⟨y0, y1, y2⟩ := X2.three
      refine bodyPost_ret (v := .tuple #[.agg #[.int .i64 0, .int .i64 0, .int .i64 0], .bool false]) ?hr rfl ⟨rfl, ?_⟩
      (case hr => simp [results, Tryd.results60, go_sem, y0, y1, y2])
      exact ((Bt.setCell (Nat.le_refl _) _).setCell (Nat.le_refl _) _).setCell (Nat.le_refl _) _
  · have eB : pfB s = false := by simp [pfB, h6]
    rw [eB, orN_no, orN_no, orN_no]
    have h6' : (12 : Int) < (s.size : Int) := by omega
    go_enter Tryd.func60, Tryd.ntmps60
    go_wp2_with fail
    refine (l1Split_any s 114 _ hn).mono ?_
    rintro e w1 ⟨v, rfl, ho, hb⟩
    obtain ⟨A, c, rfl, hc⟩ := ho.form
    have X := (Blk.new w 36 #[.int .i64 0, .int .i64 0, .int .i64 0]).below hb (by simp)
    have Bt : Below w.heap.size w w1 := (below_alloc _ _).trans (hb.mono (by simp))
    have hs := X.lt
    obtain ⟨x0, x1, x2⟩ := X.three
    have f0 := X.frozen 0
    have f1 := X.frozen 1
    have f2 := X.frozen 2
    clear hb ho
    go_wp2_with fail
    have X2 : Blk (((w1.setCell ⟨w.heap.size, 0, none⟩ (.int .i64 0)).setCell ⟨w.heap.size, 1, none⟩ (.int .i64 0)).setCell ⟨w.heap.size, 2, none⟩ (.int .i64 0)) w.heap.size 36 #[.int .i64 0, .int .i64 0, .int .i64 0] := ((X.set_ 0 _).set_ 1 _).set_ 2 _
    obtain ⟨y0, y1, y2⟩ := X2.three
    refine bodyPost_ret (v := .tuple #[.agg #[.int .i64 0, .int .i64 0, .int .i64 0], .bool false]) ?hr rfl ⟨rfl, ?_⟩
    (case hr => simp [results, Tryd.results60, go_sem, y0, y1, y2])
    exact ((Bt.setCell (Nat.le_refl _) _).setCell (Nat.le_refl _) _).setCell (Nat.le_refl _) _
set_option maxHeartbeats 1000000 in
theorem specParFli_any (s : ByteArray) (w : World) (hn : s.size ≤ 1048576) :
    Calls Tryd.prog 22 #[.string s] w fun e w' => e = .returned (.tuple #[.agg #[.int .i64 (orN (pfB s) (pfA s)), .int .i64 (orN (pfB s) (pfX s)), .int .i64 (orN (pfB s) (pfY s))], .bool (pfB s)]) ∧ Below w.heap.size w w' := by
  have MP := Lib.hid (fun u => riParse_any s u hn)
  generalize orN (pfB s) (pfA s) = a at *
  generalize orN (pfB s) (pfX s) = b at *
  generalize orN (pfB s) (pfY s) = c at *
  generalize pfB s = r at *
  go_enter Tryd.func22, Tryd.ntmps22
  go_wp2_with fail
  refine (MP.out _).mono ?_
  rintro e w1 ⟨rfl, hb⟩
  have X := (Blk.new w 36 #[.int .i64 0, .int .i64 0, .int .i64 0]).below hb (by simp)
  have Bt : Below w.heap.size w w1 := (below_alloc _ _).trans (hb.mono (by simp))
  obtain ⟨x0, x1, x2⟩ := X.three
  have f0 := X.frozen 0
  have f1 := X.frozen 1
  have f2 := X.frozen 2
  clear hb
  go_wp2_with fail
  have X2 : Blk (((w1.setCell ⟨w.heap.size, 0, none⟩ (.int .i64 a)).setCell ⟨w.heap.size, 1, none⟩ (.int .i64 b)).setCell ⟨w.heap.size, 2, none⟩ (.int .i64 c)) w.heap.size 36 #[.int .i64 a, .int .i64 b, .int .i64 c] := ((X.set_ 0 _).set_ 1 _).set_ 2 _
  obtain ⟨y0, y1, y2⟩ := X2.three
  refine bodyPost_ret (v := .tuple #[.agg #[.int .i64 a, .int .i64 b, .int .i64 c], .bool r]) ?hr rfl ⟨rfl, ?_⟩
  (case hr => simp [results, Tryd.results22, go_sem, y0, y1, y2])
  exact ((Bt.setCell (Nat.le_refl _) _).setCell (Nat.le_refl _) _).setCell (Nat.le_refl _) _
set_option maxHeartbeats 4000000 in
theorem implParFli_any (s : ByteArray) (w : World) (hn : s.size ≤ 1048576) (ht : TabI w) (hE : ErrI w) :
    Calls Tryd.prog 23 #[.string s] w fun e w' => e = .returned (.tuple #[.agg #[.int .i64 (orN (pfB s) (pfA s)), .int .i64 (orN (pfB s) (pfX s)), .int .i64 (orN (pfB s) (pfY s))], .bool (pfB s)]) ∧ Below w.heap.size w w' := by
  have CT := Lib.hid (fun u => cut_any s 114 u hn)
  have z1 := cutA_size s 114
  have z2 := cutZ_size s 114
  have y1 := ninR_length (cutA s 114) 116
  have y2 := ninR_length (cutZ s 114) 116
  have N1 := Lib.hid (fun u hu => numbersIn_any (cutA s 114) 116 u (by omega) (hE.below hu (Nat.le_refl _)))
  have N2 := Lib.hid (fun u hu => numbersIn_any (cutZ s 114) 116 u (by omega) (hE.below hu (Nat.le_refl _)))
  have hP := pf_nin (s := s)
  have hl : ninR (cutA s 114) 116 ++ ninR (cutZ s 114) 116 = pfL s := rfl
  generalize ninR (cutA s 114) 116 = l1 at *
  generalize ninR (cutZ s 114) 116 = l2 at *
  generalize cutA s 114 = s1 at *
  generalize cutZ s 114 = s2 at *
  generalize cutB s 114 = sb at *
  by_cases h3 : (pfL s).length = 3
  · obtain ⟨x, y, z, hxyz⟩ : ∃ x y z, pfL s = [x, y, z] := by
      match h : pfL s, h3 with
      | [x, y, z], _ => exact ⟨x, y, z, rfl⟩
    have MT := Lib.hid (fun u hu => implFlightText_any x y z u (ht.below hu))
    rw [hxyz] at hl hP
    clear h3 hxyz
    cases hm : fliB x y z
    · have hB : pfB s = false := by
        cases h : pfB s
        · rfl
        · have e := hP h
          simp only [List.cons.injEq, and_true] at e
          rw [e.1, e.2.1, e.2.2, (pf_to h).1] at hm; cases hm
      rw [hB, orN_no, orN_no, orN_no]
      have HM := Lib.hid hm
      have HL := Lib.hid hl
      clear hl hB hm hP
      go_enter Tryd.func23, Tryd.ntmps23
      go_wp2_with fail
      refine (CT.out _).mono ?_
      rintro e w1 ⟨rfl, hb1⟩
      have X := (Blk.new w 36 #[.int .i64 0, .int .i64 0, .int .i64 0]).below hb1 (by simp)
      have Bt : Below w.heap.size w w1 := (below_alloc _ _).trans (hb1.mono (by simp))
      have hs := X.lt
      clear hb1
      go_wp2_with fail
      refine (N1.out _ Bt).mono ?_
      rintro e w2 ⟨v1, rfl, ho1, hb2⟩
      have Bt2 : Below w.heap.size w w2 := Bt.trans (hb2.mono (by omega))
      have hz2 := hb2.size
      go_wp2_with fail
      refine (N2.out _ Bt2).mono ?_
      rintro e w3 ⟨v2, rfl, ho2, hb3⟩
      have hz3 := hb3.size
      have Bt3 : Below w.heap.size w w3 := Bt2.trans (hb3.mono (by omega))
      replace ho1 := ho1.below hb3 (Nat.le_refl _)
      replace X := (X.below hb2 hs).below hb3 (by omega)
      obtain ⟨A2, c2, rfl, hc2⟩ := ho2.form
      clear ho2 hb2 hb3 Bt Bt2
      go_wp2_with (at_builtin; refine wpList_append_rd' _ rfl _ _ rfl w1.heap.size _ _ _ _ rfl ho1 A2 _ c2 rfl rfl hc2 (by omega) (by omega) ?_; intro v' w4 hown4 hb4; rw [HL.out] at hown4; obtain ⟨A4, c4, rfl, hc⟩ := hown4.form; have X4 := X.below hb4 hs; have Bt4 : Below w.heap.size w w4 := Bt3.trans (hb4.mono (by omega)); obtain ⟨bb, o, rfl, hbb, d0⟩ := hc.at_ (k := 0) (by simp); obtain ⟨b2, o2, he, _, d1⟩ := hc.at_ (k := 1) (by simp); obtain ⟨rfl, rfl⟩ : bb = b2 ∧ o = o2 := (by injection he with e; injection e with e1 e2; exact ⟨e1, e2⟩); obtain ⟨b3, o3, he3, _, d2⟩ := hc.at_ (k := 2) (by simp); obtain ⟨rfl, rfl⟩ : bb = b3 ∧ o = o3 := (by injection he3 with e; injection e with e1 e2; exact ⟨e1, e2⟩); simp only [List.getD_cons_zero, List.getD_cons_succ, Nat.add_zero] at d0 d1 d2; clear hc he he3 hown4 hb4 ho1 hc2)
      go_region
      have hs4 := X4.lt
      have XM := (Blk.new w4 36 #[.int .i64 x, .int .i64 y, .int .i64 z]).drew'
      have XR := (X4.alloc (.cells #[.int .i64 x, .int .i64 y, .int .i64 z] 36)).drew'
      have BR := (Bt4.alloc (Nat.le_of_lt hs4) (.cells #[.int .i64 x, .int .i64 y, .int .i64 z] 36)).drew
      clear X X4 d0 d1 d2
      generalize (w4.alloc (.cells #[.int .i64 x, .int .i64 y, .int .i64 z] 36)).drew = w5 at *
      obtain ⟨m0, m1, m2⟩ := XM.three
      have zm := XM.lt
      go_wp2_with fail
      refine (MT.out _ BR).mono ?_
      rintro e w6 ⟨rfl, hb6⟩
      have X := XR.below hb6 XR.lt
      have XM3 := XM.below hb6 zm
      obtain ⟨x0, x1, x2⟩ := X.three
      obtain ⟨p0, p1, p2⟩ := XM3.three
      have f0 := X.frozen 0
      have f1 := X.frozen 1
      have f2 := X.frozen 2
      have B6 := BR.trans (hb6.mono (by omega))
      clear m0 m1 m2
      rw [HM.out, orS_no]
      go_wp2_with fail
      have X2 : Blk (((w6.setCell ⟨w.heap.size, 0, none⟩ (.int .i64 0)).setCell ⟨w.heap.size, 1, none⟩ (.int .i64 0)).setCell ⟨w.heap.size, 2, none⟩ (.int .i64 0)) w.heap.size 36 #[.int .i64 0, .int .i64 0, .int .i64 0] := ((X.set_ 0 _).set_ 1 _).set_ 2 _
      obtain ⟨y0, y1, y2⟩ := X2.three
      refine bodyPost_ret (v := .tuple #[.agg #[.int .i64 0, .int .i64 0, .int .i64 0], .bool false]) ?hr rfl ⟨rfl, ?_⟩
      (case hr => simp [results, Tryd.results23, go_sem, y0, y1, y2])
      exact ((B6.setCell (Nat.le_refl _) _).setCell (Nat.le_refl _) _).setCell (Nat.le_refl _) _
    · by_cases hs0 : flS x y z = s
      · obtain ⟨hB, hX, hY, hZ⟩ := pf_of hm
        rw [hs0] at hB hX hY hZ
        rw [hB, hX, hY, hZ, orN_yes, orN_yes, orN_yes]
        have HM := Lib.hid hm
        have HS := Lib.hid hs0
        have HL := Lib.hid hl
        clear hl hB hX hY hZ hm hs0 hP
        go_enter Tryd.func23, Tryd.ntmps23
        go_wp2_with fail
        refine (CT.out _).mono ?_
        rintro e w1 ⟨rfl, hb1⟩
        have X := (Blk.new w 36 #[.int .i64 0, .int .i64 0, .int .i64 0]).below hb1 (by simp)
        have Bt : Below w.heap.size w w1 := (below_alloc _ _).trans (hb1.mono (by simp))
        have hs := X.lt
        clear hb1
        go_wp2_with fail
        refine (N1.out _ Bt).mono ?_
        rintro e w2 ⟨v1, rfl, ho1, hb2⟩
        have Bt2 : Below w.heap.size w w2 := Bt.trans (hb2.mono (by omega))
        have hz2 := hb2.size
        go_wp2_with fail
        refine (N2.out _ Bt2).mono ?_
        rintro e w3 ⟨v2, rfl, ho2, hb3⟩
        have hz3 := hb3.size
        have Bt3 : Below w.heap.size w w3 := Bt2.trans (hb3.mono (by omega))
        replace ho1 := ho1.below hb3 (Nat.le_refl _)
        replace X := (X.below hb2 hs).below hb3 (by omega)
        obtain ⟨A2, c2, rfl, hc2⟩ := ho2.form
        clear ho2 hb2 hb3 Bt Bt2
        go_wp2_with (at_builtin; refine wpList_append_rd' _ rfl _ _ rfl w1.heap.size _ _ _ _ rfl ho1 A2 _ c2 rfl rfl hc2 (by omega) (by omega) ?_; intro v' w4 hown4 hb4; rw [HL.out] at hown4; obtain ⟨A4, c4, rfl, hc⟩ := hown4.form; have X4 := X.below hb4 hs; have Bt4 : Below w.heap.size w w4 := Bt3.trans (hb4.mono (by omega)); obtain ⟨bb, o, rfl, hbb, d0⟩ := hc.at_ (k := 0) (by simp); obtain ⟨b2, o2, he, _, d1⟩ := hc.at_ (k := 1) (by simp); obtain ⟨rfl, rfl⟩ : bb = b2 ∧ o = o2 := (by injection he with e; injection e with e1 e2; exact ⟨e1, e2⟩); obtain ⟨b3, o3, he3, _, d2⟩ := hc.at_ (k := 2) (by simp); obtain ⟨rfl, rfl⟩ : bb = b3 ∧ o = o3 := (by injection he3 with e; injection e with e1 e2; exact ⟨e1, e2⟩); simp only [List.getD_cons_zero, List.getD_cons_succ, Nat.add_zero] at d0 d1 d2; clear hc he he3 hown4 hb4 ho1 hc2)
        go_region
        have hs4 := X4.lt
        have XM := (Blk.new w4 36 #[.int .i64 x, .int .i64 y, .int .i64 z]).drew'
        have XR := (X4.alloc (.cells #[.int .i64 x, .int .i64 y, .int .i64 z] 36)).drew'
        have BR := (Bt4.alloc (Nat.le_of_lt hs4) (.cells #[.int .i64 x, .int .i64 y, .int .i64 z] 36)).drew
        clear X X4 d0 d1 d2
        generalize (w4.alloc (.cells #[.int .i64 x, .int .i64 y, .int .i64 z] 36)).drew = w5 at *
        obtain ⟨m0, m1, m2⟩ := XM.three
        have zm := XM.lt
        go_wp2_with fail
        refine (MT.out _ BR).mono ?_
        rintro e w6 ⟨rfl, hb6⟩
        have X := XR.below hb6 XR.lt
        have XM3 := XM.below hb6 zm
        obtain ⟨x0, x1, x2⟩ := X.three
        obtain ⟨p0, p1, p2⟩ := XM3.three
        have f0 := X.frozen 0
        have f1 := X.frozen 1
        have f2 := X.frozen 2
        have B6 := BR.trans (hb6.mono (by omega))
        clear m0 m1 m2
        rw [HM.out, orS_yes, HS.out]
        go_wp2_with fail
        have X2 : Blk (((w6.setCell ⟨w.heap.size, 0, none⟩ (.int .i64 x)).setCell ⟨w.heap.size, 1, none⟩ (.int .i64 y)).setCell ⟨w.heap.size, 2, none⟩ (.int .i64 z)) w.heap.size 36 #[.int .i64 x, .int .i64 y, .int .i64 z] := ((X.set_ 0 _).set_ 1 _).set_ 2 _
        obtain ⟨y0, y1, y2⟩ := X2.three
        refine bodyPost_ret (v := .tuple #[.agg #[.int .i64 x, .int .i64 y, .int .i64 z], .bool true]) ?hr rfl ⟨rfl, ?_⟩
        (case hr => simp [results, Tryd.results23, go_sem, y0, y1, y2])
        exact ((B6.setCell (Nat.le_refl _) _).setCell (Nat.le_refl _) _).setCell (Nat.le_refl _) _
      · have hB : pfB s = false := by
          cases h : pfB s
          · rfl
          · have e := hP h
            simp only [List.cons.injEq, and_true] at e
            rw [e.1, e.2.1, e.2.2, (pf_to h).2] at hs0; exact absurd rfl hs0
        rw [hB, orN_no, orN_no, orN_no]
        have HM := Lib.hid hm
        have e1 := text_ne hs0
        have e2 : (!((flS x y z).toList == s.toList)) = true := by rw [e1]; rfl
        have HL := Lib.hid hl
        clear hl hB hm hs0 hP
        go_enter Tryd.func23, Tryd.ntmps23
        go_wp2_with fail
        refine (CT.out _).mono ?_
        rintro e w1 ⟨rfl, hb1⟩
        have X := (Blk.new w 36 #[.int .i64 0, .int .i64 0, .int .i64 0]).below hb1 (by simp)
        have Bt : Below w.heap.size w w1 := (below_alloc _ _).trans (hb1.mono (by simp))
        have hs := X.lt
        clear hb1
        go_wp2_with fail
        refine (N1.out _ Bt).mono ?_
        rintro e w2 ⟨v1, rfl, ho1, hb2⟩
        have Bt2 : Below w.heap.size w w2 := Bt.trans (hb2.mono (by omega))
        have hz2 := hb2.size
        go_wp2_with fail
        refine (N2.out _ Bt2).mono ?_
        rintro e w3 ⟨v2, rfl, ho2, hb3⟩
        have hz3 := hb3.size
        have Bt3 : Below w.heap.size w w3 := Bt2.trans (hb3.mono (by omega))
        replace ho1 := ho1.below hb3 (Nat.le_refl _)
        replace X := (X.below hb2 hs).below hb3 (by omega)
        obtain ⟨A2, c2, rfl, hc2⟩ := ho2.form
        clear ho2 hb2 hb3 Bt Bt2
        go_wp2_with (at_builtin; refine wpList_append_rd' _ rfl _ _ rfl w1.heap.size _ _ _ _ rfl ho1 A2 _ c2 rfl rfl hc2 (by omega) (by omega) ?_; intro v' w4 hown4 hb4; rw [HL.out] at hown4; obtain ⟨A4, c4, rfl, hc⟩ := hown4.form; have X4 := X.below hb4 hs; have Bt4 : Below w.heap.size w w4 := Bt3.trans (hb4.mono (by omega)); obtain ⟨bb, o, rfl, hbb, d0⟩ := hc.at_ (k := 0) (by simp); obtain ⟨b2, o2, he, _, d1⟩ := hc.at_ (k := 1) (by simp); obtain ⟨rfl, rfl⟩ : bb = b2 ∧ o = o2 := (by injection he with e; injection e with e1 e2; exact ⟨e1, e2⟩); obtain ⟨b3, o3, he3, _, d2⟩ := hc.at_ (k := 2) (by simp); obtain ⟨rfl, rfl⟩ : bb = b3 ∧ o = o3 := (by injection he3 with e; injection e with e1 e2; exact ⟨e1, e2⟩); simp only [List.getD_cons_zero, List.getD_cons_succ, Nat.add_zero] at d0 d1 d2; clear hc he he3 hown4 hb4 ho1 hc2)
        go_region
        have hs4 := X4.lt
        have XM := (Blk.new w4 36 #[.int .i64 x, .int .i64 y, .int .i64 z]).drew'
        have XR := (X4.alloc (.cells #[.int .i64 x, .int .i64 y, .int .i64 z] 36)).drew'
        have BR := (Bt4.alloc (Nat.le_of_lt hs4) (.cells #[.int .i64 x, .int .i64 y, .int .i64 z] 36)).drew
        clear X X4 d0 d1 d2
        generalize (w4.alloc (.cells #[.int .i64 x, .int .i64 y, .int .i64 z] 36)).drew = w5 at *
        obtain ⟨m0, m1, m2⟩ := XM.three
        have zm := XM.lt
        go_wp2_with fail
        refine (MT.out _ BR).mono ?_
        rintro e w6 ⟨rfl, hb6⟩
        have X := XR.below hb6 XR.lt
        have XM3 := XM.below hb6 zm
        obtain ⟨x0, x1, x2⟩ := X.three
        obtain ⟨p0, p1, p2⟩ := XM3.three
        have f0 := X.frozen 0
        have f1 := X.frozen 1
        have f2 := X.frozen 2
        have B6 := BR.trans (hb6.mono (by omega))
        clear m0 m1 m2
        rw [HM.out, orS_yes]
        go_wp2_with fail
        have X2 : Blk (((w6.setCell ⟨w.heap.size, 0, none⟩ (.int .i64 0)).setCell ⟨w.heap.size, 1, none⟩ (.int .i64 0)).setCell ⟨w.heap.size, 2, none⟩ (.int .i64 0)) w.heap.size 36 #[.int .i64 0, .int .i64 0, .int .i64 0] := ((X.set_ 0 _).set_ 1 _).set_ 2 _
        obtain ⟨y0, y1, y2⟩ := X2.three
        refine bodyPost_ret (v := .tuple #[.agg #[.int .i64 0, .int .i64 0, .int .i64 0], .bool false]) ?hr rfl ⟨rfl, ?_⟩
        (case hr => simp [results, Tryd.results23, go_sem, y0, y1, y2])
        exact ((B6.setCell (Nat.le_refl _) _).setCell (Nat.le_refl _) _).setCell (Nat.le_refl _) _
  · have hB : pfB s = false := by
      cases h : pfB s
      · rfl
      · rw [hP h] at h3; exact absurd rfl h3
    rw [hB, orN_no, orN_no, orN_no]
    have h2a : ((pfL s).length : Int) ≠ 3 := by omega
    have h2b : (((pfL s).length : Int) == 3) = false := by simpa using h2a
    have h2c : (((pfL s).length : Int) != 3) = true := by simpa using h2a
    clear hP
    generalize pfL s = L at *
    have HL := Lib.hid hl
    clear hl hB h3
    go_enter Tryd.func23, Tryd.ntmps23
    go_wp2_with fail
    refine (CT.out _).mono ?_
    rintro e w1 ⟨rfl, hb1⟩
    have X := (Blk.new w 36 #[.int .i64 0, .int .i64 0, .int .i64 0]).below hb1 (by simp)
    have Bt : Below w.heap.size w w1 := (below_alloc _ _).trans (hb1.mono (by simp))
    have hs := X.lt
    clear hb1
    go_wp2_with fail
    refine (N1.out _ Bt).mono ?_
    rintro e w2 ⟨v1, rfl, ho1, hb2⟩
    have Bt2 : Below w.heap.size w w2 := Bt.trans (hb2.mono (by omega))
    have hz2 := hb2.size
    go_wp2_with fail
    refine (N2.out _ Bt2).mono ?_
    rintro e w3 ⟨v2, rfl, ho2, hb3⟩
    have hz3 := hb3.size
    have Bt3 : Below w.heap.size w w3 := Bt2.trans (hb3.mono (by omega))
    replace ho1 := ho1.below hb3 (Nat.le_refl _)
    replace X := (X.below hb2 hs).below hb3 (by omega)
    obtain ⟨A2, c2, rfl, hc2⟩ := ho2.form
    clear ho2 hb2 hb3 Bt Bt2
    go_wp2_with (at_builtin; refine wpList_append_rd' _ rfl _ _ rfl w1.heap.size _ _ _ _ rfl ho1 A2 _ c2 rfl rfl hc2 (by omega) (by omega) ?_; intro v' w4 hown4 hb4; rw [HL.out] at hown4; obtain ⟨A4, c4, rfl, hc⟩ := hown4.form; have X4 := X.below hb4 hs; have Bt4 : Below w.heap.size w w4 := Bt3.trans (hb4.mono (by omega)); clear hown4 hb4 ho1 hc2 hc; obtain ⟨x0, x1, x2⟩ := X4.three; have f0 := X4.frozen 0; have f1 := X4.frozen 1; have f2 := X4.frozen 2; generalize L.length = m at *)
    clear X
    have X := X4
    have X2 : Blk (((w4.setCell ⟨w.heap.size, 0, none⟩ (.int .i64 0)).setCell ⟨w.heap.size, 1, none⟩ (.int .i64 0)).setCell ⟨w.heap.size, 2, none⟩ (.int .i64 0)) w.heap.size 36 #[.int .i64 0, .int .i64 0, .int .i64 0] := ((X.set_ 0 _).set_ 1 _).set_ 2 _
    obtain ⟨y0, y1, y2⟩ := X2.three
    refine bodyPost_ret (v := .tuple #[.agg #[.int .i64 0, .int .i64 0, .int .i64 0], .bool false]) ?hr rfl ⟨rfl, ?_⟩
    (case hr => simp [results, Tryd.results23, go_sem, y0, y1, y2])
    exact ((Bt4.setCell (Nat.le_refl _) _).setCell (Nat.le_refl _) _).setCell (Nat.le_refl _) _

end Go.Proofs.YtfojcefbgdaelaaDoor
