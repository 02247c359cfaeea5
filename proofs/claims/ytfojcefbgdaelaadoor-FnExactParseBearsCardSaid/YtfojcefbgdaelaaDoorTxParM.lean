/- Contracts: the model's reading of a moving stair. -/
import Derived.Test.YtfojcefbgdaelaaDoorTxWords
import Derived.Test.YtfojcefbgdaelaaDoorTxMov
import Derived.Deep.RegionHeld3
namespace Go.Proofs.YtfojcefbgdaelaaDoor
open Go.RowKit
set_option maxRecDepth 100000

def mpX (s : ByteArray) : Int := rdI ((splitS s 118).getD 0 ⟨#[]⟩)
def mpY (s : ByteArray) : Int := rdI ((splitS s 118).getD 1 ⟨#[]⟩)
def mpB (s : ByteArray) : Bool := decide (s.size ≤ 6) && (decide ((splitS s 118).length = 2) && movB (mpX s) (mpY s))
def moV (b : Bool) (x y : Int) : Value := if b then .agg #[.int .i64 x, .int .i64 y] else .agg #[.int .i64 0, .int .i64 0]
theorem moV_no (x y : Int) : moV false x y = .agg #[.int .i64 0, .int .i64 0] := rfl
theorem moV_yes (x y : Int) : moV true x y = .agg #[.int .i64 x, .int .i64 y] := rfl
theorem word_le (s : ByteArray) (b : UInt8) : ∀ x ∈ splitS s b, x.size ≤ s.size := by
  have key : ∀ i, i ≤ s.size → ∀ x ∈ (spW s b i).1, x.size ≤ s.size := by
    intro i
    induction i with
    | zero => intro _ x hx; simp [spW] at hx
    | succ i ih =>
      intro h x hx
      unfold spW at hx
      split at hx
      · rcases List.mem_append.1 hx with hx | hx
        · exact ih (by omega) x hx
        · obtain rfl : x = _ := List.mem_singleton.1 hx
          simp; omega
      · exact ih (by omega) x hx
  intro x hx
  rcases List.mem_append.1 hx with hx | hx
  · exact key _ (Nat.le_refl _) x hx
  · obtain rfl : x = _ := List.mem_singleton.1 hx
    simp
set_option maxHeartbeats 2000000 in
theorem moParse_any (s : ByteArray) (w : World) (hn : s.size ≤ 1048576) :
    Calls Tryd.prog 55 #[.string s] w fun e w' => e = .returned (.tuple #[moV (mpB s) (mpX s) (mpY s), .bool (mpB s)]) ∧ Below w.heap.size w w' := by
  by_cases h6 : s.size ≤ 6
  · have h6' : ¬ (6 : Int) < (s.size : Int) := by omega
    by_cases h2 : (splitS s 118).length = 2
    · obtain ⟨x, y, hxy⟩ : ∃ x y, splitS s 118 = [x, y] := by
        match h : splitS s 118, h2 with
        | [x, y], _ => exact ⟨x, y, rfl⟩
      have eB : mpB s = movB (rdI x) (rdI y) := by simp [mpB, mpX, mpY, hxy, h6]
      have eX : mpX s = rdI x := by simp [mpX, hxy]
      have eY : mpY s = rdI y := by simp [mpY, hxy]
      have sx := word_le s 118 x (by rw [hxy]; simp)
      have sy := word_le s 118 y (by rw [hxy]; simp)
      have L1 := Lib.hid (fun u => l1Read_any x u (by omega))
      have L2 := Lib.hid (fun u => l1Read_any y u (by omega))
      have GM := Lib.hid (fun u => moGood_any (rdI x) (rdI y) u)
      rw [eB, eX, eY]
      have HXY := Lib.hid hxy
      clear eB eX eY h2 hxy
      generalize rdI x = X0 at *
      generalize rdI y = Y0 at *
      go_enter Tryd.func55, Tryd.ntmps55
      go_wp2_with fail
      refine (l1Split_any s 118 _ hn).mono ?_
      rintro e w1 ⟨v, rfl, ho, hb⟩
      rw [HXY.out] at ho
      obtain ⟨A, c, rfl, hc⟩ := ho.form
      have X := (Blk.new w 26 #[.int .i64 0, .int .i64 0]).below hb (by simp)
      have Bt : Below w.heap.size w w1 := (below_alloc _ _).trans (hb.mono (by simp))
      have hs := X.lt
      obtain ⟨x0, x1⟩ := X.two
      have f0 := X.frozen 0
      have f1 := X.frozen 1
      clear hb ho
      obtain ⟨g, hA, hg, d0⟩ := hc 0 (by simp)
      obtain ⟨g', hA', _, d1⟩ := hc 1 (by simp)
      obtain rfl : g = g' := by rw [hA] at hA'; injection hA' with e; injection e
      subst hA
      simp only [List.getD_cons_zero, List.getD_cons_succ] at d0 d1
      clear hc hA'
      go_wp2_with fail
      go_region_held3 (fun u => u.cell? ⟨g, 0, none⟩ = some (.string x) ∧ u.cell? ⟨g, 1, none⟩ = some (.string y)) (first | exact ⟨d0, d1⟩ | go_keep)
        (first
          | (go_at_call_of 73 (Value.string x); refine (L1.out _).mono ?_; rintro e w' ⟨rfl, rfl⟩)
          | (go_at_call_of 73 (Value.string y); refine (L2.out _).mono ?_; rintro e w' ⟨rfl, rfl⟩)
        )
      all_goals
        have XM := Blk.new w1 26 #[.int .i64 X0, .int .i64 Y0]
        have XR := X.alloc (.cells #[.int .i64 X0, .int .i64 Y0] 26)
        have BR := (Bt.alloc (Nat.le_of_lt hs) (.cells #[.int .i64 X0, .int .i64 Y0] 26)).drew
        replace XM := XM.drew'
        replace XR := XR.drew'
        clear X x0 x1 f0 f1 d0 d1
        generalize (w1.alloc (.cells #[.int .i64 X0, .int .i64 Y0] 26)).drew = w2 at *
        obtain ⟨m0, m1⟩ := XM.two
        have zm := XM.lt
        go_wp2_with fail
        refine (GM.out _).mono ?_
        rintro e w3 ⟨rfl, hb3⟩
        have X := XR.below hb3 XR.lt
        have XM3 := XM.below hb3 zm
        obtain ⟨x0, x1⟩ := X.two
        obtain ⟨p0, p1⟩ := XM3.two
        have f0 := X.frozen 0
        have f1 := X.frozen 1
        have B3 := BR.trans (hb3.mono (by omega))
        cases hm : movB X0 Y0
        · have HM := Lib.hid hm
          clear hm
          go_wp2_with fail
          have X2 : Blk ((w3.setCell ⟨w.heap.size, 0, none⟩ (.int .i64 0)).setCell ⟨w.heap.size, 1, none⟩ (.int .i64 0)) w.heap.size 26 #[.int .i64 0, .int .i64 0] := (X.set_ 0 _).set_ 1 _
          obtain ⟨y0, y1⟩ := X2.two
          refine bodyPost_ret (v := .tuple #[.agg #[.int .i64 0, .int .i64 0], .bool false]) ?hr rfl ⟨by rw [HM.out]; rfl, ?_⟩
          (case hr => simp [results, Tryd.results55, go_sem, y0, y1])
          exact (B3.setCell (Nat.le_refl _) _).setCell (Nat.le_refl _) _
        · have HM := Lib.hid hm
          clear hm
          go_wp2_with fail
          have X2 : Blk ((w3.setCell ⟨w.heap.size, 0, none⟩ (.int .i64 X0)).setCell ⟨w.heap.size, 1, none⟩ (.int .i64 Y0)) w.heap.size 26 #[.int .i64 X0, .int .i64 Y0] := (X.set_ 0 _).set_ 1 _
          obtain ⟨y0, y1⟩ := X2.two
          refine bodyPost_ret (v := .tuple #[.agg #[.int .i64 X0, .int .i64 Y0], .bool true]) ?hr rfl ⟨by rw [HM.out]; rfl, ?_⟩
          (case hr => simp [results, Tryd.results55, go_sem, y0, y1])
          exact (B3.setCell (Nat.le_refl _) _).setCell (Nat.le_refl _) _

    · have eB : mpB s = false := by simp [mpB, h2]
      rw [eB, moV_no]
      have h2' : ¬ ((splitS s 118).length : Int) = 2 := by omega
      have h2b : (((splitS s 118).length : Int) == 2) = false := by simpa using h2'
      have h6b : decide ((6 : Int) < (s.size : Int)) = false := decide_eq_false (by omega)
      go_enter Tryd.func55, Tryd.ntmps55
      go_wp2_with fail
      refine (l1Split_any s 118 _ hn).mono ?_
      rintro e w1 ⟨v, rfl, ho, hb⟩
      obtain ⟨A, c, rfl, hc⟩ := ho.form
      have X := (Blk.new w 26 #[.int .i64 0, .int .i64 0]).below hb (by simp)
      have Bt : Below w.heap.size w w1 := (below_alloc _ _).trans (hb.mono (by simp))
      have hs := X.lt
      obtain ⟨x0, x1⟩ := X.two
      have f0 := X.frozen 0
      have f1 := X.frozen 1
      clear hb ho
      go_wp2_with fail
      have X2 : Blk ((w1.setCell ⟨w.heap.size, 0, none⟩ (.int .i64 0)).setCell ⟨w.heap.size, 1, none⟩ (.int .i64 0)) w.heap.size 26 #[.int .i64 0, .int .i64 0] := (X.set_ 0 _).set_ 1 _
      obtain ⟨y0, y1⟩ := X2.two
      refine bodyPost_ret (v := .tuple #[.agg #[.int .i64 0, .int .i64 0], .bool false]) ?hr rfl ⟨rfl, ?_⟩
      (case hr => simp [results, Tryd.results55, go_sem, y0, y1])
      exact (Bt.setCell (Nat.le_refl _) _).setCell (Nat.le_refl _) _
  · have eB : mpB s = false := by simp [mpB, h6]
    rw [eB, moV_no]
    have h6' : (6 : Int) < (s.size : Int) := by omega
    go_enter Tryd.func55, Tryd.ntmps55
    go_wp2_with fail
    refine (l1Split_any s 118 _ hn).mono ?_
    rintro e w1 ⟨v, rfl, ho, hb⟩
    obtain ⟨A, c, rfl, hc⟩ := ho.form
    have X := (Blk.new w 26 #[.int .i64 0, .int .i64 0]).below hb (by simp)
    have Bt : Below w.heap.size w w1 := (below_alloc _ _).trans (hb.mono (by simp))
    have hs := X.lt
    obtain ⟨x0, x1⟩ := X.two
    have f0 := X.frozen 0
    have f1 := X.frozen 1
    clear hb ho
    go_wp2_with fail
    have X2 : Blk ((w1.setCell ⟨w.heap.size, 0, none⟩ (.int .i64 0)).setCell ⟨w.heap.size, 1, none⟩ (.int .i64 0)) w.heap.size 26 #[.int .i64 0, .int .i64 0] := (X.set_ 0 _).set_ 1 _
    obtain ⟨y0, y1⟩ := X2.two
    refine bodyPost_ret (v := .tuple #[.agg #[.int .i64 0, .int .i64 0], .bool false]) ?hr rfl ⟨rfl, ?_⟩
    (case hr => simp [results, Tryd.results55, go_sem, y0, y1])
    exact (Bt.setCell (Nat.le_refl _) _).setCell (Nat.le_refl _) _

theorem toList_snoc (a c : ByteArray) (b : UInt8) : (a ++ ⟨#[b]⟩ ++ c).data.toList = a.data.toList ++ b :: c.data.toList := by simp
theorem ext_list {a c : ByteArray} (h : a.data.toList = c.data.toList) : a = c := by
  apply ByteArray.ext
  exact Array.toList_inj.1 h
theorem dg_not {s : ByteArray} {b : UInt8} (hb : 57 < b.toNat) : ∀ k, k ≤ s.size → dgB s k = true → b ∉ s.data.toList.take k
  | 0, _, _ => by simp
  | k + 1, hk, hd => by
    have hd' : (dgB s k && (decide (48 ≤ btS s k) && decide (btS s k ≤ 57))) = true := hd
    rw [Bool.and_eq_true, Bool.and_eq_true, decide_eq_true_eq, decide_eq_true_eq] at hd'
    have ih := dg_not hb k (by omega) hd'.1
    have h2 : k < s.data.size := hk
    have h' : k < s.data.toList.length := by simpa using h2
    rw [List.take_succ_eq_append_getElem h']
    intro hm
    rcases List.mem_append.1 hm with hm | hm
    · exact ih hm
    · have e : b = s.data.toList[k] := List.mem_singleton.1 hm
      have e2 : btS s k = b.toNat := by
        unfold btS
        rw [e]
        simp only [Array.getElem_toList, Array.getD_eq_getD_getElem?]
        rw [Array.getElem?_eq_getElem h2]; rfl
      omega
theorem num_not (n : Int) (h0 : 0 ≤ n) {b : UInt8} (hb : 57 < b.toNat) : b ∉ (numS n).data.toList := by
  have h := (numS_tells (n.toNat + 1) n h0 (by omega)).1
  have := dg_not hb _ (Nat.le_refl _) h
  rwa [List.take_of_length_le (by simp)] at this
theorem num_len {n : Int} {k : Nat} (h : n.toNat < 10 ^ (k + 1)) : (numS n).size ≤ k + 1 := by
  have := dec_len k n.toNat h
  simpa [numS, ByteArray.size] using this
theorem mp_of {x y : Int} (h : movB x y = true) : mpB (moS x y) = true ∧ mpX (moS x y) = x ∧ mpY (moS x y) = y := by
  have b := movB_le h
  have lx : (numS x).size ≤ 3 := num_len (k := 2) (by omega)
  have ly : (numS y).size ≤ 2 := num_len (k := 1) (by omega)
  have hs := split_is (s := moS x y) (b := 118) (ws := [(numS x).data.toList]) (l := (numS y).data.toList) (fun w hw => by
    obtain rfl : w = _ := List.mem_singleton.1 hw
    exact num_not x (by omega) (by decide)) (num_not y (by omega) (by decide)) (by unfold moS; rw [toList_snoc]; rfl)
  obtain ⟨a, c, hac⟩ : ∃ a c, splitS (moS x y) 118 = [a, c] := by
    have hl : (splitS (moS x y) 118).length = 2 := by have := congrArg List.length hs; simpa using this
    match h : splitS (moS x y) 118, hl with
    | [a, c], _ => exact ⟨a, c, rfl⟩
  rw [hac] at hs
  simp only [List.map_cons, List.map_nil, List.cons_append, List.nil_append, List.cons.injEq, and_true] at hs
  obtain rfl := ext_list hs.1
  obtain rfl := ext_list hs.2
  have ex : mpX (moS x y) = x := by unfold mpX; rw [hac]; exact rdI_numS (by omega) (by omega)
  have ey : mpY (moS x y) = y := by unfold mpY; rw [hac]; exact rdI_numS (by omega) (by omega)
  have sz : (moS x y).size ≤ 6 := by unfold moS; simp only [ByteArray.size_append, one_size]; omega
  exact ⟨by unfold mpB; rw [hac, ex, ey, h]; simp [sz], ex, ey⟩
theorem mp_to {s : ByteArray} (h : mpB s = true) : movB (mpX s) (mpY s) = true ∧ moS (mpX s) (mpY s) = s := by
  simp only [mpB, Bool.and_eq_true, decide_eq_true_eq] at h
  obtain ⟨_, h2, h3⟩ := h
  refine ⟨h3, ?_⟩
  have b := movB_le h3
  obtain ⟨ws, l, e1, e2⟩ := split_cat s 118
  obtain ⟨a, rfl⟩ : ∃ a, ws = [a] := by
    rw [e1] at h2
    have h4 : ws.length = 1 := by simpa using h2
    match ws, h4 with
    | [a], _ => exact ⟨a, rfl⟩
  have ex : mpX s = rdI a := by unfold mpX; rw [e1]; rfl
  have ey : mpY s = rdI l := by unfold mpY; rw [e1]; rfl
  rw [ex, ey] at b ⊢
  unfold moS
  rw [numS_rdI (by omega), numS_rdI (by omega)]
  apply ext_list
  rw [toList_snoc, ← e2]
  rfl

end Go.Proofs.YtfojcefbgdaelaaDoor
