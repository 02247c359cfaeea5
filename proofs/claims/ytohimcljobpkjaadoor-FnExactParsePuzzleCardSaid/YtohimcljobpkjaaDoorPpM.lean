/- Contracts: reading a puzzle, the model. -/
import Derived.Test.YtohimcljobpkjaaDoorPpA
import Derived.Deep.RegionHeld3
import Derived.Deep.DeepCutAuto
namespace Go.Proofs.YtohimcljobpkjaaDoor
set_option maxRecDepth 100000
open Go.RowKit

def mR (s : ByteArray) : List Tri := if s.size = 0 then [] else (splitS s 44).map mC
theorem OwnS.mono {w : World} {B B' : Nat} {v : Value} {xs : List ByteArray} (h : OwnS w B v xs) (hB : B' ≤ B) : OwnS w B' v xs := by
  refine ⟨h.1, ?_⟩
  rcases h.2 with h0 | ⟨g, cap, cur, rfl, hg, r⟩
  · exact .inl h0
  · exact .inr ⟨g, cap, cur, rfl, by omega, r⟩
theorem OwnS.turned {w w' : World} {B : Nat} {v : Value} {xs : List ByteArray} {L : List Nat} (h : OwnS w B v xs) (hb : Turned w w' L) (hL : ∀ k, v.ownBlock = some k → k ∉ L) : OwnS w' B v xs := by
  refine ⟨h.1, ?_⟩
  rcases h.2 with h0 | ⟨g, cap, cur, rfl, hg, hh, r⟩
  · exact .inl h0
  · exact .inr ⟨g, cap, cur, rfl, hg, by rw [hb.block g (Array.getElem?_eq_some_iff.1 hh).1 (hL g rfl)]; exact hh, r⟩
/-- what the model's reading leaves -/
def PpPost (w : World) (s : ByteArray) (e : Ending) (w' : World) : Prop :=
  ∃ A n c, e = .returned (.tuple #[.agg #[.slice A n c], .bool (mB s)]) ∧ (mB s = true → n = (mR s).length ∧ OwnF w' w.heap.size (.slice A (mR s).length c) (mR s)) ∧ Below w.heap.size w w'

theorem split_len (s : ByteArray) (b : UInt8) : (splitS s b).length ≤ s.size + 1 := by
  have := rdL_length s b
  simpa [rdL] using this
theorem take_map {ws : List ByteArray} {k : Nat} (h : k < ws.length) : (ws.take (k + 1)).map mC = (ws.take k).map mC ++ [mC (ws.getD k ⟨#[]⟩)] := by
  rw [List.take_succ_eq_append_getElem h, List.map_append, List.map_singleton, List.getD_eq_getElem?_getD, List.getElem?_eq_getElem h, Option.getD_some]
theorem all_step_take {ws : List ByteArray} {k : Nat} {f : ByteArray → Bool} (h : k < ws.length) : (ws.take (k + 1)).all f = ((ws.take k).all f && f (ws.getD k ⟨#[]⟩)) := by
  rw [List.take_succ_eq_append_getElem h, List.all_append, List.getD_eq_getElem?_getD, List.getElem?_eq_getElem h, Option.getD_some]
  simp
theorem all_no_take {ws : List ByteArray} {k : Nat} {f : ByteArray → Bool} (h : k < ws.length) (hf : f (ws.getD k ⟨#[]⟩) = false) : ws.all f = false := by
  cases ha : ws.all f
  · rfl
  · have := List.all_eq_true.1 ha (ws.getD k ⟨#[]⟩) (by simp [List.getD_eq_getElem?_getD, h])
    rw [this] at hf; cases hf

set_option maxHeartbeats 16000000 in
theorem pzParse_any (s : ByteArray) (w : World) (hn : s.size ≤ 1048576) :
    Calls Tryd.prog 22 #[.string s] w (PpPost w s) := by
  have R0 : Blk ((w.alloc (.cells #[.slice none 0 0] 30)).alloc (.cells #[.slice none 0 0] 30)) w.heap.size 30 #[.slice none 0 0] := (Blk.new' rfl).alloc _
  have P0 : Blk ((w.alloc (.cells #[.slice none 0 0] 30)).alloc (.cells #[.slice none 0 0] 30)) (w.heap.size + 1) 30 #[.slice none 0 0] := Blk.new' (by simp)
  have b0 : Below w.heap.size w ((w.alloc (.cells #[.slice none 0 0] 30)).alloc (.cells #[.slice none 0 0] 30)) := (below_alloc _ _).alloc (by simp) _
  have z0 : w.heap.size + 2 ≤ ((w.alloc (.cells #[.slice none 0 0] 30)).alloc (.cells #[.slice none 0 0] 30)).heap.size := by simp
  go_enter Tryd.func22, Tryd.ntmps22
  go_upto_region 2 with fail
  generalize ((w.alloc (.cells #[.slice none 0 0] 30)).alloc (.cells #[.slice none 0 0] 30)) = u at *
  have p0 := P0.cell 0
  have lP := P0.lt
  have q0 := R0.cell 0
  have f0 := R0.frozen 0
  have lR := R0.lt
  by_cases h60 : 60 < s.size
  · have h60' : (60 : Int) < (s.size : Int) := by omega
    have HB := Lib.hid (show mB s = false by have : decide (s.size ≤ 60) = false := decide_eq_false (by omega); simp [mB, this])
    go_wp2_with fail
    have r9 := (R0.set_ 0 (.slice none 0 0)).cell 0
    refine bodyPost_ret (v := .tuple #[.agg #[.slice none 0 0], .bool false]) (by simp [results, Tryd.results22, go_sem, r9]) rfl ?_
    exact ⟨none, 0, 0, by rw [HB.out], fun h => (by rw [HB.out] at h; cases h), b0.setCell (p := ⟨w.heap.size, 0, none⟩) (Nat.le_refl _) _⟩
  · have h60' : ¬ (60 : Int) < (s.size : Int) := by omega
    by_cases hz : s.size = 0
    · have hs := size_zero hz
      have HB := Lib.hid (show mB s = true by simp [mB, hz])
      have HR := Lib.hid (show mR s = [] by simp [mR, hz])
      have HS := Lib.hid hs
      clear hz
      subst hs
      go_wp2_with fail
      have r9 := (R0.set_ 0 (.slice none 0 0)).cell 0
      refine bodyPost_ret (v := .tuple #[.agg #[.slice none 0 0], .bool true]) (by simp [results, Tryd.results22, go_sem, r9]) rfl ?_
      exact ⟨none, 0, 0, by rw [HB.out], fun _ => ⟨by rw [HR.out]; rfl, by rw [HR.out]; exact OwnF.nil _ _⟩, b0.setCell (p := ⟨w.heap.size, 0, none⟩) (Nat.le_refl _) _⟩
    · have hne := text_ne (a := s) (b := ⟨#[]⟩) (fun e => hz (by rw [e]; rfl))
      have hne2 : s.toList.isEmpty = false := by
        cases h : s.toList.isEmpty
        · rfl
        · have h1 : s.toList = [] := by simpa using h
          rw [h1] at hne
          have h2 : (⟨#[]⟩ : ByteArray).toList = [] := by
            unfold ByteArray.toList ByteArray.toList.loop
            simp
            intro h
            exact absurd h (by decide)
          rw [h2] at hne
          exact absurd hne (by decide)
      clear hne
      have HR := Lib.hid (show mR s = (splitS s 44).map mC by simp [mR, hz])
      have HB := Lib.hid (show mB s = ((splitS s 44).all mT && (puzB ((splitS s 44).map mC) && decide (pzS ((splitS s 44).map mC) (splitS s 44).length = s))) by
        have h1 : decide (s.size ≤ 60) = true := decide_eq_true (by omega)
        have h2 : decide (s.size = 0) = false := decide_eq_false hz
        simp only [mB, h1, h2, Bool.true_and, Bool.false_or])
      have HW := Lib.hid (fun x hx => word_le s 44 x hx)
      have SP := Lib.hid (l1Split_any s 44 u hn)
      have hwl := split_len s 44
      generalize hws : splitS s 44 = ws at *
      clear hws hz
      go_wp2_with fail
      refine SP.out.mono ?_
      rintro e w1 ⟨v1, rfl, ho1, hb1⟩
      obtain ⟨A1, c1, rfl, hc1⟩ := ho1.form
      have P1 := P0.below hb1 P0.lt
      have R1 := R0.below hb1 R0.lt
      have b1 := b0.trans (hb1.mono b0.size)
      have z1 := Nat.le_trans z0 hb1.size
      have hg1l := fun j h => (ho1.lt j h).2
      replace ho1 := OwnS.mono ho1 z0
      clear p0 q0 f0 P0 R0 hc1 SP
      go_wp2_with fail
      go_loopw [6, 7, 19] (fun _ _ i wr => ∃ (k : Nat) (Aq : Option Addr) (cq : Nat), k ≤ ws.length ∧ i = .int .i64 k ∧ (ws.take k).all mT = true ∧ Blk wr (w.heap.size + 1) 30 #[.slice Aq k cq] ∧ Blk wr w.heap.size 30 #[.slice none 0 0] ∧ OwnF wr w1.heap.size (.slice Aq k cq) ((ws.take k).map mC) ∧ Below w.heap.size w wr ∧ OwnS wr (w.heap.size + 2) (.slice A1 ws.length c1) ws ∧ w1.heap.size ≤ wr.heap.size) (fun _ _ i _ => ws.length - (intOf i).toNat)
      case atStart => exact ⟨0, none, 0, Nat.zero_le _, rfl, rfl, P1, R1, OwnF.nil _ _, b1, ho1, Nat.le_refl _⟩
      case round =>
        obtain ⟨k, Aq, cq, hk, rfl, hall, hP, hR, hown, hbw, hows, z1w⟩ := hrel
        have zw : w.heap.size + 2 ≤ wr.heap.size := by have := hP.lt; omega
        have p0 := hP.cell 0
        have lP := hP.lt
        have q0 := hR.cell 0
        have f0 := hR.frozen 0
        have lR := hR.lt
        by_cases hlt : k < ws.length
        · obtain ⟨A1', c1', he, hc1⟩ := hows.form
          cases he
          obtain ⟨g1, rfl, hg1, hcell⟩ := hc1 k hlt
          have hxs := HW.out (ws.getD k ⟨#[]⟩) (by simp [List.getD_eq_getElem?_getD, hlt])
          have SX := Lib.hid (l1Split_any (ws.getD k ⟨#[]⟩) 46 wr (by omega))
          have hstep := take_map hlt
          have HST := Lib.hid hstep
          have hal := Lib.hid (all_step_take (f := mT) hlt)
          have HT := Lib.hid (show mT (ws.getD k ⟨#[]⟩) = decide ((splitS (ws.getD k ⟨#[]⟩) 46).length = 3) from rfl)
          have HCm := Lib.hid (show mC (ws.getD k ⟨#[]⟩) = (rdI ((splitS (ws.getD k ⟨#[]⟩) 46).getD 0 ⟨#[]⟩), rdI ((splitS (ws.getD k ⟨#[]⟩) 46).getD 1 ⟨#[]⟩), rdI ((splitS (ws.getD k ⟨#[]⟩) 46).getD 2 ⟨#[]⟩)) from rfl)
          have HNX := Lib.hid (fun y hy => word_le (ws.getD k ⟨#[]⟩) 46 y hy)
          have HNO := Lib.hid (fun (h : mT (ws.getD k ⟨#[]⟩) = false) => all_no_take (f := mT) hlt h)
          clear hstep
          generalize ws.getD k ⟨#[]⟩ = x at *
          generalize hns : splitS x 46 = ns at *
          clear hns
          go_wp2_with fail
          refine SX.out.mono ?_
          rintro e w2 ⟨v2, rfl, ho2, hb2⟩
          obtain ⟨A2, c2, rfl, hc2⟩ := ho2.form
          have P2 := hP.below hb2 hP.lt
          have R2 := hR.below hb2 hR.lt
          have hown2 := hown.below hb2 (Nat.le_refl _)
          have hows2 := OwnS.below hows hb2 (Nat.le_refl _)
          have bw2 := hbw.trans (hb2.mono (by omega))
          have z2 := Nat.le_trans zw hb2.size
          have z12 := Nat.le_trans z1w hb2.size
          have lo2 := fun i h => (ho2.lt i h).1
          have lq := fun i h => (hown.lt i h).2
          clear hP hR hown hows hbw p0 q0 f0 lP lR SX hcell
          have p0 := P2.cell 0
          have lP := P2.lt
          have q0 := R2.cell 0
          have f0 := R2.frozen 0
          have lR := R2.lt
          by_cases h3 : ns.length = 3
          · have h3b : ((ns.length : Int) == 3) = true := by simp [h3]
            have h3i : (ns.length : Int) = 3 := by omega
            have hmt : mT x = true := by rw [HT.out]; exact decide_eq_true h3
            have HALL := Lib.hid (show (ws.take (k + 1)).all mT = true by rw [hal.out, hall, hmt]; rfl)
            have hL3 : ns.length = 3 := h3
            obtain ⟨gn, hA2, hgn, d0⟩ := hc2 0 (by omega)
            cases hA2
            obtain ⟨gn', hA2, _, d1⟩ := hc2 1 (by omega)
            cases hA2
            obtain ⟨gn', hA2, _, d2⟩ := hc2 2 (by omega)
            cases hA2
            have z3 : ∀ i, i < 3 → (ns.getD i ⟨#[]⟩).size ≤ 1048576 := fun i hi => by
              have := HNX.out (ns.getD i ⟨#[]⟩) (by simp [List.getD_eq_getElem?_getD, show i < ns.length by omega])
              omega
            have L0 := Lib.hid (fun u => l1Read_any (ns.getD 0 ⟨#[]⟩) u (z3 0 (by omega)))
            have L1 := Lib.hid (fun u => l1Read_any (ns.getD 1 ⟨#[]⟩) u (z3 1 (by omega)))
            have L2 := Lib.hid (fun u => l1Read_any (ns.getD 2 ⟨#[]⟩) u (z3 2 (by omega)))
            have hgw : wr.heap.size ≤ gn := lo2 gn rfl
            have hgq : gn ∉ rowL (.slice Aq k cq) := fun hm => by have := lq _ (mem_rowL.1 hm); omega
            have lo5 := fun i h => (hown2.lt i h).1
            have e0 : (0 : Int) < (ns.length : Int) := by omega
            have e1 : (1 : Int) < (ns.length : Int) := by omega
            have e2 : (2 : Int) < (ns.length : Int) := by omega
            have m0 : 0 < ns.length := by omega
            have m1 : 1 < ns.length := by omega
            have m2 : 2 < ns.length := by omega
            have H3 := Lib.hid h3i
            have hql := Lib.hid (show ((ws.take k).map mC).length = k by simp; omega)
            clear h3 hL3 hc2 z3 HNX HT hal hmt HNO h3i
            generalize ns.getD 0 ⟨#[]⟩ = t0 at *
            generalize ns.getD 1 ⟨#[]⟩ = t1 at *
            generalize ns.getD 2 ⟨#[]⟩ = t2 at *
            generalize rdI t0 = i0 at *
            generalize rdI t1 = i1 at *
            generalize rdI t2 = i2 at *
            generalize mC x = cx at *
            generalize hqs : (ws.take k).map mC = qs at *
            clear hqs
            have hk6 : qs.length ≤ 1048577 := by rw [hql.out]; omega
            rw [← hql.out] at hown2 p0 P2 hgq lo5
            have bCW := blk_rd1c (w := (w2.alloc (.cells #[.int .i64 i0, .int .i64 i1, .int .i64 i2] 44)).drew) (Blk.new' (w := w2) rfl)
            go_wp2_with fail
            refine wp_region_z (fun u => u.cell? ⟨w.heap.size + 1, 0, none⟩ = some (.slice Aq qs.length cq) ∧ u.cell? ⟨gn, 0, none⟩ = some (.string t0) ∧ u.cell? ⟨gn, 1, none⟩ = some (.string t1) ∧ u.cell? ⟨gn, 2, none⟩ = some (.string t2)) 18 (by kernel_rfl) ⟨p0, d0, d1, d2⟩ (fun hHeld => ?_)
            refine wpAnyZ_take (i := 0) (v := ?_) rfl (by kernel_rfl) (by kernel_rfl) (by kernel_rfl) (by kernel_rfl) (fun _ _ _ h => h) (Or.inl ⟨by rfl, ?hy⟩) hHeld ?_
            case hy => ((intro u hSu); (try dsimp only at hSu); go_simp; (try with_reducible rfl))
            try simp only [Act.put]
            refine wpAnyZ_take (i := 1) (v := ?_) rfl (by kernel_rfl) (by kernel_rfl) (by kernel_rfl) (by kernel_rfl) (fun _ _ _ h => h) (Or.inl ⟨by rfl, ?hy⟩) hHeld ?_
            case hy => ((intro u hSu); (try dsimp only at hSu); go_simp; (try with_reducible rfl))
            try simp only [Act.put]
            refine wpAnyZ_take (i := 2) (v := ?_) rfl (by kernel_rfl) (by kernel_rfl) (by kernel_rfl) (by kernel_rfl) (fun _ _ _ h => h) (Or.inl ⟨by rfl, ?hy⟩) hHeld ?_
            case hy => ((intro u hSu); (try dsimp only at hSu); go_simp; (try with_reducible rfl))
            try simp only [Act.put]
            refine wpAnyZ_take (i := 3) (v := ?_) rfl (by kernel_rfl) (by kernel_rfl) (by kernel_rfl) (by kernel_rfl) (fun _ _ _ h => h) (Or.inl ⟨by rfl, ?hy⟩) hHeld ?_
            case hy => ((intro u hSu); (try dsimp only at hSu); go_simp; (try with_reducible rfl))
            try simp only [Act.put]
            refine wpAnyZ_take (i := 4) (v := ?_) rfl (by kernel_rfl) (by kernel_rfl) (by kernel_rfl) (by kernel_rfl) (fun _ _ _ h => h) (Or.inl ⟨by rfl, ?hy⟩) hHeld ?_
            case hy => ((intro u hSu); (try dsimp only at hSu); go_simp; (try with_reducible rfl))
            try simp only [Act.put]
            refine wpAnyZ_take (i := 6) (v := ?_) rfl (by kernel_rfl) (by kernel_rfl) (by kernel_rfl) (by kernel_rfl) (fun _ _ _ h => h) (Or.inl ⟨by rfl, ?hy⟩) hHeld ?_
            case hy => ((intro u hSu); (try dsimp only at hSu); go_simp; (try with_reducible rfl))
            try simp only [Act.put]
            refine wpAnyZ_take (i := 7) (v := ?_) rfl (by kernel_rfl) (by kernel_rfl) (by kernel_rfl) (by kernel_rfl) (fun _ _ _ h => h) (Or.inl ⟨by rfl, ?hy⟩) hHeld ?_
            case hy => ((intro u hSu); (try dsimp only at hSu); go_simp; (try with_reducible rfl))
            try simp only [Act.put]
            refine wpAnyZ_take (i := 8) (v := ?_) rfl (by kernel_rfl) (by kernel_rfl) (by kernel_rfl) (by kernel_rfl) (fun _ _ _ h => h) (Or.inl ⟨by rfl, ?hy⟩) hHeld ?_
            case hy => ((intro u hSu); (try dsimp only at hSu); go_simp; (try with_reducible rfl))
            try simp only [Act.put]
            refine wpAnyZ_take (i := 10) (v := ?_) rfl (by kernel_rfl) (by kernel_rfl) (by kernel_rfl) (by kernel_rfl) (fun _ _ _ h => h) (Or.inl ⟨by rfl, ?hy⟩) hHeld ?_
            case hy => ((intro u hSu); (try dsimp only at hSu); go_simp; (try with_reducible rfl))
            try simp only [Act.put]
            refine wpAnyZ_take (i := 11) (v := ?_) rfl (by kernel_rfl) (by kernel_rfl) (by kernel_rfl) (by kernel_rfl) (fun _ _ _ h => h) (Or.inl ⟨by rfl, ?hy⟩) hHeld ?_
            case hy => ((intro u hSu); (try dsimp only at hSu); go_simp; (try with_reducible rfl))
            try simp only [Act.put]
            refine wpAnyZ_take (i := 12) (v := ?_) rfl (by kernel_rfl) (by kernel_rfl) (by kernel_rfl) (by kernel_rfl) (fun _ _ _ h => h) (Or.inl ⟨by rfl, ?hy⟩) hHeld ?_
            case hy => ((intro u hSu); (try dsimp only at hSu); go_simp; (try with_reducible rfl))
            try simp only [Act.put]
            refine wpAnyZ_one (i := 5) (by kernel_rfl) rfl (fun K hK => ?_)
            go_simp
            go_at_call_of 37 (Value.string t0)
            refine (L0.out _).mono ?_
            rintro e w9 ⟨rfl, rfl⟩
            try go_wp2_with fail
            refine hK.out _ _ (fun _ => hHeld) ?_
            clear hK K
            try simp only [Act.put]
            refine wpAnyZ_one (i := 9) (by kernel_rfl) rfl (fun K hK => ?_)
            go_simp
            go_at_call_of 37 (Value.string t1)
            refine (L1.out _).mono ?_
            rintro e w9 ⟨rfl, rfl⟩
            try go_wp2_with fail
            refine hK.out _ _ (fun _ => hHeld) ?_
            clear hK K
            try simp only [Act.put]
            refine wpAnyZ_one (i := 13) (by kernel_rfl) rfl (fun K hK => ?_)
            go_simp
            go_at_call_of 37 (Value.string t2)
            refine (L2.out _).mono ?_
            rintro e w9 ⟨rfl, rfl⟩
            try go_wp2_with fail
            refine hK.out _ _ (fun _ => hHeld) ?_
            clear hK K
            try simp only [Act.put]
            refine wpAnyZ_take (i := 14) (v := ?_) rfl (by kernel_rfl) (by kernel_rfl) (by kernel_rfl) (by kernel_rfl) (fun _ _ _ h => h) (Or.inl ⟨by rfl, ?hy⟩) hHeld ?_
            case hy => ((intro u hSu); (try dsimp only at hSu); go_simp; (try with_reducible rfl))
            try simp only [Act.put]
            refine wpAnyZ_one (i := 15) (by kernel_rfl) rfl (fun K hK => ?_)
            go_simp
            refine hK.out _ _ (fun _ => ⟨al_cell _ lP p0, al_cell _ hgn d0, al_cell _ hgn d1, al_cell _ hgn d2⟩) ?_
            clear hK K
            try simp only [Act.put]
            refine wpAnyZ_one (i := 16) (by kernel_rfl) rfl (fun K hK => ?_)
            refine step_appT _ (by rfl) _ _ (by rfl) w1.heap.size _ _ qs [(i0, i1, i2)] (by rfl) (hown2.alloc (.cells #[.int .i64 i0, .int .i64 i1, .int .i64 i2] 44)) _ 1 1 rfl (by rfl) bCW (by simp; omega) (by show w1.heap.size ≤ (w2.alloc (.cells #[.int .i64 i0, .int .i64 i1, .int .i64 i2] 44)).heap.size; simp; omega) ?_
            intro v5 w5 o5 k5
            have t5 : Turned (w2.alloc (.cells #[.int .i64 i0, .int .i64 i1, .int .i64 i2] 44)) w5 (rowL (.slice Aq qs.length cq)) := turned_undrewF k5
            have G5 := (P2.alloc (.cells #[.int .i64 i0, .int .i64 i1, .int .i64 i2] 44)).turned t5 (fun hm => by have := lo5 _ (mem_rowL.1 hm); omega)
            have R5 := (R2.alloc (.cells #[.int .i64 i0, .int .i64 i1, .int .i64 i2] 44)).turned t5 (fun hm => by have := lo5 _ (mem_rowL.1 hm); omega)
            have W5 := OwnS.turned (OwnS.alloc hows2 (.cells #[.int .i64 i0, .int .i64 i1, .int .i64 i2] 44)) t5 (fun j hj hm => by have := lo5 _ (mem_rowL.1 hm); have := hg1l j hj; omega)
            have D0 := (Turned.cellAt t5 (by simp; omega) hgq).trans (al_cell (.cells #[.int .i64 i0, .int .i64 i1, .int .i64 i2] 44) hgn d0)
            have D1 := (Turned.cellAt t5 (by simp; omega) hgq).trans (al_cell (.cells #[.int .i64 i0, .int .i64 i1, .int .i64 i2] 44) hgn d1)
            have D2 := (Turned.cellAt t5 (by simp; omega) hgq).trans (al_cell (.cells #[.int .i64 i0, .int .i64 i1, .int .i64 i2] 44) hgn d2)
            obtain ⟨A5, c5, hv5⟩ := o5.form
            subst hv5
            have g5 := G5.cell 0
            have fg5 := G5.frozen 0
            have lG5 := G5.lt
            refine hK.out _ _ (fun _ => ⟨g5, D0, D1, D2⟩) ?_
            clear hK K
            try simp only [Act.put]
            refine wpAnyZ_take (i := 17) (v := ?_) rfl (by kernel_rfl) (by kernel_rfl) (by kernel_rfl) (by kernel_rfl) (fun _ _ _ h => h) (Or.inl ⟨by rfl, ?hy⟩) ⟨g5, D0, D1, D2⟩ ?_
            case hy => ((intro u hSu); (try dsimp only at hSu); go_simp; (try with_reducible rfl))
            try simp only [Act.put]
            refine wpAnyZ_one (i := 18) (by kernel_rfl) rfl (fun K hK => ?_)
            go_simp
            refine hK.out _ _ (fun h => absurd rfl h) ?_
            clear hK K
            try simp only [Act.put]
            refine wpAnyZ_done (by kernel_rfl) ?_ _
            focus
              have hcx : cx = (i0, i1, i2) := HCm.out
              have elq : (qs ++ [(i0, i1, i2)]).length = qs.length + 1 := by simp
              have bB : Below w.heap.size w w5 := (bw2.alloc bw2.size (.cells #[.int .i64 i0, .int .i64 i1, .int .i64 i2] 44)).trans (t5.below (by simp; omega) (fun k hm => by have := lo5 _ (mem_rowL.1 hm); omega))
              rw [elq] at o5
              have lt5 := fun i h => (o5.lt i h).1
              have lw5 := fun i h => (OwnS.lt W5 i h).1
              have T6 : Turned w5 (w5.setCell ⟨w.heap.size + 1, 0, none⟩ (.slice A5 (qs.length + 1) c5)) [w.heap.size + 1] := ⟨(below_setF w5).os, (below_setF w5).tape, (below_setF w5).output, (below_setF w5).size, fun i _ hi => Below.heap_setCell w5 _ _ i (by simpa using hi)⟩
              have G6 : Blk (w5.setCell ⟨w.heap.size + 1, 0, none⟩ (.slice A5 (qs.length + 1) c5)) (w.heap.size + 1) 30 #[(.slice A5 (qs.length + 1) c5)] := G5.set_ 0 (.slice A5 (qs.length + 1) c5)
              have R6 := R5.turned T6 (by simp)
              have O6 := OwnF.turned o5 T6 (fun i hi h2 => by have := lt5 i hi; simp at h2; omega)
              have W6 := OwnS.turned W5 T6 (fun i hi h2 => by have := lw5 i hi; simp at h2; omega)
              have B6 := bB.setCell (p := ⟨w.heap.size + 1, 0, none⟩) (by simp) (.slice A5 (qs.length + 1) c5)
              have FIN := Lib.hid (show Value.slice A5 (k + 1) c5 = .slice A5 (qs.length + 1) c5 by rw [hql.out])
              rw [← hcx, ← HST.out] at O6
              have Z6 : w1.heap.size ≤ (w5.setCell ⟨w.heap.size + 1, 0, none⟩ (.slice A5 (qs.length + 1) c5)).heap.size := by have := t5.size; simp at this ⊢; omega
              clear G5 R5 W5 o5 t5 k5 T6 bB g5 fg5 lG5 elq lt5 lw5
              go_wp2_with fail
              go_roundw
              case rel => exact ⟨k + 1, A5, c5, by omega, by go_num, HALL.out, by rw [FIN.out]; exact G6, R6, by rw [FIN.out]; exact O6, B6, W6, Z6⟩
              case measure => simp [intOf]; omega
          · have h3' : ((ns.length : Int) == 3) = false := by simpa using (by omega : ¬ (ns.length : Int) = 3)
            have h3i : ¬ (ns.length : Int) = 3 := by omega
            have hmf : mT x = false := by rw [HT.out]; exact decide_eq_false h3
            have HBF := Lib.hid (show mB s = false by rw [HB.out, HNO.out hmf]; rfl)
            clear hmf h3
            go_wp2_with fail
            have r9 := (R2.set_ 0 (.slice Aq k cq)).cell 0
            refine bodyPost_ret (v := .tuple #[.agg #[.slice Aq k cq], .bool false]) (by simp [results, Tryd.results22, go_sem, r9]) rfl ?_
            exact ⟨Aq, k, cq, by rw [HBF.out], fun h => (by rw [HBF.out] at h; cases h), bw2.setCell (p := ⟨w.heap.size, 0, none⟩) (Nat.le_refl _) _⟩
        · obtain rfl : k = ws.length := by omega
          rw [List.take_length] at hall hown
          have HBV := Lib.hid (show mB s = (puzB (ws.map mC) && decide (pzS (ws.map mC) ws.length = s)) by rw [HB.out, hall, Bool.true_and])
          have hql : ws.length = (ws.map mC).length := by simp
          have HQL := Lib.hid hql
          have HR2 := Lib.hid (show mR s = ws.map mC from HR.out)
          have hql6 : (ws.map mC).length ≤ 61 := by simp; omega
          have HBW := Lib.hid (show mB s = (puzB (ws.map mC) && decide (pzS (ws.map mC) (ws.map mC).length = s)) by rw [HBV.out, ← HQL.out])
          rw [hql] at hP hown
          clear HB HR HW HBV hall hwl hql p0 lP q0 f0 lR
          generalize hqs : ws.map mC = qs at *
          clear hqs
          have p0 := hP.cell 0
          have lP := hP.lt
          have q0 := hR.cell 0
          have f0 := hR.frozen 0
          have lR := hR.lt
          have hq6 : qs.length ≤ 1048576 := by omega
          have HRD := Lib.hid (OwnF.rd hown)
          have GD := Lib.hid (fun u (hu : Below wr.heap.size wr u) => pzGood_any Aq cq qs wr.heap.size u (HRD.out.below hu (Nat.le_refl _)) hu.size hq6)
          cases g : puzB qs
          · have B0 := Lib.hid (show mB s = false by rw [HBW.out, g]; rfl)
            have G0 := Lib.hid g
            clear g
            go_wp2_with fail
            first | (go_region_law (first | (go_simp; go_at_call 15; (refine (GD.out wr.drew (Below.refl _ _).drew).mono ?_); rintro e w5 ⟨rfl, hb5'⟩; rw [G0.out]; have hb5 : Below wr.heap.size wr w5 := below_undrew hb5'; have P5 := hP.below hb5 hP.lt; have R5 := hR.below hb5 hR.lt; have n0 := P5.cell 0; have s0 := R5.frozen 0; have s1 := R5.cell 0; have lP5 := P5.lt; have lR5 := R5.lt; have B5 := hbw.trans (hb5.mono hbw.size)) | fail)) | fail
            all_goals
              go_wp2_with fail
              have r9 := (R5.set_ 0 (.slice Aq qs.length cq)).cell 0
              refine bodyPost_ret (v := .tuple #[.agg #[.slice Aq qs.length cq], .bool false]) (by simp [results, Tryd.results22, go_sem, r9]) rfl ?_
              exact ⟨Aq, qs.length, cq, by rw [B0.out], fun h => (by rw [B0.out] at h; cases h), B5.setCell (p := ⟨w.heap.size, 0, none⟩) (Nat.le_refl _) _⟩
          · have h6 := puzB_six g
            have TX := Lib.hid (fun u (hu : Below wr.heap.size wr u) => pzText_any Aq cq qs wr.heap.size u (HRD.out.below hu (Nat.le_refl _)) hu.size (by omega) (puz_ok g))
            have G0 := Lib.hid g
            by_cases hT : pzS qs qs.length = s
            · have B0 := Lib.hid (show mB s = true by rw [HBW.out, G0.out, hT]; simp)
              rw [hT] at TX
              clear g hT
              go_wp2_with fail
              first | (go_region_law (first | (go_simp; go_at_call 15; (refine (GD.out wr.drew (Below.refl _ _).drew).mono ?_); rintro e w5 ⟨rfl, hb5'⟩; rw [G0.out]; have hb5 : Below wr.heap.size wr w5 := below_undrew hb5'; have P5 := hP.below hb5 hP.lt; have R5 := hR.below hb5 hR.lt; have n0 := P5.cell 0; have s0 := R5.frozen 0; have s1 := R5.cell 0; have lP5 := P5.lt; have lR5 := R5.lt; have B5 := hbw.trans (hb5.mono hbw.size)) | (go_simp; go_at_call 16; (refine (TX.out w5 hb5).mono ?_); rintro e w6 ⟨rfl, hb6⟩; have P6 := P5.below hb6 P5.lt; have R6 := R5.below hb6 R5.lt; have k0 := P6.cell 0; have t0 := R6.frozen 0; have t1 := R6.cell 0; have lP6 := P6.lt; have lR6 := R6.lt; have B6 := B5.trans (hb6.mono B5.size); have o6 := (hown.below hb5 (Nat.le_refl _)).below hb6 (Nat.le_refl _)) | fail)) | fail
              all_goals
                go_wp2_with fail
                have r9 := (R6.set_ 0 (.slice Aq qs.length cq)).cell 0
                have lt6 := fun i h => (o6.lt i h).1
                have o7 := OwnF.turned o6 (L := [w.heap.size]) ⟨(below_setF w6 (v := .slice Aq qs.length cq)).os, (below_setF w6 (v := .slice Aq qs.length cq)).tape, (below_setF w6 (v := .slice Aq qs.length cq)).output, (below_setF w6 (v := .slice Aq qs.length cq)).size, fun i _ hi => Below.heap_setCell w6 ⟨w.heap.size, 0, none⟩ (.slice Aq qs.length cq) i (by simpa using hi)⟩ (fun i hi h2 => by have := lt6 i hi; simp at h2; omega)
                refine bodyPost_ret (v := .tuple #[.agg #[.slice Aq qs.length cq], .bool true]) (by simp [results, Tryd.results22, go_sem, r9]) rfl ?_
                exact ⟨Aq, qs.length, cq, by rw [B0.out], fun _ => ⟨by rw [HR2.out], by rw [HR2.out]; exact OwnF.mono o7 (by omega)⟩, B6.setCell (p := ⟨w.heap.size, 0, none⟩) (Nat.le_refl _) _⟩
            · have B0 := Lib.hid (show mB s = false by rw [HBW.out, G0.out]; simp [hT])
              have e1 := text_ne hT
              clear g hT
              generalize pzS qs qs.length = tx at *
              go_wp2_with fail
              first | (go_region_law (first | (go_simp; go_at_call 15; (refine (GD.out wr.drew (Below.refl _ _).drew).mono ?_); rintro e w5 ⟨rfl, hb5'⟩; rw [G0.out]; have hb5 : Below wr.heap.size wr w5 := below_undrew hb5'; have P5 := hP.below hb5 hP.lt; have R5 := hR.below hb5 hR.lt; have n0 := P5.cell 0; have s0 := R5.frozen 0; have s1 := R5.cell 0; have lP5 := P5.lt; have lR5 := R5.lt; have B5 := hbw.trans (hb5.mono hbw.size)) | (go_simp; go_at_call 16; (refine (TX.out w5 hb5).mono ?_); rintro e w6 ⟨rfl, hb6⟩; have P6 := P5.below hb6 P5.lt; have R6 := R5.below hb6 R5.lt; have k0 := P6.cell 0; have t0 := R6.frozen 0; have t1 := R6.cell 0; have lP6 := P6.lt; have lR6 := R6.lt; have B6 := B5.trans (hb6.mono B5.size); have o6 := (hown.below hb5 (Nat.le_refl _)).below hb6 (Nat.le_refl _)) | fail)) | fail
              all_goals
                go_wp2_with fail
                have r9 := (R6.set_ 0 (.slice Aq qs.length cq)).cell 0
                refine bodyPost_ret (v := .tuple #[.agg #[.slice Aq qs.length cq], .bool false]) (by simp [results, Tryd.results22, go_sem, r9]) rfl ?_
                exact ⟨Aq, qs.length, cq, by rw [B0.out], fun h => (by rw [B0.out] at h; cases h), B6.setCell (p := ⟨w.heap.size, 0, none⟩) (Nat.le_refl _) _⟩

end Go.Proofs.YtohimcljobpkjaaDoor
