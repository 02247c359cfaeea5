/- Contracts: the stairs that are left by clues (the program): its deferred closure recovers a clue that is none. -/
import Derived.Test.YtohimcljobpkjaaDoorPzG
import Derived.Defers
import Derived.Recover
namespace Go.Proofs.YtohimcljobpkjaaDoor
open Go.RowKit
set_option maxRecDepth 100000

theorem hta (k a b : Int) : ∀ w : World, (Instr.typeAssert (.iface 44 (.agg #[.int .i64 k, .int .i64 a, .int .i64 b])) 20 44 true).run Tryd.prog w = .ok (.tuple #[.agg #[.int .i64 k, .int .i64 a, .int .i64 b], .bool true]) w := fun _ => by kernel_rfl
theorem hta0 : ∀ w : World, (Instr.typeAssert .nilIface 20 44 true).run Tryd.prog w = .ok (.tuple #[.agg #[.int .i64 0, .int .i64 0, .int .i64 0], .bool false]) w := fun _ => by kernel_rfl

set_option maxHeartbeats 400000 in
theorem catch_left (p : Addr) (k a b : Int) (older : List PanicEntry) (v : Value) (w : World) (hc : ∀ o, (w.alloc o).cell? p = some v) (hz : ∀ o, (w.alloc o).frozen? p = false) :
    CallsD Tryd.prog 41 #[.pointer (some p)] (.panicking ({ v := .iface 44 (.agg #[.int .i64 k, .int .i64 a, .int .i64 b]), recovered := false } :: older)) w fun e u' w' =>
      e = .returned (.tuple #[]) ∧ u' = .panicking ({ v := .iface 44 (.agg #[.int .i64 k, .int .i64 a, .int .i64 b]), recovered := true } :: older) ∧ w' = (w.alloc (.cells #[.int .i64 k, .int .i64 a, .int .i64 b] 44)).setCell p (.slice none 0 0) := by
  refine callsD_of_wpS Tryd.func41 rfl fun c₀ cs hu => ?_
  apply wpS_seq
  apply wpS_region
  simp [wpOpsS, go_sem, recoverD, hu, Tryd.ntmps41, Exit.thenS, hta]
  apply wpS_seq
  apply wpS_region
  simp [wpOpsS, go_sem, Exit.thenS]
  refine wpS_cond (t := true) (by simp [Act.eval, Array.replicate]) ?_
  simp only [if_true]
  apply wpS_region
  simp [wpOpsS, go_sem, hc, hz, bodyPostS, results, Tryd.results41]

set_option maxHeartbeats 400000 in
theorem idle_left (p : Addr) (w : World) :
    CallsD Tryd.prog 41 #[.pointer (some p)] .returning w fun e u' w' => e = .returned (.tuple #[]) ∧ u' = .returning ∧ w' = w.alloc (.cells #[.int .i64 0, .int .i64 0, .int .i64 0] 44) := by
  refine callsD_of_wpS Tryd.func41 rfl fun c₀ cs hu => ?_
  apply wpS_seq
  apply wpS_region
  simp [wpOpsS, go_sem, recoverD, hu, Tryd.ntmps41, Exit.thenS, hta0]
  apply wpS_seq
  apply wpS_region
  simp [wpOpsS, go_sem, Exit.thenS]
  refine wpS_cond (t := false) (by simp [Act.eval, Array.replicate]) ?_
  simp only [Bool.false_eq_true, if_false]
  refine wpS_of_wp (wp_skip ?_)
  cases c₀
  simp_all [bodyPostS, results, Tryd.results41]

/-- the row while clues are looked at: as it came, or a row of the call's own -/
def LeftR (B : Nat) (v0 v : Value) (k : Nat) (es : List El) (w : World) : Prop := (k = 0 ∧ v = v0) ∨ OwnE w B v es
theorem LeftR.below {B B' : Nat} {v0 v : Value} {k : Nat} {es : List El} {w w' : World} (h : LeftR B v0 v k es w) (hb : Below B' w w') (hB : w.heap.size ≤ B') : LeftR B v0 v k es w' := by
  rcases h with h | h
  · exact .inl h
  · exact .inr (h.below hb hB)
/-- WHAT IS LEFT BY CLUES -/
def LeftPost (w : World) (v0 : Value) (ps : List Tri) (L : Lr) (e : Ending) (w' : World) : Prop :=
  Below w.heap.size w w' ∧ ((puzB ps = false ∧ e = .returned (.tuple #[.slice none 0 0, .bool false])) ∨ (puzB ps = true ∧ ∃ v, e = .returned (.tuple #[v, .bool true]) ∧ LeftR w.heap.size v0 v ps.length (elsL (fitsL ps L)) w'))
theorem fitsL_mem {ps : List Tri} {L : Lr} {x : El × Rc} (h : x ∈ fitsL ps L) : x ∈ L := (List.mem_filter.1 h).1
theorem fitsL_len (ps : List Tri) (L : Lr) : (fitsL ps L).length ≤ L.length := List.length_filter_le _ _
theorem below_own {w1 : World} {B g : Nat} (h : Below B w1 w1) (hg : B ≤ g) (v : Value) : Below B w1 (w1.setCell ⟨g, 0, none⟩ v) := h.setCell (p := ⟨g, 0, none⟩) hg v

set_option maxHeartbeats 4000000 in
theorem leftBy_any (Z : Option Addr) (d : Nat) (ps : List Tri) (A : Option Addr) (c : Nat) (L : Lr) (B : Nat) (w : World) (hz : RdF w B Z d ps) (hr : RdE w B A c (elsL L)) (hall : ∀ x ∈ L, StE w B x.1 x.2) (hB : B ≤ w.heap.size) (hn : L.length ≤ 1048576) (hm : ps.length ≤ 1048576) :
    Calls Tryd.prog 30 #[.slice Z ps.length d, .slice A L.length c] w (LeftPost w (.slice A L.length c) ps L) := by
  have hmf : ∀ (fn : Fn) (first cap : Array Value) (w : World), (Instr.makeFunc fn first cap).run Tryd.prog w = .ok (.func fn first cap) w := fun _ _ _ _ => rfl
  by_cases h6 : 6 < ps.length
  · have HP := Lib.hid (show puzB ps = false by simp [puzB, show ¬ ps.length ≤ 6 by omega])
    clear hz hr hall
    go_enter_defers Tryd.func30, Tryd.ntmps30
    go_wp2_with fail
    exact ⟨.tuple #[.slice none 0 0, .bool false], by simp [results, Tryd.results30, go_sem], below_alloc _ _, .inl ⟨HP.out, rfl⟩⟩
  · have HZ := Lib.hid hz
    have HR := Lib.hid hr
    have HA := Lib.hid hall
    have HE := Lib.hid (elsL_len L)
    have HN := Lib.hid (fun k (hk : k < ps.length) => puz_no (ps := ps) hk)
    have HS := Lib.hid (fun k (hk : k < ps.length) => puz_step (ps := ps) hk)
    have HP := Lib.hid (show ps.all clB = true → puzB ps = true from fun h => by simp [puzB, show ps.length ≤ 6 by omega, h])
    have HF := Lib.hid (fun k (hk : k < ps.length) => fitsL_take (ps := ps) hk L)
    have HF0 := Lib.hid (show fitsL (ps.take 0) L = L by rw [List.take_zero]; exact fitsL_nil L)
    clear hz hr hall
    go_enter_defers Tryd.func30, Tryd.ntmps30
    go_wp2_with fail
    go_loopw [15] (fun i wr => ∃ (k : Nat) (v : Value), k ≤ ps.length ∧ i = .int .i64 k ∧ Hid ((ps.take k).all clB = true) ∧ Blk wr w.heap.size 58 #[v] ∧ LeftR (w.heap.size + 1) (.slice A L.length c) v k (elsL (fitsL (ps.take k) L)) wr ∧ Below w.heap.size w wr) (fun i _ => ps.length - (intOf i).toNat)
    case atStart =>
      exact ⟨0, _, Nat.zero_le _, rfl, by simp [Hid], by first | exact Blk.new _ _ _ | exact (Blk.new _ _ _).set_ 0 _, .inl ⟨rfl, rfl⟩, by first | exact below_alloc _ _ | exact (below_alloc _ _).setCell (p := ⟨w.heap.size, 0, none⟩) (Nat.le_refl _) _⟩
    case round =>
      obtain ⟨k, v, hk, rfl, HAL, hX, hleft, hbw⟩ := hrel
      have hz : w.heap.size < wr.heap.size := hX.lt
      have p0 : wr.cell? ⟨w.heap.size, 0, none⟩ = some v := hX.cell 0
      have f0 : wr.frozen? ⟨w.heap.size, 0, none⟩ = false := hX.frozen 0
      have hrd : Hid (∃ A' c', v = .slice A' (fitsL (ps.take k) L).length c' ∧ RdE wr wr.heap.size A' c' (elsL (fitsL (ps.take k) L))) := by
        rcases hleft with ⟨rfl, rfl⟩ | ho
        · rw [HF0.out]; exact ⟨A, c, rfl, ((HR.out.below hbw hB).more (by omega))⟩
        · obtain ⟨A', c', rfl⟩ := ho.form
          exact ⟨A', c', by rw [elsL_len], ho.rd⟩
      have hall2 := Lib.hid (fun x (hx : x ∈ fitsL (ps.take k) L) => ((HA.out x (fitsL_mem hx)).below hbw hB).more (show B ≤ wr.heap.size by omega))
      have hln : (fitsL (ps.take k) L).length ≤ 1048576 := Nat.le_trans (fitsL_len _ _) hn
      have HLF := Lib.hid hleft
      clear hleft
      by_cases hlt : k < ps.length
      · obtain ⟨g, o, rfl, hg, a0, a1, a2⟩ := (HZ.out.below hbw hB).2 k hlt
        have HS1 := Lib.hid (HS.out k hlt)
        have HN1 := Lib.hid (HN.out k hlt)
        have HF1 := Lib.hid (HF.out k hlt)
        obtain ⟨⟨x, y, z⟩, hxyz⟩ : ∃ q : Tri, ps.getD k z3 = q := ⟨_, rfl⟩
        have hq : ps.getD k (0, 0, 0) = (x, y, z) := hxyz
        rw [hq] at a0 a1 a2
        dsimp only at a0 a1 a2
        rw [hxyz] at HS1 HN1 HF1
        clear hq hxyz
        obtain ⟨A', c', rfl, hre⟩ := hrd.out
        have X1 := hX.alloc (.cells #[.int .i64 x, .int .i64 y, .int .i64 z] 44)
        have S1 : Blk (wr.alloc (.cells #[.int .i64 x, .int .i64 y, .int .i64 z] 44)) wr.heap.size 44 #[.int .i64 x, .int .i64 y, .int .i64 z] := Blk.new _ _ _
        have hz1 : wr.heap.size < (wr.alloc (.cells #[.int .i64 x, .int .i64 y, .int .i64 z] 44)).heap.size := S1.lt
        have b1 : Below wr.heap.size wr (wr.alloc (.cells #[.int .i64 x, .int .i64 y, .int .i64 z] 44)) := below_alloc _ _
        cases hcl : clueB x y z
        · have HC := Lib.hid hcl
          have HPF := Lib.hid (HN1.out hcl)
          clear hcl
          go_wp2_with (go_at_call 42; (refine (fit_no x y z _ _ HC.out).mono ?_); rintro e w2 ⟨rfl, hb2⟩)
          have X2 := X1.below hb2 X1.lt
          have hbw2 : Below w.heap.size w w2 := hbw.trans ((b1.trans (hb2.mono b1.size)).mono (by omega))
          refine leaves_cons (f := 41) (args := #[.pointer (some ⟨w.heap.size, 0, none⟩)]) (by simp) (by simp [go_sem]) ?_
          refine (catch_left ⟨w.heap.size, 0, none⟩ x y z [] _ _ (fun o => (X2.alloc o).cell 0) (fun o => (X2.alloc o).frozen 0)).mono ?_
          rintro e u' w3 ⟨rfl, rfl, rfl⟩
          have X3 := (X2.alloc (.cells #[.int .i64 x, .int .i64 y, .int .i64 z] 44)).set_ 0 (.slice none 0 0)
          have c3 := X3.cell 0
          refine ⟨.tuple #[.slice none 0 0, .bool false], ?_, ?_, .inl ⟨HPF.out, rfl⟩⟩
          · simp [results, Tryd.results30, go_sem, c3]
          · exact (hbw2.alloc hbw2.size _).setCell (p := ⟨w.heap.size, 0, none⟩) (Nat.le_refl _) _
        · have HC := Lib.hid hcl
          clear hcl
          go_wp2_with (go_at_call 42; (refine (fit_yes x y z A' c' (fitsL (ps.take k) L) wr.heap.size _ HC.out (hre.below b1 (Nat.le_refl _)) (fun q hq => (hall2.out q hq).below b1 (Nat.le_refl _)) (Nat.le_of_lt hz1) hln).mono ?_); rintro e w2 ⟨v2, rfl, hO2, hb2⟩; obtain ⟨A2, c2, hv2⟩ := hO2.form; subst hv2; have X2 := X1.below hb2 X1.lt; have p2 := X2.cell 0; have f2 := X2.frozen 0)
          have hbw2 : Below w.heap.size w w2 := hbw.trans ((b1.trans (hb2.mono b1.size)).mono (by omega))
          have X3 := X2.set_ 0 (.slice A2 (elsL (fitL (x, y, z) (fitsL (ps.take k) L))).length c2)
          have hO3 : OwnE (w2.setCell ⟨w.heap.size, 0, none⟩ (.slice A2 (elsL (fitL (x, y, z) (fitsL (ps.take k) L))).length c2)) (w.heap.size + 1) (.slice A2 (elsL (fitL (x, y, z) (fitsL (ps.take k) L))).length c2) (elsL (fitsL (ps.take (k + 1)) L)) := by
            rw [HF1.out]
            exact (hO2.mono (by omega)).keep fun i hi => Below.heap_setCell w2 _ _ i (by have := (hO2.lt i hi).1; simp; omega)
          go_roundw
          case rel => exact ⟨k + 1, _, by omega, by go_num, by show _ = true; rw [HS1.out, HAL.out]; exact HC.out, X3, .inr hO3, hbw2.setCell (p := ⟨w.heap.size, 0, none⟩) (Nat.le_refl _) _⟩
          case measure => simp [intOf]; omega
      · obtain rfl : k = ps.length := by omega
        have HPT := Lib.hid (HP.out (by simpa using HAL.out))
        rw [List.take_length] at HLF hrd
        obtain ⟨A', c', rfl, _⟩ := hrd.out
        have X1 := hX.set_ 0 (.slice A' (fitsL ps L).length c')
        clear hrd
        go_wp2_with fail
        refine leaves_cons (f := 41) (args := #[.pointer (some ⟨w.heap.size, 0, none⟩)]) (by simp) (by simp [go_sem]) ?_
        refine (idle_left ⟨w.heap.size, 0, none⟩ _).mono ?_
        rintro e u' w3 ⟨rfl, rfl, rfl⟩
        have X2 := X1.alloc (.cells #[.int .i64 0, .int .i64 0, .int .i64 0] 44)
        have c2 := (X2.cell 0).trans (show _ = some (Value.slice A' (fitsL ps L).length c') by simp)
        refine ⟨.tuple #[.slice A' (fitsL ps L).length c', .bool true], ?_, ?_, .inr ⟨HPT.out, _, rfl, ?_⟩⟩
        · simp [results, Tryd.results30, go_sem, c2]
        · exact (hbw.setCell (p := ⟨w.heap.size, 0, none⟩) (Nat.le_refl _) _).alloc (by simp; omega) _
        · rcases HLF.out with h | h
          · exact .inl h
          · refine .inr (((h.keep fun i hi => Below.heap_setCell wr _ _ i (by have := (h.lt i hi).1; simp; omega)).alloc _).mono (by omega))

end Go.Proofs.YtohimcljobpkjaaDoor
