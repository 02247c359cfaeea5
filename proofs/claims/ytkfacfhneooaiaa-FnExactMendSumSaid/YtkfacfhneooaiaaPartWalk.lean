/- Contracts of the program: a part of bears as a row of twenty numbers, and how many feet it bears. -/
import Derived.Test.YtkfacfhneooaiaaParts
import Derived.Test.YtkfacfhneooaiaaWays
import Derived.Deep.RegionHeld3
namespace Go.Proofs.Ytkfacfhneooaiaa
open Go.RowKit

/-- the part of r steps from place k on, zeros behind them -/
def partL (xs : List Int) (r k : Nat) : List Int := (xs.drop k).take r ++ List.replicate (20 - r) 0
theorem partL_length {xs : List Int} {r k : Nat} (h : k + r ≤ xs.length) (hr : r ≤ 20) : (partL xs r k).length = 20 := by
  simp [partL]; omega
theorem total_append : ∀ a b : List Int, total (a ++ b) = total a + total b
  | [], b => by simp [total]
  | x :: a, b => by simp only [List.cons_append, total, total_append a b]; omega
theorem total_zeros : ∀ n, total (List.replicate n (0 : Int)) = 0
  | 0 => rfl
  | n + 1 => by simp [List.replicate_succ, total, total_zeros n]
/-- how many feet the part bears together -/
def partS (xs : List Int) (r k : Nat) : Int := total ((xs.drop k).take r)
theorem partL_total (xs : List Int) (r k : Nat) : total (partL xs r k) = partS xs r k := by
  unfold partL partS; rw [total_append, total_zeros]; omega
theorem total_take_succ {L : List Int} {k : Nat} (h : k < L.length) : total (L.take (k + 1)) = total (L.take k) + L.getD k 0 := by
  rw [List.take_succ_eq_append_getElem h, total_append]
  simp [total, List.getD_eq_getElem?_getD, h]
theorem total_bd {L : List Int} {M : Int} (h : ∀ x ∈ L, 0 ≤ x ∧ x ≤ M) : 0 ≤ total L ∧ total L ≤ M * L.length := by
  induction L with
  | nil => simp [total]
  | cons x L ih =>
    have h1 := h x (by simp)
    have h2 := ih (fun y hy => h y (by simp [hy]))
    simp only [total, List.length_cons]
    have : M * ((L.length + 1 : Nat) : Int) = M * (L.length : Int) + M := by
      rw [Int.natCast_add, Int.mul_add]; simp
    omega

theorem run_index_row (L : List Int) (k : Nat) (hL : L.length = 20) (hk : k < 20) (w : World) : (Instr.index 43 (.agg (ints L)) (.int .i64 (k : Int))).run Try.prog w = .ok (.int .i64 (L.getD k 0)) w := by
  have hs : (ints L).size = 20 := by rw [ints_size, hL]
  have hg := ints_get L k (by omega)
  simp [Instr.index, run_underlying Try.underlying43, asIntOf, go_sem, hk, hg]
theorem part_info : (Try.prog.info? 43).map (·.size) = some 20 := by kernel_rfl

set_option maxHeartbeats 1000000 in
theorem feet_any (L : List Int) (w : World) (hL : L.length = 20) (hb : ∀ k, k ≤ 20 → 0 ≤ total (L.take k) ∧ total (L.take k) ≤ 1000000) (hx : ∀ k, k < 20 → 0 ≤ L.getD k 0 ∧ L.getD k 0 ≤ 1000000) :
    Calls Try.prog 47 #[.agg (ints L)] w fun e w' => e = .returned (.int .i64 (total L)) ∧ Below w.heap.size w w' := by
  have HB := Lib.hid hb
  have HX := Lib.hid hx
  have HL := Lib.hid hL
  have HS := Lib.hid (show (Try.prog.info? 43).map (·.size) = some (ints L).size by rw [part_info, ints_size, hL])
  clear hb hx hL
  go_enter Try.func47, Try.ntmps47
  have HI := Lib.hid (fun (k : Nat) (hk : k < 20) => run_index_row L k HL.out hk)
  go_wp2_with (refine wpList_load_row rfl 43 (.tmp 1) rfl w.heap.size rfl 43 (ints L) (0, 0) _ (heap_alloc_new _ _) Try.underlying43 rfl HS.out ?_)
  go_loop [3, 7] (fun s i => ∃ k : Nat, k ≤ 20 ∧ i = .int .i64 k ∧ s = .int .i64 (total (L.take k))) (fun _ i => 20 - (intOf i).toNat)
  case atStart => exact ⟨0, by omega, rfl, by simp [total]⟩
  case round =>
    obtain ⟨k, hk, rfl, rfl⟩ := hrel
    by_cases hlt : k < 20
    · have hix := HI.out k hlt
      have b1 := HB.out k hk
      have b2 := HB.out (k + 1) hlt
      have b3 := HX.out k hlt
      have TS := total_take_succ (L := L) (k := k) (by rw [HL.out]; exact hlt)
      have HT := Lib.hid TS
      rw [TS] at b2
      clear TS
      generalize total (L.take k) = u at *
      generalize L.getD k 0 = v at *
      go_wp2
      go_round
      case rel => exact ⟨k + 1, by omega, by go_num, by rw [HT.out]⟩
      case measure => simp [intOf]; omega
    · obtain rfl : k = 20 := by omega
      have HE := Lib.hid (show L.take 20 = L from List.take_of_length_le (by rw [HL.out]; omega))
      go_wp2
      go_ret
      exact ⟨by rw [HE.out]; rfl, below_alloc _ _⟩

theorem wp_copy_splice {P : Program} {o : Oper} {a : Act} {w : World} {K : Act → World → Prop} {Q : Exit → Act → World → Prop} (hgd : o.guard = none) (d s : Operand) (dT sT : TypeId)
    (ho : o.op = .call { callee := .builtin .copy, args := #[d, s], argTypes := #[dT, sT] }) (elem : TypeId) (hu : P.underlying dT = some (.slice elem)) (hsz : (P.info? elem).map (·.size) = some 1)
    (dp sp : Option Addr) (dLen dCap sLen sCap : Nat) (hd : a.eval d = .slice dp dLen dCap) (hs : a.eval s = .slice sp sLen sCap)
    (g off : Nat) (cur : List Value) (t : TypeId) (hg : w.heap[g]? = some (.cells cur.toArray t (0, 0))) (cs : List Value) (hn : cs.length = Nat.min sLen dLen)
    (hpos : 0 < cs.length → dp = some ⟨g, off, none⟩ ∧ ∃ ad, sp = some ad ∧ ∀ j v, cs[j]? = some v → w.cell? (ad.add j) = some v)
    (hfit : off + cs.length ≤ cur.length) (h1 : ∀ v ∈ cs, v.oneCell' = true) (B : Nat) (w0 : World) (hb : Below B w0 w) (hBg : B ≤ g)
    (h : ∀ w', Hid (w'.heap[g]? = some (.cells (splice cur off cs).toArray t (0, 0))) → Below B w0 w' → K (a.put o.dst (goInt cs.length)) w') : Oper.wp P o a w K Q := by
  have hw : Region.wanted o (yielded #[] a.tmps) = true := by simp [Region.wanted, hgd]
  have := step_copy_splice (P := P) (ops := #[]) (Q := Q) (E := True) hgd d s dT sT ho elem hu hsz dp sp dLen dCap sLen sCap hd hs g off cur t hg cs hn hpos hfit h1 B w0 hb hBg h
  rw [if_pos hw] at this
  exact this
theorem splice_zero (L : List Int) : (splice (zero20.map (Value.int .i64)) 0 (L.map (Value.int .i64))).toArray = ints (L ++ List.replicate (20 - L.length) 0) := by
  have hz : (zero20.map (Value.int .i64)).drop L.length = (List.replicate (20 - L.length) 0).map (Value.int .i64) := by rw [← List.map_drop, zero20, List.drop_replicate]
  simp only [splice, ints, List.take_zero, List.nil_append, Nat.zero_add, List.length_map, hz, List.map_append]
set_option maxHeartbeats 400000 in
theorem partFrom_any (A : Option Addr) (c : Nat) (xs : List Int) (r k : Nat) (B : Nat) (w : World) (hr : Rd w B A c xs) (hB : B ≤ w.heap.size) (hn : xs.length ≤ 1048576) (hk : k + r ≤ xs.length) (hr1 : 1 ≤ r) (hr2 : r ≤ 20) :
    Calls Try.prog 59 #[.slice A xs.length c, .int .i64 (r : Int), .int .i64 ((k : Int) + 1)] w fun e w' => e = .returned (.agg (ints (partL xs r k))) ∧ Below w.heap.size w w' := by
  obtain ⟨b, o, rfl, hb, _⟩ := hr.at_ (k := k) (by omega)
  have hc := hr.1
  have hlen : ((xs.drop k).take r).length = r := by simp; omega
  have HL := Lib.hid hlen
  have HSP := Lib.hid (splice_zero ((xs.drop k).take r))
  have HSZ := Lib.hid (show (Try.prog.info? 3).map (·.size) = some 1 by kernel_rfl)
  have HR := Lib.hid hr
  have q1 : (0 : Int) ≤ (k : Int) := by omega
  have q2 : (k : Int) ≤ (k : Int) + (r : Int) := by omega
  have q3 : (k : Int) + (r : Int) ≤ (c : Int) := by omega
  have e1 : IntKind.i64.wrap (k : Int) = (k : Int) := IntWalk.i64_in _ (by omega)
  have e2 : IntKind.i64.wrap ((k : Int) + (r : Int)) = (k : Int) + (r : Int) := IntWalk.i64_in _ (by omega)
  have e3 : ((k : Int) + (r : Int)).toNat = k + r := by omega
  have e4 : (k : Int) ≤ max ((k : Int) + (r : Int)) 0 := by omega
  have e5 : ¬ c = k := by omega
  have q4 : (0 : Int) ≤ (k : Int) + (r : Int) := by omega
  have F1 := Lib.hid (show Below (w.heap.size + 1) (w.alloc (.cells #[.int .i64 0, .int .i64 0, .int .i64 0, .int .i64 0, .int .i64 0, .int .i64 0, .int .i64 0, .int .i64 0, .int .i64 0, .int .i64 0, .int .i64 0, .int .i64 0, .int .i64 0, .int .i64 0, .int .i64 0, .int .i64 0, .int .i64 0, .int .i64 0, .int .i64 0, .int .i64 0] 43)) ((w.alloc (.cells #[.int .i64 0, .int .i64 0, .int .i64 0, .int .i64 0, .int .i64 0, .int .i64 0, .int .i64 0, .int .i64 0, .int .i64 0, .int .i64 0, .int .i64 0, .int .i64 0, .int .i64 0, .int .i64 0, .int .i64 0, .int .i64 0, .int .i64 0, .int .i64 0, .int .i64 0, .int .i64 0] 43)).alloc (.cells #[.int .i64 0, .int .i64 0, .int .i64 0, .int .i64 0, .int .i64 0, .int .i64 0, .int .i64 0, .int .i64 0, .int .i64 0, .int .i64 0, .int .i64 0, .int .i64 0, .int .i64 0, .int .i64 0, .int .i64 0, .int .i64 0, .int .i64 0, .int .i64 0, .int .i64 0, .int .i64 0] 43)).drew from by
    have := below_alloc (w.alloc (.cells #[.int .i64 0, .int .i64 0, .int .i64 0, .int .i64 0, .int .i64 0, .int .i64 0, .int .i64 0, .int .i64 0, .int .i64 0, .int .i64 0, .int .i64 0, .int .i64 0, .int .i64 0, .int .i64 0, .int .i64 0, .int .i64 0, .int .i64 0, .int .i64 0, .int .i64 0, .int .i64 0] 43)) (.cells #[.int .i64 0, .int .i64 0, .int .i64 0, .int .i64 0, .int .i64 0, .int .i64 0, .int .i64 0, .int .i64 0, .int .i64 0, .int .i64 0, .int .i64 0, .int .i64 0, .int .i64 0, .int .i64 0, .int .i64 0, .int .i64 0, .int .i64 0, .int .i64 0, .int .i64 0, .int .i64 0] 43)
    rw [World.size_alloc] at this
    exact this.drew)
  have F2 := Lib.hid (show (((w.alloc (.cells #[.int .i64 0, .int .i64 0, .int .i64 0, .int .i64 0, .int .i64 0, .int .i64 0, .int .i64 0, .int .i64 0, .int .i64 0, .int .i64 0, .int .i64 0, .int .i64 0, .int .i64 0, .int .i64 0, .int .i64 0, .int .i64 0, .int .i64 0, .int .i64 0, .int .i64 0, .int .i64 0] 43)).alloc (.cells #[.int .i64 0, .int .i64 0, .int .i64 0, .int .i64 0, .int .i64 0, .int .i64 0, .int .i64 0, .int .i64 0, .int .i64 0, .int .i64 0, .int .i64 0, .int .i64 0, .int .i64 0, .int .i64 0, .int .i64 0, .int .i64 0, .int .i64 0, .int .i64 0, .int .i64 0, .int .i64 0] 43)).drew).heap[w.heap.size + 1]? = some (.cells (zero20.map (Value.int .i64)).toArray 43 (0, 0)) from by
    rw [show (zero20.map (Value.int .i64)).toArray = _ from zero20_ints]
    exact heap_alloc2_new w _ _)
  have F3 := Lib.hid (show (((xs.drop k).take r).map (Value.int .i64)).length = Nat.min r 20 by rw [List.length_map, HL.out]; exact (Nat.min_eq_left hr2).symm)
  have F4 := Lib.hid (show 0 + (((xs.drop k).take r).map (Value.int .i64)).length ≤ (zero20.map (Value.int .i64)).length by rw [List.length_map, HL.out, List.length_map]; simp [zero20]; omega)
  have F5 := Lib.hid (show ∀ v ∈ ((xs.drop k).take r).map (Value.int .i64), v.oneCell' = true by intro v hv; simp only [List.mem_map] at hv; obtain ⟨_, _, rfl⟩ := hv; rfl)
  have F6 := Lib.hid (show ∀ j v, (((xs.drop k).take r).map (Value.int .i64))[j]? = some v → (((w.alloc (.cells #[.int .i64 0, .int .i64 0, .int .i64 0, .int .i64 0, .int .i64 0, .int .i64 0, .int .i64 0, .int .i64 0, .int .i64 0, .int .i64 0, .int .i64 0, .int .i64 0, .int .i64 0, .int .i64 0, .int .i64 0, .int .i64 0, .int .i64 0, .int .i64 0, .int .i64 0, .int .i64 0] 43)).alloc (.cells #[.int .i64 0, .int .i64 0, .int .i64 0, .int .i64 0, .int .i64 0, .int .i64 0, .int .i64 0, .int .i64 0, .int .i64 0, .int .i64 0, .int .i64 0, .int .i64 0, .int .i64 0, .int .i64 0, .int .i64 0, .int .i64 0, .int .i64 0, .int .i64 0, .int .i64 0, .int .i64 0] 43)).drew).cell? ((⟨b, o + k, none⟩ : Addr).add j) = some v by
    intro j v hv
    have hj : j < r := by
      have := (List.getElem?_eq_some_iff.1 hv).1
      rw [List.length_map, HL.out] at this
      exact this
    obtain ⟨b', o', e, hb', hc'⟩ := HR.out.at_ (k := k + j) (by omega)
    obtain ⟨rfl, rfl⟩ : b' = b ∧ o' = o := by injection e with e; injection e with e1 e2; exact ⟨e1.symm, e2.symm⟩
    rw [Addr.add_lit]
    have hcc : (((w.alloc (.cells #[.int .i64 0, .int .i64 0, .int .i64 0, .int .i64 0, .int .i64 0, .int .i64 0, .int .i64 0, .int .i64 0, .int .i64 0, .int .i64 0, .int .i64 0, .int .i64 0, .int .i64 0, .int .i64 0, .int .i64 0, .int .i64 0, .int .i64 0, .int .i64 0, .int .i64 0, .int .i64 0] 43)).alloc (.cells #[.int .i64 0, .int .i64 0, .int .i64 0, .int .i64 0, .int .i64 0, .int .i64 0, .int .i64 0, .int .i64 0, .int .i64 0, .int .i64 0, .int .i64 0, .int .i64 0, .int .i64 0, .int .i64 0, .int .i64 0, .int .i64 0, .int .i64 0, .int .i64 0, .int .i64 0, .int .i64 0] 43)).drew).cell? ⟨b', o' + k + j, none⟩ = w.cell? ⟨b', o' + k + j, none⟩ := (((Below.refl w.heap.size w).alloc (Nat.le_refl _) _).alloc (by simp) _).drew.cell (show b' < w.heap.size by omega)
    rw [hcc, Nat.add_assoc, hc', ← hv]
    simp only [List.getElem?_map, List.getElem?_take, List.getElem?_drop, hj, if_true]
    rw [List.getD_eq_getElem?_getD, List.getElem?_eq_getElem (by omega)]
    rfl)
  have HPL := Lib.hid (partL_length hk hr2)
  have HPZ := Lib.hid (show (Try.prog.info? 43).map (·.size) = some (ints (partL xs r k)).size by rw [part_info, ints_size, HPL.out])
  have HPS := Lib.hid (show (#[.int .i64 0, .int .i64 0, .int .i64 0, .int .i64 0, .int .i64 0, .int .i64 0, .int .i64 0, .int .i64 0, .int .i64 0, .int .i64 0, .int .i64 0, .int .i64 0, .int .i64 0, .int .i64 0, .int .i64 0, .int .i64 0, .int .i64 0, .int .i64 0, .int .i64 0, .int .i64 0] : Array Value).size = (ints (partL xs r k)).size by rw [ints_size, HPL.out]; rfl)
  have HPO := Lib.hid (show (ints (partL xs r k)).all (·.oneCell') = true by simp [ints, Value.oneCell'])
  have HSPZ := Lib.hid (show (splice (zero20.map (Value.int .i64)) 0 (((xs.drop k).take r).map (Value.int .i64))).toArray = ints (partL xs r k) by rw [HSP.out, HL.out]; rfl)
  clear hlen HSP
  generalize hcs : ((xs.drop k).take r).map (Value.int .i64) = cs at *
  have HCS := Lib.hid hcs
  clear hcs
  generalize hzz : zero20.map (Value.int .i64) = zz at *
  have HZZ := Lib.hid hzz
  clear hzz
  go_enter Try.func59, Try.ntmps59
  go_wp2_with fail
  go_region_law ((simp only [Act.put, List.getElem_toArray, List.getElem_cons_zero, List.getElem_cons_succ, List.setIfInBounds_toArray, List.set_cons_zero, List.set_cons_succ]; rw [if_pos (by rfl)]; refine wp_copy_splice (by rfl) (.tmp 8) (.tmp 16) 22 22 (by rfl) 3 Try.underlying22 HSZ.out (some ⟨w.heap.size + 1, 0, none⟩) (some ⟨b, o + k, none⟩) 20 20 r (c - k) (by exact rfl) (by exact rfl) (w.heap.size + 1) 0 zz 43 F2.out cs F3.out (fun _ => ⟨rfl, _, rfl, F6.out⟩) F4.out F5.out (w.heap.size + 1) (w.alloc (.cells #[.int .i64 0, .int .i64 0, .int .i64 0, .int .i64 0, .int .i64 0, .int .i64 0, .int .i64 0, .int .i64 0, .int .i64 0, .int .i64 0, .int .i64 0, .int .i64 0, .int .i64 0, .int .i64 0, .int .i64 0, .int .i64 0, .int .i64 0, .int .i64 0, .int .i64 0, .int .i64 0] 43)) F1.out (Nat.le_refl _) ?_; intro w4 hg4 hb4))
  have hg5 := hg4.out
  rw [HSPZ.out] at hg5
  have hold := (hb4.block w.heap.size (Nat.lt_succ_self _)).trans (heap_alloc_new w (.cells #[.int .i64 0, .int .i64 0, .int .i64 0, .int .i64 0, .int .i64 0, .int .i64 0, .int .i64 0, .int .i64 0, .int .i64 0, .int .i64 0, .int .i64 0, .int .i64 0, .int .i64 0, .int .i64 0, .int .i64 0, .int .i64 0, .int .i64 0, .int .i64 0, .int .i64 0, .int .i64 0] 43))
  have HH := Lib.hid hg5
  have HO := Lib.hid hold
  have HB4 := Lib.hid hb4
  clear hg4 hg5 hold hb4
  go_wp2_with (first
    | (refine wpList_load_row rfl 43 (.tmp 7) rfl (w.heap.size + 1) rfl 43 (ints (partL xs r k)) (0, 0) _ HH.out Try.underlying43 rfl HPZ.out ?_)
    | (refine wpList_store_row rfl 43 (.tmp 6) (.tmp 18) rfl w.heap.size (ints (partL xs r k)) rfl rfl 43 _ HO.out HPZ.out HPS.out HPO.out ?_))
  refine bodyPost_ret (v := .agg (ints (partL xs r k))) (results_cell_row rfl _ _ w.heap.size 43 (ints (partL xs r k)) (0, 0) _ rfl ?_ Try.underlying43 rfl HPZ.out) rfl ⟨rfl, ?_⟩
  · exact setRow_heap _ _ _ _ _ _ HO.out
  · exact below_setRow ((below_alloc _ _).trans (HB4.out.mono (Nat.le_succ _))) (Nat.le_refl _) _

end Go.Proofs.Ytkfacfhneooaiaa
