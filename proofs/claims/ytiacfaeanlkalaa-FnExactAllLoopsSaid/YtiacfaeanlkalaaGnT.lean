/- The copy of a list, beside leavers. -/
import Derived.Test.YtiacfaeanlkalaaBaE
import Derived.Test.YtiacfaeanlkalaaGnR
set_option linter.unusedSimpArgs false
namespace Go.Proofs.Ytiacfaeanlkalaa
set_option maxRecDepth 100000
open Go.Conc Go.RowKit

set_option maxRecDepth 100000 in
set_option maxHeartbeats 4000000 in
theorem toIntS_m (A : Option Addr) (c : Nat) (xs : List Int) (B : Nat) (w : World) (hr : Rd w B A c xs) (hB : B ≤ w.heap.size) (hn : xs.length ≤ 1048576) :
    CallsM Try.prog .aside 14 #[.slice A xs.length c] w fun v w' => ∃ g, v = .slice (some ⟨g, 0, none⟩) xs.length xs.length ∧ w.heap.size ≤ g ∧ Blk w' g 3 (ints xs) ∧ Below w.heap.size w w' := by
  obtain ⟨i0, hi, hz, hs, hby⟩ := info_parts int_info
  have hmk : ∀ u : World, (Instr.makeSlice 22 (.int .i64 (xs.length : Int)) (.int .i64 (xs.length : Int))).run Try.prog u = .ok (.slice (some ⟨u.heap.size, 0, none⟩) xs.length xs.length) (u.alloc (.cells (fill xs 0) 3)) := fun u => by
    have := run_make (P := Try.prog) u 22 3 i0 (.int .i64 0) Try.underlying22 hi hz .i64 .i64 xs.length xs.length (by omega) (Int.le_refl _) (by rw [hby]; omega) (by omega)
    rw [Int.toNat_natCast, hs, fill_zero] at this
    exact this
  clear hi hz hs hby
  refine callsM_of Try.func14 rfl ?_
  simp only [Try.ntmps14, List.size_toArray, List.length_cons, List.length_nil, Nat.reduceAdd, Nat.reduceSub, Array.replicate_succ, Array.replicate_zero, List.push_toArray, List.append_toArray, List.nil_append, List.cons_append]
  iterate 5 (first | ((first | refine WpM.seq ?_ | refine WpM.block ?_ | refine WpM.region ?_ | refine WpM.region_end ?_ | refine WpM.ret ?_ | refine WpM.skip ?_ | refine WpM.exit ?_); try simp only [thenM, inBlockM, if_true, if_false, reduceIte, Nat.reduceEqDiff, List.size_toArray, List.length_cons, List.length_nil, Nat.reduceAdd, Nat.zero_add, List.range, List.range.loop]) | (refine WpM.op_k rfl (by rfl) ?_; intro zu zR; obtain ⟨dd, zh⟩ := zR; subst zh; (try simp only [at_at']); intro zK zhK; go_simp; (try (unfold stored; go_simp)); refine zhK _ _ ⟨?_, ?_⟩; (focus (refine m_idle ?_; simp [go_sem, Instr.field, asAgg]; done)); clear zhK zK; try walk_nrm) | fail)
  refine WpM.of_wp fns_ok no_early ⟨_, Try.func14, by rfl⟩ (by kernel_rfl) rfl (fun τ δ => ?_)
  have HRE := Lib.hid (fun (d : Nat) => show re ((re (w.at dd) τ δ).alloc (.cells (fill xs 0) 3)) (w.at dd).tape d = (w.alloc (.cells (fill xs 0) 3)).at d from rfl)
  have hsz : (re (w.at dd) τ δ).heap.size = w.heap.size := rfl
  generalize re (w.at dd) τ δ = W1 at *
  have HS := Lib.hid hsz
  clear hsz
  go_wp2_with fail
  intro d1
  simp only [thenM, inBlockM, if_true, if_false, reduceIte, Nat.reduceEqDiff, List.size_toArray, List.length_cons, List.length_nil, Nat.reduceAdd, Nat.zero_add, List.range, List.range.loop]
  rw [HRE.out, HS.out]
  clear hmk HRE HS W1
  have hU : Blk (w.alloc (.cells (fill xs 0) 3)) w.heap.size 3 (fill xs 0) := Blk.new _ _ _
  have hBU : Below w.heap.size w (w.alloc (.cells (fill xs 0) 3)) := below_alloc _ _
  have hrU := hr.below hBU hB
  generalize w.alloc (.cells (fill xs 0) 3) = U at *
  iterate 5 (first | ((first | refine WpM.seq ?_ | refine WpM.block ?_ | refine WpM.region ?_ | refine WpM.region_end ?_ | refine WpM.ret ?_ | refine WpM.skip ?_ | refine WpM.exit ?_); try simp only [thenM, inBlockM, if_true, if_false, reduceIte, Nat.reduceEqDiff, List.size_toArray, List.length_cons, List.length_nil, Nat.reduceAdd, Nat.zero_add, List.range, List.range.loop]) | (refine WpM.op_k rfl (by rfl) ?_; intro zu zR; obtain ⟨dd, zh⟩ := zR; subst zh; (try simp only [at_at']); intro zK zhK; go_simp; (try (unfold stored; go_simp)); refine zhK _ _ ⟨?_, ?_⟩; (focus (refine m_idle ?_; simp [go_sem, Instr.field, asAgg]; done)); clear zhK zK; try walk_nrm) | fail)
  refine WpM.of_wp fns_ok no_early ⟨_, Try.func14, by rfl⟩ (by kernel_rfl) rfl (fun τ δ => ?_)
  have hW : Blk (re (U.at dd) τ δ) w.heap.size 3 (fill xs 0) := hU
  have hrW : Rd (re (U.at dd) τ δ) B A c xs := ⟨hrU.1, hrU.2⟩
  have HFIN := Lib.hid (fun (wr : World) (d : Nat) (h : Below w.heap.size (re (U.at dd) τ δ) wr) => show Below w.heap.size w (re wr (U.at dd).tape d) from hBU.trans ⟨h.os, rfl, h.output, h.size, h.block⟩)
  generalize re (U.at dd) τ δ = W2 at *
  go_wp2_with fail
  go_loopw [4] (fun i wr => ∃ k : Nat, k ≤ xs.length ∧ i = .int .i64 k ∧ Blk wr w.heap.size 3 (fill xs k) ∧ Below w.heap.size W2 wr) (fun i _ => xs.length - (intOf i).toNat)
  case atStart => exact ⟨0, Nat.zero_le _, rfl, hW, Below.refl _ _⟩
  case round =>
    obtain ⟨k, hk, rfl, hF, hbw⟩ := hrel
    have hFl := hF.lt
    by_cases hlt : k < xs.length
    · obtain ⟨b, o, rfl, hb, hcell⟩ := (hrW.below hbw hB).at_ hlt
      have hf0 := fill_at xs k hlt
      have hc1 : ∃ v, wr.cell? ⟨w.heap.size, k, none⟩ = some v := ⟨_, by rw [hF.cell]; exact hf0⟩
      obtain ⟨v0, hc1⟩ := hc1
      have hc2 := hF.frozen k
      have HG := Lib.hid (fill_set xs k hlt)
      clear hf0
      generalize xs.getD k 0 = x at *
      go_wp2_with fail
      go_roundw
      case rel => exact ⟨k + 1, by omega, by go_num, by rw [← HG.out]; exact hF.set_ k _, hbw.setCell (by simp) _⟩
      case measure => simp [intOf]; omega
    · obtain rfl : k = xs.length := by omega
      have HE := Lib.hid (fill_end xs)
      go_wp2_with fail
      intro d2
      simp only [thenM, inBlockM, if_true, if_false, reduceIte, Nat.reduceEqDiff, List.size_toArray, List.length_cons, List.length_nil, Nat.reduceAdd, Nat.zero_add, List.range, List.range.loop]
      have hFX : Blk (re wr (U.at dd).tape d2) w.heap.size 3 (ints xs) := by rw [← HE.out]; exact hF
      have hBX := HFIN.out wr d2 hbw
      generalize re wr (U.at dd).tape d2 = V at *
      repeat (first | ((first | refine WpM.seq ?_ | refine WpM.block ?_ | refine WpM.region ?_ | refine WpM.region_end ?_ | refine WpM.ret ?_ | refine WpM.skip ?_ | refine WpM.exit ?_); try simp only [thenM, inBlockM, if_true, if_false, reduceIte, Nat.reduceEqDiff, List.size_toArray, List.length_cons, List.length_nil, Nat.reduceAdd, Nat.zero_add, List.range, List.range.loop]) | (refine WpM.op_k rfl (by rfl) ?_; intro zu zR; obtain ⟨dd, zh⟩ := zR; subst zh; (try simp only [at_at']); intro zK zhK; go_simp; (try (unfold stored; go_simp)); refine zhK _ _ ⟨?_, ?_⟩; (focus (refine m_idle ?_; simp [go_sem, Instr.field, asAgg]; done)); clear zhK zK; try walk_nrm) | fail)
      exact ⟨trivial, trivial, trivial, _, resultsC_tmp (by rfl) _, w.heap.size, rfl, Nat.le_refl _, hFX, below_at hBX _⟩

end Go.Proofs.Ytiacfaeanlkalaa
