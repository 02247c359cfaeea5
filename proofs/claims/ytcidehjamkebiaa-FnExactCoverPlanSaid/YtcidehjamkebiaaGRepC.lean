/- Contract: slices.Repeat of one number, a hundred times at most. -/
import Derived.Test.YtcidehjamkebiaaGMake
import Derived.IntWalk
import Derived.Laws.CopyOwn
namespace Go.Proofs.Ytcidehjamkebiaa
open Go.RowKit

set_option maxHeartbeats 1000000 in
theorem mul64_any (n : Nat) (w : World) (h1 : n ≤ 100) :
    Calls Try.prog 67 #[.int .u64 1, .int .u64 (n : Int)] w fun e w' => e = .returned (.tuple #[.int .u64 0, .int .u64 (n : Int)]) ∧ w = w' := by
  have ha : bits .and .u64 (n : Int) 4294967295 = n := by
    have : ∀ m : Fin 101, bits .and .u64 ((m.1 : Nat) : Int) 4294967295 = (m.1 : Nat) := by decide
    exact this ⟨n, by omega⟩
  have hb : bits .and .u64 1 4294967295 = 1 := by decide
  have hc : bits .and .u64 0 4294967295 = 0 := by decide
  have hd : (n : Int) / 4294967296 = 0 := by omega
  have he : IntKind.u64.wrap (n : Int) = n := by
    have : ∀ m : Fin 101, IntKind.u64.wrap ((m.1 : Nat) : Int) = (m.1 : Nat) := by decide
    exact this ⟨n, by omega⟩
  have hf : IntKind.u64.wrap 0 = 0 := by decide
  go_enter Try.func67, Try.ntmps67
  go_wp2_with fail
  go_ret2
  exact ⟨rfl, rfl⟩

set_option maxHeartbeats 1000000 in
theorem mul_any (n : Nat) (w : World) (h1 : n ≤ 100) :
    Calls Try.prog 65 #[.int .u64 1, .int .u64 (n : Int)] w fun e w' => e = .returned (.tuple #[.int .u64 0, .int .u64 (n : Int)]) ∧ w = w' := by
  have he : IntKind.u64.wrap (n : Int) = n := by
    have : ∀ m : Fin 101, IntKind.u64.wrap ((m.1 : Nat) : Int) = (m.1 : Nat) := by decide
    exact this ⟨n, by omega⟩
  go_enter Try.func65, Try.ntmps65
  go_wp2_with fail
  refine (mul64_any n _ h1).mono ?_
  rintro e w' ⟨rfl, rfl⟩
  go_wp2_with fail
  go_ret2
  exact ⟨rfl, rfl⟩

/-- so many copies, and zeros behind them -/
def repL (m n : Nat) (v : Int) : List Int := List.replicate m v ++ List.replicate (n - m) 0
theorem repL_length {m n : Nat} {v : Int} (h : m ≤ n) : (repL m n v).length = n := by simp [repL]; omega
theorem repL_all (n : Nat) (v : Int) : repL n n v = List.replicate n v := by simp [repL]
theorem repL_more {m n k : Nat} {v : Int} (h : m + k ≤ n) : splice ((repL m n v).map (Value.int .i64)) m ((List.replicate k v).map (Value.int .i64)) = (repL (m + k) n v).map (Value.int .i64) := by
  simp only [splice, repL, ← List.map_take, ← List.map_drop, ← List.map_append, List.length_map, List.length_replicate]
  congr 1
  rw [List.take_append_of_le_length (by simp), List.take_of_length_le (by simp), List.drop_append, List.drop_eq_nil_of_le (by simp), List.length_replicate, List.nil_append, List.drop_replicate, ← List.append_assoc, List.replicate_append_replicate]
  congr 2
  omega
theorem repL_get {m n j : Nat} {v : Int} (h : j < m) : (repL m n v)[j]? = some v := by
  simp [repL, List.getElem?_append_left, h]

set_option maxHeartbeats 2000000 in
theorem repeat_any (A : Option Addr) (c n : Nat) (v : Int) (B : Nat) (w : World) (hr : Rd w B A c [v]) (hB : B ≤ w.heap.size) (h1 : 1 ≤ n) (h2 : n ≤ 100) :
    Calls Try.prog 52 #[.slice A 1 c, .int .i64 (n : Int)] w fun e w' => ∃ g, e = .returned (.slice (some ⟨g, 0, none⟩) n n) ∧ w.heap.size ≤ g ∧ Blk w' g 3 (ints (List.replicate n v)) ∧ Below w.heap.size w w' := by
  have he : IntKind.u64.wrap (n : Int) = n := by
    have : ∀ m : Fin 101, IntKind.u64.wrap ((m.1 : Nat) : Int) = (m.1 : Nat) := by decide
    exact this ⟨n, by omega⟩
  have hei : IntKind.i64.wrap (n : Int) = n := by
    have : ∀ m : Fin 101, IntKind.i64.wrap ((m.1 : Nat) : Int) = (m.1 : Nat) := by decide
    exact this ⟨n, by omega⟩
  have hf : IntKind.u64.wrap 1 = 1 := by decide
  have hlt : decide ((9223372036854775807 : Int) < n) = false := decide_eq_false (by omega)
  have hlt0 : decide ((n : Int) < 0) = false := decide_eq_false (by omega)
  have hmk := fun u => make_run n (by omega) u
  obtain ⟨b, o, rfl, hb, hcell⟩ := hr.at_ (k := 0) (by simp)
  obtain ⟨i0, hi, hz0, hz1, hz3⟩ := info_parts int_info
  have hsz : (Try.prog.info? 3).map (·.size) = some 1 := by rw [hi]; exact congrArg some hz1
  have hun := Try.underlying22
  go_enter Try.func52, Try.ntmps52
  go_wp2_with fail
  refine (mul_any n _ h2).mono ?_
  rintro e w' ⟨rfl, rfl⟩
  have hB0 : Below w.heap.size w (w.alloc (.cells (ints (List.replicate n 0)) 3)) := below_alloc w _
  have hZ : Blk (w.alloc (.cells (ints (List.replicate n 0)) 3)) w.heap.size 3 ((repL 0 n v).map (Value.int .i64)).toArray := by
    rw [show (repL 0 n v) = List.replicate n 0 by simp [repL]]; exact Blk.new _ _ _
  have hcell' : (w.alloc (.cells (ints (List.replicate n 0)) 3)).cell? ⟨b, o, none⟩ = some (.int .i64 v) := (hB0.cell (p := ⟨b, o, none⟩) (by show b < _; omega)).trans (by simpa using hcell)
  have hsrc : ∀ j u, ((List.replicate 1 v).map (Value.int .i64))[j]? = some u → (w.alloc (.cells (ints (List.replicate n 0)) 3)).cell? ((⟨b, o, none⟩ : Addr).add j) = some u := by
    intro j u hj
    cases j with
    | zero => simp at hj; subst hj; rw [show (⟨b, o, none⟩ : Addr).add 0 = ⟨b, o, none⟩ by simp [Addr.add]]; exact hcell'
    | succ j => simp at hj
  have hfit : 0 + ((List.replicate 1 v).map (Value.int .i64)).length ≤ ((repL 0 n v).map (Value.int .i64)).length := by simp [repL]; omega
  have hnn : ((List.replicate 1 v).map (Value.int .i64)).length = Nat.min 1 n := by rw [show Nat.min 1 n = 1 from Nat.min_eq_left h1]; simp
  go_wp2_with (refine wpList_copy_splice rfl _ _ 22 22 rfl 3 hun hsz (some ⟨w.heap.size, 0, none⟩) (some ⟨b, o, none⟩) n n 1 c rfl rfl w.heap.size 0 ((repL 0 n v).map (Value.int .i64)) 3 hZ ((List.replicate 1 v).map (Value.int .i64)) hnn (fun _ => ⟨rfl, _, rfl, hsrc⟩) hfit (by simp [Value.oneCell']) w.heap.size w hB0 (Nat.le_refl _) ?_; intro w1 hw1 hbw1; rw [repL_more (by omega)] at hw1)
  have hw1' : Blk w1 w.heap.size 3 (ints (repL 1 n v)) := hw1.out
  clear hw1 hcell' hZ hB0
  go_loopw [8] (fun i wr => ∃ m : Nat, 1 ≤ m ∧ m ≤ n ∧ i = .int .i64 (m : Int) ∧ Blk wr w.heap.size 3 (ints (repL m n v)) ∧ Below w.heap.size w wr) (fun i _ => n - (intOf i).toNat)
  case atStart => exact ⟨1, by omega, h1, rfl, hw1', hbw1⟩
  case round =>
    obtain ⟨m, hm1, hm, rfl, hblk, hbw⟩ := hrel
    by_cases hlt2 : m < n
    · obtain ⟨k, hk⟩ : ∃ k, k = Nat.min m (n - m) := ⟨_, rfl⟩
      have hk1 : 1 ≤ k ∧ m + k ≤ n ∧ k ≤ m := by
        rw [hk]
        rcases Nat.le_total m (n - m) with h | h
        · rw [show Nat.min m (n - m) = m from Nat.min_eq_left h]; omega
        · rw [show Nat.min m (n - m) = n - m from Nat.min_eq_right h]; omega
      have hblk' : Blk wr.drew w.heap.size 3 ((repL m n v).map (Value.int .i64)).toArray := hblk
      have hbw' : Below w.heap.size w wr.drew := hbw.drew
      have hnn2 : ((List.replicate k v).map (Value.int .i64)).length = Nat.min m (n - m) := by simp [← hk]
      have hfit2 : m + ((List.replicate k v).map (Value.int .i64)).length ≤ ((repL m n v).map (Value.int .i64)).length := by simp [repL_length hm]; omega
      have hsrc2 : ∀ j u, ((List.replicate k v).map (Value.int .i64))[j]? = some u → wr.drew.cell? ((⟨w.heap.size, 0, none⟩ : Addr).add j) = some u := by
        intro j u hj
        have hjk : j < k := by
          have := (List.getElem?_eq_some_iff.1 hj).1
          simpa using this
        have hu : u = .int .i64 v := by simpa [List.getElem?_replicate, hjk] using hj.symm
        rw [show (⟨w.heap.size, 0, none⟩ : Addr).add j = ⟨w.heap.size, j, none⟩ by (simp [Addr.add]; exact fun h => h.symm), hblk'.cell j, hu]
        simp only [List.getElem?_toArray, List.getElem?_map, repL_get (n := n) (v := v) (show j < m by omega), Option.map_some]
      obtain ⟨w4, hcp, hw4, hb4⟩ : ∃ w4, (Builtin.copy_ #[22, 22] 3 #[.slice (some ⟨w.heap.size, m, none⟩) (n - m) (n - m), .slice (some ⟨w.heap.size, 0, none⟩) m n]).run Try.prog wr.drew = .ok (.int .i64 (k : Int)) w4 ∧ Blk w4 w.heap.size 3 (ints (repL (m + k) n v)) ∧ Below w.heap.size w w4 := by
        have hrun := run_copy_row (P := Try.prog) wr.drew 22 22 3 3 w.heap.size m (n - m) (n - m) ⟨w.heap.size, 0, none⟩ m n ((repL m n v).map (Value.int .i64)).toArray 3 ((List.replicate k v).map (Value.int .i64)) hun hsz hblk' hnn2 hsrc2 (by simpa using hfit2) (by simp [Value.oneCell'])
        have e4 : splice ((repL m n v).map (Value.int .i64)) m ((List.replicate k v).map (Value.int .i64)) = (repL (m + k) n v).map (Value.int .i64) := repL_more (by omega)
        simp only [splice] at e4
        rw [show ∀ X Y Z : List Value, X ++ Y ++ Z = X ++ (Y ++ Z) from fun X Y Z => List.append_assoc X Y Z, e4] at hrun
        have h4 := setRow_heap wr.drew w.heap.size _ ((repL (m + k) n v).map (Value.int .i64)).toArray 3 _ hblk'
        refine ⟨_, by rw [hrun, List.length_map, List.length_replicate]; rfl, h4, below_setRow hbw' (Nat.le_refl _) _⟩
      have HK := Lib.hid hk
      have HB4 := Lib.hid hb4
      have HW4 := Lib.hid hw4
      clear hk hblk hblk' hbw hbw' hnn2 hfit2 hsrc2 hsrc hfit hnn hb4 hw4 hmk
      have hne : ¬ n = m := by omega
      have hml : (m : Int) ≤ n := by omega
      have hml2 : (m : Int) < n := by omega
      go_wp2_with fail
      have hwk : IntKind.i64.wrap ((m : Int) + k) = m + k := IntWalk.i64_in _ (by omega)
      go_region_with fail
      all_goals
        go_simp
        go_roundw
        case rel => exact ⟨_, _, _, _, _, _, _, _, _, _, _, _, _, _, ⟨m + k, by omega, by omega, by go_num, HW4.out, HB4.out⟩, rfl⟩
        case measure => simp [intOf]; omega
    · obtain rfl : m = n := by omega
      go_wp2_with fail
      go_ret
      exact ⟨_, rfl, Nat.le_refl _, by rw [← repL_all]; exact hblk, hbw⟩

set_option maxHeartbeats 2000000 in
theorem repeat_zero (A : Option Addr) (c : Nat) (v : Int) (B : Nat) (w : World) (hr : Rd w B A c [v]) (hB : B ≤ w.heap.size) :
    Calls Try.prog 52 #[.slice A 1 c, .int .i64 ((0 : Nat) : Int)] w fun e w' => ∃ g, e = .returned (.slice (some ⟨g, 0, none⟩) 0 0) ∧ w.heap.size ≤ g ∧ Blk w' g 3 (ints []) ∧ Below w.heap.size w w' := by
  have he : IntKind.u64.wrap 0 = 0 := by decide
  have hf : IntKind.u64.wrap 1 = 1 := by decide
  have hmk : ∀ u, (Instr.makeSlice 22 (.int .i64 0) (.int .i64 0)).run Try.prog u = .ok (.slice (some ⟨u.heap.size, 0, none⟩) 0 0) (u.alloc (.cells (ints []) 3)) := fun u => make_run 0 (by omega) u
  obtain ⟨b, o, rfl, hb, hcell⟩ := hr.at_ (k := 0) (by simp)
  obtain ⟨i0, hi, hz0, hz1, hz3⟩ := info_parts int_info
  have hsz : (Try.prog.info? 3).map (·.size) = some 1 := by rw [hi]; exact congrArg some hz1
  have hun := Try.underlying22
  go_enter Try.func52, Try.ntmps52
  go_wp2_with fail
  refine (mul_any 0 _ (by omega)).mono ?_
  rintro e w' ⟨rfl, rfl⟩
  have hB0 : Below w.heap.size w (w.alloc (.cells (ints []) 3)) := below_alloc w _
  have hZ : Blk (w.alloc (.cells (ints []) 3)) w.heap.size 3 (([] : List Int).map (Value.int .i64)).toArray := Blk.new _ _ _
  have hcell' : (w.alloc (.cells (ints []) 3)).cell? ⟨b, o, none⟩ = some (.int .i64 v) := (hB0.cell (p := ⟨b, o, none⟩) (by show b < _; omega)).trans (by simpa using hcell)
  have hsrc : ∀ j u, (([] : List Int).map (Value.int .i64))[j]? = some u → (w.alloc (.cells (ints []) 3)).cell? ((⟨b, o, none⟩ : Addr).add j) = some u := by
    intro j u hj
    simp at hj
  have hfit : 0 + (([] : List Int).map (Value.int .i64)).length ≤ (([] : List Int).map (Value.int .i64)).length := by simp
  have hnn : (([] : List Int).map (Value.int .i64)).length = Nat.min 1 0 := rfl
  go_wp2_with (refine wpList_copy_splice rfl _ _ 22 22 rfl 3 hun hsz (some ⟨w.heap.size, 0, none⟩) (some ⟨b, o, none⟩) 0 0 1 c rfl rfl w.heap.size 0 (([] : List Int).map (Value.int .i64)) 3 hZ (([] : List Int).map (Value.int .i64)) hnn (fun _ => ⟨rfl, _, rfl, hsrc⟩) hfit (by simp [Value.oneCell']) w.heap.size w hB0 (Nat.le_refl _) ?_; intro w1 hw1 hbw1)
  have hw1' : Blk w1 w.heap.size 3 (ints []) := hw1.out
  clear hw1 hZ hB0
  go_loopw [8] (fun i wr => i = .int .i64 0 ∧ Blk wr w.heap.size 3 (ints []) ∧ Below w.heap.size w wr) (fun _ _ => 0)
  case atStart => exact ⟨rfl, hw1', hbw1⟩
  case round =>
    obtain ⟨rfl, hblk, hbw⟩ := hrel
    go_wp2_with fail
    go_ret
    exact ⟨_, rfl, Nat.le_refl _, hblk, hbw⟩

end Go.Proofs.Ytcidehjamkebiaa
