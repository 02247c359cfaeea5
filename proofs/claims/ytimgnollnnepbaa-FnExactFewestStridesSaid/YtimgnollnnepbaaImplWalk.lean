/- Contracts: the program's own search in a list, its set of broken steps, its walk. -/
import Derived.Test.YtimgnollnnepbaaSteps
namespace Go.Proofs.Ytimgnollnnepbaa
open Go.RowKit

theorem has_drop (xs : List Int) (x : Int) (k : Nat) (h : k < xs.length) : hasB (xs.drop k) x = (decide (x = xs.getD k 0) || hasB (xs.drop (k + 1)) x) := by
  rw [drop_at xs k h]; simp [hasB]

set_option maxHeartbeats 400000 in
theorem index_any (A : Option Addr) (c : Nat) (xs : List Int) (x : Int) (B : Nat) (w : World) (hr : Rd w B A c xs) (hn : xs.length ≤ 1048576) :
    Calls Try.prog 80 #[.slice A xs.length c, .int .i64 x] w fun e w' => (∃ n : Int, -1 ≤ n ∧ n ≤ 1048576 ∧ e = .returned (.int .i64 n) ∧ Hid (decide (0 ≤ n) = hasB xs x)) ∧ w = w' := by
  go_enter Try.func80, Try.ntmps80
  go_wp2
  go_loop [8] (fun i => ∃ (k : Nat), k ≤ xs.length ∧ i = .int .i64 k ∧ Hid (hasB xs x = hasB (xs.drop k) x)) (fun i => xs.length - (intOf i).toNat)
  case atStart => exact ⟨0, Nat.zero_le _, rfl, by simp [Hid]⟩
  case round =>
    obtain ⟨k, hk, rfl, H⟩ := hrel
    by_cases hlt : k < xs.length
    · obtain ⟨b, o, rfl, hb, hcell⟩ := hr.at_ hlt
      have E := Lib.hid (has_drop xs x k hlt)
      generalize xs.getD k 0 = y at *
      by_cases he : x = y
      · have HE := Lib.hid he
        subst he
        go_wp2
        go_ret
        exact ⟨⟨(k : Int), by omega, by omega, rfl, by rw [Hid, H.out, E.out]; simp⟩, rfl⟩
      · have HE := Lib.hid he
        go_wp2
        go_round
        case rel => exact ⟨k + 1, by omega, by go_num, by rw [Hid, H.out, E.out]; simp [HE.out]⟩
        case measure => simp [intOf]; omega
    · go_wp2
      go_ret
      exact ⟨⟨-1, by omega, by omega, rfl, by rw [Hid, H.out, List.drop_eq_nil_of_le (by omega)]; simp [hasB]⟩, rfl⟩

set_option maxHeartbeats 400000 in
theorem contains_any (A : Option Addr) (c : Nat) (xs : List Int) (x : Int) (B : Nat) (w : World) (hr : Rd w B A c xs) (hn : xs.length ≤ 1048576) :
    Calls Try.prog 69 #[.slice A xs.length c, .int .i64 x] w fun e w' => e = .returned (.bool (hasB xs x)) ∧ w = w' := by
  go_enter Try.func69, Try.ntmps69
  go_wp2_with fail
  refine (index_any _ _ _ _ _ _ hr hn).mono ?_
  rintro e w1 ⟨⟨n, h1, h2, rfl, H⟩, rfl⟩
  by_cases h0 : 0 ≤ n
  · go_wp2_with fail
    go_ret
    exact ⟨ret_bool (by first | exact H.out | (rw [← H.out]; simp [h0])), rfl⟩
  · go_wp2_with fail
    go_ret
    exact ⟨ret_bool (by first | exact H.out | (rw [← H.out]; simp [h0])), rfl⟩

/-- WHAT A CALL LEAVES THAT MAKES A SET -/
def Makes (w : World) (n : Nat) (S : Int → Bool) (e : Ending) (w' : World) : Prop :=
  ∃ b, e = .returned (.map (some b)) ∧ w.heap.size ≤ b ∧ IsSet w' b n S ∧ Below w.heap.size w w'

set_option maxHeartbeats 1000000 in
theorem brokenSet_any (st : Int) (A A' : Option Addr) (c c' : Nat) (ss bs : List Int) (B : Nat) (w : World) (h : St w B st A A' c c' ss bs) (hB : B ≤ w.heap.size) (hw : ∀ x ∈ bs, 1 ≤ x ∧ x ≤ 60) :
    Calls Try.prog 68 #[stv st A A' c c' ss bs] w (Makes w bs.length (hasB bs)) := by
  have hmm := @run_makeMap Try.prog
  have S0 := IsSet.made (w.alloc (.cells #[.int .i64 st, .slice A ss.length c, .slice A' bs.length c'] 28))
  have S1 : IsSet ((w.alloc (.cells #[.int .i64 st, .slice A ss.length c, .slice A' bs.length c'] 28)).alloc (.map #[] 0)) (w.heap.size + 1) 0 (hasB (bs.take 0)) := by
    simpa using S0.congr (S' := hasB []) (fun i => by simp [hasB])
  clear S0
  have hnb := h.nb
  go_enter Try.func68, Try.ntmps68
  go_wp2_with fail
  go_loopw [10] (fun i wr => ∃ (k : Nat), k ≤ bs.length ∧ i = .int .i64 k ∧ IsSet wr (w.heap.size + 1) k (hasB (bs.take k)) ∧ Below (w.heap.size + 1) (w.alloc (.cells #[.int .i64 st, .slice A ss.length c, .slice A' bs.length c'] 28)) wr) (fun i _ => bs.length - (intOf i).toNat)
  case atStart => exact ⟨0, Nat.zero_le _, rfl, S1, (Below.refl _ _).alloc (by simp) _⟩
  case round =>
    obtain ⟨k, hk, rfl, hset, hbw⟩ := hrel
    have B1 : Below w.heap.size w wr := (below_alloc _ _).trans (hbw.mono (by omega))
    by_cases hlt : k < bs.length
    · obtain ⟨b, o, rfl, hb, hcell⟩ := (h.rb.below B1 hB).at_ hlt
      have hx := hw _ (getD_mem hlt)
      have E := Lib.hid (take_succ_getD hlt)
      generalize bs.getD k 0 = x at *
      have hx1 : 1 ≤ x := hx.1
      have hx2 : x ≤ 60 := hx.2
      obtain ⟨D, ho, hs⟩ := hset
      have HS := Lib.hid hs
      have HB := Lib.hid hbw
      clear hs hx hbw B1 hw
      go_wp2_with (at_mapUpdate; refine wpList_mapUpdate_own _ rfl _ _ _ 61 rfl 3 4 setKey Try.underlying61 _ (w.heap.size + 1) k _ rfl ho (by unfold maxLen; omega) _ _ (.int .i64 x) rfl rfl (Maps.keyOf_int_mk Try.underlying3 (wf64 (by omega) (by omega))) (.lit (.bool true)) [] (plainElem_bool Try.underlying4 true) ?_; intro w2 ho2 hg2)
      go_roundw
      case rel =>
        refine ⟨k + 1, by omega, by go_num, ?_, HB.out.grown hg2 (by have := HB.out.size; simp at this; omega) (fun j hj => by injection hj with hj; omega)⟩
        rw [E.out]
        exact (IsSet.put HS.out ho.isMap x ho2).congr fun i => (hasB_snoc _ _ _).symm
      case measure => simp [intOf]; omega
    · obtain rfl : k = bs.length := by omega
      go_wp2_with fail
      go_ret
      exact ⟨_, rfl, by omega, by simpa using hset, B1⟩


set_option maxHeartbeats 2000000 in
theorem walk_any (st : Int) (A A' Z : Option Addr) (c c' d : Nat) (ss bs xs : List Int) (B : Nat) (w : World) (h : St w B st A A' c c' ss bs) (hB : B ≤ w.heap.size) (hx : Rd w B Z d xs) (hn : xs.length ≤ 1048576) (G : Good st ss bs) :
    Calls Try.prog 49 #[stv st A A' c c' ss bs, .slice Z xs.length d] w
      (Lists w (stepsF (climbB st ss bs 0 xs) xs) (climbB st ss bs 0 xs)) := by
  have g1 := G.st1
  have g2 := G.st2
  have X0 : Blk (w.alloc (.cells #[.int .i64 st, .slice A ss.length c, .slice A' bs.length c'] 28)) w.heap.size 28 #[.int .i64 st, .slice A ss.length c, .slice A' bs.length c'] := Blk.new _ _ _
  have h1 := h.alloc hB
  go_enter Try.func49, Try.ntmps49
  go_wp2_with fail
  refine (brokenSet_any _ _ _ _ _ _ _ B _ (h1 _) (by simp; omega) (fun x hx => by have := G.hb x hx; omega)).mono ?_
  rintro e w1 ⟨mb, rfl, hmb, hset, hb⟩
  have B1 : Below w.heap.size w w1 := (below_alloc _ _).trans (hb.mono (by simp))
  have hz : w.heap.size < w1.heap.size := by have := hb.size; simp at this; omega
  have X1 := X0.below hb (by simp)
  have hm1 := hset.lt
  have hxw := hx.below B1 hB
  have hw := h.below B1 hB
  clear hb h1 X0 hx
  go_wp2_with fail
  go_loopw [7, 8, 15] (fun o a i wr => ∃ (k : Nat) (v : Int) (zs : List Int), k ≤ xs.length ∧ 0 ≤ v ∧ v ≤ st ∧ zs.length ≤ 60 ∧ (zs.length : Int) ≤ v ∧ i = .int .i64 k ∧ a = .int .i64 v ∧ OwnI wr w1.heap.size o zs ∧ Hid (climbB st ss bs 0 xs = climbB st ss bs v (xs.drop k)) ∧ Hid (sumsL 0 xs = zs ++ sumsL v (xs.drop k)) ∧ Below w1.heap.size w1 wr) (fun _ _ i _ => xs.length - (intOf i).toNat)
  case atStart => exact ⟨0, 0, [], Nat.zero_le _, Int.le_refl _, by omega, by simp, by simp, rfl, rfl, OwnI.nil _ _, rfl, rfl, Below.refl _ _⟩
  case round =>
    obtain ⟨k, v, zs, hk, hv0, hv1, hzl, hzv, rfl, rfl, hown, HK, HS, hbw⟩ := hrel
    have X := X1.below hbw hz
    have hset2 := hset.below hbw hm1
    have hzr : w.heap.size < wr.heap.size := by have := hbw.size; omega
    have hzr1 : w1.heap.size ≤ wr.heap.size := hbw.size
    have hwr := hw.below hbw (by omega)
    obtain ⟨p0, p1, p2⟩ := X.three
    have HB := Lib.hid hbw
    by_cases hlt : k < xs.length
    · obtain ⟨b, o, rfl, hb, hcell⟩ := (hxw.below hbw (by omega)).at_ hlt
      have EC := Lib.hid (climbB_go st ss bs v xs k hlt)
      have ES := Lib.hid (sumsL_go v xs k hlt)
      have hX := G.hs (xs.getD k 0)
      generalize xs.getD k 0 = x at *
      clear hbw X
      cases q1 : hasB ss x
      · go_wp2_with fail
        refine (contains_any _ _ _ _ _ _ hwr.rs h.ns).mono ?_
        rintro e w2 ⟨rfl, rfl⟩
        rw [q1]
        go_wp2_with fail
        go_ret2
        have hC : climbB st ss bs 0 xs = false := (climb_no1 HK.out EC.out q1).symm
        rw [hC, stepsF_false]
        exact ⟨_, rfl, OwnI.nil _ _, B1.trans (HB.out.mono (by omega))⟩
      · have hx1 := hX (mem_of_hasB q1)
        have hx2 : 1 ≤ x := hx1.1
        have hx3 : x ≤ 9 := hx1.2
        have Q1 := Lib.hid q1
        clear q1 hX hx1
        by_cases q2 : st < v + x
        · have hs2 : standB st bs (v + x) = false := by simp [standB, inB_no (n := v + x) (lo := 0) (hi := st) (.inr q2)]
          have Q2 := Lib.hid hs2
          clear hs2
          go_wp2_with fail
          refine (contains_any _ _ _ _ _ _ hwr.rs h.ns).mono ?_
          rintro e w2 ⟨rfl, rfl⟩
          rw [Q1.out]
          go_wp2_with fail
          go_ret2
          have hC : climbB st ss bs 0 xs = false := (climb_no2 HK.out EC.out Q2.out).symm
          rw [hC, stepsF_false]
          exact ⟨_, rfl, OwnI.nil _ _, B1.trans (HB.out.mono (by omega))⟩
        · have hlook := hset2.look (v + x) (by omega) (by omega)
          have hs2 : standB st bs (v + x) = !hasB bs (v + x) := by simp [standB, inB_yes (n := v + x) (lo := 0) (hi := st) (by omega) (by omega)]
          cases q3 : hasB bs (v + x)
          · rw [q3] at hlook hs2
            have Q2 := Lib.hid hs2
            have Q3 := Lib.hid q3
            clear hs2 q3
            go_wp2_with (first | (go_at_call 69; refine (contains_any _ _ _ _ _ _ hwr.rs h.ns).mono ?_; rintro e w2 ⟨rfl, rfl⟩; rw [Q1.out]) | (at_builtin; refine wpList_push _ rfl _ _ rfl w1.heap.size _ zs rfl (hown.alloc _) wr.heap.size (v + x) rfl (by simp) (by omega) (by simp; omega) ?_; intro v1 w2 hown1 hg1))
            go_roundw
            case rel => exact ⟨k + 1, v + x, zs ++ [v + x], by omega, by omega, by omega, by simp; omega, by simp; omega, by go_num, rfl, hown1, climb_step HK.out EC.out Q1.out Q2.out, by rw [Hid, HS.out, ES.out]; simp, (HB.out.alloc (by omega) _).trans hg1⟩
            case measure => simp [intOf]; omega
          · rw [q3] at hlook hs2
            have Q2 := Lib.hid hs2
            have Q3 := Lib.hid q3
            clear hs2 q3
            go_wp2_with fail
            refine (contains_any _ _ _ _ _ _ hwr.rs h.ns).mono ?_
            rintro e w2 ⟨rfl, rfl⟩
            rw [Q1.out]
            go_wp2_with fail
            go_ret2
            have hC : climbB st ss bs 0 xs = false := (climb_no2 HK.out EC.out Q2.out).symm
            rw [hC, stepsF_false]
            exact ⟨_, rfl, OwnI.nil _ _, B1.trans (HB.out.mono (by omega))⟩
    · have HE := Lib.hid (sumsL_end v xs k hlt)
      have HC := Lib.hid (climbB_end st ss bs v xs k hlt)
      by_cases hv : v = st
      · subst hv
        go_wp2_with fail
        go_ret2
        have hC : climbB v ss bs 0 xs = true := by rw [HK.out, HC.out]; simp
        rw [hC, stepsF_true]
        refine ⟨_, rfl, ?_, B1.trans (HB.out.mono (by omega))⟩
        rw [HS.out, HE.out, List.append_nil]
        exact hown.mono (by omega)
      · go_wp2_with fail
        go_ret2
        have hC : climbB st ss bs 0 xs = false := by rw [HK.out, HC.out]; simp [hv]
        rw [hC, stepsF_false]
        exact ⟨_, rfl, OwnI.nil _ _, B1.trans (HB.out.mono (by omega))⟩

end Go.Proofs.Ytimgnollnnepbaa
