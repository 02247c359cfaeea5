/- Contract: the steps that suit, as the program chooses them out of a channel. -/
import Derived.Test.YtomjebelgnecfaaChan
import Derived.Test.YtomjebelgnecfaaSpP
namespace Go.Proofs.Ytomjebelgnecfaa
open Go.RowKit Go.Conc
set_option maxRecDepth 100000

theorem mkChan (k : Int) (h0 : 0 ≤ k) (h1 : k ≤ 400) (w : World) : (Instr.makeChan 55 (.int .i64 k)).run Try.prog w = .ok (.chan (some w.heap.size)) (w.alloc (.chan k.toNat #[] false 0 0 false)) := by
  have h : (Try.prog.info? 3).map (·.bytes) = some 8 := by kernel_rfl
  obtain ⟨i, hi, hb⟩ := Option.map_eq_some_iff.1 h
  obtain ⟨n, rfl⟩ := Int.eq_ofNat_of_zero_le h0
  simpa using run_makeChan (P := Try.prog) (w := w) Try.underlying55 hi .i64 n (by omega) (by rw [hb]; omega)

/-- the spiral's box, and behind it the channel that holds these steps -/
structure ChW (a b c : Int) (w W : World) (buf : List Int) : Prop where
  blk : Blk W w.heap.size 27 #[.int .i64 a, .int .i64 b, .int .i64 c]
  chan : ∃ s r, W.heap[w.heap.size + 1]? = some (.chan a.toNat (ints buf) false s r false)
  below : Below w.heap.size w W
  size : w.heap.size + 2 ≤ W.heap.size
theorem ChW.start (a b c : Int) (w : World) : ChW a b c w ((w.alloc (.cells #[.int .i64 a, .int .i64 b, .int .i64 c] 27)).alloc (.chan a.toNat #[] false 0 0 false)) [] :=
  ⟨(Blk.new _ _ _).alloc _, ⟨0, 0, by have := heap_alloc_new (w.alloc (.cells #[.int .i64 a, .int .i64 b, .int .i64 c] 27)) (.chan a.toNat #[] false 0 0 false); rw [show ints [] = #[] from rfl]; simpa only [World.size_alloc] using this⟩, ((Below.refl _ w).alloc (Nat.le_refl _) _).alloc (by simp) _, by simp⟩
theorem ChW.grow {a b c : Int} {w W W' : World} {buf : List Int} {B : Nat} (h : ChW a b c w W buf) (hb : Below B W W') (hB : w.heap.size + 2 ≤ B) : ChW a b c w W' buf :=
  ⟨h.blk.below hb (by omega), h.chan.imp fun _ ⟨r, e⟩ => ⟨r, (hb.block _ (by omega)).trans e⟩, h.below.trans (hb.mono (by omega)), Nat.le_trans h.size hb.size⟩
theorem setChan_far (w : World) {c k cap : Nat} (buf : Array Value) (cl : Bool) (s r : Nat) (tm : Bool) (h : k ≠ c) : (w.setChan c cap buf cl s r tm).heap[k]? = w.heap[k]? := by
  simp [World.setChan, Array.getElem?_setIfInBounds_ne (Ne.symm h)]
theorem ChW.turn {a b c : Int} {w W : World} {buf : List Int} (h : ChW a b c w W buf) (buf' : List Int) (s r : Nat) : ChW a b c w (W.setChan (w.heap.size + 1) a.toNat (ints buf') false s r false) buf' :=
  ⟨(setChan_far W _ _ _ _ _ (by omega)).trans h.blk, ⟨s, r, heap_setChan W _ _ _ _ _ _ _ (by have := h.size; omega)⟩, below_setChan h.below (by omega) _ _ _ _ _ _, by rw [size_setChan]; exact h.size⟩
theorem OwnI.chan {w W : World} {v : Value} {xs : List Int} (h : OwnI W (w.heap.size + 2) v xs) (cap : Nat) (buf : Array Value) (s r : Nat) : OwnI (W.setChan (w.heap.size + 1) cap buf false s r false) (w.heap.size + 2) v xs :=
  h.turned (L := [w.heap.size + 1]) ⟨rfl, rfl, rfl, by rw [size_setChan]; exact Nat.le_refl _, fun k _ hk => setChan_far W _ _ _ _ _ (by simpa using hk)⟩ (fun k hk he => by have := (h.lt k hk).1; simp at he; omega)
theorem ints_push (xs : List Int) (y : Int) : (ints xs).push (.int .i64 y) = ints (xs ++ [y]) := by simp [ints]
theorem ints_tail (x : Int) (xs : List Int) : (ints (x :: xs)).extract 1 (ints (x :: xs)).size = ints xs := by simp [ints, List.take_of_length_le]
theorem ints_head (x : Int) (xs : List Int) : (ints (x :: xs)).getD 0 undef = .int .i64 x := by simp [ints]

/-- the frame and the world while the steps are sent -/
def ThatA (a b c : Int) (gf : Nat) (lb : Array Value) (w : World) (n : Nat) (A : Act) (W : World) : Prop :=
  ∃ (k : Nat) (x : Int) (t12 t13 t14 t15 t16 t17 t18 t19 : Value), A = { tmps := #[.agg #[.int .i64 a, .int .i64 b, .int .i64 c], .func (.func gf) #[] lb, .pointer (some ⟨w.heap.size, 0, none⟩), undef, .slice none 0 0, .chan (some (w.heap.size + 1)), .int .i64 x, undef, undef, .pointer (some ⟨w.heap.size, 0, none⟩), .int .i64 a, .chan (some (w.heap.size + 1)), t12, t13, t14, t15, t16, t17, t18, t19, undef, undef, undef, undef, undef, undef, undef, undef, undef, undef, undef, undef, undef], defers := [] } ∧ x = (k : Int) + 1 ∧ k ≤ a.toNat ∧ n = a.toNat - k ∧ ChW a b c w W (marksL 1 k)
theorem ThatA.mk {a b c : Int} {gf : Nat} {lb : Array Value} {w W : World} {n : Nat} (k : Nat) {x : Int} {t12 t13 t14 t15 t16 t17 t18 t19 : Value} (hx : x = (k : Int) + 1) (hk : k ≤ a.toNat) (hn : n = a.toNat - k) (hW : ChW a b c w W (marksL 1 k)) :
    ThatA a b c gf lb w n { tmps := #[.agg #[.int .i64 a, .int .i64 b, .int .i64 c], .func (.func gf) #[] lb, .pointer (some ⟨w.heap.size, 0, none⟩), undef, .slice none 0 0, .chan (some (w.heap.size + 1)), .int .i64 x, undef, undef, .pointer (some ⟨w.heap.size, 0, none⟩), .int .i64 a, .chan (some (w.heap.size + 1)), t12, t13, t14, t15, t16, t17, t18, t19, undef, undef, undef, undef, undef, undef, undef, undef, undef, undef, undef, undef, undef], defers := [] } W := ⟨k, x, t12, t13, t14, t15, t16, t17, t18, t19, rfl, hx, hk, hn, hW⟩
/-- the frame and the world while they are chosen -/
def ThatB (a b c : Int) (gf : Nat) (lb : Array Value) (p : Int → Bool) (w : World) (n : Nat) (A : Act) (W : World) : Prop :=
  ∃ (k : Nat) (v u6 t12 t13 t14 t15 t16 t17 t18 t19 t20 t21 t22 t23 t24 t25 t26 t27 t28 t29 t30 t31 t32 t8 : Value), A = { tmps := #[.agg #[.int .i64 a, .int .i64 b, .int .i64 c], .func (.func gf) #[] lb, .pointer (some ⟨w.heap.size, 0, none⟩), undef, .slice none 0 0, .chan (some (w.heap.size + 1)), u6, v, t8, .pointer (some ⟨w.heap.size, 0, none⟩), .int .i64 a, .chan (some (w.heap.size + 1)), t12, t13, t14, t15, t16, t17, t18, t19, t20, t21, t22, t23, t24, t25, t26, t27, t28, t29, t30, t31, t32], defers := [] } ∧ k ≤ a.toNat ∧ n = a.toNat - k ∧ ChW a b c w W (marksL ((k : Int) + 1) (a.toNat - k)) ∧ OwnI W (w.heap.size + 2) v (selL p k)
theorem ThatB.mk {a b c : Int} {gf : Nat} {lb : Array Value} {p : Int → Bool} {w W : World} {n : Nat} (k : Nat) {v u6 t12 t13 t14 t15 t16 t17 t18 t19 t20 t21 t22 t23 t24 t25 t26 t27 t28 t29 t30 t31 t32 t8 : Value} (hk : k ≤ a.toNat) (hn : n = a.toNat - k) (hW : ChW a b c w W (marksL ((k : Int) + 1) (a.toNat - k))) (hO : OwnI W (w.heap.size + 2) v (selL p k)) :
    ThatB a b c gf lb p w n { tmps := #[.agg #[.int .i64 a, .int .i64 b, .int .i64 c], .func (.func gf) #[] lb, .pointer (some ⟨w.heap.size, 0, none⟩), undef, .slice none 0 0, .chan (some (w.heap.size + 1)), u6, v, t8, .pointer (some ⟨w.heap.size, 0, none⟩), .int .i64 a, .chan (some (w.heap.size + 1)), t12, t13, t14, t15, t16, t17, t18, t19, t20, t21, t22, t23, t24, t25, t26, t27, t28, t29, t30, t31, t32], defers := [] } W := ⟨k, v, u6, t12, t13, t14, t15, t16, t17, t18, t19, t20, t21, t22, t23, t24, t25, t26, t27, t28, t29, t30, t31, t32, t8, rfl, hk, hn, hW, hO⟩

set_option maxHeartbeats 4000000 in
theorem stepsThat_any (a b c : Int) (gf : Nat) (lb : Array Value) (p : Int → Bool) (w : World) (ha : 1 ≤ a) (ha' : a ≤ 400)
    (eg : ∀ args u, (callFunc gf args).run Try.prog u = .ok (.enter gf args) u)
    (hs : ∀ (k : Int) (W : World), 1 ≤ k → k ≤ a → Below w.heap.size w W → Calls Try.prog gf (#[.int .i64 k] ++ lb) W fun e W' => e = .returned (.bool (p k)) ∧ Below W.heap.size W W') :
    Calls Try.prog 30 #[.agg #[.int .i64 a, .int .i64 b, .int .i64 c], .func (.func gf) #[] lb] w fun e w' => ∃ v, e = .returned v ∧ OwnI w' w.heap.size v (selL p a.toNat) ∧ Below w.heap.size w w' := by
  have hmc := fun u => mkChan a (by omega) ha' u
  have HS := Lib.hid hs
  clear hs
  refine calls_of_wpN Try.func30 rfl ?_
  simp only [Try.ntmps30, List.size_toArray, List.length_cons, List.length_nil, Nat.reduceAdd, Nat.reduceSub, Array.replicate_succ, Array.replicate_zero, List.push_toArray, List.append_toArray, List.nil_append, List.cons_append]
  refine WpN.seq_of (fun K hK => ?_)
  go_wp2_with fail
  refine WpN.seq_of (fun K hK => ?_)
  go_wp2_with fail
  clear hmc
  refine WpN.seq ?_
  refine WpN.seq_of (fun K hK => ?_)
  go_wp2_with fail
  refine WpN.block ?_
  refine WpN.loop (ThatA a b c gf lb w) ?_ a.toNat _ _ (ThatA.mk 0 rfl (Nat.zero_le _) rfl (ChW.start a b c w))
  rintro n A W ⟨k, x, t12, t13, t14, t15, t16, t17, t18, t19, rfl, rfl, hk, rfl, hW⟩
  obtain ⟨c0, -, -⟩ := hW.blk.three
  refine WpN.seq ?_
  refine WpN.seq_of (fun K hK => ?_)
  by_cases hlt : (k : Int) + 1 ≤ a
  · go_wp2_with fail
    refine WpN.cond_t rfl ?_
    refine WpN.skip ?_
    refine WpN.seq ?_
    refine WpN.block ?_
    refine WpN.region ?_
    show RegN _ _ [0, 1, 2] _ _ _
    refine RegN.value (v := .chan (some (w.heap.size + 1))) rfl rfl rfl ?_
    refine RegN.value (v := .int .i64 ((k : Int) + 1)) rfl rfl rfl ?_
    obtain ⟨s, r, hc⟩ := hW.chan
    refine RegN.send (c := w.heap.size + 1) (v := .int .i64 ((k : Int) + 1)) (z := .tuple #[]) rfl rfl (by simp [execOp, scase, Act.eval, Act.put]) hc (by rw [ints_size, marksL_length]; omega) ?_
    refine RegN.nil ?_
    walk_nrm
    rw [ints_push, show marksL 1 k ++ [(k : Int) + 1] = marksL 1 (k + 1) by rw [marksL_snoc, Int.add_comm]]
    refine WpN.last (fun K hK => ?_)
    go_wp2_with fail
    exact ⟨a.toNat - (k + 1), by omega, ThatA.mk (k + 1) (by omega) (by omega) rfl (hW.turn _ _ _)⟩
  · go_wp2_with fail
    refine WpN.cond_f rfl ?_
    refine WpN.exit ?_
    show WpN _ _ _ _ _
    refine WpN.seq_of (fun K hK => ?_)
    go_wp2_with fail
    obtain rfl : k = a.toNat := by omega
    refine WpN.block ?_
    refine WpN.loop (ThatB a b c gf lb p w) ?_ a.toNat _ _ (ThatB.mk 0 (Nat.zero_le _) rfl hW (OwnI.nil _ _))
    clear hW c0 hlt hk
    rintro n A W ⟨k, v, u6, t12, t13, t14, t15, t16, t17, t18, t19, t20, t21, t22, t23, t24, t25, t26, t27, t28, t29, t30, t31, t32, t8, rfl, hk, rfl, hW, hO⟩
    refine WpN.block ?_
    refine WpN.seq_of (fun K hK => ?_)
    go_wp2_with fail
    refine WpN.seq ?_
    refine WpN.region ?_
    show RegN _ _ [0, 1, 2] _ _ _
    obtain ⟨s, r, hc⟩ := hW.chan
    by_cases hlt : k < a.toNat
    · rw [show a.toNat - k = (a.toNat - (k + 1)) + 1 by omega, marksL] at hc
      refine RegN.got (c := w.heap.size + 1) (z := .int .i64 0) rfl rfl (by simp [go_sem, execOp, rcase, Act.eval]) hc (by rw [ints_size]; simp) ?_
      rw [ints_head, ints_tail]
      have hW' := hW.turn (marksL ((k : Int) + 1 + 1) (a.toNat - (k + 1))) s (r + 1)
      have hO' := hO.chan a.toNat (ints (marksL ((k : Int) + 1 + 1) (a.toNat - (k + 1)))) s (r + 1)
      generalize W.setChan (w.heap.size + 1) a.toNat (ints (marksL ((k : Int) + 1 + 1) (a.toNat - (k + 1)))) false s (r + 1) false = W1 at *
      refine RegN.value (v := .int .i64 0) rfl rfl rfl ?_
      refine RegN.value (v := .bool true) rfl rfl rfl ?_
      refine RegN.nil ?_
      walk_nrm
      show WpN _ _ _ _ _
      refine WpN.block ?_
      refine WpN.cond_t rfl ?_
      refine WpN.seq_of (fun K hK => ?_)
      go_wp2_with fail
      have HC := Lib.hid (HS.out ((k : Int) + 1) W1 (by omega) (by omega) hW'.below)
      have hz : w.heap.size + 2 ≤ W1.heap.size := hW'.size
      have hkl := selL_length p k
      cases hp : p ((k : Int) + 1)
      · have HT := Lib.hid (selL_no hp)
        have HP := Lib.hid hp
        clear hp
        refine WpN.seq_of (fun K hK => ?_)
        go_wp2_with fail
        refine HC.out.mono ?_
        rintro e W2 ⟨rfl, hb⟩
        rw [HP.out]
        go_wp2_with fail
        refine WpN.cond_f rfl ?_
        refine WpN.skip ?_
        show ∃ m, m < a.toNat - k ∧ ThatB a b c gf lb p w m _ _
        exact ⟨a.toNat - (k + 1), by omega, ThatB.mk (k + 1) (by omega) rfl (hW'.grow hb hz) (by rw [HT.out]; exact hO'.below hb (Nat.le_refl _))⟩
      · have HT := Lib.hid (selL_yes hp)
        have HP := Lib.hid hp
        clear hp
        refine WpN.seq_of (fun K hK => ?_)
        go_wp2_with fail
        refine HC.out.mono ?_
        rintro e W2 ⟨rfl, hb⟩
        rw [HP.out]
        go_wp2_with fail
        refine WpN.cond_t rfl ?_
        have hz2 := hb.size
        have hO2 := hO'.below hb (Nat.le_refl _)
        have hW2 := hW'.grow hb hz
        refine WpN.last (fun K hK => ?_)
        generalize hL : selL p k = zs at *
        have HL := Lib.hid hL
        clear hL
        go_wp2_with (at_builtin; refine wpList_pushI _ rfl _ _ rfl (w.heap.size + 2) _ zs rfl (hO2.alloc _) W2.heap.size ((k : Int) + 1) rfl (by simp) (by omega) (by simp; omega) ?_; intro A1 c1 w3 hown1 hg1)
        show ∃ m, m < a.toNat - k ∧ ThatB a b c gf lb p w m _ _
        exact ⟨a.toNat - (k + 1), by omega, ThatB.mk (k + 1) (by omega) rfl (hW2.grow (((Below.refl _ _).alloc (by omega) _).trans hg1) (Nat.le_refl _)) (by rw [HT.out]; exact hown1)⟩
    · obtain rfl : k = a.toNat := by omega
      rw [Nat.sub_self, marksL] at hc
      refine RegN.none (c := w.heap.size + 1) (z := .int .i64 0) rfl rfl (by simp [go_sem, execOp, rcase, Act.eval]) hc ?_
      refine RegN.value (v := .int .i64 (-1)) rfl rfl rfl ?_
      refine RegN.value (v := .bool false) rfl rfl rfl ?_
      refine RegN.nil ?_
      walk_nrm
      show WpN _ _ _ _ _
      refine WpN.block ?_
      refine WpN.cond_f rfl ?_
      refine WpN.seq_of (fun K hK => ?_)
      go_wp2_with fail
      refine WpN.ret ?_
      go_ret
      exact ⟨_, rfl, hO.mono (by omega), hW.below⟩

end Go.Proofs.Ytomjebelgnecfaa
