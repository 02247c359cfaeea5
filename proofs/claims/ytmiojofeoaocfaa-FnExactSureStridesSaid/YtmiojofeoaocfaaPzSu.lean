/- Contracts: sure strides, on both sides. -/
import Derived.Test.YtmiojofeoaocfaaPzO
import Derived.Test.YtmiojofeoaocfaaPzM
namespace Go.Proofs.Ytmiojofeoaocfaa
open Go.RowKit
set_option maxRecDepth 100000

theorem wpList_pushZ (w : World) {ops : Array Oper} {rest : List Oper} {o : Oper} {a : Act} {Q : Exit → Act → World → Prop} (hgd : o.guard = none) (s x : Operand)
    (ho : o.op = .call { callee := .builtin .append, args := #[s, x], argTypes := #[39, 39] }) (B : Nat) (v : Value) (xs : List Int) (hs : a.eval s = v) (hown : OwnI w B v xs)
    (g : Nat) (y : Int) (hx : a.eval x = .slice (some ⟨g, 0, none⟩) 1 1) (hc : w.cell? ⟨g, 0, none⟩ = some (.int .i64 y)) (hn : xs.length ≤ 1048576) (hB : B ≤ w.heap.size)
    (h : ∀ v' w', OwnI w' B v' (xs ++ [y]) → w.grownBy w' v.ownBlock → (v'.ownBlock = v.ownBlock ∨ v'.ownBlock = some w.heap.size) → wpList Try.prog ops Q rest (a.put o.dst v') w') : wpList Try.prog ops Q (o :: rest) a w := by
  obtain ⟨i0, hi, hz, hsz, hby⟩ := info_parts int_info
  refine wpList_append_own_at w hgd s x 39 ho B 3 i0 (.int .i64 0) 1 8 Try.underlying39 hi hz hsz hby rfl (by decide) v xs.length _ hs hown ⟨g, 0, none⟩ 1 1 [.int .i64 y] hx rfl ?_ ?_ ?_ ?_ hB ?_
  · intro j u hu
    cases j with
    | zero => simp at hu; subst hu; exact hc
    | succ j => simp at hu
  · simp [Value.oneCell']
  · simp only [maxLen]; omega
  · omega
  · intro v' w' h1 h2 _ h4
    refine h v' w' ?_ h2 h4
    unfold OwnI
    simpa using h1
theorem OwnI.other {w w' : World} {B : Nat} {u v : Value} {xs : List Int} (h : OwnI w B u xs) (hg : w.grownBy w' v.ownBlock) (hap : Apart v u) : OwnI w' B u xs :=
  h.keep fun k hk => hg.block k (h.lt k hk).2 (fun e => hap k e.symm hk)
theorem apart_new {w : World} {B : Nat} {u v v' : Value} {xs : List Int} (hu : OwnI w B u xs) (hap : Apart v u) (hv : v'.ownBlock = v.ownBlock ∨ v'.ownBlock = some w.heap.size) : Apart v' u := fun k e1 e2 => by
  rcases hv with hv | hv
  · exact hap k (hv ▸ e1) e2
  · rw [hv] at e1
    have := (hu.lt k e2).2
    injection e1 with e1
    omega
theorem apart_sym {u v : Value} (h : Apart u v) : Apart v u := fun k a b => h k b a

/-- how many of the first j stairs have a stride -/
def cntH (rs : List Rc) (x : Int) : Nat → Int
  | 0 => 0
  | j + 1 => cntH rs x j + oneI (hasB (rs.getD j (0, [], [])).2.1 x)
theorem oneI_bd (b : Bool) : 0 ≤ oneI b ∧ oneI b ≤ 1 := by cases b <;> simp [oneI]
theorem cntH_bd (rs : List Rc) (x : Int) : ∀ j : Nat, 0 ≤ cntH rs x j ∧ cntH rs x j ≤ j
  | 0 => by simp [cntH]
  | j + 1 => by
    have h := cntH_bd rs x j
    have := oneI_bd (hasB (rs.getD j (0, [], [])).2.1 x)
    unfold cntH
    omega
/-- the strides of all, the strides of none, among 1 .. k -/
def suA (rs : List Rc) : Nat → List Int
  | 0 => []
  | k + 1 => if cntH rs ((k : Int) + 1) rs.length = rs.length then suA rs k ++ [(k : Int) + 1] else suA rs k
def suN (rs : List Rc) : Nat → List Int
  | 0 => []
  | k + 1 => if cntH rs ((k : Int) + 1) rs.length = rs.length then suN rs k else if cntH rs ((k : Int) + 1) rs.length = 0 then suN rs k ++ [(k : Int) + 1] else suN rs k
theorem suA_le (rs : List Rc) : ∀ k, (suA rs k).length ≤ k
  | 0 => by simp [suA]
  | k + 1 => by have := suA_le rs k; unfold suA; split <;> simp <;> omega
theorem suN_le (rs : List Rc) : ∀ k, (suN rs k).length ≤ k
  | 0 => by simp [suN]
  | k + 1 => by
    have := suN_le rs k
    unfold suN
    split
    · omega
    · split <;> simp <;> omega
def ssA (ps : List Tri) : List Int := if solR ps = [] then [] else suA (solR ps) 3
def ssN (ps : List Tri) : List Int := if solR ps = [] then [] else suN (solR ps) 3
def ssB (ps : List Tri) : Bool := !(solR ps).isEmpty
theorem ssA_le (ps : List Tri) : (ssA ps).length ≤ 1048576 := by
  unfold ssA
  split
  · simp
  · have := suA_le (solR ps) 3; omega
theorem ssN_le (ps : List Tri) : (ssN ps).length ≤ 1048576 := by
  unfold ssN
  split
  · simp
  · have := suN_le (solR ps) 3; omega
theorem recL_getD {L : Lr} {k : Nat} {x : El × Rc} (hx : L[k]? = some x) : (recL L).getD k (0, [], []) = x.2 := by simp [recL, List.getD_eq_getElem?_getD, hx]

set_option maxHeartbeats 1000000 in
theorem sureC_any (k st : Int) (A A' : Option Addr) (c c' : Nat) (ss bs : List Int) (g B : Nat) (w : World) (h : St w B st A A' c c' ss bs) (hB : B ≤ w.heap.size) (hg : Blk w g 3 #[.int .i64 k]) :
    Calls Try.prog 73 #[stv st A A' c c' ss bs, .pointer (some ⟨g, 0, none⟩)] w (Plain (.int .i64 (oneI (hasB ss k))) w) := by
  have h1 := h.alloc hB (.cells #[.int .i64 st, .slice A ss.length c, .slice A' bs.length c'] 45)
  have p0 := (hg.alloc (.cells #[.int .i64 st, .slice A ss.length c, .slice A' bs.length c'] 45)).cell 0
  clear h hg
  go_enter Try.func73, Try.ntmps73
  go_wp2_with fail
  refine (toldBy_any _ _ _ _ _ _ _ _ _ B _ h1 (by simp; omega)).mono ?_
  rintro e w1 ⟨rfl, hb⟩
  rw [toldV_2]
  go_wp2_with fail
  go_ret
  exact ⟨rfl, (below_alloc _ _).trans (hb.mono (by simp))⟩

set_option maxHeartbeats 2000000 in
theorem sumSure_any (k : Int) (A : Option Addr) (c : Nat) (L : Lr) (g B : Nat) (w : World) (hr : RdE w B A c (elsL L)) (hall : ∀ x ∈ L, StE w B x.1 x.2) (hB : B ≤ w.heap.size) (hn : L.length ≤ 1048576) (hg : Blk w g 3 #[.int .i64 k]) :
    Calls Try.prog 72 #[.slice A L.length c, .func (.func 73) #[] #[.pointer (some ⟨g, 0, none⟩)]] w (Plain (.int .i64 (cntH (recL L) k L.length)) w) := by
  have HR := Lib.hid hr
  have HA := Lib.hid hall
  have HE := Lib.hid (elsL_len L)
  clear hr hall
  go_enter Try.func72, Try.ntmps72
  go_wp2_with fail
  go_loopw [5, 10] (fun m i wr => ∃ j : Nat, j ≤ L.length ∧ i = .int .i64 j ∧ m = .int .i64 (cntH (recL L) k j) ∧ Below w.heap.size w wr) (fun _ i _ => L.length - (intOf i).toNat)
  case atStart => exact ⟨0, Nat.zero_le _, rfl, rfl, Below.refl _ _⟩
  case round =>
    obtain ⟨j, hj, rfl, rfl, hbw⟩ := hrel
    have hz := hbw.size
    have hcb := cntH_bd (recL L) k j
    by_cases hlt : j < L.length
    · obtain ⟨x, hx, hm⟩ := lr_get hlt
      obtain ⟨bb, o, rfl, hbb, c0, c1, c2⟩ := (HR.out.below hbw hB).2 j (by rw [HE.out]; exact hlt)
      rw [elsL_get hx] at c0 c1 c2
      have hst := (HA.out x hm).below hbw hB
      have HC := Lib.hid (show cntH (recL L) k (j + 1) = cntH (recL L) k j + oneI (hasB x.2.2.1 k) by rw [cntH, recL_getD hx])
      obtain ⟨⟨st', v1, v2⟩, ⟨st, ss, bs⟩⟩ := x
      obtain ⟨h0, A1, A2, k1, k2, h1, h2, h3⟩ := hst
      dsimp only at h0 h1 h2 h3 c0 c1 c2 HC
      subst h0 h1 h2
      clear hx hm
      have S2 : Blk (wr.alloc (.cells #[.int .i64 st', .slice A1 ss.length k1, .slice A2 bs.length k2] 45)) wr.heap.size 45 #[.int .i64 st', .slice A1 ss.length k1, .slice A2 bs.length k2] := Blk.new _ _ _
      have hT2 := h3.alloc (Nat.le_trans hB hbw.size) (.cells #[.int .i64 st', .slice A1 ss.length k1, .slice A2 bs.length k2] 45)
      have b2 : Below w.heap.size w (wr.alloc (.cells #[.int .i64 st', .slice A1 ss.length k1, .slice A2 bs.length k2] 45)) := hbw.alloc hz _
      have hg2 := (hg.below hbw hg.lt).alloc (.cells #[.int .i64 st', .slice A1 ss.length k1, .slice A2 bs.length k2] 45)
      have HCall := Lib.hid (sureC_any k st' A1 A2 k1 k2 ss bs g B _ hT2 (by simp; omega) hg2)
      have hob := oneI_bd (hasB ss k)
      generalize oneI (hasB ss k) = y at *
      generalize cntH (recL L) k j = m at *
      clear hT2 hg2
      go_wp2_with ((refine HCall.out.mono ?_); rintro e w3 ⟨rfl, hb3⟩)
      go_roundw
      case rel => exact ⟨j + 1, by omega, by go_num, by rw [HC.out], b2.trans (hb3.mono b2.size)⟩
      case measure => simp [intOf]; omega
    · obtain rfl : j = L.length := by omega
      go_wp2_with fail
      go_ret
      exact ⟨rfl, hbw⟩

theorem ssB_nil {ps : List Tri} (h : solR ps = []) : ssB ps = false := by simp [ssB, h]
theorem ssA_nil {ps : List Tri} (h : solR ps = []) : ssA ps = [] := by simp [ssA, h]
theorem ssN_nil {ps : List Tri} (h : solR ps = []) : ssN ps = [] := by simp [ssN, h]
theorem ssB_cons {ps : List Tri} (h : solR ps ≠ []) : ssB ps = true := by simpa [ssB] using h
theorem ssA_cons {ps : List Tri} (h : solR ps ≠ []) : ssA ps = suA (solR ps) 3 := by simp [ssA, h]
theorem ssN_cons {ps : List Tri} (h : solR ps ≠ []) : ssN ps = suN (solR ps) 3 := by simp [ssN, h]
theorem solR_hid2 {ps : List Tri} : ∀ r ∈ solR ps, hidB r.1 r.2.1 r.2.2 = true := by
  intro r hr
  unfold solR at hr
  split at hr
  · exact hidL_mem (List.mem_filter.1 hr).1
  · simp at hr
def boxI (p : Value) (w : World) : Int := match p with | .pointer (some q) => (match w.cell? q with | some v => intOf v | none => 0) | _ => 0
theorem boxI_blk {w : World} {g : Nat} {k : Int} (h : Blk w g 3 #[.int .i64 k]) : boxI (.pointer (some ⟨g, 0, none⟩)) w = k := by
  have e := h.cell 0
  simp only [boxI, e]
  rfl
theorem su_all {rs : List Rc} {k : Nat} (h : cntH rs ((k : Int) + 1) rs.length = rs.length) : suA rs (k + 1) = suA rs k ++ [(k : Int) + 1] ∧ suN rs (k + 1) = suN rs k := by simp [suA, suN, h]
theorem su_none {rs : List Rc} {k : Nat} (h : ¬ cntH rs ((k : Int) + 1) rs.length = rs.length) (h0 : cntH rs ((k : Int) + 1) rs.length = 0) : suA rs (k + 1) = suA rs k ∧ suN rs (k + 1) = suN rs k ++ [(k : Int) + 1] := by
  simp only [suA, suN, if_neg h, if_pos h0]; exact ⟨trivial, trivial⟩
theorem su_some {rs : List Rc} {k : Nat} (h : ¬ cntH rs ((k : Int) + 1) rs.length = rs.length) (h0 : ¬ cntH rs ((k : Int) + 1) rs.length = 0) : suA rs (k + 1) = suA rs k ∧ suN rs (k + 1) = suN rs k := by
  simp only [suA, suN, if_neg h, if_neg h0]; exact ⟨trivial, trivial⟩

set_option maxHeartbeats 3000000 in
theorem implSure_any (A : Option Addr) (c : Nat) (ps : List Tri) (B : Nat) (w : World) (hr : RdF w B A c ps) (hB : B ≤ w.heap.size) (hn : ps.length ≤ 1048576) :
    Calls Try.prog 41 #[pzv A ps.length c] w (Lists2 w (ssA ps) (ssN ps) (ssB ps)) := by
  have X0 : Blk (w.alloc (.cells #[.slice A ps.length c] 35)) w.heap.size 35 #[.slice A ps.length c] := Blk.new _ _ _
  have b0 : Below w.heap.size w (w.alloc (.cells #[.slice A ps.length c] 35)) := below_alloc _ _
  have hr0 := hr.below b0 hB
  have p0 := X0.cell 0
  have z0 : B ≤ (w.alloc (.cells #[.slice A ps.length c] 35)).heap.size := by simp; omega
  have hN := Lib.hid hn
  have hmf : ∀ (fn : Fn) (first cap : Array Value) (w : World), (Instr.makeFunc fn first cap).run Try.prog w = .ok (.func fn first cap) w := fun _ _ _ _ => rfl
  clear hr p0
  go_enter Try.func41, Try.ntmps41
  go_wp2_with fail
  refine (implSol_any A c ps B _ hr0 z0 hn).mono ?_
  rintro e w1 ⟨hb1, v, L, rfl, hL, hst⟩
  have hbw1 := b0.trans (hb1.mono b0.size)
  have hrle := solR_le ps
  have hll := rec_len hL
  have hhid := Lib.hid (hid_lens hL (fun r hr => solR_hid2 r hr))
  by_cases hne : solR ps = []
  · have HR := Lib.hid hne
    obtain ⟨A2, c2, hv2⟩ := hst.row.form
    subst hv2
    rw [elsL_len, hll, hne]
    clear hst hL hne
    go_wp2_with fail
    refine bodyPost_ret (v := .tuple #[.slice none 0 0, .slice none 0 0, .bool false]) (by simp [results, Try.results41, go_sem]) rfl ?_
    exact ⟨_, _, by rw [ssB_nil HR.out], by rw [ssA_nil HR.out]; exact OwnI.nil _ _, by rw [ssN_nil HR.out]; exact OwnI.nil _ _, (fun k e1 _ => by cases e1), hbw1⟩
  · have HR := Lib.hid hne
    have hm1 : 1 ≤ (solR ps).length := by
      cases h : solR ps with
      | nil => exact absurd h hne
      | cons => simp
    obtain ⟨A2, c2, hv2, hrd, hall⟩ := hst.read hhid.out
    subst hv2
    have hzz : w.heap.size ≤ w1.heap.size := hbw1.size
    have hSum := Lib.hid (fun k g u (hu : Below w1.heap.size w1 u) (hg : Blk u g 3 #[.int .i64 k]) => sumSure_any k A2 c2 L g w1.heap.size u (hrd.below hu (Nat.le_refl _)) (fun x hx => (hall x hx).below hu (Nat.le_refl _)) hu.size (by omega) hg)
    have hrec := Lib.hid hL
    rw [hL] at hSum
    rw [hll] at hSum ⊢
    have hA := Lib.hid (fun k => suA_le (solR ps) k)
    have hNN := Lib.hid (fun k => suN_le (solR ps) k)
    have hc1 := Lib.hid (fun k : Nat => @su_all (solR ps) k)
    have hc2 := Lib.hid (fun k : Nat => @su_none (solR ps) k)
    have hc3 := Lib.hid (fun k : Nat => @su_some (solR ps) k)
    have hcb := Lib.hid (fun x => cntH_bd (solR ps) x (solR ps).length)
    have HA3 := Lib.hid (ssA_cons hne)
    have HN3 := Lib.hid (ssN_cons hne)
    have HB3 := Lib.hid (ssB_cons hne)
    clear hst hL hrd hall hll hne hhid hr0 z0 X0 b0 hb1
    generalize hrs : solR ps = rs at *
    have HRS := Lib.hid hrs
    clear hrs
    have hzb : ((rs.length : Int) == 0) = false := by rw [beq_eq_false_iff_ne]; omega
    go_wp2_with fail
    go_loopw [7, 8, 9] (fun a b p wr => ∃ (k g : Nat) (va vb : Value), k ≤ 3 ∧ p = .pointer (some ⟨g, 0, none⟩) ∧ Blk wr g 3 #[.int .i64 ((k : Int) + 1)] ∧ a = va ∧ b = vb ∧ OwnI wr w1.heap.size va (suA rs k) ∧ OwnI wr w1.heap.size vb (suN rs k) ∧ Apart va vb ∧ va.ownBlock ≠ some g ∧ vb.ownBlock ≠ some g ∧ Below w1.heap.size w1 wr) (fun _ _ p wr => (4 - boxI p wr).toNat)
    case atStart => exact ⟨0, w1.heap.size, _, _, by omega, rfl, Blk.new' rfl, rfl, rfl, OwnI.nil _ _, OwnI.nil _ _, (fun k e1 _ => by cases e1), (fun e => by cases e), (fun e => by cases e), below_alloc _ _⟩
    case round =>
      obtain ⟨k, g, va, vb, hk, rfl, hgb, rfl, rfl, hoa, hob, hap, hga, hgbn, hbw⟩ := hrel
      have p1 := hgb.cell 0
      have hzr := hbw.size
      by_cases hlt : k < 3
      · have hki : (k : Int) + 1 ≤ 3 := by omega
        have HS := hSum.out ((k : Int) + 1) g wr hbw hgb
        have hcb1 := hcb.out ((k : Int) + 1)
        have hla := hA.out k
        have hlb := hNN.out k
        by_cases e1 : cntH rs ((k : Int) + 1) rs.length = rs.length
        · have E := hc1.out k e1
          generalize hAS : suA rs k = xsA at *
          generalize hBS : suN rs k = xsB at *
          rw [e1] at HS
          have HS := HS
          clear hAS hBS
          have EE := Lib.hid E
          have E1 := Lib.hid e1
          clear E e1 hcb1
          go_wp2_with (first | ((refine HS.mono ?_); rintro e w4 ⟨rfl, hb4⟩; have hbw4 := hbw.trans (hb4.mono hbw.size); have hz4 := hbw4.size; have hoa4 := (hoa.below hb4 (Nat.le_refl _)).alloc (.cells #[.int .i64 ((k : Int) + 1)] 3); have hob4 := (hob.below hb4 (Nat.le_refl _)).alloc (.cells #[.int .i64 ((k : Int) + 1)] 3); have hg4 := hgb.below hb4 hgb.lt; have p4 := hg4.cell 0; have hbw4a := hbw4.alloc hz4 (.cells #[.int .i64 ((k : Int) + 1)] 3); have hg4a := hg4.alloc (.cells #[.int .i64 ((k : Int) + 1)] 3); have hl4 : w1.heap.size ≤ (w4.alloc (.cells #[.int .i64 ((k : Int) + 1)] 3)).heap.size := hbw4a.size) | (at_builtin; refine wpList_pushZ _ rfl _ _ rfl w1.heap.size _ xsA rfl hoa4 w4.heap.size ((k : Int) + 1) rfl (by simp) (by omega) hl4 ?_; intro v5 w5 ho5 hgr5 hv5; have hg5 : Blk w5 g 3 #[.int .i64 ((k : Int) + 1)] := (hgr5.block g hg4a.lt (fun e => hga e.symm)).trans hg4a; have p5 := hg5.cell 0))
          have hbw5 : Below w1.heap.size w1 w5 := hbw4a.grown hgr5 hl4 (fun j hj => (hoa4.lt j hj).1)
          have hz5 := hbw5.size
          have hoo5 := hob4.other hgr5 hap
          have hap5 := apart_new hob4 hap hv5
          have hlo := fun j hj => (ho5.lt j hj).2
          have hlo2 := fun j hj => (hoo5.lt j hj).2
          go_roundw
          case rel => exact ⟨k + 1, w5.heap.size, _, _, by omega, rfl, Blk.new' rfl, rfl, rfl, (by rw [EE.out.1]; exact ho5.alloc _), (by rw [EE.out.2]; exact hoo5.alloc _), hap5, (fun e => by have := hlo _ e; omega), (fun e => by have := hlo2 _ e; omega), hbw5.alloc hz5 _⟩
          case measure => rw [boxI_blk hgb, boxI_blk (g := w5.heap.size) (k := (k : Int) + 1 + 1) (Blk.new' rfl)]; omega
        · by_cases e2 : cntH rs ((k : Int) + 1) rs.length = 0
          · have EE := Lib.hid (hc2.out k e1 e2)
            generalize hAS : suA rs k = xsA at *
            generalize hBS : suN rs k = xsB at *
            rw [e2] at HS e1
            have e3 : ¬ rs.length = 0 := by omega
            clear hAS hBS e2 hcb1 e1
            go_wp2_with (first | ((refine HS.mono ?_); rintro e w4 ⟨rfl, hb4⟩; have hbw4 := hbw.trans (hb4.mono hbw.size); have hz4 := hbw4.size; have hoa4 := (hoa.below hb4 (Nat.le_refl _)).alloc (.cells #[.int .i64 ((k : Int) + 1)] 3); have hob4 := (hob.below hb4 (Nat.le_refl _)).alloc (.cells #[.int .i64 ((k : Int) + 1)] 3); have hg4 := hgb.below hb4 hgb.lt; have p4 := hg4.cell 0; have hbw4a := hbw4.alloc hz4 (.cells #[.int .i64 ((k : Int) + 1)] 3); have hg4a := hg4.alloc (.cells #[.int .i64 ((k : Int) + 1)] 3); have hl4 : w1.heap.size ≤ (w4.alloc (.cells #[.int .i64 ((k : Int) + 1)] 3)).heap.size := hbw4a.size) | (at_builtin; refine wpList_pushZ _ rfl _ _ rfl w1.heap.size _ xsB rfl hob4 w4.heap.size ((k : Int) + 1) rfl (by simp) (by omega) hl4 ?_; intro v5 w5 ho5 hgr5 hv5; have hg5 : Blk w5 g 3 #[.int .i64 ((k : Int) + 1)] := (hgr5.block g hg4a.lt (fun e => hgbn e.symm)).trans hg4a; have p5 := hg5.cell 0))
            have hbw5 : Below w1.heap.size w1 w5 := hbw4a.grown hgr5 hl4 (fun j hj => (hob4.lt j hj).1)
            have hz5 := hbw5.size
            have hoo5 := hoa4.other hgr5 (apart_sym hap)
            have hap5 := apart_new hoa4 (apart_sym hap) hv5
            have hlo := fun j hj => (ho5.lt j hj).2
            have hlo2 := fun j hj => (hoo5.lt j hj).2
            go_roundw
            case rel => exact ⟨k + 1, w5.heap.size, _, _, by omega, rfl, Blk.new' rfl, rfl, rfl, (by rw [EE.out.1]; exact hoo5.alloc _), (by rw [EE.out.2]; exact ho5.alloc _), apart_sym hap5, (fun e => by have := hlo2 _ e; omega), (fun e => by have := hlo _ e; omega), hbw5.alloc hz5 _⟩
            case measure => rw [boxI_blk hgb, boxI_blk (g := w5.heap.size) (k := (k : Int) + 1 + 1) (Blk.new' rfl)]; omega
          · have EE := Lib.hid (hc3.out k e1 e2)
            generalize hAS : suA rs k = xsA at *
            generalize hBS : suN rs k = xsB at *
            generalize cntH rs ((k : Int) + 1) rs.length = y at *
            clear hAS hBS
            go_wp2_with ((refine HS.mono ?_); rintro e w4 ⟨rfl, hb4⟩; have hbw4 := hbw.trans (hb4.mono hbw.size); have hz4 := hbw4.size; have hoa4 := hoa.below hb4 (Nat.le_refl _); have hob4 := hob.below hb4 (Nat.le_refl _); have hg4 := hgb.below hb4 hgb.lt; have p4 := hg4.cell 0)
            have hlo := fun j hj => (hoa4.lt j hj).2
            have hlo2 := fun j hj => (hob4.lt j hj).2
            go_roundw
            case rel => exact ⟨k + 1, w4.heap.size, _, _, by omega, rfl, Blk.new' rfl, rfl, rfl, (by rw [EE.out.1]; exact hoa4.alloc _), (by rw [EE.out.2]; exact hob4.alloc _), hap, (fun e => by have := hlo _ e; omega), (fun e => by have := hlo2 _ e; omega), hbw4.alloc hz4 _⟩
            case measure => rw [boxI_blk hgb, boxI_blk (g := w4.heap.size) (k := (k : Int) + 1 + 1) (Blk.new' rfl)]; omega
      · obtain rfl : k = 3 := by omega
        obtain ⟨A7, c7, hv7, _⟩ := hoa.form
        obtain ⟨A8, c8, hv8, _⟩ := hob.form
        subst hv7
        subst hv8
        go_wp2_with fail
        refine bodyPost_ret (v := .tuple #[.slice A7 (suA rs 3).length c7, .slice A8 (suN rs 3).length c8, .bool true]) (by simp [results, Try.results41, go_sem]) rfl ?_
        exact ⟨_, _, by rw [HB3.out], by rw [HA3.out]; exact hoa.mono hzz, by rw [HN3.out]; exact hob.mono hzz, hap, hbw1.trans (hbw.mono hzz)⟩

set_option maxHeartbeats 3000000 in
theorem specSure_any (A : Option Addr) (c : Nat) (ps : List Tri) (B : Nat) (w : World) (hr : RdF w B A c ps) (hB : B ≤ w.heap.size) (hn : ps.length ≤ 1048576) :
    Calls Try.prog 40 #[pzv A ps.length c] w (Lists2 w (ssA ps) (ssN ps) (ssB ps)) := by
  have X0 : Blk (w.alloc (.cells #[.slice A ps.length c] 35)) w.heap.size 35 #[.slice A ps.length c] := Blk.new _ _ _
  have b0 : Below w.heap.size w (w.alloc (.cells #[.slice A ps.length c] 35)) := below_alloc _ _
  have hr0 := hr.below b0 hB
  have p0 := X0.cell 0
  have z0 : B ≤ (w.alloc (.cells #[.slice A ps.length c] 35)).heap.size := by simp; omega
  have hN := Lib.hid hn
  clear hr
  cases hp : puzB ps
  · have HP := Lib.hid hp
    have HR := Lib.hid (show solR ps = [] by simp [solR, hp])
    clear hp p0
    go_enter Try.func40, Try.ntmps40
    go_wp2_with fail
    refine (pzGood_any A c ps B _ hr0 z0 hn).mono ?_
    rintro e w1 ⟨rfl, hb1⟩
    rw [HP.out]
    go_wp2_with fail
    refine bodyPost_ret (v := .tuple #[.slice none 0 0, .slice none 0 0, .bool false]) (by simp [results, Try.results40, go_sem]) rfl ?_
    exact ⟨_, _, by rw [ssB_nil HR.out], by rw [ssA_nil HR.out]; exact OwnI.nil _ _, by rw [ssN_nil HR.out]; exact OwnI.nil _ _, (fun k e1 _ => by cases e1), b0.trans (hb1.mono b0.size)⟩
  · have HP := Lib.hid hp
    have HK := Lib.hid (puz_kinds hp)
    clear hp
    go_enter Try.func40, Try.ntmps40
    go_wp2_with fail
    generalize hu : w.alloc (.cells #[.slice A ps.length c] 35) = u at *
    have hU := Lib.hid hu
    clear hu
    refine (pzGood_any A c ps B _ hr0 z0 hn).mono ?_
    rintro e w1 ⟨rfl, hb1⟩
    rw [HP.out]
    have p1 := (X0.below hb1 X0.lt).cell 0
    clear p0
    go_wp2_with fail
    refine (pzAll_any A c ps w1.heap.size w1 ((hr0.below hb1 z0).more (Nat.le_trans z0 hb1.size)) (Nat.le_refl _) hN.out HK.out).mono ?_
    rintro e w2 ⟨v, L, rfl, hL, hst, hb2⟩
    have hL : recL L = solR ps := by rw [hL]; simp [solR, HP.out, solL]
    have hbw1 := (b0.trans (hb1.mono b0.size)).trans (hb2.mono (Nat.le_trans b0.size hb1.size))
    have hrle := solR_le ps
    have hll := rec_len hL
    have hhid := Lib.hid (hid_lens hL (fun r hr => solR_hid2 r hr))
    have hhB := Lib.hid (fun x (hx : x ∈ L) => solR_hid2 (ps := ps) x.2 (by rw [← hL]; exact List.mem_map.2 ⟨x, hx, rfl⟩))
    by_cases hne : solR ps = []
    · have HR := Lib.hid hne
      obtain ⟨A2, c2, hv2⟩ := hst.row.form
      subst hv2
      rw [elsL_len, hll, hne]
      clear hst hL hne hhB
      go_wp2_with fail
      refine bodyPost_ret (v := .tuple #[.slice none 0 0, .slice none 0 0, .bool false]) (by simp [results, Try.results40, go_sem]) rfl ?_
      exact ⟨_, _, by rw [ssB_nil HR.out], by rw [ssA_nil HR.out]; exact OwnI.nil _ _, by rw [ssN_nil HR.out]; exact OwnI.nil _ _, (fun k e1 _ => by cases e1), hbw1⟩
    · have HR := Lib.hid hne
      have hm1 : 1 ≤ (solR ps).length := by
        cases h : solR ps with
        | nil => exact absurd h hne
        | cons => simp
      obtain ⟨A2, c2, hv2, hrd, hall⟩ := hst.read hhid.out
      subst hv2
      have hzz : w.heap.size ≤ w2.heap.size := hbw1.size
      rw [hll]
      have hA := Lib.hid (fun k => suA_le (solR ps) k)
      have hNN := Lib.hid (fun k => suN_le (solR ps) k)
      have hc1 := Lib.hid (fun k : Nat => @su_all (solR ps) k)
      have hc2 := Lib.hid (fun k : Nat => @su_none (solR ps) k)
      have hc3 := Lib.hid (fun k : Nat => @su_some (solR ps) k)
      have hcb := Lib.hid (fun x j => cntH_bd (solR ps) x j)
      have HA3 := Lib.hid (ssA_cons hne)
      have HN3 := Lib.hid (ssN_cons hne)
      have HB3 := Lib.hid (ssB_cons hne)
      have HRd := Lib.hid hrd
      have HAll := Lib.hid hall
      have HEl := Lib.hid (elsL_len L)
      have HRec := Lib.hid hL
      have HLl := Lib.hid hll
      clear hst hL hrd hall hll hne hhid hr0 z0 X0 b0 hb1 hb2 p1
      generalize hrs : solR ps = rs at *
      have HRS := Lib.hid hrs
      clear hrs
      have hzb : ((rs.length : Int) == 0) = false := by rw [beq_eq_false_iff_ne]; omega
      go_wp2_with fail
      go_loopw [6, 7, 8] (fun a b i wr => ∃ (k : Nat) (va vb : Value), k ≤ 3 ∧ i = .int .i64 ((k : Int) + 1) ∧ a = va ∧ b = vb ∧ OwnI wr w2.heap.size va (suA rs k) ∧ OwnI wr w2.heap.size vb (suN rs k) ∧ Apart va vb ∧ Below w2.heap.size w2 wr) (fun _ _ i _ => (4 - intOf i).toNat)
      case atStart => exact ⟨0, _, _, by omega, rfl, rfl, rfl, OwnI.nil _ _, OwnI.nil _ _, (fun k e1 _ => by cases e1), Below.refl _ _⟩
      case round =>
        obtain ⟨k, va, vb, hk, rfl, rfl, rfl, hoa, hob, hap, hbw⟩ := hrel
        have hzr := hbw.size
        by_cases hlt : k < 3
        · obtain ⟨w3, rfl⟩ : ∃ w3, w3 = wr := ⟨_, rfl⟩
          have hki : (k : Int) + 1 ≤ 3 := by omega
          have hla := hA.out k
          have hlb := hNN.out k
          go_wp2_with fail
          go_loopw [9, 27] (fun m i wr => ∃ j : Nat, j ≤ rs.length ∧ i = .int .i64 j ∧ m = .int .i64 (cntH rs ((k : Int) + 1) j) ∧ Below w3.heap.size w3 wr) (fun _ i _ => rs.length - (intOf i).toNat)
          case atStart => exact ⟨0, Nat.zero_le _, rfl, rfl, Below.refl _ _⟩
          case round =>
            obtain ⟨j, hj, rfl, rfl, hbj⟩ := hrel
            have hzj := hbj.size
            have hcj := hcb.out ((k : Int) + 1) j
            by_cases hjt : j < rs.length
            · obtain ⟨x, hx, hm⟩ := lr_get (L := L) (k := j) (by rw [HLl.out]; exact hjt)
              have hbj2 := hbw.trans (hbj.mono hzr)
              obtain ⟨bb, o, rfl, hbb, d0, d1, d2⟩ := (HRd.out.below hbj2 (Nat.le_refl _)).2 j (by rw [HEl.out, HLl.out]; exact hjt)
              rw [elsL_get hx] at d0 d1 d2
              have hst := (HAll.out x hm).below hbj2 (Nat.le_refl _)
              have hh := hhB.out x hm
              have HC := Lib.hid (show cntH rs ((k : Int) + 1) (j + 1) = cntH rs ((k : Int) + 1) j + oneI (hasB x.2.2.1 ((k : Int) + 1)) by rw [cntH, ← HRec.out, recL_getD hx])
              obtain ⟨⟨st', v1, v2⟩, ⟨st, ss, bs⟩⟩ := x
              obtain ⟨h0, A3, A4, k1, k2, h1, h2, h3⟩ := hst
              dsimp only at h0 h1 h2 h3 d0 d1 d2 HC hh
              subst h0 h1 h2
              clear hx hm
              have b3 : Below w3.heap.size w3 (wr.alloc (.cells #[.int .i64 st', .slice A3 ss.length k1, .slice A4 bs.length k2] 45)) := hbj.alloc hzj _
              have hT2 := h3.alloc (show w2.heap.size ≤ wr.heap.size by omega) (.cells #[.int .i64 st', .slice A3 ss.length k1, .slice A4 bs.length k2] 45)
              have HCall := pzValue_any 2 ((k : Int) + 1) st' A3 A4 k1 k2 ss bs w2.heap.size _ hT2 (by simp; omega) hh (by omega) (by omega)
              rw [toldV_2] at HCall
              have HCall := Lib.hid HCall
              have hob1 := oneI_bd (hasB ss ((k : Int) + 1))
              generalize oneI (hasB ss ((k : Int) + 1)) = y at *
              generalize cntH rs ((k : Int) + 1) j = m at *
              clear hT2 hh
              go_wp2_with ((refine HCall.out.mono ?_); rintro e w5 ⟨rfl, hb5⟩)
              go_roundw
              case rel => exact ⟨j + 1, by omega, by go_num, by rw [HC.out], b3.trans (hb5.mono b3.size)⟩
              case measure => simp [intOf]; omega
            · obtain rfl : j = rs.length := by omega
              replace hoa := hoa.below hbj (Nat.le_refl _)
              replace hob := hob.below hbj (Nat.le_refl _)
              replace hbw := hbw.trans (hbj.mono hzr)
              replace hzr := hbw.size
              clear hbj hzj
              by_cases e1 : cntH rs ((k : Int) + 1) rs.length = rs.length
              · have EE := Lib.hid (hc1.out k e1)
                generalize hAS : suA rs k = xsA at *
                generalize hBS : suN rs k = xsB at *
                rw [e1] at *
                clear hAS hBS e1 hcj
                have hoa4 := hoa.alloc (.cells #[.int .i64 ((k : Int) + 1)] 3)
                have hob4 := hob.alloc (.cells #[.int .i64 ((k : Int) + 1)] 3)
                have hbw4 := hbw.alloc hzr (.cells #[.int .i64 ((k : Int) + 1)] 3)
                have hl4 : w2.heap.size ≤ (wr.alloc (.cells #[.int .i64 ((k : Int) + 1)] 3)).heap.size := hbw4.size
                go_wp2_with (at_builtin; refine wpList_pushZ _ rfl _ _ rfl w2.heap.size _ xsA rfl hoa4 wr.heap.size ((k : Int) + 1) rfl (by simp) (by omega) hl4 ?_; intro v5 w5 ho5 hgr5 hv5)
                have hbw5 : Below w2.heap.size w2 w5 := hbw4.grown hgr5 hl4 (fun j hj => (hoa4.lt j hj).1)
                have hoo5 := hob4.other hgr5 hap
                have hap5 := apart_new hob4 hap hv5
                go_roundw
                case rel => exact ⟨k + 1, _, _, by omega, by go_num, rfl, rfl, (by rw [EE.out.1]; exact ho5), (by rw [EE.out.2]; exact hoo5), hap5, hbw5⟩
                case measure => simp [intOf]; omega
              · by_cases e2 : cntH rs ((k : Int) + 1) rs.length = 0
                · have EE := Lib.hid (hc2.out k e1 e2)
                  generalize hAS : suA rs k = xsA at *
                  generalize hBS : suN rs k = xsB at *
                  rw [e2] at *
                  have e3 : ¬ (0 : Int) = (rs.length : Int) := by omega
                  clear hAS hBS e1 hcj
                  have hoa4 := hoa.alloc (.cells #[.int .i64 ((k : Int) + 1)] 3)
                  have hob4 := hob.alloc (.cells #[.int .i64 ((k : Int) + 1)] 3)
                  have hbw4 := hbw.alloc hzr (.cells #[.int .i64 ((k : Int) + 1)] 3)
                  have hl4 : w2.heap.size ≤ (wr.alloc (.cells #[.int .i64 ((k : Int) + 1)] 3)).heap.size := hbw4.size
                  go_wp2_with (at_builtin; refine wpList_pushZ _ rfl _ _ rfl w2.heap.size _ xsB rfl hob4 wr.heap.size ((k : Int) + 1) rfl (by simp) (by omega) hl4 ?_; intro v5 w5 ho5 hgr5 hv5)
                  have hbw5 : Below w2.heap.size w2 w5 := hbw4.grown hgr5 hl4 (fun j hj => (hob4.lt j hj).1)
                  have hoo5 := hoa4.other hgr5 (apart_sym hap)
                  have hap5 := apart_new hoa4 (apart_sym hap) hv5
                  go_roundw
                  case rel => exact ⟨k + 1, _, _, by omega, by go_num, rfl, rfl, (by rw [EE.out.1]; exact hoo5), (by rw [EE.out.2]; exact ho5), apart_sym hap5, hbw5⟩
                  case measure => simp [intOf]; omega
                · have EE := Lib.hid (hc3.out k e1 e2)
                  generalize hAS : suA rs k = xsA at *
                  generalize hBS : suN rs k = xsB at *
                  generalize cntH rs ((k : Int) + 1) rs.length = y at *
                  clear hAS hBS
                  go_wp2_with fail
                  go_roundw
                  case rel => exact ⟨k + 1, _, _, by omega, by go_num, rfl, rfl, (by rw [EE.out.1]; exact hoa), (by rw [EE.out.2]; exact hob), hap, hbw⟩
                  case measure => simp [intOf]; omega
        · obtain rfl : k = 3 := by omega
          obtain ⟨A7, c7, hv7, _⟩ := hoa.form
          obtain ⟨A8, c8, hv8, _⟩ := hob.form
          subst hv7
          subst hv8
          go_wp2_with fail
          refine bodyPost_ret (v := .tuple #[.slice A7 (suA rs 3).length c7, .slice A8 (suN rs 3).length c8, .bool true]) (by simp [results, Try.results40, go_sem]) rfl ?_
          exact ⟨_, _, by rw [HB3.out], by rw [HA3.out]; exact hoa.mono hzz, by rw [HN3.out]; exact hob.mono hzz, hap, hbw1.trans (hbw.mono hzz)⟩

end Go.Proofs.Ytmiojofeoaocfaa
