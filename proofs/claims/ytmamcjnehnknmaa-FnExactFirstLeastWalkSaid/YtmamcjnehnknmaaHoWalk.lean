/- Contracts: walks to doors, on both sides. -/
import Derived.Test.YtmamcjnehnknmaaHoDoors
namespace Go.Proofs.Ytmamcjnehnknmaa
open Go.RowKit

/-- the floors of doors, as naturals -/
def fsN (bs ds : List Int) : List Nat := ds.map (pf bs)
/-- a walk from a floor to floors and back -/
def walkF (ss : List Int) : Nat → List Nat → Int
  | a, [] => btw ss a 0
  | a, x :: r => btw ss a x + walkF ss x r
/-- its legs -/
def legsL : Nat → List Nat → List (Int × Int)
  | a, [] => [((a : Int), 0)]
  | a, x :: r => ((a : Int), (x : Int)) :: legsL x r
theorem legsL_length : ∀ (a : Nat) (fs : List Nat), (legsL a fs).length = fs.length + 1
  | _, [] => rfl
  | _, x :: r => by simp [legsL, legsL_length x r]
theorem fsN_drop {bs ds : List Int} {k : Nat} (h : k < ds.length) : (fsN bs ds).drop k = pf bs (ds.getD k 0) :: (fsN bs ds).drop (k + 1) := by
  unfold fsN
  rw [← List.map_drop, drop_at ds k h]
  simp
theorem fsN_end {bs ds : List Int} {k : Nat} (h : ¬ k < ds.length) : (fsN bs ds).drop k = [] := List.drop_eq_nil_of_le (by simp [fsN]; omega)
/-- where a walk stands: k doors told, s steps walked, at the floor a -/
structure WAt (ss bs ds : List Int) (k a : Nat) (s : Int) : Prop where
  e : walkF ss 0 (fsN bs ds) = s + walkF ss a ((fsN bs ds).drop k)
  s0 : 0 ≤ s
  s1 : s ≤ 440 * k
  ha : a ≤ ss.length
theorem WAt.first (ss bs ds : List Int) : WAt ss bs ds 0 0 0 := ⟨by simp, by omega, by omega, by omega⟩
theorem pf_le {ss bs ds : List Int} (G : GoodD ss bs ds) {k : Nat} (h : k < ds.length) : pf bs (ds.getD k 0) ≤ ss.length := by
  have h2 := G.hd k h
  have := pf_lt h2.1 h2.2
  have := G.g.nb
  omega
theorem WAt.next {ss bs ds : List Int} {k a : Nat} {s : Int} (G : GoodD ss bs ds) (h : WAt ss bs ds k a s) (hk : k < ds.length) : WAt ss bs ds (k + 1) (pf bs (ds.getD k 0)) (s + btw ss a (pf bs (ds.getD k 0))) := by
  have hb := btw_bd G.g h.ha (pf_le G hk)
  have h0 := h.s0
  have h1 := h.s1
  refine ⟨?_, by omega, by omega, pf_le G hk⟩
  rw [h.e, fsN_drop hk, walkF]
  omega
theorem upTo_btw (ss : List Int) (a : Nat) : btw ss a 0 = upTo ss a := by
  have h0 : upTo ss 0 = 0 := by simp [upTo, sumH]
  by_cases h : a ≤ 0
  · obtain rfl : a = 0 := by omega
    rw [btw_le (by omega), h0]; rfl
  · rw [btw_ge h, h0]; omega
theorem WAt.done {ss bs ds : List Int} {k a : Nat} {s : Int} (h : WAt ss bs ds k a s) (hk : ¬ k < ds.length) : s + upTo ss a = walkF ss 0 (fsN bs ds) := by
  rw [h.e, fsN_end hk, walkF, upTo_btw]

set_option maxHeartbeats 2000000 in
theorem ldWalk_any (A A' Z : Option Addr) (c c' d : Nat) (ss bs ds : List Int) (B : Nat) (w : World) (h : Ho w B A A' c c' ss bs) (hB : B ≤ w.heap.size) (hz : Rd w B Z d ds) (G : GoodD ss bs ds) :
    Calls Try.prog 44 #[.agg #[.slice A ss.length c, .slice A' bs.length c'], .slice Z ds.length d] w (Plain (.int .i64 (walkF ss 0 (fsN bs ds))) w) := by
  have X0 : Blk (w.alloc (.cells #[.slice A ss.length c, .slice A' bs.length c'] 26)) w.heap.size 26 #[.slice A ss.length c, .slice A' bs.length c'] := Blk.new _ _ _
  have B0 := below_alloc w (.cells #[.slice A ss.length c, .slice A' bs.length c'] 26)
  have hl1 := G.n1
  have HG := Lib.hid G
  clear G
  go_enter Try.func44, Try.ntmps44
  go_wp2_with fail
  go_loopw [5, 6, 12] (fun s a i wr => ∃ (k an : Nat) (sn : Int), k ≤ ds.length ∧ i = .int .i64 k ∧ s = .int .i64 sn ∧ a = .int .i64 an ∧ Hid (WAt ss bs ds k an sn) ∧ Blk wr w.heap.size 26 #[.slice A ss.length c, .slice A' bs.length c'] ∧ Below w.heap.size w wr) (fun _ _ i _ => ds.length - (intOf i).toNat)
  case atStart => exact ⟨0, 0, 0, Nat.zero_le _, rfl, rfl, rfl, WAt.first _ _ _, X0, B0⟩
  case round =>
    clear X0 B0
    obtain ⟨k, a, s, hk, rfl, rfl, rfl, HW, hX, hbw⟩ := hrel
    have hXl := hX.lt
    have hs0 := HW.out.s0
    have hs1 := HW.out.s1
    obtain ⟨p0, p1⟩ := hX.two
    by_cases hlt : k < ds.length
    · obtain ⟨b, o, rfl, hb0, hcell⟩ := (hz.below hbw hB).at_ hlt
      have hd := HG.out.hd k hlt
      have hpl := pf_le HG.out hlt
      have HN := Lib.hid (HW.out.next HG.out hlt)
      generalize ds.getD k 0 = x at *
      go_wp2_with fail
      refine (ldOf_new _ _ _ _ _ _ _ B _ (h.below hbw hB) (by omega) HG.out.g hd.1 hd.2).mono ?_
      rintro e w2 ⟨rfl, hb⟩
      have hX2 := hX.below hb hXl
      have hbw2 := hbw.trans (hb.mono (by omega))
      have hz2 := hb.size
      clear hb p0 p1
      obtain ⟨p0, p1⟩ := hX2.two
      generalize pf bs x = f at *
      have hbt := btw_bd HG.out.g HW.out.ha hpl
      go_wp2_with fail
      refine (ldBetween_any _ _ _ _ _ _ a f B _ (h.below hbw2 hB) (by omega) HG.out.g HW.out.ha hpl).mono ?_
      rintro e w3 ⟨rfl, hb⟩
      have hX3 := hX2.below hb (by omega)
      have hbw3 := hbw2.trans (hb.mono (by omega))
      clear hb p0 p1
      generalize btw ss a f = t at *
      go_wp2_with fail
      go_roundw
      case rel => exact ⟨k + 1, f, s + t, by omega, by go_num, rfl, rfl, HN.out, hX3, hbw3⟩
      case measure => simp [intOf]; omega
    · have HE := Lib.hid (HW.out.done hlt)
      have hup := HG.out.g.up HW.out.ha
      go_wp2_with fail
      refine (ldTo_any _ _ _ _ _ _ a B _ (h.below hbw hB) (by omega) HG.out.g HW.out.ha).mono ?_
      rintro e w2 ⟨rfl, hb⟩
      generalize upTo ss a = t at *
      go_wp2_with fail
      go_ret
      exact ⟨ret_int HE.out, hbw.trans (hb.mono (by omega))⟩

set_option maxHeartbeats 800000 in
theorem specWalk_any (A A' : Option Addr) (c c' : Nat) (ss bs : List Int) (Z : Option Addr) (d : Nat) (ds : List Int) (B : Nat) (w : World) (h : Ho w B A A' c c' ss bs) (hB : B ≤ w.heap.size) (hz : Rd w B Z d ds) (hn : ds.length ≤ 1048576) :
    Calls Try.prog 17 #[.agg #[.slice A ss.length c, .slice A' bs.length c'], .slice Z ds.length d] w (Plain (.tuple #[.int .i64 (orI (listB ss bs ds) (walkF ss 0 (fsN bs ds))), .bool (listB ss bs ds)]) w) := by
  cases g : listB ss bs ds
  · rw [orI_no]
    have H := Lib.hid g
    clear g
    have hz1 := hz.below (below_alloc w (.cells #[.slice A ss.length c, .slice A' bs.length c'] 26)) hB
    have h1 := h.alloc hB (.cells #[.slice A ss.length c, .slice A' bs.length c'] 26)
    have X0 : Blk (w.alloc (.cells #[.slice A ss.length c, .slice A' bs.length c'] 26)) w.heap.size 26 #[.slice A ss.length c, .slice A' bs.length c'] := Blk.new _ _ _
    have hns := h.ns
    have hnb := h.nb
    have hcs := h.rs.1
    have hcb := h.rb.1
    go_enter Try.func17, Try.ntmps17
    go_wp2_with fail
    refine (ldList_any _ _ _ _ _ _ _ _ _ B _ h1 (by simp; omega) hz1 hn).mono ?_
    rintro e w1 ⟨rfl, hb⟩
    have Bt : Below w.heap.size w w1 := (below_alloc _ _).trans (hb.mono (by simp))
    have hs : w.heap.size + 1 ≤ w1.heap.size := by have := hb.size; simp at this; omega
    replace h1 := h1.below hb (by simp; omega)
    replace X0 := X0.below hb (by simp)
    clear hb
    obtain ⟨p0, p1⟩ := X0.two
    rw [H.out]
    go_wp2_with fail
    go_ret2
    exact ⟨rfl, Bt⟩
  · rw [orI_yes]
    have G := listB_good g
    have H := Lib.hid g
    clear g
    have hz1 := hz.below (below_alloc w (.cells #[.slice A ss.length c, .slice A' bs.length c'] 26)) hB
    have h1 := h.alloc hB (.cells #[.slice A ss.length c, .slice A' bs.length c'] 26)
    have X0 : Blk (w.alloc (.cells #[.slice A ss.length c, .slice A' bs.length c'] 26)) w.heap.size 26 #[.slice A ss.length c, .slice A' bs.length c'] := Blk.new _ _ _
    have hns := h.ns
    have hnb := h.nb
    have hcs := h.rs.1
    have hcb := h.rb.1
    go_enter Try.func17, Try.ntmps17
    go_wp2_with fail
    refine (ldList_any _ _ _ _ _ _ _ _ _ B _ h1 (by simp; omega) hz1 hn).mono ?_
    rintro e w1 ⟨rfl, hb⟩
    have Bt : Below w.heap.size w w1 := (below_alloc _ _).trans (hb.mono (by simp))
    have hs : w.heap.size + 1 ≤ w1.heap.size := by have := hb.size; simp at this; omega
    replace h1 := h1.below hb (by simp; omega)
    replace X0 := X0.below hb (by simp)
    replace hz := (hz.below (below_alloc _ _) hB).below hb (by simp; omega)
    clear hb
    obtain ⟨p0, p1⟩ := X0.two
    rw [H.out]
    go_wp2_with fail
    refine (ldWalk_any _ _ _ _ _ _ _ _ _ B _ h1 (by omega) hz G).mono ?_
    rintro e w2 ⟨rfl, hb⟩
    replace Bt := Bt.trans (hb.mono (by omega))
    replace h1 := h1.below hb (by omega)
    replace X0 := X0.below hb (by omega)
    replace hs : w.heap.size + 1 ≤ w2.heap.size := by have := hb.size; omega
    clear p0 p1
    clear hb
    obtain ⟨p0, p1⟩ := X0.two
    go_wp2_with fail
    go_ret2
    exact ⟨rfl, Bt⟩

theorem leg_info : (Try.prog.info? 58).map (fun i => (i.zero, i.size, i.bytes)) = some (some (.agg #[.int .i64 0, .int .i64 0]), 2, 16) := by kernel_rfl
/-- the cells of pairs -/
def cellsP : List (Int × Int) → List Value
  | [] => []
  | p :: r => .int .i64 p.1 :: .int .i64 p.2 :: cellsP r
theorem cellsP_length : ∀ ps, (cellsP ps).length = ps.length * 2
  | [] => rfl
  | p :: r => by simp [cellsP, cellsP_length r]; omega
theorem cellsP_app : ∀ ps qs, cellsP (ps ++ qs) = cellsP ps ++ cellsP qs
  | [], _ => rfl
  | p :: r, qs => by simp [cellsP, cellsP_app r qs]
theorem cellsP_at : ∀ (ps : List (Int × Int)) (k : Nat), k < ps.length → (cellsP ps)[k * 2]? = some (.int .i64 (ps.getD k (0, 0)).1) ∧ (cellsP ps)[k * 2 + 1]? = some (.int .i64 (ps.getD k (0, 0)).2)
  | [], k, h => absurd h (by simp)
  | p :: r, 0, _ => by simp [cellsP]
  | p :: r, k + 1, h => by
    have := cellsP_at r k (by simpa using h)
    rw [show (k + 1) * 2 = (k * 2 + 1) + 1 by omega]
    simp only [cellsP, List.getElem?_cons_succ, List.getD_cons_succ]
    exact ⟨this.1, this.2⟩
/-- a row of legs of the call's own -/
def OwnP (w : World) (B : Nat) (v : Value) (ps : List (Int × Int)) : Prop := w.ownsRow B 58 2 v ps.length (cellsP ps)
theorem OwnP.nil (w : World) (B : Nat) : OwnP w B (.slice none 0 0) [] := World.ownsRow_nil _ _ _ _
theorem OwnP.alloc {w : World} {B : Nat} {v : Value} {ps : List (Int × Int)} (h : OwnP w B v ps) (o : Obj) : OwnP (w.alloc o) B v ps := World.ownsRow.alloc h o
theorem OwnP.lt {w : World} {B : Nat} {v : Value} {ps : List (Int × Int)} (h : OwnP w B v ps) : ∀ k, v.ownBlock = some k → B ≤ k ∧ k < w.heap.size := World.ownsRow.lt h
theorem wpList_pushP (w : World) {ops : Array Oper} {rest : List Oper} {o : Oper} {a : Act} {Q : Exit → Act → World → Prop} (hgd : o.guard = none) (s x : Operand)
    (ho : o.op = .call { callee := .builtin .append, args := #[s, x], argTypes := #[59, 59] }) (B : Nat) (v : Value) (ps : List (Int × Int)) (hs : a.eval s = v) (hown : OwnP w B v ps)
    (g : Nat) (p : Int × Int) (hx : a.eval x = .slice (some ⟨g, 0, none⟩) 1 1) (hc : w.cell? ⟨g, 0, none⟩ = some (.int .i64 p.1)) (hc2 : w.cell? ⟨g, 1, none⟩ = some (.int .i64 p.2)) (hn : ps.length ≤ 1048576) (hB : B ≤ w.heap.size)
    (h : ∀ v' w', OwnP w' B v' (ps ++ [p]) → Below B w w' → wpList Try.prog ops Q rest (a.put o.dst v') w') : wpList Try.prog ops Q (o :: rest) a w := by
  obtain ⟨i0, hi, hz, hsz, hby⟩ := info_parts leg_info
  refine wpList_append_own w hgd s x 59 ho B 58 i0 (.agg #[.int .i64 0, .int .i64 0]) 2 16 Try.underlying59 hi hz hsz hby rfl (by decide) v ps.length _ hs hown ⟨g, 0, none⟩ 1 1 [.int .i64 p.1, .int .i64 p.2] hx rfl ?_ ?_ ?_ ?_ hB ?_
  · intro j u hu
    match j with
    | 0 => simp at hu; subst hu; exact hc
    | 1 => simp at hu; subst hu; exact hc2
    | j + 2 => simp at hu
  · simp [Value.oneCell']
  · simp only [maxLen]; omega
  · omega
  · intro v' w' h1 h2 _
    refine h v' w' ?_ ((Below.refl _ _).grown h2 hB (fun k hk => (hown.lt k hk).1))
    unfold OwnP
    rw [cellsP_app, List.length_append]
    simpa [cellsP] using h1
/-- where the legs stand -/
structure LegAt (fs : List Nat) (k a : Nat) (ps : List (Int × Int)) : Prop where
  e : legsL 0 fs = ps ++ legsL a (fs.drop k)
  n : ps.length = k
theorem LegAt.next {bs ds : List Int} {k a : Nat} {ps : List (Int × Int)} (h : LegAt (fsN bs ds) k a ps) (hk : k < ds.length) : LegAt (fsN bs ds) (k + 1) (pf bs (ds.getD k 0)) (ps ++ [((a : Int), ((pf bs (ds.getD k 0) : Nat) : Int))]) :=
  ⟨by rw [h.e, fsN_drop hk, legsL, List.append_assoc]; rfl, by simp [h.n]⟩
theorem LegAt.done {bs ds : List Int} {k a : Nat} {ps : List (Int × Int)} (h : LegAt (fsN bs ds) k a ps) (hk : ¬ k < ds.length) : ps ++ [((a : Int), (0 : Int))] = legsL 0 (fsN bs ds) := by
  rw [h.e, fsN_end hk]; rfl

set_option maxHeartbeats 2000000 in
theorem legsOf_any (Z : Option Addr) (d : Nat) (bs ds : List Int) (B : Nat) (w : World) (hz : Rd w B Z d (flL bs ds)) (hB : B ≤ w.heap.size) (hn : ds.length ≤ 1000) (hf : ∀ k, k < ds.length → pf bs (ds.getD k 0) ≤ 1000) :
    Calls Try.prog 47 #[.slice Z ds.length d] w fun e w' => ∃ v, e = .returned v ∧ OwnP w' w.heap.size v (legsL 0 (fsN bs ds)) ∧ Below w.heap.size w w' := by
  have hfl := Lib.hid (flL_length bs ds)
  go_enter Try.func47, Try.ntmps47
  go_wp2_with fail
  go_loopw [3, 4, 9] (fun v a i wr => ∃ (k an : Nat) (ps : List (Int × Int)), k ≤ ds.length ∧ i = .int .i64 k ∧ a = .int .i64 an ∧ an ≤ 1000 ∧ Hid (LegAt (fsN bs ds) k an ps) ∧ OwnP wr w.heap.size v ps ∧ Below w.heap.size w wr) (fun _ _ i _ => ds.length - (intOf i).toNat)
  case atStart => exact ⟨0, 0, [], Nat.zero_le _, rfl, rfl, by omega, ⟨by simp, rfl⟩, OwnP.nil _ _, Below.refl _ _⟩
  case round =>
    obtain ⟨k, a, ps, hk, rfl, rfl, ha, HL, hown, hbw⟩ := hrel
    have hz0 := hbw.size
    have hpn : ps.length ≤ 1048576 := by have := HL.out.n; omega
    by_cases hlt : k < ds.length
    · obtain ⟨b, o, rfl, hb0, hcell⟩ := (hz.below hbw hB).at_ (k := k) (by rw [hfl.out]; exact hlt)
      rw [flL_getD hlt] at hcell
      have hfk := hf k hlt
      have HN := Lib.hid (HL.out.next hlt)
      generalize pf bs (ds.getD k 0) = f at *
      go_wp2_with (at_builtin; refine wpList_pushP _ rfl _ _ rfl w.heap.size _ ps rfl (hown.alloc _) wr.heap.size ((a : Int), (f : Int)) rfl (by simp) (by simp) hpn (by simp; omega) ?_; intro v1 w3 hown1 hg1)
      go_roundw
      case rel => exact ⟨k + 1, f, _, by omega, by go_num, rfl, hfk, HN.out, hown1, (hbw.alloc (by omega) _).trans hg1⟩
      case measure => simp [intOf]; omega
    · have HE := Lib.hid (HL.out.done hlt)
      go_wp2_with (at_builtin; refine wpList_pushP _ rfl _ _ rfl w.heap.size _ ps rfl (hown.alloc _) wr.heap.size ((a : Int), (0 : Int)) rfl (by simp) (by simp) hpn (by simp; omega) ?_; intro v1 w3 hown1 hg1)
      go_ret
      rw [HE.out] at hown1
      exact ⟨_, rfl, hown1, (hbw.alloc (by omega) _).trans hg1⟩

theorem OwnP.below {w w' : World} {B B' : Nat} {v : Value} {ps : List (Int × Int)} (h : OwnP w B v ps) (hb : Below B' w w') (hB : w.heap.size ≤ B') : OwnP w' B v ps := by
  refine ⟨h.1, ?_⟩
  rcases h.2 with h0 | ⟨g, cap, cur, rfl, hg, hh, r⟩
  · exact .inl h0
  · exact .inr ⟨g, cap, cur, rfl, hg, by rw [hb.block g (Nat.lt_of_lt_of_le (Array.getElem?_eq_some_iff.1 hh).1 hB)]; exact hh, r⟩
theorem OwnP.form {w : World} {B : Nat} {v : Value} {ps : List (Int × Int)} (h : OwnP w B v ps) (h1 : 1 ≤ ps.length) : ∃ g cap, v = .slice (some ⟨g, 0, none⟩) ps.length cap ∧ ps.length ≤ cap := by
  rcases h.2 with ⟨_, h0⟩ | ⟨g, cap, cur, rfl, hg, hh, hc, _⟩
  · omega
  · exact ⟨g, cap, rfl, hc⟩
theorem OwnP.cell {w : World} {B g n cap : Nat} {ps : List (Int × Int)} (h : OwnP w B (.slice (some ⟨g, 0, none⟩) n cap) ps) (hn : n = ps.length) {k : Nat} (hk : k < ps.length) :
    w.cell? ⟨g, k * 2, none⟩ = some (.int .i64 (ps.getD k (0, 0)).1) ∧ w.cell? ⟨g, k * 2 + 1, none⟩ = some (.int .i64 (ps.getD k (0, 0)).2) := by
  subst hn
  have e := cellsP_at ps k hk
  rw [World.ownsRow.cellAt h (k * 2) (by omega), World.ownsRow.cellAt h (k * 2 + 1) (by omega)]
  exact e
/-- what each leg is worth -/
def legW (ss : List Int) (ps : List (Int × Int)) : List Int := ps.map fun p => btw ss p.1.toNat p.2.toNat
theorem legW_length (ss : List Int) (ps : List (Int × Int)) : (legW ss ps).length = ps.length := by simp [legW]
theorem legW_getD {ss : List Int} {ps : List (Int × Int)} {k : Nat} (h : k < ps.length) : (legW ss ps).getD k 0 = btw ss (ps.getD k (0, 0)).1.toNat (ps.getD k (0, 0)).2.toNat := by simp [legW, List.getD_eq_getElem?_getD, h]
theorem legW_sum (ss : List Int) : ∀ (a : Nat) (fs : List Nat), sumH (legW ss (legsL a fs)) = walkF ss a fs
  | a, [] => by simp [legsL, legW, sumH, walkF]
  | a, x :: r => by
    have := legW_sum ss x r
    unfold legW at this ⊢
    simp only [legsL, List.map_cons, sumH, walkF, this, Int.toNat_natCast]
/-- legs between floors -/
def LegsOk (n : Nat) (ps : List (Int × Int)) : Prop := ∀ k, k < ps.length → ∃ a b : Nat, ps.getD k (0, 0) = ((a : Int), (b : Int)) ∧ a ≤ n ∧ b ≤ n
theorem legsOk (n : Nat) : ∀ (a : Nat) (fs : List Nat), a ≤ n → (∀ x ∈ fs, x ≤ n) → LegsOk n (legsL a fs)
  | a, [], ha, _, 0, _ => ⟨a, 0, rfl, ha, by omega⟩
  | a, [], _, _, k + 1, h => absurd h (by simp [legsL])
  | a, x :: r, ha, hf, 0, _ => ⟨a, x, rfl, ha, hf x (by simp)⟩
  | a, x :: r, ha, hf, k + 1, h => by
    have := legsOk n x r (hf x (by simp)) (fun y hy => hf y (by simp [hy])) k (by simpa [legsL] using h)
    simpa [legsL] using this

set_option maxHeartbeats 800000 in
theorem legWalk_any (A A' : Option Addr) (c c' : Nat) (ss bs : List Int) (q a b : Nat) (B : Nat) (w : World) (h : Ho w B A A' c c' ss bs) (hB : B ≤ w.heap.size) (X : Blk w q 26 #[.slice A ss.length c, .slice A' bs.length c']) (G : GoodH ss bs) (ha : a ≤ ss.length) (hb : b ≤ ss.length) :
    Calls Try.prog 48 #[.agg #[.int .i64 a, .int .i64 b], .pointer (some ⟨q, 0, none⟩)] w (Plain (.int .i64 (btw ss a b)) w) := by
  have hq := X.lt
  have X1 := X.alloc (.cells #[.int .i64 (a : Int), .int .i64 (b : Int)] 58)
  have h1 := h.alloc hB (.cells #[.int .i64 (a : Int), .int .i64 (b : Int)] 58)
  obtain ⟨p0, p1⟩ := X.two
  obtain ⟨q0, q1⟩ := X1.two
  go_enter Try.func48, Try.ntmps48
  go_wp2_with fail
  refine (stepsBetween_new _ _ _ _ _ _ a b B _ h1 (by simp; omega) G ha hb).mono ?_
  rintro e w2 ⟨rfl, hb2⟩
  go_wp2_with fail
  go_ret
  exact ⟨rfl, (below_alloc _ _).trans (hb2.mono (by simp))⟩

set_option maxHeartbeats 1000000 in
theorem sumLegs_any (A A' : Option Addr) (c c' : Nat) (ss bs : List Int) (q g cap : Nat) (ps : List (Int × Int)) (B B1 : Nat) (w : World) (h : Ho w B A A' c c' ss bs) (hB : B ≤ w.heap.size) (X : Blk w q 26 #[.slice A ss.length c, .slice A' bs.length c']) (G : GoodH ss bs)
    (hp : OwnP w B1 (.slice (some ⟨g, 0, none⟩) ps.length cap) ps) (hn : ps.length ≤ 100) (hk : LegsOk ss.length ps) :
    Calls Try.prog 46 #[.slice (some ⟨g, 0, none⟩) ps.length cap, .func (.func 48) #[] #[.pointer (some ⟨q, 0, none⟩)]] w (Plain (.int .i64 (sumH (legW ss ps))) w) := by
  have hq := X.lt
  have HG := Lib.hid G
  have hW := Lib.hid (legW_length ss ps)
  have HB : Hid (∀ k, k < (legW ss ps).length → 0 ≤ (legW ss ps).getD k 0 ∧ (legW ss ps).getD k 0 ≤ 1000) := fun k hkk => by
    rw [hW.out] at hkk
    obtain ⟨a, b, e, ha, hb⟩ := hk k hkk
    rw [legW_getD hkk, e]
    have := btw_bd HG.out ha hb
    simp only [Int.toNat_natCast]
    omega
  have HK := Lib.hid hk
  clear G hk
  go_enter Try.func46, Try.ntmps46
  go_wp2_with fail
  go_loopw [5, 10] (fun s i wr => ∃ (k : Nat), k ≤ ps.length ∧ i = .int .i64 k ∧ s = .int .i64 (sumH ((legW ss ps).take k)) ∧ Below w.heap.size w wr) (fun _ i _ => ps.length - (intOf i).toNat)
  case atStart => exact ⟨0, Nat.zero_le _, rfl, rfl, Below.refl _ _⟩
  case round =>
    obtain ⟨k, hkk, rfl, rfl, hbw⟩ := hrel
    have hz0 := hbw.size
    have hbd := sumH_bd (m := 1000) (by omega) HB.out k (by rw [hW.out]; exact hkk)
    by_cases hlt : k < ps.length
    · obtain ⟨a, b, e, ha, hb⟩ := HK.out k hlt
      have hc := (hp.below hbw (Nat.le_refl _)).cell rfl hlt
      rw [e] at hc
      obtain ⟨hc0, hc1⟩ := hc
      have hg := (hp.lt g rfl).2
      have E := Lib.hid (sumH_take (legW ss ps) k (by rw [hW.out]; exact hlt))
      rw [legW_getD hlt, e] at E
      simp only [Int.toNat_natCast] at E
      have hbt := btw_bd HG.out ha hb
      generalize sumH ((legW ss ps).take k) = s at *
      go_wp2_with fail
      refine (legWalk_any A A' c c' ss bs q a b B _ ((h.below hbw hB).alloc' (by omega)) (by simp; omega) ((X.below hbw hq).alloc _) HG.out ha hb).mono ?_
      rintro e2 w2 ⟨rfl, hb2⟩
      generalize btw ss a b = t at *
      go_wp2_with fail
      go_roundw
      case rel => exact ⟨k + 1, by omega, by go_num, by rw [E.out], (hbw.alloc hz0 _).trans (hb2.mono (by simp; omega))⟩
      case measure => simp [intOf]; omega
    · obtain rfl : k = ps.length := by omega
      have E : Hid (sumH ((legW ss ps).take ps.length) = sumH (legW ss ps)) := by
        have := List.take_length (l := legW ss ps)
        rw [hW.out] at this
        exact congrArg sumH this
      generalize sumH ((legW ss ps).take ps.length) = s at *
      go_wp2_with fail
      go_ret
      exact ⟨ret_int E.out, hbw⟩

set_option maxHeartbeats 2000000 in
theorem implWalk_any (A A' : Option Addr) (c c' : Nat) (ss bs : List Int) (Z : Option Addr) (d : Nat) (ds : List Int) (B : Nat) (w : World) (h : Ho w B A A' c c' ss bs) (hB : B ≤ w.heap.size) (hz : Rd w B Z d ds) (hn : ds.length ≤ 1048576) :
    Calls Try.prog 19 #[.agg #[.slice A ss.length c, .slice A' bs.length c'], .slice Z ds.length d] w (Plain (.tuple #[.int .i64 (orI (listB ss bs ds) (walkF ss 0 (fsN bs ds))), .bool (listB ss bs ds)]) w) := by
  cases g : listB ss bs ds
  · rw [orI_no]
    have H := Lib.hid g
    have HO : Hid (orL (listB ss bs ds) (flL bs ds) = []) := by rw [g]; rfl
    clear g
    have hz1 := hz.below (below_alloc w (.cells #[.slice A ss.length c, .slice A' bs.length c'] 26)) hB
    have h1 := h.alloc hB (.cells #[.slice A ss.length c, .slice A' bs.length c'] 26)
    have X0 : Blk (w.alloc (.cells #[.slice A ss.length c, .slice A' bs.length c'] 26)) w.heap.size 26 #[.slice A ss.length c, .slice A' bs.length c'] := Blk.new _ _ _
    have hns := h.ns
    have hnb := h.nb
    have hcs := h.rs.1
    have hcb := h.rb.1
    go_enter Try.func19, Try.ntmps19
    go_wp2_with fail
    refine (floors_any _ _ _ _ _ _ _ _ _ B _ h1 (by simp; omega) hz1 hn).mono ?_
    rintro e w2 ⟨v, rfl, hown, hb⟩
    obtain ⟨Z1, d1, rfl, _⟩ := hown.form
    rw [H.out]
    go_wp2_with fail
    go_ret2
    exact ⟨rfl, (below_alloc _ _).trans (hb.mono (by simp))⟩
  · rw [orI_yes]
    have G := listB_good g
    have H := Lib.hid g
    have HO : Hid (orL (listB ss bs ds) (flL bs ds) = flL bs ds) := by rw [g]; rfl
    clear g
    have hz1 := hz.below (below_alloc w (.cells #[.slice A ss.length c, .slice A' bs.length c'] 26)) hB
    have h1 := h.alloc hB (.cells #[.slice A ss.length c, .slice A' bs.length c'] 26)
    have X0 : Blk (w.alloc (.cells #[.slice A ss.length c, .slice A' bs.length c'] 26)) w.heap.size 26 #[.slice A ss.length c, .slice A' bs.length c'] := Blk.new _ _ _
    have hns := h.ns
    have hnb := h.nb
    have hcs := h.rs.1
    have hcb := h.rb.1
    go_enter Try.func19, Try.ntmps19
    go_wp2_with fail
    refine (floors_any _ _ _ _ _ _ _ _ _ B _ h1 (by simp; omega) hz1 hn).mono ?_
    rintro e w2 ⟨v, rfl, hown, hb⟩
    rw [HO.out] at hown
    obtain ⟨Z1, d1, rfl, hrd⟩ := hown.form
    rw [H.out, flL_length]
    have hs : w.heap.size + 1 ≤ w2.heap.size := by have := hb.size; simp at this; omega
    have X2 := X0.below hb (by simp)
    have h2 := h1.below hb (by simp; omega)
    have Bt : Below w.heap.size w w2 := (below_alloc _ _).trans (hb.mono (by simp))
    clear hb hown
    have hd20 := G.n1
    go_wp2_with fail
    refine (legsOf_any _ _ _ _ w2.heap.size _ hrd (Nat.le_refl _) (by omega) (fun k hk => by have := pf_le G hk; have := G.g.n1; omega)).mono ?_
    rintro e w3 ⟨v3, rfl, hown3, hb3⟩
    obtain ⟨g3, cap3, rfl, _⟩ := hown3.form (by rw [legsL_length]; omega)
    have hs3 := hb3.size
    have X3 := X2.below hb3 (by omega)
    have h3 := h2.below hb3 (by omega)
    replace Bt := Bt.trans (hb3.mono (by omega))
    clear hb3 X2 h2 hrd
    have hll : (legsL 0 (fsN bs ds)).length ≤ 100 := by rw [legsL_length]; simp [fsN]; omega
    have HOK := Lib.hid (legsOk ss.length 0 (fsN bs ds) (by omega) (fun x hx => by obtain ⟨y, hy, rfl⟩ := List.mem_map.1 hx; obtain ⟨k, hk, e⟩ := List.getElem_of_mem hy; have := pf_le G hk; rw [show ds.getD k 0 = y by simp [List.getD_eq_getElem?_getD, hk, e]] at this; exact this))
    have HE := Lib.hid (legW_sum ss 0 (fsN bs ds))
    generalize legsL 0 (fsN bs ds) = ps at *
    go_wp2_with fail
    refine (sumLegs_any A A' c c' ss bs _ _ _ ps B _ _ h3 (by omega) X3 G.g hown3 hll HOK.out).mono ?_
    rintro e w4 ⟨rfl, hb4⟩
    rw [HE.out]
    go_wp2_with fail
    go_ret2
    exact ⟨rfl, Bt.trans (hb4.mono (by omega))⟩

end Go.Proofs.Ytmamcjnehnknmaa
