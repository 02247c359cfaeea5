/- Ways to steps: the program turns the stairs and the row of their ways on. -/
import Derived.Test.YtimgnollnnepbaaStOn
import Derived.Test.YtimgnollnnepbaaTurned
import Derived.Deep.RegionHeld3
import Derived.RegionTactic
import Derived.BigRegion
import Derived.ChangeAlike
namespace Go.Proofs.Ytimgnollnnepbaa
open Go.RowKit

theorem hasB_turn (st : Int) (bs : List Int) (x : Int) : hasB (turnL st bs) x = hasB bs (st - x) := by
  rw [Bool.eq_iff_iff]
  simp only [hasB, turnL, List.contains_iff_mem, List.mem_reverse, List.mem_map]
  constructor
  · rintro ⟨b, hb, rfl⟩
    rw [show st - (st - b) = b by omega]; exact hb
  · intro h
    exact ⟨st - x, h, by omega⟩
theorem Good.turn {st : Int} {ss bs : List Int} (G : Good st ss bs) : Good st ss (turnL st bs) :=
  ⟨G.st1, G.st2, G.l1, G.l2, G.hs, fun x hx => by
    simp only [turnL, List.mem_reverse, List.mem_map] at hx
    obtain ⟨b, hb, rfl⟩ := hx
    have := G.hb b hb
    omega, G.ps, turn_sorted st G.pb⟩
/-- how many ways lead to a step -/
def tS (n : Nat) (ss bs : List Int) (k : Nat) : Int := wS n ss (turnL n bs) k
theorem tS_zero (n : Nat) (ss bs : List Int) : tS n ss bs 0 = 1 := rfl
theorem tS_dead {n : Nat} {ss bs : List Int} {d : Nat} (h : hasB bs ((d + 1 : Nat) : Int) = true) : tS n ss bs (d + 1) = 0 :=
  wS_dead (by rw [hasB_turn, show ((n : Int) - ((n : Int) - ((d + 1 : Nat) : Int))) = ((d + 1 : Nat) : Int) by omega]; exact h)
theorem tS_alive {n : Nat} {ss bs : List Int} {d : Nat} (h : hasB bs ((d + 1 : Nat) : Int) = false) : tS n ss bs (d + 1) = pS n ss (turnL n bs) d ss.length :=
  wS_alive (by rw [hasB_turn, show ((n : Int) - ((n : Int) - ((d + 1 : Nat) : Int))) = ((d + 1 : Nat) : Int) by omega]; exact h)
theorem tS_bd {n : Nat} {ss bs : List Int} (G : Good n ss bs) {k : Nat} (h : k ≤ 60) : 0 ≤ tS n ss bs k ∧ tS n ss bs k ≤ 1152921504606846976 := wS_bd G.turn h
theorem onL_at {n : Nat} {ss bs : List Int} {p : Nat} (h : p ≤ n) : (onL n ss bs).getD p 0 = wS n ss bs (n - p) := by
  unfold onL
  rw [tell_getD _ _ _ (by omega)]
  unfold onS
  rw [if_pos (by omega)]
theorem onL_turn {n : Nat} {ss bs : List Int} {k : Nat} (h : k ≤ n) : (onL n ss (turnL n bs)).getD (n - k) 0 = tS n ss bs k := by
  rw [onL_at (by omega), show n - (n - k) = k by omega]; rfl

/-- the first m numbers of a row behind k exchanges -/
def revT (ys : List Int) (m k : Nat) : List Int := tell ys.length fun j => if j < m ∧ (j < k ∨ m ≤ j + k) then ys.getD (m - 1 - j) 0 else ys.getD j 0
theorem revT_length (ys : List Int) (m k : Nat) : (revT ys m k).length = ys.length := tell_length _ _
theorem revT_get {ys : List Int} {m k j : Nat} (h : j < ys.length) : (revT ys m k).getD j 0 = if j < m ∧ (j < k ∨ m ≤ j + k) then ys.getD (m - 1 - j) 0 else ys.getD j 0 := tell_getD _ _ _ h
theorem revT_zero (ys : List Int) (m : Nat) : revT ys m 0 = ys := by
  refine list_ext_getD' (revT_length _ _ _) fun j hj => ?_
  rw [revT_length] at hj
  rw [revT_get hj, if_neg (by omega)]
theorem revT_end {ys : List Int} {m k : Nat} (h : m ≤ 2 * k + 1) : revT ys m k = revT ys m m :=
  tell_ext fun j _ => by
    by_cases h1 : j < m
    · rw [if_pos (show j < m ∧ (j < m ∨ m ≤ j + m) from ⟨h1, .inl h1⟩)]
      by_cases h2 : j < k ∨ m ≤ j + k
      · rw [if_pos ⟨h1, h2⟩]
      · rw [if_neg (by omega), show m - 1 - j = j by omega]
    · rw [if_neg (by omega), if_neg (by omega)]
theorem revT_set {ys : List Int} {m k : Nat} (hm : m ≤ ys.length) (h : 2 * k + 1 < m) :
    ((revT ys m k).set k (ys.getD (m - 1 - k) 0)).set (m - 1 - k) (ys.getD k 0) = revT ys m (k + 1) := by
  refine list_ext_getD' (by simp [revT_length]) fun j hj => ?_
  simp [revT_length] at hj
  rw [getD_set _ _ _ _ (by simp [revT_length]; omega), getD_set _ _ _ _ (by rw [revT_length]; omega), revT_get hj, revT_get hj]
  by_cases e1 : j = m - 1 - k
  · rw [if_pos e1, if_pos (by omega), show m - 1 - j = k by omega]
  · rw [if_neg e1]
    by_cases e2 : j = k
    · rw [if_pos e2, if_pos (by omega), e2]
    · rw [if_neg e2]
      by_cases e3 : j < m ∧ (j < k ∨ m ≤ j + k)
      · rw [if_pos e3, if_pos (by omega)]
      · rw [if_neg e3, if_neg (by omega)]

theorem turned_cell {w : World} {g i : Nat} (u : Value) : Turned w (w.setCell ⟨g, i, none⟩ u) [g] :=
  ⟨rfl, rfl, rfl, by simp [World.setCell], fun k _ hk => Below.heap_setCell _ _ _ _ (fun e => hk (by simp [e]))⟩
theorem Turned.drew' {a w : World} {L : List Nat} (h : Turned a w L) : Turned a w.drew L := ⟨h.os, h.tape, h.output, h.size, h.block⟩

set_option maxHeartbeats 2000000 in
theorem revP_any (g m c : Nat) (ys : List Int) (w : World) (hb : Blk w g 3 (ints ys)) (hm : m ≤ ys.length) (hl : ys.length ≤ 1000) :
    Calls Try.prog 75 #[.slice (some ⟨g, 0, none⟩) m c] w fun e w' => e = .returned (.tuple #[]) ∧ Blk w' g 3 (ints (revT ys m m)) ∧ Turned w w' [g] := by
  go_enter Try.func75, Try.ntmps75
  go_wp2
  go_loopw [2, 3] (fun i j wr => ∃ (k : Nat), 2 * k ≤ m + 1 ∧ i = .int .i64 k ∧ j = .int .i64 ((m : Int) - 1 - k) ∧ Blk wr g 3 (ints (revT ys m k)) ∧ Turned w wr [g]) (fun i _ _ => m - (intOf i).toNat)
  case atStart => exact ⟨0, by omega, rfl, by go_num, by rw [revT_zero]; exact hb, Turned.refl _ _⟩
  case round =>
    obtain ⟨k, hk, rfl, rfl, hblk, ht⟩ := hrel
    have HL := Lib.hid (revT_length ys m k)
    by_cases hlt : 2 * k + 1 < m
    · have c1 := hblk.int_at (k := k) (by rw [HL.out]; omega)
      have c2 := hblk.int_at (k := m - 1 - k) (by rw [HL.out]; omega)
      have f1 := hblk.frozen k
      have f2 := hblk.frozen (m - 1 - k)
      rw [revT_get (by omega), if_neg (by omega)] at c1
      rw [revT_get (by omega), if_neg (by omega)] at c2
      have o2 := (hblk.int_set k (ys.getD (m - 1 - k) 0)).int_set (m - 1 - k) (ys.getD k 0)
      rw [revT_set hm hlt] at o2
      have g3 : Turned w ((wr.setCell ⟨g, k, none⟩ (.int .i64 (ys.getD (m - 1 - k) 0))).setCell ⟨g, m - 1 - k, none⟩ (.int .i64 (ys.getD k 0))) [g] := (ht.trans (turned_cell _)).trans (turned_cell _)
      obtain ⟨q, hq⟩ : ∃ q, q = m - 1 - k := ⟨_, rfl⟩
      have hqe : (m : Int) - 1 - k = q := by omega
      rw [hqe]
      have hne : ¬ k = q := by omega
      rw [← hq] at c2 f2 o2 g3
      generalize ys.getD k 0 = x at *
      generalize ys.getD q 0 = y at *
      have q1 : k < q := by omega
      have q2 : q < m := by omega
      have HM := Lib.hid hq
      have HE := Lib.hid hqe
      clear hq hqe ht hblk
      go_wp2
      go_region
      go_wp2
      go_roundw
      case rel => exact ⟨k + 1, by omega, by go_num, congrArg (Value.int .i64) (by have := HE.out; omega), o2, g3.drew'⟩
      case measure => simp [intOf]; omega
    · have R := Lib.hid (revT_end (ys := ys) (m := m) (k := k) (by omega))
      go_wp2
      refine bodyPost_end (results_none rfl _ _ _) rfl ?_
      exact ⟨rfl, by rw [← R.out]; exact hblk, ht⟩

/-- WHAT THE PROGRAM's waysTo LEAVES -/
def ToPost (n : Nat) (ss bs : List Int) (T : TypeId) (w : World) (e : Ending) (w' : World) : Prop :=
  ∃ g ys, e = .returned (.slice (some ⟨g, 0, none⟩) (n + 1) (n + 10)) ∧ w.heap.size ≤ g ∧ Blk w' g T (ints ys) ∧ ys.length = n + 10 ∧ (∀ k, k ≤ n → ys.getD k 0 = tS n ss bs k) ∧ Below w.heap.size w w'
theorem St.drewS {w : World} {B : Nat} {st : Int} {A A' : Option Addr} {c c' : Nat} {ss bs : List Int} (h : St w B st A A' c c' ss bs) : St w.drew B st A A' c c' ss bs := ⟨h.rs, h.rb, h.ns, h.nb⟩

set_option maxHeartbeats 2000000 in
theorem waysTo_any (n : Nat) (A A' : Option Addr) (c c' : Nat) (ss bs : List Int) (B : Nat) (w : World) (h : St w B n A A' c c' ss bs) (hB : B ≤ w.heap.size) (G : Good n ss bs) :
    Calls Try.prog 61 #[stv n A A' c c' ss bs] w (ToPost n ss bs 3 w) := by
  have g1 : 1 ≤ n := by have := G.st1; omega
  have g2 : n ≤ 60 := by have := G.st2; omega
  have h1 := h.alloc hB (.cells #[.int .i64 (n : Int), .slice A ss.length c, .slice A' bs.length c'] 28)
  have X0 : Blk (w.alloc (.cells #[.int .i64 (n : Int), .slice A ss.length c, .slice A' bs.length c'] 28)) w.heap.size 28 #[.int .i64 (n : Int), .slice A ss.length c, .slice A' bs.length c'] := Blk.new _ _ _
  have Bt := below_alloc w (.cells #[.int .i64 (n : Int), .slice A ss.length c, .slice A' bs.length c'] 28)
  have hs : w.heap.size + 1 ≤ (w.alloc (.cells #[.int .i64 (n : Int), .slice A ss.length c, .slice A' bs.length c'] 28)).heap.size := by simp
  have GT := Lib.hid G.turn
  have hns := h.ns
  have hnt : (turnL n bs).length ≤ 1048576 := by have := G.turn.nb; omega
  have hol := Lib.hid (show (onL n ss (turnL n bs)).length = n + 10 from tell_length _ _)
  go_enter Try.func61, Try.ntmps61
  go_wp2_with fail
  generalize hW : w.alloc (.cells #[.int .i64 (n : Int), .slice A ss.length c, .slice A' bs.length c'] 28) = w1 at *
  replace hW := trivial
  obtain ⟨p0, p1, p2⟩ := X0.three
  have E1 : IntKind.i64.wrap ((n : Int) + 1) = (n : Int) + 1 := IntWalk.i64_in _ (by omega)
  have E2 : ((n : Int) + 1).toNat = n + 1 := by omega
  have E3 : (0 : Int) ≤ (n : Int) + 1 := by omega
  go_region_held3 (fun w' => w'.cell? ⟨w.heap.size, 0, none⟩ = some (.int .i64 (n : Int)) ∧ w'.cell? ⟨w.heap.size, 1, none⟩ = some (.slice A ss.length c) ∧ w'.cell? ⟨w.heap.size, 2, none⟩ = some (.slice A' bs.length c')) (first | exact ⟨p0, p1, p2⟩ | exact ⟨q0, q1, q2⟩ | exact ⟨r0, r1, r2⟩ | go_keep)
    (first | (go_at_call 74; refine (turned_any _ _ _ _ _ _ _ B _ (by first | exact h1 | exact h1.drewS | exact h1.drewS.drewS) (by first | omega | (show B ≤ w1.heap.size; omega)) G).mono ?_; rintro e w2 ⟨v2, v2', he, ho, ho', _, hb'⟩; obtain ⟨A2, c2, hv, hr2⟩ := ho.form; subst hv; obtain ⟨A2', c2', hv, hr2'⟩ := ho'.form; subst hv; subst he; have hst : St w2 w2.heap.size n A2 A2' c2 c2' ss (turnL n bs) := ⟨hr2, hr2', hns, hnt⟩; have hb : Below w1.heap.size w1 w2 := (by first | exact hb' | exact below_undrew hb' | exact below_undrew (below_undrew hb')); have hz2 := hb.size; obtain ⟨q0, q1, q2⟩ := (X0.below hb (by omega)).three) | (go_at_call 63; refine (waysOn_any n _ _ _ _ _ _ w2.heap.size _ hst (Nat.le_refl _) GT.out).mono ?_; rintro e w3 ⟨g, rfl, hgg, hblk, hb3⟩; obtain ⟨r0, r1, r2⟩ := ((X0.below hb (by omega)).below hb3 (by omega)).three))
  all_goals
    go_wp2_with fail
    refine (revP_any g (n + 1) (n + 10) (onL n ss (turnL n bs)) _ hblk (by rw [hol.out]; omega) (by rw [hol.out]; omega)).mono ?_
    rintro e w4 ⟨rfl, hblk4, ht⟩
    go_wp2_with fail
    go_ret
    refine ⟨g, _, rfl, by omega, hblk4, by rw [revT_length]; exact hol.out, fun k hk => ?_, ?_⟩
    · rw [revT_get (by rw [hol.out]; omega), if_pos (by omega), show n + 1 - 1 - k = n - k by omega]
      exact onL_turn hk
    · exact ((Bt.trans (hb.mono (by omega))).trans (hb3.mono (by omega))).trans (ht.below (by show w.heap.size ≤ w3.heap.size; have := hb3.size; omega) (fun k hk => by simp at hk; omega))

end Go.Proofs.Ytimgnollnnepbaa
