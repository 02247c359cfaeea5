/- Generic contracts of the laws own helpers over houses: two lists of ints. -/
import Derived.Test.YtenhlppijpmdgaaDoorGInts
namespace Go.Proofs.YtenhlppijpmdgaaDoor
open Go.RowKit

theorem Blk.two {w : World} {g : Nat} {t : TypeId} {v0 v1 : Value} (h : Blk w g t #[v0, v1]) : w.cell? ⟨g, 0, none⟩ = some v0 ∧ w.cell? ⟨g, 1, none⟩ = some v1 :=
  ⟨h.cell 0, h.cell 1⟩

/-- the value of a house -/
def hv (A A' : Option Addr) (c c' : Nat) (ss bs : List Int) : Value := .agg #[.slice A ss.length c, .slice A' bs.length c']
theorem ret_hv {A A' : Option Addr} {c c' : Nat} {ss bs : List Int} : Ending.returned (hv A A' c c' ss bs) = .returned (.agg #[.slice A ss.length c, .slice A' bs.length c']) := rfl

/-- A house that reads in w as ss and bs; its cells lie below block B. -/
structure Ho (w : World) (B : Nat) (A A' : Option Addr) (c c' : Nat) (ss bs : List Int) : Prop where
  rs : Rd w B A c ss
  rb : Rd w B A' c' bs
  ns : ss.length ≤ 1048576
  nb : bs.length ≤ 1048576
theorem Ho.below {w w' : World} {B B' : Nat} {A A' : Option Addr} {c c' : Nat} {ss bs : List Int} (h : Ho w B A A' c c' ss bs) (hb : Below B' w w') (hB : B ≤ B') : Ho w' B A A' c c' ss bs :=
  ⟨h.rs.below hb hB, h.rb.below hb hB, h.ns, h.nb⟩
theorem Ho.alloc {w : World} {B : Nat} {A A' : Option Addr} {c c' : Nat} {ss bs : List Int} (h : Ho w B A A' c c' ss bs) (hB : B ≤ w.heap.size) (o : Obj) : Ho (w.alloc o) B A A' c c' ss bs :=
  h.below (below_alloc w o) hB
theorem Ho.more {w : World} {B B' : Nat} {A A' : Option Addr} {c c' : Nat} {ss bs : List Int} (h : Ho w B A A' c c' ss bs) (hB : B ≤ B') : Ho w B' A A' c c' ss bs := ⟨h.rs.more hB, h.rb.more hB, h.ns, h.nb⟩
theorem Ho.drew {w : World} {B : Nat} {A A' : Option Addr} {c c' : Nat} {ss bs : List Int} (h : Ho w B A A' c c' ss bs) : Ho w.drew B A A' c c' ss bs := ⟨h.rs, h.rb, h.ns, h.nb⟩
theorem Ho.turned {w w' : World} {B : Nat} {A A' : Option Addr} {c c' : Nat} {ss bs : List Int} {L : List Nat} (h : Ho w B A A' c c' ss bs) (hb : Turned w w' L) (hB : B ≤ w.heap.size) (hL : ∀ k ∈ L, B ≤ k) : Ho w' B A A' c c' ss bs :=
  h.below (hb.below hB hL) (Nat.le_refl _)
theorem ho_of_blks {w' : World} {ss bs : List Int} {g g' : Nat} (hx : Blk w' g 3 (ints ss)) (hy : Blk w' g' 3 (ints bs)) (n : ss.length ≤ 1048576) (n' : bs.length ≤ 1048576) :
    Ho w' w'.heap.size (some ⟨g, 0, none⟩) (some ⟨g', 0, none⟩) ss.length bs.length ss bs :=
  ⟨hx.rd hx.lt (Nat.le_refl _), hy.rd hy.lt (Nat.le_refl _), n, n'⟩

/-- what the law leaves of its budget behind a list of n -/
def szF (n left : Int) : Int := if left - n < 0 then -1 else left - n
theorem szF_neg {n left : Int} (h : left - n < 0) : szF n left = -1 := if_pos h
theorem szF_pos {n left : Int} (h : ¬ left - n < 0) : szF n left = left - n := if_neg h

set_option maxHeartbeats 400000 in
theorem szIntS_any (A : Option Addr) (n c : Nat) (left : Int) (w : World) (h0 : 0 ≤ left) (h1 : left ≤ 1048576) (hn : n ≤ 9223372036854775807) :
    Calls Tryd.prog 29 #[.slice A n c, .int .i64 left] w fun e w' => e = .returned (.int .i64 (szF n left)) ∧ w = w' := by
  by_cases h : left - n < 0
  · rw [szF_neg h]
    go_enter Tryd.func29, Tryd.ntmps29
    go_wp2
    go_ret
    exact ⟨rfl, rfl⟩
  · rw [szF_pos h]
    go_enter Tryd.func29, Tryd.ntmps29
    go_wp2
    go_ret
    exact ⟨rfl, rfl⟩

set_option maxHeartbeats 400000 in
theorem szHouse_yes (A A' : Option Addr) (n c n' c' : Nat) (w : World) (h1 : n + n' ≤ 1048576) :
    Calls Tryd.prog 13 #[.agg #[.slice A n c, .slice A' n' c'], .int .i64 1048576] w fun e w' => e = .returned (.int .i64 (1048576 - n - n')) ∧ Below w.heap.size w w' := by
  have e1 := Lib.hid (szF_pos (left := 1048576) (n := (n : Int)) (by omega))
  have e2 := Lib.hid (szF_pos (left := 1048576 - (n : Int)) (n := (n' : Int)) (by omega))
  go_enter Tryd.func13, Tryd.ntmps13
  go_wp2_with fail
  refine (szIntS_any _ _ _ _ _ (by omega) (by omega) (by omega)).mono ?_
  rintro e w1 ⟨rfl, rfl⟩
  rw [e1.out]
  go_wp2_with fail
  refine (szIntS_any _ _ _ _ _ (by omega) (by omega) (by omega)).mono ?_
  rintro e w1 ⟨rfl, rfl⟩
  rw [e2.out]
  go_wp2_with fail
  go_ret
  exact ⟨rfl, (Below.refl _ _).alloc (Nat.le_refl _) _⟩

set_option maxHeartbeats 400000 in
theorem szHouse_no (A A' : Option Addr) (n c n' c' : Nat) (w : World) (hn : n ≤ 9223372036854775807) (hn' : n' ≤ 9223372036854775807) (h1 : 1048576 < n + n') :
    Calls Tryd.prog 13 #[.agg #[.slice A n c, .slice A' n' c'], .int .i64 1048576] w fun e w' => e = .returned (.int .i64 (-1)) ∧ Below w.heap.size w w' := by
  by_cases h : n ≤ 1048576
  · have e1 := Lib.hid (szF_pos (left := 1048576) (n := (n : Int)) (by omega))
    have e2 := Lib.hid (szF_neg (left := 1048576 - (n : Int)) (n := (n' : Int)) (by omega))
    go_enter Tryd.func13, Tryd.ntmps13
    go_wp2_with fail
    refine (szIntS_any _ _ _ _ _ (by omega) (by omega) (by omega)).mono ?_
    rintro e w1 ⟨rfl, rfl⟩
    rw [e1.out]
    go_wp2_with fail
    refine (szIntS_any _ _ _ _ _ (by omega) (by omega) (by omega)).mono ?_
    rintro e w1 ⟨rfl, rfl⟩
    rw [e2.out]
    go_wp2_with fail
    go_ret
    exact ⟨rfl, (Below.refl _ _).alloc (Nat.le_refl _) _⟩
  · have e1 := Lib.hid (szF_neg (left := 1048576) (n := (n : Int)) (by omega))
    go_enter Tryd.func13, Tryd.ntmps13
    go_wp2_with fail
    refine (szIntS_any _ _ _ _ _ (by omega) (by omega) (by omega)).mono ?_
    rintro e w1 ⟨rfl, rfl⟩
    rw [e1.out]
    go_wp2_with fail
    go_ret
    exact ⟨rfl, (Below.refl _ _).alloc (Nat.le_refl _) _⟩

/-- WHAT A COPY OF A HOUSE LEAVES: a value over two new blocks of its own, known whole. -/
def CopiedH (w : World) (ss bs : List Int) (e : Ending) (w' : World) : Prop :=
  ∃ g g', e = .returned (.agg #[.slice (some ⟨g, 0, none⟩) ss.length ss.length, .slice (some ⟨g', 0, none⟩) bs.length bs.length]) ∧ w.heap.size ≤ g ∧ g < g' ∧ Blk w' g 3 (ints ss) ∧ Blk w' g' 3 (ints bs) ∧ Below w.heap.size w w'

set_option maxHeartbeats 800000 in
theorem toHouse_any (A A' : Option Addr) (c c' : Nat) (ss bs : List Int) (B : Nat) (w : World) (h : Ho w B A A' c c' ss bs) (hB : B ≤ w.heap.size) :
    Calls Tryd.prog 15 #[.agg #[.slice A ss.length c, .slice A' bs.length c']] w (CopiedH w ss bs) := by
  go_enter Tryd.func15, Tryd.ntmps15
  go_wp2_with fail
  refine (toIntS_any _ _ ss B _ ?_ ?_ h.ns).mono ?_
  · exact (((h.alloc hB _).alloc (by simp; omega) _).alloc (by simp; omega) _).rs
  · simp; omega
  rintro e w1 ⟨rfl, rfl⟩
  go_wp2_with fail
  refine (toIntS_any _ _ bs B _ ?_ ?_ h.nb).mono ?_
  · exact ((((h.alloc hB _).alloc (by simp; omega) _).alloc (by simp; omega) _).alloc (by simp; omega) _).rb
  · simp; omega
  rintro e w1 ⟨rfl, rfl⟩
  go_wp2_with fail
  refine bodyPost_ret (v := .agg #[.slice (some ⟨w.heap.size + 3, 0, none⟩) ss.length ss.length, .slice (some ⟨w.heap.size + 4, 0, none⟩) bs.length bs.length]) (by simp [results, Tryd.results15, go_sem]) rfl ?_
  refine ⟨w.heap.size + 3, w.heap.size + 4, rfl, ?_, ?_, ?_, ?_, ?_⟩
  · omega
  · omega
  · exact (Blk.new' (by simp)).alloc _
  · exact Blk.new' (by simp)
  · exact (((((Below.refl _ _).alloc (Nat.le_refl _) _).alloc (by simp) _).alloc (by simp; omega) _).alloc (by simp; omega) _).alloc (by simp; omega) _

/-- two houses are the same, as the law's own comparison decides it -/
def eqHo (ss bs : List Int) (ss' bs' : List Int) : Bool := eqB ss ss' && eqB bs bs'
theorem eqHo_self (ss bs : List Int) : eqHo ss bs ss bs = true := by simp [eqHo, eqB_self]

set_option maxHeartbeats 800000 in
theorem eqHouse_any (A A' D D' : Option Addr) (c c' d d' : Nat) (ss bs ss' bs' : List Int) (B : Nat) (w : World) (h : Ho w B A A' c c' ss bs) (k : Ho w B D D' d d' ss' bs') (hB : B ≤ w.heap.size) :
    Calls Tryd.prog 17 #[.agg #[.slice A ss.length c, .slice A' bs.length c'], .agg #[.slice D ss'.length d, .slice D' bs'.length d']] w fun e w' => e = .returned (.bool (eqHo ss bs ss' bs')) ∧ Below w.heap.size w w' := by
  cases h2 : eqB ss ss'
  · rw [show eqHo ss bs ss' bs' = false by simp [eqHo, h2]]
    go_enter Tryd.func17, Tryd.ntmps17
    go_wp2_with fail
    refine (eqIntS_any _ _ _ _ _ _ B _ ?_ ?_ h.ns).mono ?_
    · exact ((h.alloc hB _).alloc (by simp; omega) _).rs
    · exact ((k.alloc hB _).alloc (by simp; omega) _).rs
    rintro e w1 ⟨rfl, n, rfl⟩
    go_wp2_with fail
    go_ret
    exact ⟨rfl, Below.drewN' (((Below.refl _ _).alloc (Nat.le_refl _) _).alloc (by simp) _) _⟩
  · rw [show eqHo ss bs ss' bs' = eqB bs bs' by simp [eqHo, h2]]
    cases h3 : eqB bs bs'
    all_goals
      go_enter Tryd.func17, Tryd.ntmps17
      go_wp2_with fail
      refine (eqIntS_any _ _ _ _ _ _ B _ ?_ ?_ h.ns).mono ?_
      · exact ((h.alloc hB _).alloc (by simp; omega) _).rs
      · exact ((k.alloc hB _).alloc (by simp; omega) _).rs
      rintro e w1 ⟨rfl, n, rfl⟩
      go_wp2_with fail
      refine (eqIntS_any _ _ _ _ _ _ B _ ?_ ?_ h.nb).mono ?_
      · exact ((h.alloc hB _).alloc (by simp; omega) _).rb
      · exact ((k.alloc hB _).alloc (by simp; omega) _).rb
      rintro e w1 ⟨rfl, n', rfl⟩
      go_wp2_with fail
      go_ret
      exact ⟨rfl, Below.drewN' (((Below.refl _ _).alloc (Nat.le_refl _) _).alloc (by simp) _) _⟩

set_option maxHeartbeats 1000000 in
theorem markHouse_any (v v' : Value) (xs ys : List Int) (k : Int) (B B' : Nat) (w : World) (ho : OwnI w B v xs) (ho' : OwnI w B' v' ys) (ha : Apart v v') (hn : xs.length ≤ 1048576) (hn' : ys.length ≤ 1048576) (hk0 : 0 ≤ k) (hk1 : k ≤ 1048576) :
    Calls Tryd.prog 20 #[.agg #[v, v'], .int .i64 k] w fun e w' => e = .returned (.int .i64 (k + xs.length + ys.length)) ∧ OwnI w' B v (marksL k xs.length) ∧ OwnI w' B' v' (marksL (k + xs.length) ys.length) ∧ Turned w w' (rowL v ++ rowL v') := by
  have X0 : Blk (w.alloc (.cells #[v, v'] 38)) w.heap.size 38 #[v, v'] := Blk.new _ _ _
  have hb1 := fun k h => (ho.lt k h).2
  have hb2 := fun k h => (ho'.lt k h).2
  obtain ⟨A, c, hv, _⟩ := ho.form
  obtain ⟨A', c', hv', _⟩ := ho'.form
  subst hv
  subst hv'
  go_enter Tryd.func20, Tryd.ntmps20
  go_wp2_with fail
  refine (markIntS_any _ xs k B _ (ho.alloc _) hn hk0 (by omega)).mono ?_
  rintro e w1 ⟨rfl, h1, hg1⟩
  have t1 : Turned (w.alloc (.cells #[.slice A xs.length c, .slice A' ys.length c'] 38)) w1 (rowL (.slice A xs.length c) ++ rowL (.slice A' ys.length c')) :=
    Turned.of_grown hg1 (fun j hj => List.mem_append.2 (.inl (mem_rowL.2 hj)))
  have X1 := X0.turned (Turned.of_grown hg1 (L := rowL (.slice A xs.length c)) (fun j hj => mem_rowL.2 hj)) (fun hm => by have := hb1 _ (mem_rowL.1 hm); omega)
  have h2 := (ho'.alloc (.cells #[.slice A xs.length c, .slice A' ys.length c'] 38)).turned (Turned.of_grown hg1 (L := rowL (.slice A xs.length c)) (fun j hj => mem_rowL.2 hj)) (fun j hj hm => ha j (mem_rowL.1 hm) hj)
  obtain ⟨p0, p1⟩ := X1.two
  clear hg1 X0 ho ho'
  go_wp2_with fail
  refine (markIntS_any _ ys (k + xs.length) B' _ h2 hn' (by omega) (by omega)).mono ?_
  rintro e w2 ⟨rfl, h3, hg2⟩
  have t2 : Turned w1 w2 (rowL (.slice A xs.length c) ++ rowL (.slice A' ys.length c')) := Turned.of_grown hg2 (fun j hj => List.mem_append.2 (.inr (mem_rowL.2 hj)))
  have h4 := h1.turned (Turned.of_grown hg2 (L := rowL (.slice A' ys.length c')) (fun j hj => mem_rowL.2 hj)) (fun j hj hm => ha j hj (mem_rowL.1 hm))
  go_wp2_with fail
  go_ret
  exact ⟨rfl, h4, h3, ((Turned.of_below (below_alloc _ _) _).trans t1).trans t2⟩

set_option maxHeartbeats 1000000 in
theorem heldHouse_any (v v' : Value) (n n' : Nat) (k : Int) (B B' : Nat) (w : World) (ho : OwnI w B v (marksL k n)) (ho' : OwnI w B' v' (marksL (k + n) n')) (hn : n ≤ 1048576) (hn' : n' ≤ 1048576) (hk0 : 0 ≤ k) (hk1 : k ≤ 1048576) :
    Calls Tryd.prog 21 #[.agg #[v, v'], .int .i64 k] w fun e w' => e = .returned (.int .i64 (k + n + n')) ∧ Below w.heap.size w w' := by
  have o1 := ho.alloc (.cells #[v, v'] 38)
  have o2 := ho'.alloc (.cells #[v, v'] 38)
  obtain ⟨A, c, hv, _⟩ := ho.form
  obtain ⟨A', c', hv', _⟩ := ho'.form
  subst hv
  subst hv'
  clear ho ho'
  go_enter Tryd.func21, Tryd.ntmps21
  go_wp2_with fail
  refine (heldIntS_any _ n k B _ o1 hn hk0 (by omega)).mono ?_
  rintro e w1 ⟨rfl, rfl⟩
  go_wp2_with fail
  refine (heldIntS_any _ n' (k + n) B' _ o2 hn' (by omega) (by omega)).mono ?_
  rintro e w1 ⟨rfl, rfl⟩
  go_wp2_with fail
  go_ret
  exact ⟨rfl, below_alloc _ _⟩

/-- WHAT A CALL LEAVES THAT ANSWERS A HOUSE AND A BOOL, in memory of its own -/
def NewHo (us vs : List Int) (ok : Bool) (w : World) (e : Ending) (w' : World) : Prop :=
  ∃ v v', e = .returned (.tuple #[.agg #[v, v'], .bool ok]) ∧ OwnI w' w.heap.size v us ∧ OwnI w' w.heap.size v' vs ∧ Apart v v' ∧ Below w.heap.size w w'
theorem Apart.nil (v : Value) : Apart v (.slice none 0 0) := fun k _ h => by simp [Value.ownBlock] at h
theorem Apart.nil' (v : Value) : Apart (.slice none 0 0) v := fun k h _ => by simp [Value.ownBlock] at h

/-- A contract of a function of houses: whatever memory the house lies in. -/
def FH0 (f : FuncId) (ss bs : List Int) (post : World → Ending → World → Prop) : Prop :=
  ∀ (A A' : Option Addr) (c c' B : Nat) (w : World), Ho w B A A' c c' ss bs → B ≤ w.heap.size → Calls Tryd.prog f #[.agg #[.slice A ss.length c, .slice A' bs.length c']] w (post w)
/-- .. of a house and a number -/
def FHI (f : FuncId) (ss bs : List Int) (x : Int) (post : World → Ending → World → Prop) : Prop :=
  ∀ (A A' : Option Addr) (c c' B : Nat) (w : World), Ho w B A A' c c' ss bs → B ≤ w.heap.size → Calls Tryd.prog f #[.agg #[.slice A ss.length c, .slice A' bs.length c'], .int .i64 x] w (post w)
/-- .. of a house and two numbers -/
def FHII (f : FuncId) (ss bs : List Int) (x y : Int) (post : World → Ending → World → Prop) : Prop :=
  ∀ (A A' : Option Addr) (c c' B : Nat) (w : World), Ho w B A A' c c' ss bs → B ≤ w.heap.size → Calls Tryd.prog f #[.agg #[.slice A ss.length c, .slice A' bs.length c'], .int .i64 x, .int .i64 y] w (post w)
/-- .. of a house and a list -/
def FHL (f : FuncId) (ss bs xs : List Int) (post : World → Ending → World → Prop) : Prop :=
  ∀ (A A' Z : Option Addr) (c c' d B : Nat) (w : World), Ho w B A A' c c' ss bs → B ≤ w.heap.size → Rd w B Z d xs → Calls Tryd.prog f #[.agg #[.slice A ss.length c, .slice A' bs.length c'], .slice Z xs.length d] w (post w)

end Go.Proofs.YtenhlppijpmdgaaDoor
