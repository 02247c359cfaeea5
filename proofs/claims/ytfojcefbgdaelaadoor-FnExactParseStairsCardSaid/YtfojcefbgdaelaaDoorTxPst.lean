/- Contracts: reading stairs, on both sides. -/
import Derived.Test.YtfojcefbgdaelaaDoorTxPstP
import Derived.Test.YtfojcefbgdaelaaDoorPush
import Derived.Test.YtfojcefbgdaelaaDoorKit
import Derived.Deep.RegionHeld3
namespace Go.Proofs.YtfojcefbgdaelaaDoor
open Go.RowKit
set_option maxRecDepth 100000

theorem Blk.put3 {w : World} {g : Nat} {t : TypeId} {v0 v1 v2 : Value} (h : Blk w g t #[v0, v1, v2]) (u0 u1 u2 : Value) : Blk (((w.setCell ⟨g, 0, none⟩ u0).setCell ⟨g, 1, none⟩ u1).setCell ⟨g, 2, none⟩ u2) g t #[u0, u1, u2] := ((h.set_ 0 u0).set_ 1 u1).set_ 2 u2
theorem below_put3 {a w : World} {B g : Nat} (h : Below B a w) (hg : B ≤ g) (u0 u1 u2 : Value) : Below B a (((w.setCell ⟨g, 0, none⟩ u0).setCell ⟨g, 1, none⟩ u1).setCell ⟨g, 2, none⟩ u2) := ((h.setCell hg _).setCell hg _).setCell hg _
theorem OwnI.put3 {w : World} {B g : Nat} {v : Value} {xs : List Int} (h : OwnI w B v xs) (hg : ∀ k, v.ownBlock = some k → k ≠ g) (u0 u1 u2 : Value) : OwnI (((w.setCell ⟨g, 0, none⟩ u0).setCell ⟨g, 1, none⟩ u1).setCell ⟨g, 2, none⟩ u2) B v xs := by
  have s : ∀ (w : World) (i : Nat) (u : Value), Turned w (w.setCell ⟨g, i, none⟩ u) [g] := fun w i u =>
    ⟨rfl, rfl, rfl, by simp [World.setCell], fun k _ hk => Below.heap_setCell _ _ _ _ (fun e => hk (by simp [e]))⟩
  exact ((h.turned (s _ _ _) (fun k hk hm => hg k hk (by simpa using hm))).turned (s _ _ _) (fun k hk hm => hg k hk (by simpa using hm))).turned (s _ _ _) (fun k hk hm => hg k hk (by simpa using hm))
theorem Rd.put3 {w : World} {B g c : Nat} {A : Option Addr} {xs : List Int} (h : Rd w B A c xs) (hg : B ≤ g) (u0 u1 u2 : Value) : Rd (((w.setCell ⟨g, 0, none⟩ u0).setCell ⟨g, 1, none⟩ u1).setCell ⟨g, 2, none⟩ u2) B A c xs :=
  h.below (below_put3 (Below.refl B w) hg u0 u1 u2) (Nat.le_refl _)
theorem cell_put3 {w : World} {g b j : Nat} {v : Value} (h : w.cell? ⟨b, j, none⟩ = some v) (hne : b ≠ g) (u0 u1 u2 : Value) : (((w.setCell ⟨g, 0, none⟩ u0).setCell ⟨g, 1, none⟩ u1).setCell ⟨g, 2, none⟩ u2).cell? ⟨b, j, none⟩ = some v := by
  have s : ∀ (w : World) (i : Nat) (u : Value), Below g w (w.setCell ⟨g, i, none⟩ u) → True := fun _ _ _ _ => trivial
  have k : ∀ (w : World) (i : Nat) (u : Value), (w.setCell ⟨g, i, none⟩ u).cell? ⟨b, j, none⟩ = w.cell? ⟨b, j, none⟩ := fun w i u => by
    have := Below.heap_setCell w ⟨g, i, none⟩ u b hne
    unfold World.cell?
    rw [this]
  rw [k, k, k, h]
theorem Blk.away3 {w : World} {b g : Nat} {t : TypeId} {vs : Array Value} (h : Blk w b t vs) (hne : b ≠ g) (u0 u1 u2 : Value) : Blk (((w.setCell ⟨g, 0, none⟩ u0).setCell ⟨g, 1, none⟩ u1).setCell ⟨g, 2, none⟩ u2) b t vs := ((h.far hne _).far hne _).far hne _
theorem OwnI.setc {w : World} {B M j : Nat} {v : Value} {xs : List Int} (h : OwnI w B v xs) (hap : ∀ b, v.ownBlock = some b → b ≠ M) (u : Value) : OwnI (w.setCell ⟨M, j, none⟩ u) B v xs :=
  h.turned (L := [M]) ⟨rfl, rfl, rfl, by simp [World.setCell], fun k _ hk => Below.heap_setCell _ _ _ _ (fun e => hk (by simp [e]))⟩ (fun k hk hm => hap k hk (List.mem_singleton.1 hm))
def orX (b : Bool) (xs : List Int) : List Int := if b then xs else []
theorem orX_no (xs : List Int) : orX false xs = [] := rfl
theorem orX_yes (xs : List Int) : orX true xs = xs := rfl
def orN (b : Bool) (x : Int) : Int := if b then x else 0
theorem orN_no (x : Int) : orN false x = 0 := rfl
theorem orN_yes (x : Int) : orN true x = x := rfl
/-- Atoi at every text: some number; the number where it is one -/
theorem atoi_some {x : ByteArray} (w : World) (hx : x.size ≤ 1048576) (hE : ErrI w) :
    Calls Tryd.prog 68 #[.string x] w fun e w' => ∃ u T, e = .returned (.tuple #[.int .i64 u, T]) ∧ (∀ k, atI x = some k → u = k) ∧ Below w.heap.size w w' := by
  cases h : atI x with
  | some k =>
    refine (atoi_yes w hx h).mono ?_
    rintro e w' ⟨rfl, hb⟩
    exact ⟨k, _, rfl, (fun j hj => by injection hj), hb⟩
  | none =>
    refine (atoi_no w hx h hE).mono ?_
    rintro e w' ⟨u, T, p, rfl, hb⟩
    exact ⟨u, _, rfl, (fun j hj => by cases hj), hb⟩

set_option maxHeartbeats 4000000 in
theorem implParSt_any (t : ByteArray) (w : World) (hn : t.size ≤ 1048576) (ht : TabI w) (hE : ErrI w) :
    Calls Tryd.prog 31 #[.string t] w (NewSt (orN (psB t) (psS t)) (orX (psB t) (psA t)) (orX (psB t) (psK t)) (psB t) w) := by
  have CT := Lib.hid (fun u => cut_any t 115 u hn)
  have z1 := cutA_size t 115
  have z2 := cutZ_size t 115
  have CT2 := Lib.hid (fun u => cut_any (cutZ t 115) 120 u (by omega))
  have z3 := cutA_size (cutZ t 115) 120
  have z4 := cutZ_size (cutZ t 115) 120
  have y1 := ninR_length (cutA (cutZ t 115) 120) 44
  have y2 := ninR_length (cutZ (cutZ t 115) 120) 44
  have AT := Lib.hid (fun u hu => atoi_some (x := cutA t 115) u (by omega) (hE.below hu (Nat.le_refl _)))
  have N1 := Lib.hid (fun u hu => numbersIn_any (cutA (cutZ t 115) 120) 44 u (by omega) (hE.below hu (Nat.le_refl _)))
  have N2 := Lib.hid (fun u hu => numbersIn_any (cutZ (cutZ t 115) 120) 44 u (by omega) (hE.below hu (Nat.le_refl _)))
  have HF := Lib.hid (fun h => ps_find (t := t) h)
  have HO := Lib.hid (fun st ss bs h => ps_of (st := st) (ss := ss) (bs := bs) h)
  have HT := Lib.hid (fun h => ps_to (t := t) h)
  rw [show pcA t = ninR (cutA (cutZ t 115) 120) 44 from rfl, show pcK t = ninR (cutZ (cutZ t 115) 120) 44 from rfl] at HF
  generalize ninR (cutA (cutZ t 115) 120) 44 = l1 at *
  generalize ninR (cutZ (cutZ t 115) 120) 44 = l2 at *
  generalize cutA (cutZ t 115) 120 = s3 at *
  generalize cutZ (cutZ t 115) 120 = s4 at *
  generalize cutB (cutZ t 115) 120 = b2 at *
  generalize cutA t 115 = s1 at *
  generalize cutZ t 115 = s2 at *
  generalize cutB t 115 = b1 at *
  go_enter Tryd.func31, Tryd.ntmps31
  go_wp2_with fail
  refine (CT.out _).mono ?_
  rintro e w1 ⟨rfl, hb1⟩
  have X := (Blk.new w 47 #[.int .i64 0, .slice none 0 0, .slice none 0 0]).below hb1 (by simp)
  have Bt : Below w.heap.size w w1 := (below_alloc _ _).trans (hb1.mono (by simp))
  have hs := X.lt
  clear hb1
  go_wp2_with fail
  refine (CT2.out _).mono ?_
  rintro e w2 ⟨rfl, hb2⟩
  replace X := X.below hb2 hs
  replace Bt := Bt.trans (hb2.mono (by omega))
  replace hs := X.lt
  clear hb2
  go_wp2_with fail
  refine (AT.out _ Bt).mono ?_
  rintro e w3 ⟨u, T, rfl, hu, hb3⟩
  replace X := X.below hb3 hs
  replace Bt := Bt.trans (hb3.mono (by omega))
  replace hs := X.lt
  have HU := Lib.hid hu
  clear hb3 hu
  go_wp2_with fail
  refine (N1.out _ Bt).mono ?_
  rintro e w4 ⟨v1, rfl, ho1, hb4⟩
  replace X := X.below hb4 hs
  replace Bt := Bt.trans (hb4.mono (by omega))
  have h34 := hb4.size
  have ol1 := fun k h => (ho1.lt k h).2
  clear hb4
  go_wp2_with fail
  refine (N2.out _ Bt).mono ?_
  rintro e w5 ⟨v2, rfl, ho2, hb5⟩
  replace X := X.below hb5 X.lt
  replace Bt := Bt.trans (hb5.mono (by omega))
  have h45 := hb5.size
  have og2 := fun k h => (ho2.lt k h).1
  replace ho1 := ho1.below hb5 (Nat.le_refl _)
  have hap : Apart v1 v2 := fun k h1 h2 => by have := ol1 k h1; have := og2 k h2; omega
  have og1 := fun k h => (ho1.lt k h).1
  obtain ⟨A1, c1, rfl, r1⟩ := ho1.form
  obtain ⟨A2, c2, rfl, r2⟩ := ho2.form
  clear hb5 ol1
  have S5 : St w5 w5.heap.size u A1 A2 c1 c2 l1 l2 := ⟨r1, r2, by omega, by omega⟩
  have XM := Blk.new w5 47 #[.int .i64 u, .slice A1 l1.length c1, .slice A2 l2.length c2]
  have X6 := X.alloc (.cells #[.int .i64 u, .slice A1 l1.length c1, .slice A2 l2.length c2] 47)
  have B6 := Bt.alloc (by omega) (.cells #[.int .i64 u, .slice A1 l1.length c1, .slice A2 l2.length c2] 47)
  have o1 := ho1.alloc (.cells #[.int .i64 u, .slice A1 l1.length c1, .slice A2 l2.length c2] 47)
  have o2 := ho2.alloc (.cells #[.int .i64 u, .slice A1 l1.length c1, .slice A2 l2.length c2] 47)
  have S6 := S5.alloc (Nat.le_refl _) (.cells #[.int .i64 u, .slice A1 l1.length c1, .slice A2 l2.length c2] 47)
  have z6 : (w5.alloc (.cells #[.int .i64 u, .slice A1 l1.length c1, .slice A2 l2.length c2] 47)).heap.size = w5.heap.size + 1 := by simp
  have hs5 := X.lt
  clear ho1 ho2 r1 r2 S5 X
  go_wp2_with fail
  generalize (w5.alloc (.cells #[.int .i64 u, .slice A1 l1.length c1, .slice A2 l2.length c2] 47)) = w6 at *
  refine (implStairsText_any u A1 A2 c1 c2 l1 l2 _ w6 S6 (by omega) (ht.below B6)).mono ?_
  rintro e w7 ⟨rfl, hb7⟩
  replace X6 := X6.below hb7 (by omega)
  replace XM := XM.below hb7 (by omega)
  replace o1 := o1.below hb7 (Nat.le_refl _)
  replace o2 := o2.below hb7 (Nat.le_refl _)
  replace B6 := B6.trans (hb7.mono (by omega))
  obtain ⟨x0, x1, x2⟩ := X6.three
  obtain ⟨p0, p1, p2⟩ := XM.three
  have f0 := X6.frozen 0
  have f1 := X6.frozen 1
  have f2 := X6.frozen 2
  clear hb7 S6
  cases hg : goodB u l1 l2
  · have hB : psB t = false := by
      cases h : psB t
      · rfl
      · obtain ⟨a1, a2, a3⟩ := HF.out h
        have e1 := HU.out _ a1
        have := (HT.out h).1
        rw [← a2, ← a3, ← e1, hg] at this; cases this
    have B0 := Lib.hid hB
    clear hB hg
    rw [orS_no]
    go_wp2_with fail
    have XF := X6.put3 (.int .i64 0) (.slice none 0 0) (.slice none 0 0)
    obtain ⟨t0, t1, t2⟩ := XF.three
    refine bodyPost_ret (v := .tuple #[.agg #[.int .i64 0, .slice none 0 0, .slice none 0 0], .bool false]) (by simp [results, Tryd.results31, go_sem, t0, t1, t2]) rfl ?_
    refine ⟨.slice none 0 0, .slice none 0 0, by rw [B0.out]; rfl, by rw [B0.out]; exact OwnI.nil _ _, by rw [B0.out]; exact OwnI.nil _ _, fun k h1 _ => by simp [Value.ownBlock] at h1, below_put3 B6 (Nat.le_refl _) _ _ _⟩
  · by_cases hs0 : stS u l1 l2 = t
    · obtain ⟨hB, e1, e2, e3⟩ := HO.out _ _ _ hg
      rw [hs0] at hB e1 e2 e3
      have B0 := Lib.hid hB
      have E1 := Lib.hid e1
      have E2 := Lib.hid e2
      have E3 := Lib.hid e3
      have HS := Lib.hid hs0
      clear hB e1 e2 e3 hs0 hg
      rw [orS_yes, HS.out]
      go_wp2_with fail
      have XF := X6.put3 (.int .i64 u) (.slice A1 l1.length c1) (.slice A2 l2.length c2)
      obtain ⟨t0, t1, t2⟩ := XF.three
      refine bodyPost_ret (v := .tuple #[.agg #[.int .i64 u, .slice A1 l1.length c1, .slice A2 l2.length c2], .bool true]) (by simp [results, Tryd.results31, go_sem, t0, t1, t2]) rfl ?_
      have q1 := (o1.put3 (g := w.heap.size) (fun k hk e => by have := og1 k hk; omega) (.int .i64 u) (.slice A1 l1.length c1) (.slice A2 l2.length c2)).mono (B' := w.heap.size) (by omega)
      have q2 := (o2.put3 (g := w.heap.size) (fun k hk e => by have := og2 k hk; omega) (.int .i64 u) (.slice A1 l1.length c1) (.slice A2 l2.length c2)).mono (B' := w.heap.size) (by omega)
      exact ⟨_, _, by rw [B0.out, E1.out]; rfl, by rw [B0.out, E2.out]; exact q1, by rw [B0.out, E3.out]; exact q2, hap, below_put3 B6 (Nat.le_refl _) _ _ _⟩
    · have hB : psB t = false := by
        cases h : psB t
        · rfl
        · obtain ⟨a1, a2, a3⟩ := HF.out h
          have e1 := HU.out _ a1
          have := (HT.out h).2
          rw [← a2, ← a3, ← e1] at this; exact absurd this hs0
      have B0 := Lib.hid hB
      have e1 := text_ne hs0
      have e2 : (!((stS u l1 l2).toList == t.toList)) = true := by rw [e1]; rfl
      clear hB hg hs0
      rw [orS_yes]
      generalize stS u l1 l2 = tx at *
      go_wp2_with fail
      have XF := X6.put3 (.int .i64 0) (.slice none 0 0) (.slice none 0 0)
      obtain ⟨t0, t1, t2⟩ := XF.three
      refine bodyPost_ret (v := .tuple #[.agg #[.int .i64 0, .slice none 0 0, .slice none 0 0], .bool false]) (by simp [results, Tryd.results31, go_sem, t0, t1, t2]) rfl ?_
      refine ⟨.slice none 0 0, .slice none 0 0, by rw [B0.out]; rfl, by rw [B0.out]; exact OwnI.nil _ _, by rw [B0.out]; exact OwnI.nil _ _, fun k h1 _ => by simp [Value.ownBlock] at h1, below_put3 B6 (Nat.le_refl _) _ _ _⟩

end Go.Proofs.YtfojcefbgdaelaaDoor
