/- Houses of a call's own: what a walk holds of its frame; what a drawn region leaves that makes a house. -/
import Derived.Test.YtenhlppijpmdgaaDoorHoGood
import Derived.Test.YtenhlppijpmdgaaDoorGApp
import Derived.Test.YtenhlppijpmdgaaDoorWK
namespace Go.Proofs.YtenhlppijpmdgaaDoor
open Go.RowKit

/-- WHAT A CALL LEAVES THAT ANSWERS A HOUSE AND A BOOL, in whatever memory -/
def SomeHo (us vs : List Int) (ok : Bool) (w : World) (e : Ending) (w' : World) : Prop :=
  ∃ A A' c c', e = .returned (.tuple #[.agg #[.slice A us.length c, .slice A' vs.length c'], .bool ok]) ∧ Ho w' w'.heap.size A A' c c' us vs ∧ Below w.heap.size w w'
theorem Blk.four {w : World} {g : Nat} {t : TypeId} {v0 v1 : Value} (h : Blk w g t #[v0, v1]) : w.cell? ⟨g, 0, none⟩ = some v0 ∧ w.cell? ⟨g, 1, none⟩ = some v1 ∧ w.frozen? ⟨g, 0, none⟩ = false ∧ w.frozen? ⟨g, 1, none⟩ = false :=
  ⟨h.cell 0, h.cell 1, h.frozen 0, h.frozen 1⟩
theorem Blk.full2 {w : World} {g : Nat} {t : TypeId} {v0 v1 : Value} (h : Blk w g t #[v0, v1]) (u0 u1 : Value) : Blk ((w.setCell ⟨g, 0, none⟩ u0).setCell ⟨g, 1, none⟩ u1) g t #[u0, u1] := (h.set_ 0 u0).set_ 1 u1
theorem turned_full2 (w : World) (g : Nat) (u0 u1 : Value) : Turned w ((w.setCell ⟨g, 0, none⟩ u0).setCell ⟨g, 1, none⟩ u1) [g] :=
  ⟨rfl, rfl, rfl, by simp [World.setCell], fun k _ hk => (Below.heap_setCell _ _ _ _ (fun e => hk (by simp [e]))).trans (Below.heap_setCell _ _ _ _ (fun e => hk (by simp [e])))⟩
theorem Turned.frame {w w' : World} {g B : Nat} (h : Turned w w' [g]) (hg : B ≤ g) (hB : B ≤ w.heap.size) : Below B w w' := h.below hB (fun k hk => by simp at hk; omega)

/-- what a walk holds of its frame: the argument, its box, the result's cell -/
structure Fr (w0 w : World) (B : Nat) (A A' : Option Addr) (c c' : Nat) (ss bs : List Int) : Prop where
  ho : Ho w B A A' c c' ss bs
  bx : Blk w w0.heap.size 38 #[.slice A ss.length c, .slice A' bs.length c']
  rs : Blk w (w0.heap.size + 1) 38 #[.slice none 0 0, .slice none 0 0]
  be : Below w0.heap.size w0 w
  sz : w0.heap.size + 2 ≤ w.heap.size
  bd : B ≤ w0.heap.size
theorem Fr.below {w0 w w' : World} {B B' : Nat} {A A' : Option Addr} {c c' : Nat} {ss bs : List Int} (F : Fr w0 w B A A' c c' ss bs) (hb : Below B' w w') (h : w0.heap.size + 2 ≤ B') : Fr w0 w' B A A' c c' ss bs :=
  ⟨F.ho.below hb (by have := F.bd; omega), F.bx.below hb (by omega), F.rs.below hb (by omega), F.be.trans (hb.mono (by omega)), by have := F.sz; have := hb.size; omega, F.bd⟩
theorem Fr.alloc {w0 w : World} {B : Nat} {A A' : Option Addr} {c c' : Nat} {ss bs : List Int} (F : Fr w0 w B A A' c c' ss bs) (o : Obj) : Fr w0 (w.alloc o) B A A' c c' ss bs := F.below (below_alloc w o) F.sz
theorem Fr.drew {w0 w : World} {B : Nat} {A A' : Option Addr} {c c' : Nat} {ss bs : List Int} (F : Fr w0 w B A A' c c' ss bs) : Fr w0 w.drew B A A' c c' ss bs := ⟨F.ho.drew, F.bx, F.rs, F.be.drew, F.sz, F.bd⟩
theorem Fr.first {w : World} {B : Nat} {A A' : Option Addr} {c c' : Nat} {ss bs : List Int} (h : Ho w B A A' c c' ss bs) (hB : B ≤ w.heap.size) :
    Fr w ((w.alloc (.cells #[.slice A ss.length c, .slice A' bs.length c'] 38)).alloc (.cells #[.slice none 0 0, .slice none 0 0] 38)) B A A' c c' ss bs :=
  ⟨(h.alloc hB _).alloc (by simp; omega) _, (Blk.new _ _ _).alloc _, Blk.new' (by simp), (below_alloc _ _).trans ((Below.refl _ _).alloc (by simp) _), by simp, hB⟩

/-- what a region leaves that makes a house in a cell of its own -/
def HoCut (us vs : List Int) (w0 : World) (B : Nat) (A A' : Option Addr) (c c' : Nat) (ss bs : List Int) (s : Value) (wx : World) : Prop :=
  ∃ g v1 v2, s = .pointer (some ⟨g, 0, none⟩) ∧ w0.heap.size + 2 ≤ g ∧ Blk wx g 38 #[v1, v2] ∧ OwnI wx (w0.heap.size + 2) v1 us ∧ OwnI wx (w0.heap.size + 2) v2 vs ∧ Apart v1 v2 ∧ Fr w0 wx B A A' c c' ss bs
theorem cut_new {us vs : List Int} {w0 w : World} {B : Nat} {A A' : Option Addr} {c c' : Nat} {ss bs : List Int} {v1 v2 : Value} (F : Fr w0 w B A A' c c' ss bs) (o1 : OwnI w (w0.heap.size + 2) v1 us) (o2 : OwnI w (w0.heap.size + 2) v2 vs) (ap : Apart v1 v2) :
    HoCut us vs w0 B A A' c c' ss bs (.pointer (some ⟨w.heap.size, 0, none⟩)) (w.alloc (.cells #[v1, v2] 38)) :=
  ⟨_, _, _, rfl, F.sz, Blk.new _ _ _, o1.alloc _, o2.alloc _, ap, F.alloc _⟩
theorem cut_set {us vs : List Int} {w0 w : World} {B g : Nat} {A A' : Option Addr} {c c' : Nat} {ss bs : List Int} {z0 z1 v1 v2 : Value} (N : Blk w g 38 #[z0, z1]) (F : Fr w0 w B A A' c c' ss bs) (hg : w0.heap.size + 2 ≤ g) (o1 : OwnI w (w0.heap.size + 2) v1 us) (o2 : OwnI w (w0.heap.size + 2) v2 vs)
    (h1 : ∀ k, v1.ownBlock = some k → k ≠ g) (h2 : ∀ k, v2.ownBlock = some k → k ≠ g) (ap : Apart v1 v2) :
    HoCut us vs w0 B A A' c c' ss bs (.pointer (some ⟨g, 0, none⟩)) ((w.setCell ⟨g, 0, none⟩ v1).setCell ⟨g, 1, none⟩ v2) :=
  ⟨_, _, _, rfl, hg, N.full2 _ _, o1.turned (turned_full2 w g v1 v2) (fun k hk hm => h1 k hk (by simpa using hm)), o2.turned (turned_full2 w g v1 v2) (fun k hk hm => h2 k hk (by simpa using hm)), ap, F.below ((turned_full2 w g v1 v2).frame hg F.sz) (Nat.le_refl _)⟩
theorem apart_of {w w' : World} {B B' : Nat} {v v' : Value} {xs ys : List Int} (h : OwnI w B v xs) (h' : OwnI w' B' v' ys) (hB : w.heap.size ≤ B') : Apart v v' := fun k h1 h2 => by
  have := (h.lt k h1).2
  have := (h'.lt k h2).1
  omega
theorem allB_snoc (lo hi x : Int) : ∀ xs : List Int, allB lo hi (xs ++ [x]) = (allB lo hi xs && inB x lo hi)
  | [] => by simp [allB]
  | y :: r => by simp only [List.cons_append, allB, allB_snoc lo hi x r, Bool.and_assoc]

end Go.Proofs.YtenhlppijpmdgaaDoor
