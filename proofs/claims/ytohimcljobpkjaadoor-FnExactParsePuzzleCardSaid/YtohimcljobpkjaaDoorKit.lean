/- The contracts in the form in which the laws' walks take them. -/
import Derived.Test.YtohimcljobpkjaaDoorMark
import Derived.Test.YtohimcljobpkjaaDoorRow
namespace Go.Proofs.YtohimcljobpkjaaDoor
set_option maxRecDepth 100000
open Go.RowKit

theorem below_undrew {B : Nat} {a w : World} (h : Below B a.drew w) : Below B a w := ⟨h.os, h.tape, h.output, h.size, h.block⟩
theorem St.more {w : World} {B B' : Nat} {st : Int} {A A' : Option Addr} {c c' : Nat} {ss bs : List Int} (h : St w B st A A' c c' ss bs) (hB : B ≤ B') : St w B' st A A' c c' ss bs := ⟨h.rs.more hB, h.rb.more hB, h.ns, h.nb⟩
theorem St.drew {w : World} {B : Nat} {st : Int} {A A' : Option Addr} {c c' : Nat} {ss bs : List Int} (h : St w B st A A' c c' ss bs) : St w.drew B st A A' c c' ss bs := ⟨h.rs, h.rb, h.ns, h.nb⟩
theorem st_of_blks {w' : World} {st : Int} {ss bs : List Int} {g g' : Nat} (hx : Blk w' g 3 (ints ss)) (hy : Blk w' g' 3 (ints bs)) (n : ss.length ≤ 1048576) (n' : bs.length ≤ 1048576) :
    St w' w'.heap.size st (some ⟨g, 0, none⟩) (some ⟨g', 0, none⟩) ss.length bs.length ss bs :=
  ⟨hx.rd hx.lt (Nat.le_refl _), hy.rd hy.lt (Nat.le_refl _), n, n'⟩

theorem rowL_some (g o n c : Nat) : rowL (.slice (some ⟨g, o, none⟩) n c) = [g] := rfl
theorem rowL_ge {w : World} {B : Nat} {v : Value} {xs : List Int} (h : OwnI w B v xs) : ∀ k ∈ rowL v, B ≤ k := fun k hk => (h.lt k (mem_rowL.1 hk)).1

/-- A contract of a function of stairs: whatever memory the stairs lie in. -/
def Fn0 (f : FuncId) (st : Int) (ss bs : List Int) (post : World → Ending → World → Prop) : Prop :=
  ∀ (A A' : Option Addr) (c c' B : Nat) (w : World), St w B st A A' c c' ss bs → B ≤ w.heap.size → Calls Tryd.prog f #[stv st A A' c c' ss bs] w (post w)
/-- .. of stairs and a number -/
def FnI (f : FuncId) (st : Int) (ss bs : List Int) (x : Int) (post : World → Ending → World → Prop) : Prop :=
  ∀ (A A' : Option Addr) (c c' B : Nat) (w : World), St w B st A A' c c' ss bs → B ≤ w.heap.size → Calls Tryd.prog f #[stv st A A' c c' ss bs, .int .i64 x] w (post w)
/-- .. of stairs and a list -/
def FnL (f : FuncId) (st : Int) (ss bs xs : List Int) (post : World → Ending → World → Prop) : Prop :=
  ∀ (A A' Z : Option Addr) (c c' d B : Nat) (w : World), St w B st A A' c c' ss bs → B ≤ w.heap.size → Rd w B Z d xs → Calls Tryd.prog f #[stv st A A' c c' ss bs, .slice Z xs.length d] w (post w)

/-- WHAT A CALL LEAVES THAT ANSWERS PLAIN VALUES -/
def Plain (V : Value) (w : World) (e : Ending) (w' : World) : Prop := e = .returned V ∧ Below w.heap.size w w'
/-- WHAT A CALL LEAVES THAT ANSWERS STAIRS AND A BOOL, in memory of its own -/
def NewSt (st : Int) (us vs : List Int) (ok : Bool) (w : World) (e : Ending) (w' : World) : Prop :=
  ∃ v v', e = .returned (.tuple #[.agg #[.int .i64 st, v, v'], .bool ok]) ∧ OwnI w' w.heap.size v us ∧ OwnI w' w.heap.size v' vs ∧ Apart v v' ∧ Below w.heap.size w w'
/-- .. in whatever memory -/
def SomeSt (st : Int) (us vs : List Int) (ok : Bool) (w : World) (e : Ending) (w' : World) : Prop :=
  ∃ A A' c c', e = .returned (.tuple #[stv st A A' c c' us vs, .bool ok]) ∧ St w' w'.heap.size st A A' c c' us vs ∧ Below w.heap.size w w'

theorem OwnI.rd {w : World} {B n c : Nat} {A : Option Addr} {xs : List Int} (h : OwnI w B (.slice A n c) xs) : Rd w w.heap.size A c xs := by
  obtain ⟨A', c', he, hr⟩ := h.form
  injection he with h1 h2 h3
  subst h1 h3
  exact hr

end Go.Proofs.YtohimcljobpkjaaDoor
