/- What a function of a house leaves whose road reads the tables of numerals. -/
import Derived.Test.YtfojcefbgdaelaaDoorGHouse
import Derived.Test.YtfojcefbgdaelaaDoorTxNum
namespace Go.Proofs.YtfojcefbgdaelaaDoor
open Go.RowKit

def FH0T (f : FuncId) (ss bs : List Int) (post : World → Ending → World → Prop) : Prop :=
  ∀ (A A' : Option Addr) (c c' B : Nat) (w : World), Ho w B A A' c c' ss bs → B ≤ w.heap.size → TabI w → Calls Tryd.prog f #[.agg #[.slice A ss.length c, .slice A' bs.length c']] w (post w)

end Go.Proofs.YtfojcefbgdaelaaDoor
