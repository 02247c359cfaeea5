/- What a function of stairs leaves whose road reads the tables of numerals (chapter 1's old base). -/
import Derived.Test.YtfojcefbgdaelaaDoorKit
import Derived.Test.YtfojcefbgdaelaaDoorOTxNum
namespace Go.Proofs.YtfojcefbgdaelaaDoor
open Go.RowKit

def Fn0T (f : FuncId) (st : Int) (ss bs : List Int) (post : World → Ending → World → Prop) : Prop :=
  ∀ (A A' : Option Addr) (c c' B : Nat) (w : World), St w B st A A' c c' ss bs → B ≤ w.heap.size → TabI w → Calls Tryd.prog f #[stv st A A' c c' ss bs] w (post w)

end Go.Proofs.YtfojcefbgdaelaaDoor
