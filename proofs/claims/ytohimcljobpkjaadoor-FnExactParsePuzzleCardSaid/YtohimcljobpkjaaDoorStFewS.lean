/- Contracts: FewestStrides and MostStrides, on the model's side. -/
import Derived.Test.YtohimcljobpkjaaDoorStLeft
namespace Go.Proofs.YtohimcljobpkjaaDoor
set_option maxRecDepth 100000
open Go.RowKit

def strB (most : Bool) (st : Int) (ss bs : List Int) : Bool := goodB st ss bs && !decide (lv most st.toNat ss bs st.toNat < 0)
def strV (most : Bool) (st : Int) (ss bs : List Int) : Int := if strB most st ss bs then lv most st.toNat ss bs st.toNat else 0



end Go.Proofs.YtohimcljobpkjaaDoor
