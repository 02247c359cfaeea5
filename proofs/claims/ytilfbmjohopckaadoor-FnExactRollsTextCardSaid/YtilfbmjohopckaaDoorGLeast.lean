/- The lesser of two numbers. -/
import Derived.Test.YtilfbmjohopckaaDoorGSpec
namespace Go.Proofs.YtilfbmjohopckaaDoor
open Go.RowKit

/-- the lesser of two numbers -/
def leastI (a b : Int) : Int := if a < b then a else b

end Go.Proofs.YtilfbmjohopckaaDoor
