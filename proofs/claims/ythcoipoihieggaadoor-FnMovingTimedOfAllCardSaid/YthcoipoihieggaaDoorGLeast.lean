/- The lesser of two numbers. -/
import Derived.Test.YthcoipoihieggaaDoorGSpec
namespace Go.Proofs.YthcoipoihieggaaDoor
set_option maxRecDepth 100000
open Go.RowKit

/-- the lesser of two numbers -/
def leastI (a b : Int) : Int := if a < b then a else b

end Go.Proofs.YthcoipoihieggaaDoor
