/- The lesser of two numbers. -/
import Derived.Test.YtiacfaeanlkalaaGSpec
namespace Go.Proofs.Ytiacfaeanlkalaa
set_option maxRecDepth 100000
open Go.RowKit

/-- the lesser of two numbers -/
def leastI (a b : Int) : Int := if a < b then a else b

end Go.Proofs.Ytiacfaeanlkalaa
