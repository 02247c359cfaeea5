/- The lesser of two numbers. -/
import Derived.Test.YtkglkknccbjefaaGSpec
namespace Go.Proofs.Ytkglkknccbjefaa
open Go.RowKit

/-- the lesser of two numbers -/
def leastI (a b : Int) : Int := if a < b then a else b

end Go.Proofs.Ytkglkknccbjefaa
