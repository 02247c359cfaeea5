/- The lesser of two numbers. -/
import Derived.Test.YtcnellnpnlcodaaGSpec
namespace Go.Proofs.Ytcnellnpnlcodaa
open Go.RowKit

/-- the lesser of two numbers -/
def leastI (a b : Int) : Int := if a < b then a else b

end Go.Proofs.Ytcnellnpnlcodaa
