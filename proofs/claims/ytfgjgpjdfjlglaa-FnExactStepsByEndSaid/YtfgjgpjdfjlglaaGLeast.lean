/- The lesser of two numbers. -/
import Derived.Test.YtfgjgpjdfjlglaaGSpec
namespace Go.Proofs.Ytfgjgpjdfjlglaa
open Go.RowKit

/-- the lesser of two numbers -/
def leastI (a b : Int) : Int := if a < b then a else b

end Go.Proofs.Ytfgjgpjdfjlglaa
