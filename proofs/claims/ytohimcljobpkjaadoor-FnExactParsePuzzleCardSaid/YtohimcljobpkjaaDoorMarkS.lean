/- Contract: the laws' marks in stairs, read back. -/
import Derived.Test.YtohimcljobpkjaaDoorMark
namespace Go.Proofs.YtohimcljobpkjaaDoor
set_option maxRecDepth 100000
open Go.RowKit

end Go.Proofs.YtohimcljobpkjaaDoor
