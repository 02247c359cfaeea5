/- Contracts: texts of lists of numbers with a byte between them, on both sides. -/
import Derived.Test.YthcoipoihieggaaDoorTxNum
import Derived.Test.YthcoipoihieggaaDoorGMake
import Derived.Lib.Join
namespace Go.Proofs.YthcoipoihieggaaDoor
open Go.RowKit
set_option maxRecDepth 100000


end Go.Proofs.YthcoipoihieggaaDoor
