/- Contracts: one clue fits stairs (the model); the stairs of a row that fit a clue (the program). -/
import Derived.Test.YtohimcljobpkjaaDoorPzT
import Derived.Test.YtohimcljobpkjaaDoorPzE
namespace Go.Proofs.YtohimcljobpkjaaDoor
open Go.RowKit
set_option maxRecDepth 100000

end Go.Proofs.YtohimcljobpkjaaDoor
