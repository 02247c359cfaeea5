/- Contracts: one clue fits stairs (the model); the stairs of a row that fit a clue (the program). -/
import Derived.Test.YtehffiaobjlpoaaPzT
import Derived.Test.YtehffiaobjlpoaaPzE
namespace Go.Proofs.Ytehffiaobjlpoaa
open Go.RowKit
set_option maxRecDepth 100000

end Go.Proofs.Ytehffiaobjlpoaa
