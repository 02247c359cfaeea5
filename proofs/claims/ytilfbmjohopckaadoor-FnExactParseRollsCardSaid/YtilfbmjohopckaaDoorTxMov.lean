/- Contracts: the text of Moving, on both sides. -/
import Derived.Test.YtilfbmjohopckaaDoorTxNum
import Derived.Test.YtilfbmjohopckaaDoorMovB
import Derived.Deep.RegionHeld3
namespace Go.Proofs.YtilfbmjohopckaaDoor
open Go.RowKit
set_option maxRecDepth 100000

def moS (x y : Int) : ByteArray := numS x ++ ⟨#[118]⟩ ++ numS y

end Go.Proofs.YtilfbmjohopckaaDoor
