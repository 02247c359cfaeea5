/- Contracts: the text of Moving, on both sides. -/
import Derived.Test.YtmnljccfcfdjmaaDoorTxNum
import Derived.Test.YtmnljccfcfdjmaaDoorMovB
import Derived.Deep.RegionHeld3
namespace Go.Proofs.YtmnljccfcfdjmaaDoor
open Go.RowKit
set_option maxRecDepth 100000

def moS (x y : Int) : ByteArray := numS x ++ ⟨#[118]⟩ ++ numS y

end Go.Proofs.YtmnljccfcfdjmaaDoor
