import Derived.Test.YtabgcgdpeikieaaDoorBas
import Derived.Test.YtabgcgdpeikieaaDoorKey
import Derived.Deep.RegionLaw
namespace Go.Proofs.YtabgcgdpeikieaaDoor
open Go.RowKit
end Go.Proofs.YtabgcgdpeikieaaDoor
