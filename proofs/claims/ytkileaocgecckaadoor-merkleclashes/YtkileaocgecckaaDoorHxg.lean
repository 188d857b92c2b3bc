import Derived.Test.YtkileaocgecckaaDoorBas
import Derived.Test.YtkileaocgecckaaDoorKey
import Derived.Deep.RegionLaw
namespace Go.Proofs.YtkileaocgecckaaDoor
open Go.RowKit
end Go.Proofs.YtkileaocgecckaaDoor
