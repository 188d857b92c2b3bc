import Derived.Test.YtkileaocgecckabDoorBas
import Derived.Test.YtkileaocgecckabDoorKey
import Derived.Deep.RegionLaw
namespace Go.Proofs.YtkileaocgecckabDoor
open Go.RowKit
end Go.Proofs.YtkileaocgecckabDoor
