import Derived.Test.YtnfcnpolflfpfaaGreatDoorMr24
import Derived.Test.YtnfcnpolflfpfaaGreatDoorMr44
import Derived.Deep.DeepHandedRow
import Derived.Lib.SmallJoins
namespace Go.Proofs.YtnfcnpolflfpfaaGreatDoor
open Go.RowKit
end Go.Proofs.YtnfcnpolflfpfaaGreatDoor
