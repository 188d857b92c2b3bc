import Derived.Test.YtkileaocgecckabDoorBas
import Derived.Test.YtkileaocgecckabDoorHxg
import Derived.ArgAppend
import Derived.Laws.IdiomStrings
namespace Go.Proofs.YtkileaocgecckabDoor
open Go.RowKit
end Go.Proofs.YtkileaocgecckabDoor
