import Derived.Test.YtkileaocgecckaaDoorBas
import Derived.Test.YtkileaocgecckaaDoorHxg
import Derived.ArgAppend
import Derived.Laws.IdiomStrings
namespace Go.Proofs.YtkileaocgecckaaDoor
open Go.RowKit
end Go.Proofs.YtkileaocgecckaaDoor
