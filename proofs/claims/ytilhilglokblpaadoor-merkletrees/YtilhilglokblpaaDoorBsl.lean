import Derived.Test.YtilhilglokblpaaDoorBas
import Derived.Test.YtilhilglokblpaaDoorHxg
import Derived.ArgAppend
import Derived.Laws.IdiomStrings
namespace Go.Proofs.YtilhilglokblpaaDoor
open Go.RowKit
end Go.Proofs.YtilhilglokblpaaDoor
