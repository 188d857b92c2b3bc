import Derived.Test.YthjimpilhijbkaaDoorGra
import Derived.Test.YthjimpilhijbkaaDoorBlk
import Derived.Deep.AppendLies
import Derived.Laws.OwnMore
namespace Go.Proofs.YthjimpilhijbkaaDoor
open Go.RowKit
end Go.Proofs.YthjimpilhijbkaaDoor
