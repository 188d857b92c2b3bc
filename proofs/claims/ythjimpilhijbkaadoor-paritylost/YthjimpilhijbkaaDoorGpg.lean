import Derived.Test.YthjimpilhijbkaaDoorGpf
import Derived.Laws.MakeOwn
namespace Go.Proofs.YthjimpilhijbkaaDoor
open Go.RowKit
end Go.Proofs.YthjimpilhijbkaaDoor
