import Derived.Test.YtolblldpdgfkmaaDoorGpf
import Derived.Laws.MakeOwn
namespace Go.Proofs.YtolblldpdgfkmaaDoor
open Go.RowKit
end Go.Proofs.YtolblldpdgfkmaaDoor
