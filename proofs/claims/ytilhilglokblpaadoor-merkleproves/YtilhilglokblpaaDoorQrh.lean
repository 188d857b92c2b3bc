import Derived.Test.YtilhilglokblpaaDoorQrc
import Derived.Test.YtilhilglokblpaaDoorQme
namespace Go.Proofs.YtilhilglokblpaaDoor
open Go.RowKit
end Go.Proofs.YtilhilglokblpaaDoor
