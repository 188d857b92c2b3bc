import Derived.Test.YtilhilglokblpaaDoorBas
import Derived.Test.YtilhilglokblpaaDoorKey
import Derived.Deep.RegionLaw
namespace Go.Proofs.YtilhilglokblpaaDoor
open Go.RowKit
end Go.Proofs.YtilhilglokblpaaDoor
