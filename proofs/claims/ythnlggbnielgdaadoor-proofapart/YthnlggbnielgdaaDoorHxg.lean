import Derived.Test.YthnlggbnielgdaaDoorBas
import Derived.Test.YthnlggbnielgdaaDoorKey
import Derived.Deep.RegionLaw
namespace Go.Proofs.YthnlggbnielgdaaDoor
open Go.RowKit
end Go.Proofs.YthnlggbnielgdaaDoor
