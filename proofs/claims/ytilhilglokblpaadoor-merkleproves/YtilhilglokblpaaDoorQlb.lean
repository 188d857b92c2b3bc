import Derived.Test.YtilhilglokblpaaDoorQmc
namespace Go.Proofs.YtilhilglokblpaaDoor
open Go.RowKit
set_option maxRecDepth 100000
/-- what Node answers -/
def nodE (a b : ByteArray) : Int := if a.size = 32 ∧ b.size = 32 then 0 else 193
noncomputable def nodV (a b : ByteArray) : ByteArray := if a.size = 32 ∧ b.size = 32 then ndB a b else ⟨#[]⟩
end Go.Proofs.YtilhilglokblpaaDoor
