import Derived.Test.YtiokejnlioghiaaGreatDoorPovCardSm
import Derived.Test.YtiokejnlioghiaaGreatDoorPovCardPm
namespace Go.Proofs.YtiokejnlioghiaaGreatDoor.PoolOpensDone
open Go.ChangeShapes Go.WideShapes Go.ChangeAt Go.RowKit
open Go.ChangeMaps (open_string shut_string)

/-- The card. -/
theorem card : Rows.PoolOpensCardSaid :=
  Claim7.holds_tied_plain_at .later [] _ _ _ _ said (fun _ h => by cases h) (by as_aux_lemma => kernel_rfl) (fun _ h => by cases h) poolOpens_row_tie rfl ⟨rfl, rfl⟩ (by as_aux_lemma => kernel_rfl) rfl plain (by as_aux_lemma => kernel_rfl)
end Go.Proofs.YtiokejnlioghiaaGreatDoor.PoolOpensDone
