import Derived.Test.YtnnehadmnijhjaaGreatDoorBqdCardSm
import Derived.Test.YtnnehadmnijhjaaGreatDoorBqdCardPm
namespace Go.Proofs.YtnnehadmnijhjaaGreatDoor.BitmapOpensDone
open Go.ChangeShapes Go.WideShapes Go.ChangeAt Go.RowKit
open Go.ChangeMaps (open_string shut_string)

/-- The card. -/
theorem card : Rows.BitmapOpensCardSaid :=
  Claim7.holds_tied_plain_at .later [] _ _ _ _ said (fun _ h => by cases h) (by as_aux_lemma => kernel_rfl) (fun _ h => by cases h) bitmapOpens_row_tie rfl ⟨rfl, rfl⟩ (by as_aux_lemma => kernel_rfl) rfl plain (by as_aux_lemma => kernel_rfl)
end Go.Proofs.YtnnehadmnijhjaaGreatDoor.BitmapOpensDone
