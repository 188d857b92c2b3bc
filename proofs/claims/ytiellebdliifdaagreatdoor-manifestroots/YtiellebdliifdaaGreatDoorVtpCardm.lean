import Derived.Test.YtiellebdliifdaaGreatDoorVtpCardSm
import Derived.Test.YtiellebdliifdaaGreatDoorVtpCardPm
namespace Go.Proofs.YtiellebdliifdaaGreatDoor.ManifestRootsDone
open Go.ChangeShapes Go.WideShapes Go.ChangeAt Go.RowKit
open Go.ChangeMaps (open_string shut_string)

/-- The card. -/
theorem card : Rows.ManifestRootsCardSaid :=
  Claim7.holds_tied_plain_at .later [] _ _ _ _ said (fun _ h => by cases h) (by as_aux_lemma => kernel_rfl) (fun _ h => by cases h) manifestRoots_row_tie rfl ⟨rfl, rfl⟩ (by as_aux_lemma => kernel_rfl) rfl plain (by as_aux_lemma => kernel_rfl)
end Go.Proofs.YtiellebdliifdaaGreatDoor.ManifestRootsDone
