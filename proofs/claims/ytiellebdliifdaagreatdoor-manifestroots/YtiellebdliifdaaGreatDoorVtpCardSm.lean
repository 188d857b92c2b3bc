import Derived.Test.YtiellebdliifdaaGreatDoorVtpCardAm
import Derived.Test.YtiellebdliifdaaGreatDoorVtpCardFm
namespace Go.Proofs.YtiellebdliifdaaGreatDoor.ManifestRootsDone
open Go.ChangeShapes Go.WideShapes Go.ChangeAt Go.RowKit
open Go.ChangeMaps (open_string shut_string)

theorem said : Rows.ManifestRootsSaid :=
  OpenClaim.holds_of_cond 3 Tryz.f3 rfl rfl rfl rfl rfl rfl rfl ⟨rfl, rfl, rfl, rfl, rfl⟩ rfl rfl rfl rfl rfl named Tryz.func3 facts
    inst wrap
    (fun os started H enc _ F => by rw [OpenClaim.pre_eq_preRow]; exact lifted os started H enc F)
end Go.Proofs.YtiellebdliifdaaGreatDoor.ManifestRootsDone
