import Derived.Test.YtclgkgaobjcifaaGreatDoorXwoCardAm
import Derived.Test.YtclgkgaobjcifaaGreatDoorXwoCardFm
namespace Go.Proofs.YtclgkgaobjcifaaGreatDoor.WireOwnDone
open Go.ChangeShapes Go.WideShapes Go.ChangeAt Go.RowKit
open Go.ChangeMaps (open_string shut_string)

theorem said : Rows.WireOwnSaid :=
  OpenClaim.holds_of_cond 6 Tryz.f6 rfl rfl rfl rfl rfl rfl rfl ⟨rfl, rfl, rfl, rfl, rfl⟩ rfl rfl rfl rfl rfl named Tryz.func6 facts
    inst wrap
    (fun os started H enc _ F => by rw [OpenClaim.pre_eq_preRow]; exact lifted os started H enc F)
end Go.Proofs.YtclgkgaobjcifaaGreatDoor.WireOwnDone
