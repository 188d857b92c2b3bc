import Derived.Test.YtclgkgaobjcifaaGreatDoorXwsCardAm
import Derived.Test.YtclgkgaobjcifaaGreatDoorXwsCardFm
namespace Go.Proofs.YtclgkgaobjcifaaGreatDoor.WireSpoiltDone
open Go.ChangeShapes Go.WideShapes Go.ChangeAt Go.RowKit
open Go.ChangeMaps (open_string shut_string)

theorem said : Rows.WireSpoiltSaid :=
  OpenClaim.holds_of_cond 7 Tryz.f7 rfl rfl rfl rfl rfl rfl rfl ⟨rfl, rfl, rfl, rfl, rfl⟩ rfl rfl rfl rfl rfl named Tryz.func7 facts
    inst wrap
    (fun os started H enc _ F => by rw [OpenClaim.pre_eq_preRow]; exact lifted os started H enc F)
end Go.Proofs.YtclgkgaobjcifaaGreatDoor.WireSpoiltDone
