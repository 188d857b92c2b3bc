import Derived.Test.YtclgkgaobjcifaaGreatDoorXwlCardAm
import Derived.Test.YtclgkgaobjcifaaGreatDoorXwlCardFm
namespace Go.Proofs.YtclgkgaobjcifaaGreatDoor.WireToldDone
open Go.ChangeShapes Go.WideShapes Go.ChangeAt Go.RowKit
open Go.ChangeMaps (open_string shut_string)

theorem said : Rows.WireToldSaid :=
  OpenClaim.holds_of_cond 5 Tryz.f5 rfl rfl rfl rfl rfl rfl rfl ⟨rfl, rfl, rfl, rfl, rfl⟩ rfl rfl rfl rfl rfl named Tryz.func5 facts
    inst wrap
    (fun os started H enc _ F => by rw [OpenClaim.pre_eq_preRow]; exact lifted os started H enc F)
end Go.Proofs.YtclgkgaobjcifaaGreatDoor.WireToldDone
