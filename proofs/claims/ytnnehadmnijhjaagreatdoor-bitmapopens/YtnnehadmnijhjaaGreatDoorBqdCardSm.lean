import Derived.Test.YtnnehadmnijhjaaGreatDoorBqdCardAm
import Derived.Test.YtnnehadmnijhjaaGreatDoorBqdCardFm
namespace Go.Proofs.YtnnehadmnijhjaaGreatDoor.BitmapOpensDone
open Go.ChangeShapes Go.WideShapes Go.ChangeAt Go.RowKit
open Go.ChangeMaps (open_string shut_string)

theorem said : Rows.BitmapOpensSaid :=
  OpenClaim.holds_of_cond 3 Tryz.f3 rfl rfl rfl rfl rfl rfl rfl ⟨rfl, rfl, rfl, rfl, rfl⟩ rfl rfl rfl rfl rfl named Tryz.func3 facts
    inst wrap
    (fun os started H enc _ F => by rw [OpenClaim.pre_eq_preRow]; exact lifted os started H enc F)
end Go.Proofs.YtnnehadmnijhjaaGreatDoor.BitmapOpensDone
