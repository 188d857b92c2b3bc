import Derived.Test.YtiokejnlioghiaaGreatDoorPovCardAm
import Derived.Test.YtiokejnlioghiaaGreatDoorPovCardFm
namespace Go.Proofs.YtiokejnlioghiaaGreatDoor.PoolOpensDone
open Go.ChangeShapes Go.WideShapes Go.ChangeAt Go.RowKit
open Go.ChangeMaps (open_string shut_string)

theorem said : Rows.PoolOpensSaid :=
  OpenClaim.holds_of_cond 3 Tryz.f3 rfl rfl rfl rfl rfl rfl rfl ⟨rfl, rfl, rfl, rfl, rfl⟩ rfl rfl rfl rfl rfl named Tryz.func3 facts
    inst wrap
    (fun os started H enc _ F => by rw [OpenClaim.pre_eq_preRow]; exact lifted os started H enc F)
end Go.Proofs.YtiokejnlioghiaaGreatDoor.PoolOpensDone
