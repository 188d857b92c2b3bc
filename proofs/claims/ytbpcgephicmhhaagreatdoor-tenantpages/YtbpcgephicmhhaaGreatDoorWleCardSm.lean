import Derived.Test.YtbpcgephicmhhaaGreatDoorWleCardAm
import Derived.Test.YtbpcgephicmhhaaGreatDoorWleCardFm
namespace Go.Proofs.YtbpcgephicmhhaaGreatDoor.TenantPagesDone
open Go.ChangeShapes Go.WideShapes Go.ChangeAt Go.RowKit
open Go.ChangeMaps (open_string shut_string)

theorem said : Rows.TenantPagesSaid :=
  OpenClaim.holds_of_cond 4 Tryz.f4 rfl rfl rfl rfl rfl rfl rfl ⟨rfl, rfl, rfl, rfl, rfl⟩ rfl rfl rfl rfl rfl named Tryz.func4 facts
    inst wrap
    (fun os started H enc _ F => by rw [OpenClaim.pre_eq_preRow]; exact lifted os started H enc F)
end Go.Proofs.YtbpcgephicmhhaaGreatDoor.TenantPagesDone
