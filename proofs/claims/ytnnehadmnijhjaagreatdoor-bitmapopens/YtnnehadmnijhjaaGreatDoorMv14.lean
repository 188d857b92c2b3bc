import Derived.Test.YtnnehadmnijhjaaGreatDoorMv10
import Derived.Deep.RegionHeld3
namespace Go.Proofs.YtnnehadmnijhjaaGreatDoor
open Go.RowKit
theorem Jb.alloc {w : World} {jb b nx : Nat} {lost : Bool} (h : Jb w jb b nx lost) (o : Obj) : Jb (w.alloc o) jb b nx lost := Blk.alloc h o
end Go.Proofs.YtnnehadmnijhjaaGreatDoor
