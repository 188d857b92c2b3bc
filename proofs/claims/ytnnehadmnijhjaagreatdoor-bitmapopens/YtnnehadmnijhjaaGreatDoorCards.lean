/-
  DERIVED. GIVEN WITH THE SEED: THE CARDS: each row of YtnnehadmnijhjaaGreatDoorRows.lean that lists a variable, with what it lists TIED to the program's text (the seventh form; the later family's looks); each row that meets fmt, with fmt's text TOLD by the authors' own Lean function (tested against real Go, not proved from fmt's source: count such statements apart). THE CARD IS WHAT COUNTS. Prove the row's statement (the work); the ties are given (YtnnehadmnijhjaaGreatDoorTie.lean); close each card by the builder's one call (the guide's Derived/Test/ToyasCard.lean, 'card_holds'). Laid BY PROGRAM, IN A SANDBOX (cutbox-door.mjs). By AI agents, Wed Nov 11 2026. No macro, syntax, notation, axiom, sorry.
-/
import Derived.Test.YtnnehadmnijhjaaGreatDoorRows
import GoSem.ClaimSeven
namespace Go.Proofs.YtnnehadmnijhjaaGreatDoor
namespace Rows

/-- THE TIED CARD OF 'strongboxlaw7.BitmapOpens'. -/
def bitmapOpensCard : Claim7 := { stood := { row := bitmapOpensRow, standIns := [], harness := (true, "ace4bd95c8b06fb3b059f95ee616e011f15de67d865c539a5211023b2e749b1b"), looks := true }, kinds := [], alts := [], laidByText := true, laidKinds := [.handle], laidTests := true, laidLooks := .later }
def BitmapOpensCardSaid : Prop := Claim7.holds Tryz.pinned (.plain (OpenSpec.ofChange bitmapOpensSpec)) bitmapOpensCard

/-- THE TIED CARD OF 'strongboxlaw7.BitmapAborts'. -/
def bitmapAbortsCard : Claim7 := { stood := { row := bitmapAbortsRow, standIns := [], harness := (true, "ace4bd95c8b06fb3b059f95ee616e011f15de67d865c539a5211023b2e749b1b"), looks := true }, kinds := [], alts := [], laidByText := true, laidKinds := [.handle], laidTests := true, laidLooks := .later }
def BitmapAbortsCardSaid : Prop := Claim7.holds Tryz.pinned (.plain (OpenSpec.ofChange bitmapAbortsSpec)) bitmapAbortsCard

/-- THE SECOND FORM's CARD OF 'strongboxlaw7.BitmapOpens'. -/
def bitmapOpensUptoCard : Claim7 := { stood := { row := bitmapOpensUptoRow, standIns := [], harness := (true, "ace4bd95c8b06fb3b059f95ee616e011f15de67d865c539a5211023b2e749b1b"), looks := true }, kinds := [], alts := [], laidByText := true, laidKinds := [.handle], laidTests := true, laidLooks := .later }
def BitmapOpensUptoCardSaid : Prop := Claim7.holds Tryz.pinned (.plain (OpenSpec.upto bitmapOpensSpec)) bitmapOpensUptoCard

/-- THE SECOND FORM's CARD OF 'strongboxlaw7.BitmapAborts'. -/
def bitmapAbortsUptoCard : Claim7 := { stood := { row := bitmapAbortsUptoRow, standIns := [], harness := (true, "ace4bd95c8b06fb3b059f95ee616e011f15de67d865c539a5211023b2e749b1b"), looks := true }, kinds := [], alts := [], laidByText := true, laidKinds := [.handle], laidTests := true, laidLooks := .later }
def BitmapAbortsUptoCardSaid : Prop := Claim7.holds Tryz.pinned (.plain (OpenSpec.upto bitmapAbortsSpec)) bitmapAbortsUptoCard
end Rows
end Go.Proofs.YtnnehadmnijhjaaGreatDoor
