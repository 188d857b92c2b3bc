/-
  DERIVED. GIVEN WITH THE SEED: THE CARDS: each row of YtkileaocgecckabDoorRows.lean that lists a variable, with what it lists TIED to the program's text (the seventh form; the later family's looks); each row that meets fmt, with fmt's text TOLD by the authors' own Lean function (tested against real Go, not proved from fmt's source: count such statements apart). THE CARD IS WHAT COUNTS. Prove the row's statement (the work); the ties are given (YtkileaocgecckabDoorTie.lean); close each card by the builder's one call (the guide's Derived/Test/ToyasCard.lean, 'card_holds'). Laid BY PROGRAM, IN A SANDBOX (cutbox-door.mjs). By AI agents, Wed Nov 11 2026. No macro, syntax, notation, axiom, sorry.
-/
import Derived.Test.YtkileaocgecckabDoorRows
import GoSem.ClaimSeven
namespace Go.Proofs.YtkileaocgecckabDoor
namespace Rows

/-- THE TIED CARD OF 'strongboxlaw19.MerkleGrownChecks'. -/
def merkleGrownChecksCard : Claim7 := { stood := { row := merkleGrownChecksRow, standIns := [], harness := (true, "c17e50e3aa53a4c32df7bbd4c6e6f40925448ad4df1f6576e7fc59203b8f88e0"), looks := false }, kinds := [], alts := [], laidByText := true, laidKinds := [.data], laidTests := true, laidLooks := .later }
def MerkleGrownChecksCardSaid : Prop := Claim7.holds Tryd.pinned (.plain (OpenSpec.ofChange merkleGrownChecksSpec)) merkleGrownChecksCard

/-- THE TIED CARD OF 'strongboxlaw19.MerklePaths'. -/
def merklePathsCard : Claim7 := { stood := { row := merklePathsRow, standIns := [], harness := (true, "c17e50e3aa53a4c32df7bbd4c6e6f40925448ad4df1f6576e7fc59203b8f88e0"), looks := false }, kinds := [], alts := [], laidByText := true, laidKinds := [.data], laidTests := true, laidLooks := .later }
def MerklePathsCardSaid : Prop := Claim7.holds Tryd.pinned (.plain (OpenSpec.ofChange merklePathsSpec)) merklePathsCard

/-- THE TIED CARD OF 'strongboxlaw19.MerkleTrees'. -/
def merkleTreesCard : Claim7 := { stood := { row := merkleTreesRow, standIns := [], harness := (true, "c17e50e3aa53a4c32df7bbd4c6e6f40925448ad4df1f6576e7fc59203b8f88e0"), looks := false }, kinds := [], alts := [], laidByText := true, laidKinds := [.data, .data, .data], laidTests := true, laidLooks := .later }
def MerkleTreesCardSaid : Prop := Claim7.holds Tryd.pinned (.plain (OpenSpec.ofChange merkleTreesSpec)) merkleTreesCard

/-- THE TIED CARD OF 'strongboxlaw19.MerkleGrows'. -/
def merkleGrowsCard : Claim7 := { stood := { row := merkleGrowsRow, standIns := [], harness := (true, "c17e50e3aa53a4c32df7bbd4c6e6f40925448ad4df1f6576e7fc59203b8f88e0"), looks := false }, kinds := [], alts := [], laidByText := true, laidKinds := [.data], laidTests := true, laidLooks := .later }
def MerkleGrowsCardSaid : Prop := Claim7.holds Tryd.pinned (.plain (OpenSpec.ofChange merkleGrowsSpec)) merkleGrowsCard

/-- THE SECOND FORM's CARD OF 'strongboxlaw19.MerkleGrownChecks'. -/
def merkleGrownChecksUptoCard : Claim7 := { stood := { row := merkleGrownChecksUptoRow, standIns := [], harness := (true, "c17e50e3aa53a4c32df7bbd4c6e6f40925448ad4df1f6576e7fc59203b8f88e0"), looks := false }, kinds := [], alts := [], laidByText := true, laidKinds := [.data], laidTests := true, laidLooks := .later }
def MerkleGrownChecksUptoCardSaid : Prop := Claim7.holds Tryd.pinned (.plain (OpenSpec.upto merkleGrownChecksSpec)) merkleGrownChecksUptoCard

/-- THE SECOND FORM's CARD OF 'strongboxlaw19.MerklePaths'. -/
def merklePathsUptoCard : Claim7 := { stood := { row := merklePathsUptoRow, standIns := [], harness := (true, "c17e50e3aa53a4c32df7bbd4c6e6f40925448ad4df1f6576e7fc59203b8f88e0"), looks := false }, kinds := [], alts := [], laidByText := true, laidKinds := [.data], laidTests := true, laidLooks := .later }
def MerklePathsUptoCardSaid : Prop := Claim7.holds Tryd.pinned (.plain (OpenSpec.upto merklePathsSpec)) merklePathsUptoCard

/-- THE SECOND FORM's CARD OF 'strongboxlaw19.MerkleTrees'. -/
def merkleTreesUptoCard : Claim7 := { stood := { row := merkleTreesUptoRow, standIns := [], harness := (true, "c17e50e3aa53a4c32df7bbd4c6e6f40925448ad4df1f6576e7fc59203b8f88e0"), looks := false }, kinds := [], alts := [], laidByText := true, laidKinds := [.data, .data, .data], laidTests := true, laidLooks := .later }
def MerkleTreesUptoCardSaid : Prop := Claim7.holds Tryd.pinned (.plain (OpenSpec.upto merkleTreesSpec)) merkleTreesUptoCard

/-- THE SECOND FORM's CARD OF 'strongboxlaw19.MerkleGrows'. -/
def merkleGrowsUptoCard : Claim7 := { stood := { row := merkleGrowsUptoRow, standIns := [], harness := (true, "c17e50e3aa53a4c32df7bbd4c6e6f40925448ad4df1f6576e7fc59203b8f88e0"), looks := false }, kinds := [], alts := [], laidByText := true, laidKinds := [.data], laidTests := true, laidLooks := .later }
def MerkleGrowsUptoCardSaid : Prop := Claim7.holds Tryd.pinned (.plain (OpenSpec.upto merkleGrowsSpec)) merkleGrowsUptoCard
end Rows
end Go.Proofs.YtkileaocgecckabDoor
