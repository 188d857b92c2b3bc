/-
  DERIVED. GIVEN WITH THE SEED: THE CARDS: each row of YtolblldpdgfkmaaDoorRows.lean that lists a variable, with what it lists TIED to the program's text (the seventh form; the later family's looks); each row that meets fmt, with fmt's text TOLD by the authors' own Lean function (tested against real Go, not proved from fmt's source: count such statements apart). THE CARD IS WHAT COUNTS. Prove the row's statement (the work); the ties are given (YtolblldpdgfkmaaDoorTie.lean); close each card by the builder's one call (the guide's Derived/Test/ToyasCard.lean, 'card_holds'). Laid BY PROGRAM, IN A SANDBOX (cutbox-door.mjs). By AI agents, Wed Nov 11 2026. No macro, syntax, notation, axiom, sorry.
-/
import Derived.Test.YtolblldpdgfkmaaDoorRows
import GoSem.ClaimSeven
namespace Go.Proofs.YtolblldpdgfkmaaDoor
namespace Rows

/-- THE TIED CARD OF 'strongboxlaw18.ParityShards'. -/
def parityShardsCard : Claim7 := { stood := { row := parityShardsRow, standIns := [], harness := (true, "c02428ece4dd67ab2141a7815026249a2ca56d72fbe2613368746f6057fcf54a"), looks := false }, kinds := [], alts := [], laidByText := true, laidKinds := [.data, .pinned], laidTests := true, laidLooks := .later }
def ParityShardsCardSaid : Prop := Claim7.holds Tryd.pinned (.plain (OpenSpec.ofChange parityShardsSpec)) parityShardsCard

/-- THE SECOND FORM's CARD OF 'strongboxlaw18.ParityShards'. -/
def parityShardsUptoCard : Claim7 := { stood := { row := parityShardsUptoRow, standIns := [], harness := (true, "c02428ece4dd67ab2141a7815026249a2ca56d72fbe2613368746f6057fcf54a"), looks := false }, kinds := [], alts := [], laidByText := true, laidKinds := [.data, .pinned], laidTests := true, laidLooks := .later }
def ParityShardsUptoCardSaid : Prop := Claim7.holds Tryd.pinned (.plain (OpenSpec.upto parityShardsSpec)) parityShardsUptoCard
end Rows
end Go.Proofs.YtolblldpdgfkmaaDoor
