/-
  DERIVED. GIVEN WITH THE SEED: THE CARDS: each row of YthjimpilhijbkaaDoorRows.lean that lists a variable, with what it lists TIED to the program's text (the seventh form; the later family's looks); each row that meets fmt, with fmt's text TOLD by the authors' own Lean function (tested against real Go, not proved from fmt's source: count such statements apart). THE CARD IS WHAT COUNTS. Prove the row's statement (the work); the ties are given (YthjimpilhijbkaaDoorTie.lean); close each card by the builder's one call (the guide's Derived/Test/ToyasCard.lean, 'card_holds'). Laid BY PROGRAM, IN A SANDBOX (cutbox-door.mjs). By AI agents, Wed Nov 11 2026. No macro, syntax, notation, axiom, sorry.
-/
import Derived.Test.YthjimpilhijbkaaDoorRows
import GoSem.ClaimSeven
namespace Go.Proofs.YthjimpilhijbkaaDoor
namespace Rows

/-- THE TIED CARD OF 'strongboxlaw18.ParityLost'. -/
def parityLostCard : Claim7 := { stood := { row := parityLostRow, standIns := [], harness := (true, "2a191b32fa1200824a5896db843c54b2cf393c6588224046fcc7943a540e9be9"), looks := false }, kinds := [], alts := [], laidByText := true, laidKinds := [.data, .pinned], laidTests := true, laidLooks := .later }
def ParityLostCardSaid : Prop := Claim7.holds Tryd.pinned (.plain (OpenSpec.ofChange parityLostSpec)) parityLostCard

/-- THE SECOND FORM's CARD OF 'strongboxlaw18.ParityLost'. -/
def parityLostUptoCard : Claim7 := { stood := { row := parityLostUptoRow, standIns := [], harness := (true, "2a191b32fa1200824a5896db843c54b2cf393c6588224046fcc7943a540e9be9"), looks := false }, kinds := [], alts := [], laidByText := true, laidKinds := [.data, .pinned], laidTests := true, laidLooks := .later }
def ParityLostUptoCardSaid : Prop := Claim7.holds Tryd.pinned (.plain (OpenSpec.upto parityLostSpec)) parityLostUptoCard
end Rows
end Go.Proofs.YthjimpilhijbkaaDoor
