/-
  DERIVED. GIVEN WITH THE SEED: THE CARDS: each row of YtokaomlhnmbajaaDoorRows.lean that lists a variable, with what it lists TIED to the program's text (the seventh form; the later family's looks); each row that meets fmt, with fmt's text TOLD by the authors' own Lean function (tested against real Go, not proved from fmt's source: count such statements apart). THE CARD IS WHAT COUNTS. Prove the row's statement (the work); the ties are given (YtokaomlhnmbajaaDoorTie.lean); close each card by the builder's one call (the guide's Derived/Test/ToyasCard.lean, 'card_holds'). Laid BY PROGRAM, IN A SANDBOX (cutbox-door.mjs). By AI agents, Wed Nov 11 2026. No macro, syntax, notation, axiom, sorry.
-/
import Derived.Test.YtokaomlhnmbajaaDoorRows
import GoSem.ClaimSeven
namespace Go.Proofs.YtokaomlhnmbajaaDoor
namespace Rows

/-- THE TIED CARD OF 'strongboxlaw1.HashHexes'. -/
def hashHexesCard : Claim7 := { stood := { row := hashHexesRow, standIns := [], harness := (true, "c85084cf926fa122a0a1e3719e54c5920d2be6ff60e54c98e5d353a1ff51f0fc"), looks := false }, kinds := [], alts := [], laidByText := true, laidKinds := [.data], laidTests := true, laidLooks := .later }
def HashHexesCardSaid : Prop := Claim7.holds Tryd.pinned (.plain (OpenSpec.ofChange hashHexesSpec)) hashHexesCard

/-- THE TIED CARD OF 'strongboxlaw1.HashCuts'. -/
def hashCutsCard : Claim7 := { stood := { row := hashCutsRow, standIns := [], harness := (true, "c85084cf926fa122a0a1e3719e54c5920d2be6ff60e54c98e5d353a1ff51f0fc"), looks := false }, kinds := [], alts := [], laidByText := true, laidKinds := [.data], laidTests := true, laidLooks := .later }
def HashCutsCardSaid : Prop := Claim7.holds Tryd.pinned (.plain (OpenSpec.ofChange hashCutsSpec)) hashCutsCard

/-- THE TIED CARD OF 'strongboxlaw1.HashSums'. -/
def hashSumsCard : Claim7 := { stood := { row := hashSumsRow, standIns := [], harness := (true, "c85084cf926fa122a0a1e3719e54c5920d2be6ff60e54c98e5d353a1ff51f0fc"), looks := false }, kinds := [], alts := [], laidByText := true, laidKinds := [.data], laidTests := true, laidLooks := .later }
def HashSumsCardSaid : Prop := Claim7.holds Tryd.pinned (.plain (OpenSpec.ofChange hashSumsSpec)) hashSumsCard

/-- THE TIED CARD OF 'strongboxlaw1.HashChains'. -/
def hashChainsCard : Claim7 := { stood := { row := hashChainsRow, standIns := [], harness := (true, "c85084cf926fa122a0a1e3719e54c5920d2be6ff60e54c98e5d353a1ff51f0fc"), looks := false }, kinds := [], alts := [], laidByText := true, laidKinds := [.data], laidTests := true, laidLooks := .later }
def HashChainsCardSaid : Prop := Claim7.holds Tryd.pinned (.plain (OpenSpec.ofChange hashChainsSpec)) hashChainsCard

/-- THE TIED CARD OF 'strongboxlaw1.HashMacs'. -/
def hashMacsCard : Claim7 := { stood := { row := hashMacsRow, standIns := [], harness := (true, "c85084cf926fa122a0a1e3719e54c5920d2be6ff60e54c98e5d353a1ff51f0fc"), looks := false }, kinds := [], alts := [], laidByText := true, laidKinds := [.data], laidTests := true, laidLooks := .later }
def HashMacsCardSaid : Prop := Claim7.holds Tryd.pinned (.plain (OpenSpec.ofChange hashMacsSpec)) hashMacsCard

/-- THE TIED CARD OF 'strongboxlaw1.HashSames'. -/
def hashSamesCard : Claim7 := { stood := { row := hashSamesRow, standIns := [], harness := (true, "c85084cf926fa122a0a1e3719e54c5920d2be6ff60e54c98e5d353a1ff51f0fc"), looks := false }, kinds := [], alts := [], laidByText := true, laidKinds := [.data], laidTests := true, laidLooks := .later }
def HashSamesCardSaid : Prop := Claim7.holds Tryd.pinned (.plain (OpenSpec.ofChange hashSamesSpec)) hashSamesCard

/-- THE SECOND FORM's CARD OF 'strongboxlaw1.HashHexes'. -/
def hashHexesUptoCard : Claim7 := { stood := { row := hashHexesUptoRow, standIns := [], harness := (true, "c85084cf926fa122a0a1e3719e54c5920d2be6ff60e54c98e5d353a1ff51f0fc"), looks := false }, kinds := [], alts := [], laidByText := true, laidKinds := [.data], laidTests := true, laidLooks := .later }
def HashHexesUptoCardSaid : Prop := Claim7.holds Tryd.pinned (.plain (OpenSpec.upto hashHexesSpec)) hashHexesUptoCard

/-- THE SECOND FORM's CARD OF 'strongboxlaw1.HashCuts'. -/
def hashCutsUptoCard : Claim7 := { stood := { row := hashCutsUptoRow, standIns := [], harness := (true, "c85084cf926fa122a0a1e3719e54c5920d2be6ff60e54c98e5d353a1ff51f0fc"), looks := false }, kinds := [], alts := [], laidByText := true, laidKinds := [.data], laidTests := true, laidLooks := .later }
def HashCutsUptoCardSaid : Prop := Claim7.holds Tryd.pinned (.plain (OpenSpec.upto hashCutsSpec)) hashCutsUptoCard

/-- THE SECOND FORM's CARD OF 'strongboxlaw1.HashSums'. -/
def hashSumsUptoCard : Claim7 := { stood := { row := hashSumsUptoRow, standIns := [], harness := (true, "c85084cf926fa122a0a1e3719e54c5920d2be6ff60e54c98e5d353a1ff51f0fc"), looks := false }, kinds := [], alts := [], laidByText := true, laidKinds := [.data], laidTests := true, laidLooks := .later }
def HashSumsUptoCardSaid : Prop := Claim7.holds Tryd.pinned (.plain (OpenSpec.upto hashSumsSpec)) hashSumsUptoCard

/-- THE SECOND FORM's CARD OF 'strongboxlaw1.HashChains'. -/
def hashChainsUptoCard : Claim7 := { stood := { row := hashChainsUptoRow, standIns := [], harness := (true, "c85084cf926fa122a0a1e3719e54c5920d2be6ff60e54c98e5d353a1ff51f0fc"), looks := false }, kinds := [], alts := [], laidByText := true, laidKinds := [.data], laidTests := true, laidLooks := .later }
def HashChainsUptoCardSaid : Prop := Claim7.holds Tryd.pinned (.plain (OpenSpec.upto hashChainsSpec)) hashChainsUptoCard

/-- THE SECOND FORM's CARD OF 'strongboxlaw1.HashMacs'. -/
def hashMacsUptoCard : Claim7 := { stood := { row := hashMacsUptoRow, standIns := [], harness := (true, "c85084cf926fa122a0a1e3719e54c5920d2be6ff60e54c98e5d353a1ff51f0fc"), looks := false }, kinds := [], alts := [], laidByText := true, laidKinds := [.data], laidTests := true, laidLooks := .later }
def HashMacsUptoCardSaid : Prop := Claim7.holds Tryd.pinned (.plain (OpenSpec.upto hashMacsSpec)) hashMacsUptoCard

/-- THE SECOND FORM's CARD OF 'strongboxlaw1.HashSames'. -/
def hashSamesUptoCard : Claim7 := { stood := { row := hashSamesUptoRow, standIns := [], harness := (true, "c85084cf926fa122a0a1e3719e54c5920d2be6ff60e54c98e5d353a1ff51f0fc"), looks := false }, kinds := [], alts := [], laidByText := true, laidKinds := [.data], laidTests := true, laidLooks := .later }
def HashSamesUptoCardSaid : Prop := Claim7.holds Tryd.pinned (.plain (OpenSpec.upto hashSamesSpec)) hashSamesUptoCard
end Rows
end Go.Proofs.YtokaomlhnmbajaaDoor
