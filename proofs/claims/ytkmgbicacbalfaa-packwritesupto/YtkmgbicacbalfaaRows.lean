/-
  No cell of these rows narrows 'for every input' (looked for: loops, veiled, ifaces, maps, wideKeys, modest, calm, conditions, laid).
  DERIVED. THE GIVEN ROWS OF THIS SEAT. 4 by the template 'for every input the law returns true; each argument reads behind the call as it read before'; 0 by the template 'total and deterministic' (their statements: YtkmgbicacbalfaaTotals.lean).
  GIVEN WITH THE SEED: the statements are not yours to turn. If you find one false, say at which input.
  Laid BY PROGRAM, IN A SANDBOX (cutbox-rows.mjs): the forced cells as the released guide's own fill.sh prints them over the translation 9bd1867af0ae3418… (all of the seat's roots in one cut). By AI agents, Wed Nov 11 2026. No macro, syntax, notation, axiom, sorry.
-/
import Derived.Test.YtkmgbicacbalfaaChecked
import GoSem.Claim
import GoSem.ClaimJoined
import GoSem.ClaimMapViews
import Derived.JoinedTies
import Derived.KernelRfl
namespace Go.Proofs.Ytkmgbicacbalfaa
/- THE CELL 'sum', in the pinned program and in every row, IS THE sha256 OF THE DUMP (.gsa) THAT YtkmgbicacbalfaaProg.lean LOADS. Nothing in Lean hashes anything: it is a label: what it is worth is what the hold of that sum in a sandbox is worth. -/
noncomputable def Try.pinned : Pinned := { name := "ytkmgbicacbalfaa", sum := "9bd1867af0ae3418c27ab73ac54f802b9baad654578fe2f903fba2a4818c1650", checked := Try.checked }
namespace Rows
def none {H : Type} : Left H := { results := [], args := [] }

/-- 'strongboxlaw3.PackChecks': WHATEVER THE INPUT: true; the input reads as it did. -/
def packChecksSpec : ChangeSpec := { name := "packChecks", fn := fun _ => fun
  | [d1, d2] => { results := [.lit (.bool true)], args := [d1, d2] }
  | _ => none }
def packChecksRow : OpenClaim := { program := "ytkmgbicacbalfaa", sum := "9bd1867af0ae3418c27ab73ac54f802b9baad654578fe2f903fba2a4818c1650", func := "strongbox/strongboxlaw3.PackChecks", spec := "packChecks", apart := false }
def PackChecksSaid : Prop := packChecksRow.holds Try.pinned (OpenSpec.ofChange packChecksSpec)

/-- ITS FALSE NEIGHBOUR: 'it returns false'. Refute it at one input. -/
def packChecksWrong : ChangeSpec := { name := "packChecks", fn := fun _ => fun
  | [d1, d2] => { results := [.lit (.bool false)], args := [d1, d2] }
  | _ => none }
def PackChecksWrongFalsely : Prop := packChecksRow.holds Try.pinned (OpenSpec.ofChange packChecksWrong)

/-- 'strongboxlaw3.PackBeside': WHATEVER THE INPUT: true; the input reads as it did. -/
def packBesideSpec : ChangeSpec := { name := "packBeside", fn := fun _ => fun
  | [d1, d2, d3, d4] => { results := [.lit (.bool true)], args := [d1, d2, d3, d4] }
  | _ => none }
def packBesideRow : OpenClaim := { program := "ytkmgbicacbalfaa", sum := "9bd1867af0ae3418c27ab73ac54f802b9baad654578fe2f903fba2a4818c1650", func := "strongbox/strongboxlaw3.PackBeside", spec := "packBeside", apart := false }
def PackBesideSaid : Prop := packBesideRow.holds Try.pinned (OpenSpec.ofChange packBesideSpec)

/-- ITS FALSE NEIGHBOUR: 'it returns false'. Refute it at one input. -/
def packBesideWrong : ChangeSpec := { name := "packBeside", fn := fun _ => fun
  | [d1, d2, d3, d4] => { results := [.lit (.bool false)], args := [d1, d2, d3, d4] }
  | _ => none }
def PackBesideWrongFalsely : Prop := packBesideRow.holds Try.pinned (OpenSpec.ofChange packBesideWrong)

/-- 'strongboxlaw3.PackSlots': WHATEVER THE INPUT: true; the input reads as it did. -/
def packSlotsSpec : ChangeSpec := { name := "packSlots", fn := fun _ => fun
  | [d1, d2, d3, d4] => { results := [.lit (.bool true)], args := [d1, d2, d3, d4] }
  | _ => none }
def packSlotsRow : OpenClaim := { program := "ytkmgbicacbalfaa", sum := "9bd1867af0ae3418c27ab73ac54f802b9baad654578fe2f903fba2a4818c1650", func := "strongbox/strongboxlaw3.PackSlots", spec := "packSlots", apart := false }
def PackSlotsSaid : Prop := packSlotsRow.holds Try.pinned (OpenSpec.ofChange packSlotsSpec)

/-- ITS FALSE NEIGHBOUR: 'it returns false'. Refute it at one input. -/
def packSlotsWrong : ChangeSpec := { name := "packSlots", fn := fun _ => fun
  | [d1, d2, d3, d4] => { results := [.lit (.bool false)], args := [d1, d2, d3, d4] }
  | _ => none }
def PackSlotsWrongFalsely : Prop := packSlotsRow.holds Try.pinned (OpenSpec.ofChange packSlotsWrong)

/-- 'strongboxlaw3.PackWrites': WHATEVER THE INPUT: true; the input reads as it did. -/
def packWritesSpec : ChangeSpec := { name := "packWrites", fn := fun _ => fun
  | [d] => { results := [.lit (.bool true)], args := [d] }
  | _ => none }
def packWritesRow : OpenClaim := { program := "ytkmgbicacbalfaa", sum := "9bd1867af0ae3418c27ab73ac54f802b9baad654578fe2f903fba2a4818c1650", func := "strongbox/strongboxlaw3.PackWrites", spec := "packWrites", apart := false }
def PackWritesSaid : Prop := packWritesRow.holds Try.pinned (OpenSpec.ofChange packWritesSpec)

/-- ITS FALSE NEIGHBOUR: 'it returns false'. Refute it at one input. -/
def packWritesWrong : ChangeSpec := { name := "packWrites", fn := fun _ => fun
  | [d] => { results := [.lit (.bool false)], args := [d] }
  | _ => none }
def PackWritesWrongFalsely : Prop := packWritesRow.holds Try.pinned (OpenSpec.ofChange packWritesWrong)

/- THE SECOND FORM. 'bulk': how many values and letters a reading holds, each counted each time it is reached (what is shared counts as often as it is met; a slice's spare places count too). A statement '..UptoSaid' is the law's where the arguments, and the package variables that the reading takes, are together of bulk at most 1048576: NARROWER than '..Said'. Prove '..Said' where nothing that the law and all that it calls make is longer than what came in: it says more and counts as full. Else prove '..UptoSaid'. A law counts once. -/
mutual
def uptoBulk {H : Type} : DataW H → Nat
  | .lit (.string bytes) => bytes.length + 1
  | .lit _ => 1
  | .nil => 1
  | .ptr d => uptoBulk d + 1
  | .slice elems spare => uptoBulkAll elems + uptoBulkAll spare + 1
  | .agg parts => uptoBulkAll parts + 1
  | .iface _ d => uptoBulk d + 1
  | .map entries => uptoBulkEntries entries + 1
  | .held _ => 1
def uptoBulkAll {H : Type} : List (DataW H) → Nat
  | [] => 0
  | d :: r => uptoBulk d + uptoBulkAll r
def uptoBulkEntries {H : Type} : List (Lit × DataW H) → Nat
  | [] => 0
  | x :: r => uptoBulkEntry x + uptoBulkEntries r
def uptoBulkEntry {H : Type} : Lit × DataW H → Nat
  | (.string bytes, d) => bytes.length + uptoBulk d + 1
  | (_, d) => uptoBulk d + 1
 end
def uptoSmall : (H : Type) → List (DataW H) → Bool := fun _ ds => decide (uptoBulkAll ds ≤ 1048576)
def OpenSpec.upto (s : _root_.Go.ChangeSpec) : _root_.Go.OpenSpec := { _root_.Go.OpenSpec.ofChange s with cond := some uptoSmall }

/-- 'strongboxlaw3.PackChecks', WHERE WHAT IT READS IS OF BULK AT MOST 1048576: true; the input reads as it did. -/
def packChecksUptoRow : OpenClaim := { program := "ytkmgbicacbalfaa", sum := "9bd1867af0ae3418c27ab73ac54f802b9baad654578fe2f903fba2a4818c1650", func := "strongbox/strongboxlaw3.PackChecks", spec := "packChecks", apart := false, narrowed := true }
def PackChecksUptoSaid : Prop := packChecksUptoRow.holds Try.pinned (OpenSpec.upto packChecksSpec)

/-- 'strongboxlaw3.PackBeside', WHERE WHAT IT READS IS OF BULK AT MOST 1048576: true; the input reads as it did. -/
def packBesideUptoRow : OpenClaim := { program := "ytkmgbicacbalfaa", sum := "9bd1867af0ae3418c27ab73ac54f802b9baad654578fe2f903fba2a4818c1650", func := "strongbox/strongboxlaw3.PackBeside", spec := "packBeside", apart := false, narrowed := true }
def PackBesideUptoSaid : Prop := packBesideUptoRow.holds Try.pinned (OpenSpec.upto packBesideSpec)

/-- 'strongboxlaw3.PackSlots', WHERE WHAT IT READS IS OF BULK AT MOST 1048576: true; the input reads as it did. -/
def packSlotsUptoRow : OpenClaim := { program := "ytkmgbicacbalfaa", sum := "9bd1867af0ae3418c27ab73ac54f802b9baad654578fe2f903fba2a4818c1650", func := "strongbox/strongboxlaw3.PackSlots", spec := "packSlots", apart := false, narrowed := true }
def PackSlotsUptoSaid : Prop := packSlotsUptoRow.holds Try.pinned (OpenSpec.upto packSlotsSpec)

/-- 'strongboxlaw3.PackWrites', WHERE WHAT IT READS IS OF BULK AT MOST 1048576: true; the input reads as it did. -/
def packWritesUptoRow : OpenClaim := { program := "ytkmgbicacbalfaa", sum := "9bd1867af0ae3418c27ab73ac54f802b9baad654578fe2f903fba2a4818c1650", func := "strongbox/strongboxlaw3.PackWrites", spec := "packWrites", apart := false, narrowed := true }
def PackWritesUptoSaid : Prop := packWritesUptoRow.holds Try.pinned (OpenSpec.upto packWritesSpec)

end Rows
end Go.Proofs.Ytkmgbicacbalfaa
