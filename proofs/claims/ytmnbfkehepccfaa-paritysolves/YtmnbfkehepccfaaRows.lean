/-
  No cell of these rows narrows 'for every input' (looked for: loops, veiled, ifaces, maps, wideKeys, modest, calm, conditions, laid).
  DERIVED. THE GIVEN ROWS OF THIS SEAT. 5 by the template 'for every input the law returns true; each argument reads behind the call as it read before'; 0 by the template 'total and deterministic' (their statements: YtmnbfkehepccfaaTotals.lean).
  GIVEN WITH THE SEED: the statements are not yours to turn. If you find one false, say at which input.
  Laid BY PROGRAM, IN A SANDBOX (cutbox-rows.mjs): the forced cells as the released guide's own fill.sh prints them over the translation c8a33ac94d9ae691… (all of the seat's roots in one cut). By AI agents, Wed Nov 11 2026. No macro, syntax, notation, axiom, sorry.
-/
import Derived.Test.YtmnbfkehepccfaaChecked
import GoSem.Claim
import GoSem.ClaimJoined
import GoSem.ClaimMapViews
import Derived.JoinedTies
import Derived.KernelRfl
namespace Go.Proofs.Ytmnbfkehepccfaa
/- THE CELL 'sum', in the pinned program and in every row, IS THE sha256 OF THE DUMP (.gsa) THAT YtmnbfkehepccfaaProg.lean LOADS. Nothing in Lean hashes anything: it is a label: what it is worth is what the hold of that sum in a sandbox is worth. -/
noncomputable def Try.pinned : Pinned := { name := "ytmnbfkehepccfaa", sum := "c8a33ac94d9ae691d8645fd595a3db8659e733719b96115fd677c6a01cd35d42", checked := Try.checked }
namespace Rows
def none {H : Type} : Left H := { results := [], args := [] }

/-- 'strongboxlaw18.ParityLaws': WHATEVER THE INPUT: true; the input reads as it did. -/
def parityLawsSpec : ChangeSpec := { name := "parityLaws", fn := fun _ => fun
  | [d1, d2, d3] => { results := [.lit (.bool true)], args := [d1, d2, d3] }
  | _ => none }
def parityLawsRow : OpenClaim := { program := "ytmnbfkehepccfaa", sum := "c8a33ac94d9ae691d8645fd595a3db8659e733719b96115fd677c6a01cd35d42", func := "strongbox/strongboxlaw18.ParityLaws", spec := "parityLaws", apart := false }
def ParityLawsSaid : Prop := parityLawsRow.holds Try.pinned (OpenSpec.ofChange parityLawsSpec)

/-- ITS FALSE NEIGHBOUR: 'it returns false'. Refute it at one input. -/
def parityLawsWrong : ChangeSpec := { name := "parityLaws", fn := fun _ => fun
  | [d1, d2, d3] => { results := [.lit (.bool false)], args := [d1, d2, d3] }
  | _ => none }
def ParityLawsWrongFalsely : Prop := parityLawsRow.holds Try.pinned (OpenSpec.ofChange parityLawsWrong)

/-- 'strongboxlaw18.ParityFields': WHATEVER THE INPUT: true; the input reads as it did. -/
def parityFieldsSpec : ChangeSpec := { name := "parityFields", fn := fun _ => fun
  | [d1, d2] => { results := [.lit (.bool true)], args := [d1, d2] }
  | _ => none }
def parityFieldsRow : OpenClaim := { program := "ytmnbfkehepccfaa", sum := "c8a33ac94d9ae691d8645fd595a3db8659e733719b96115fd677c6a01cd35d42", func := "strongbox/strongboxlaw18.ParityFields", spec := "parityFields", apart := false }
def ParityFieldsSaid : Prop := parityFieldsRow.holds Try.pinned (OpenSpec.ofChange parityFieldsSpec)

/-- ITS FALSE NEIGHBOUR: 'it returns false'. Refute it at one input. -/
def parityFieldsWrong : ChangeSpec := { name := "parityFields", fn := fun _ => fun
  | [d1, d2] => { results := [.lit (.bool false)], args := [d1, d2] }
  | _ => none }
def ParityFieldsWrongFalsely : Prop := parityFieldsRow.holds Try.pinned (OpenSpec.ofChange parityFieldsWrong)

/-- 'strongboxlaw18.ParitySolution': WHATEVER THE INPUT: true; the input reads as it did. -/
def paritySolutionSpec : ChangeSpec := { name := "paritySolution", fn := fun _ => fun
  | [d1, d2, d3, d4] => { results := [.lit (.bool true)], args := [d1, d2, d3, d4] }
  | _ => none }
def paritySolutionRow : OpenClaim := { program := "ytmnbfkehepccfaa", sum := "c8a33ac94d9ae691d8645fd595a3db8659e733719b96115fd677c6a01cd35d42", func := "strongbox/strongboxlaw18.ParitySolution", spec := "paritySolution", apart := false }
def ParitySolutionSaid : Prop := paritySolutionRow.holds Try.pinned (OpenSpec.ofChange paritySolutionSpec)

/-- ITS FALSE NEIGHBOUR: 'it returns false'. Refute it at one input. -/
def paritySolutionWrong : ChangeSpec := { name := "paritySolution", fn := fun _ => fun
  | [d1, d2, d3, d4] => { results := [.lit (.bool false)], args := [d1, d2, d3, d4] }
  | _ => none }
def ParitySolutionWrongFalsely : Prop := paritySolutionRow.holds Try.pinned (OpenSpec.ofChange paritySolutionWrong)

/-- 'strongboxlaw18.ParitySplits': WHATEVER THE INPUT: true; the input reads as it did. -/
def paritySplitsSpec : ChangeSpec := { name := "paritySplits", fn := fun _ => fun
  | [d1, d2, d3] => { results := [.lit (.bool true)], args := [d1, d2, d3] }
  | _ => none }
def paritySplitsRow : OpenClaim := { program := "ytmnbfkehepccfaa", sum := "c8a33ac94d9ae691d8645fd595a3db8659e733719b96115fd677c6a01cd35d42", func := "strongbox/strongboxlaw18.ParitySplits", spec := "paritySplits", apart := false }
def ParitySplitsSaid : Prop := paritySplitsRow.holds Try.pinned (OpenSpec.ofChange paritySplitsSpec)

/-- ITS FALSE NEIGHBOUR: 'it returns false'. Refute it at one input. -/
def paritySplitsWrong : ChangeSpec := { name := "paritySplits", fn := fun _ => fun
  | [d1, d2, d3] => { results := [.lit (.bool false)], args := [d1, d2, d3] }
  | _ => none }
def ParitySplitsWrongFalsely : Prop := paritySplitsRow.holds Try.pinned (OpenSpec.ofChange paritySplitsWrong)

/-- 'strongboxlaw18.ParitySolves': WHATEVER THE INPUT: true; the input reads as it did. -/
def paritySolvesSpec : ChangeSpec := { name := "paritySolves", fn := fun _ => fun
  | [d1, d2] => { results := [.lit (.bool true)], args := [d1, d2] }
  | _ => none }
def paritySolvesRow : OpenClaim := { program := "ytmnbfkehepccfaa", sum := "c8a33ac94d9ae691d8645fd595a3db8659e733719b96115fd677c6a01cd35d42", func := "strongbox/strongboxlaw18.ParitySolves", spec := "paritySolves", apart := false }
def ParitySolvesSaid : Prop := paritySolvesRow.holds Try.pinned (OpenSpec.ofChange paritySolvesSpec)

/-- ITS FALSE NEIGHBOUR: 'it returns false'. Refute it at one input. -/
def paritySolvesWrong : ChangeSpec := { name := "paritySolves", fn := fun _ => fun
  | [d1, d2] => { results := [.lit (.bool false)], args := [d1, d2] }
  | _ => none }
def ParitySolvesWrongFalsely : Prop := paritySolvesRow.holds Try.pinned (OpenSpec.ofChange paritySolvesWrong)

/- THE SECOND FORM. 'bulk': how many values and letters a reading holds, each counted each time it is reached (what is shared counts as often as it is met; a slice's spare places count too). A statement '..UptoSaid' is the law's where the arguments, and the package variables that the reading takes, are together of bulk at most 1048576: NARROWER than '..Said'. Prove '..Said' where nothing that the law and all that it calls make is longer than what came in: it says more and counts as full. Else prove '..UptoSaid'. A law counts once. -/
mutual
def uptoBulk {H : Type} : DataW H → Nat
  | .lit (.string bytes) => bytes.length + 1
  | .lit _ => 1
  | .nil => 1
  | .ptr d => uptoBulk d + 1
  | .slice elems spare => uptoBulkAll elems + uptoBulkAll spare + 1
  | .agg parts => uptoBulkAll parts + 1
  | .iface _ d => uptoBulk d + 1
  | .map entries => uptoBulkEntries entries + 1
  | .held _ => 1
def uptoBulkAll {H : Type} : List (DataW H) → Nat
  | [] => 0
  | d :: r => uptoBulk d + uptoBulkAll r
def uptoBulkEntries {H : Type} : List (Lit × DataW H) → Nat
  | [] => 0
  | x :: r => uptoBulkEntry x + uptoBulkEntries r
def uptoBulkEntry {H : Type} : Lit × DataW H → Nat
  | (.string bytes, d) => bytes.length + uptoBulk d + 1
  | (_, d) => uptoBulk d + 1
 end
def uptoSmall : (H : Type) → List (DataW H) → Bool := fun _ ds => decide (uptoBulkAll ds ≤ 1048576)
def OpenSpec.upto (s : _root_.Go.ChangeSpec) : _root_.Go.OpenSpec := { _root_.Go.OpenSpec.ofChange s with cond := some uptoSmall }

/-- 'strongboxlaw18.ParityLaws', WHERE WHAT IT READS IS OF BULK AT MOST 1048576: true; the input reads as it did. -/
def parityLawsUptoRow : OpenClaim := { program := "ytmnbfkehepccfaa", sum := "c8a33ac94d9ae691d8645fd595a3db8659e733719b96115fd677c6a01cd35d42", func := "strongbox/strongboxlaw18.ParityLaws", spec := "parityLaws", apart := false, narrowed := true }
def ParityLawsUptoSaid : Prop := parityLawsUptoRow.holds Try.pinned (OpenSpec.upto parityLawsSpec)

/-- 'strongboxlaw18.ParityFields', WHERE WHAT IT READS IS OF BULK AT MOST 1048576: true; the input reads as it did. -/
def parityFieldsUptoRow : OpenClaim := { program := "ytmnbfkehepccfaa", sum := "c8a33ac94d9ae691d8645fd595a3db8659e733719b96115fd677c6a01cd35d42", func := "strongbox/strongboxlaw18.ParityFields", spec := "parityFields", apart := false, narrowed := true }
def ParityFieldsUptoSaid : Prop := parityFieldsUptoRow.holds Try.pinned (OpenSpec.upto parityFieldsSpec)

/-- 'strongboxlaw18.ParitySolution', WHERE WHAT IT READS IS OF BULK AT MOST 1048576: true; the input reads as it did. -/
def paritySolutionUptoRow : OpenClaim := { program := "ytmnbfkehepccfaa", sum := "c8a33ac94d9ae691d8645fd595a3db8659e733719b96115fd677c6a01cd35d42", func := "strongbox/strongboxlaw18.ParitySolution", spec := "paritySolution", apart := false, narrowed := true }
def ParitySolutionUptoSaid : Prop := paritySolutionUptoRow.holds Try.pinned (OpenSpec.upto paritySolutionSpec)

/-- 'strongboxlaw18.ParitySplits', WHERE WHAT IT READS IS OF BULK AT MOST 1048576: true; the input reads as it did. -/
def paritySplitsUptoRow : OpenClaim := { program := "ytmnbfkehepccfaa", sum := "c8a33ac94d9ae691d8645fd595a3db8659e733719b96115fd677c6a01cd35d42", func := "strongbox/strongboxlaw18.ParitySplits", spec := "paritySplits", apart := false, narrowed := true }
def ParitySplitsUptoSaid : Prop := paritySplitsUptoRow.holds Try.pinned (OpenSpec.upto paritySplitsSpec)

/-- 'strongboxlaw18.ParitySolves', WHERE WHAT IT READS IS OF BULK AT MOST 1048576: true; the input reads as it did. -/
def paritySolvesUptoRow : OpenClaim := { program := "ytmnbfkehepccfaa", sum := "c8a33ac94d9ae691d8645fd595a3db8659e733719b96115fd677c6a01cd35d42", func := "strongbox/strongboxlaw18.ParitySolves", spec := "paritySolves", apart := false, narrowed := true }
def ParitySolvesUptoSaid : Prop := paritySolvesUptoRow.holds Try.pinned (OpenSpec.upto paritySolvesSpec)

end Rows
end Go.Proofs.Ytmnbfkehepccfaa
