/-
  NARROWER THAN 'FOR EVERY INPUT', by the rows' own cells (each row's printed sentence says how): ReplicaHas: laid · ReplicaImages: laid · ReplicaFrames: laid · ReplicaPromotes: laid · ReplicaPlays: laid.
  DERIVED. THE GIVEN ROWS OF THIS SEAT. 5 by the template 'for every input the law returns true; each argument reads behind the call as it read before'; 0 by the template 'total and deterministic' (their statements: YtnfdedolgfcmfaaGreatDoorTotals.lean).
  GIVEN WITH THE SEED: the statements are not yours to turn. If you find one false, say at which input.
  Laid BY PROGRAM, IN A SANDBOX (cutbox-rows.mjs): the forced cells as the released guide's own fill.sh prints them over the translation 5ced1773ae470741… (all of the seat's roots in one cut). By AI agents, Wed Nov 11 2026. No macro, syntax, notation, axiom, sorry.
-/
import Derived.Test.YtnfdedolgfcmfaaGreatDoorChecked
import GoSem.Claim
import GoSem.ClaimJoined
import GoSem.ClaimMapViews
import Derived.JoinedTies
import Derived.KernelRfl
namespace Go.Proofs.YtnfdedolgfcmfaaGreatDoor
/- THE CELL 'sum', in the pinned program and in every row, IS THE sha256 OF THE DUMP (.gsa) THAT YtnfdedolgfcmfaaGreatDoorProg.lean LOADS. Nothing in Lean hashes anything: it is a label: what it is worth is what the hold of that sum in a sandbox is worth. -/
noncomputable def Tryz.pinned : Pinned := { name := "ytnfdedolgfcmfaagreatdoor", sum := "5ced1773ae470741dfac83d9eb092b37e5ab3ccc188462040850e129df025ec0", checked := Tryz.checked }
namespace Rows
def none {H : Type} : Left H := { results := [], args := [] }

/- WHAT THE LISTED PACKAGE-LEVEL VARIABLES READ AS WHEN THE CALL BEGINS. Each datum BY PROGRAM (the guide's laid-datum.mjs) off the statement by which the dump's own 'gosem.cut.vars' lays the variable. In a bare row this is a premise. The card (YtnfdedolgfcmfaaGreatDoorCards.lean) ties it to the program's text. -/
def laid_strongbox_hash_roundWords {H : Type} : DataW H := .agg [.lit (.int .u32 1116352408), .lit (.int .u32 1899447441), .lit (.int .u32 3049323471), .lit (.int .u32 3921009573), .lit (.int .u32 961987163), .lit (.int .u32 1508970993), .lit (.int .u32 2453635748), .lit (.int .u32 2870763221), .lit (.int .u32 3624381080), .lit (.int .u32 310598401), .lit (.int .u32 607225278), .lit (.int .u32 1426881987), .lit (.int .u32 1925078388), .lit (.int .u32 2162078206), .lit (.int .u32 2614888103), .lit (.int .u32 3248222580), .lit (.int .u32 3835390401), .lit (.int .u32 4022224774), .lit (.int .u32 264347078), .lit (.int .u32 604807628), .lit (.int .u32 770255983), .lit (.int .u32 1249150122), .lit (.int .u32 1555081692), .lit (.int .u32 1996064986), .lit (.int .u32 2554220882), .lit (.int .u32 2821834349), .lit (.int .u32 2952996808), .lit (.int .u32 3210313671), .lit (.int .u32 3336571891), .lit (.int .u32 3584528711), .lit (.int .u32 113926993), .lit (.int .u32 338241895), .lit (.int .u32 666307205), .lit (.int .u32 773529912), .lit (.int .u32 1294757372), .lit (.int .u32 1396182291), .lit (.int .u32 1695183700), .lit (.int .u32 1986661051), .lit (.int .u32 2177026350), .lit (.int .u32 2456956037), .lit (.int .u32 2730485921), .lit (.int .u32 2820302411), .lit (.int .u32 3259730800), .lit (.int .u32 3345764771), .lit (.int .u32 3516065817), .lit (.int .u32 3600352804), .lit (.int .u32 4094571909), .lit (.int .u32 275423344), .lit (.int .u32 430227734), .lit (.int .u32 506948616), .lit (.int .u32 659060556), .lit (.int .u32 883997877), .lit (.int .u32 958139571), .lit (.int .u32 1322822218), .lit (.int .u32 1537002063), .lit (.int .u32 1747873779), .lit (.int .u32 1955562222), .lit (.int .u32 2024104815), .lit (.int .u32 2227730452), .lit (.int .u32 2361852424), .lit (.int .u32 2428436474), .lit (.int .u32 2756734187), .lit (.int .u32 3204031479), .lit (.int .u32 3329325298)]
def laid_errors_errorType {H : Type} : DataW H := .iface "internal/reflectlite.rtype" (.agg [.ptr (.lit (.string [101, 114, 114, 111, 114]))])

/-- 'strongboxlaw22.ReplicaHas': WHATEVER THE INPUT: true; the input reads as it did. -/
def replicaHasSpec : ChangeSpec := { name := "replicaHas", fn := fun _ => fun
  | [d1, d2] => { results := [.lit (.bool true)], args := [d1, d2] }
  | _ => none }
def replicaHasRow : OpenClaim := { program := "ytnfdedolgfcmfaagreatdoor", sum := "5ced1773ae470741dfac83d9eb092b37e5ab3ccc188462040850e129df025ec0", func := "strongbox/strongboxlaw22.ReplicaHas", spec := "replicaHas", inPlace := ["internal/abi.NoEscape", "internal/bytealg.MakeNoZero", "internal/reflectlite.ValueOf", "(internal/reflectlite.Value).Type", "(internal/reflectlite.Value).IsNil", "internal/reflectlite.TypeOf", "(internal/reflectlite.Value).Elem", "(internal/reflectlite.Value).Set"], unfollowed := true, recurses := true, named := ["strongbox/hash.roundWords", "errors.errorType"], apart := false, laid := [("strongbox/hash.roundWords", laid_strongbox_hash_roundWords), ("errors.errorType", laid_errors_errorType)] }
def ReplicaHasSaid : Prop := replicaHasRow.holds Tryz.pinned (OpenSpec.ofChange replicaHasSpec)

/-- ITS FALSE NEIGHBOUR: 'it returns false'. Refute it at one input. -/
def replicaHasWrong : ChangeSpec := { name := "replicaHas", fn := fun _ => fun
  | [d1, d2] => { results := [.lit (.bool false)], args := [d1, d2] }
  | _ => none }
def ReplicaHasWrongFalsely : Prop := replicaHasRow.holds Tryz.pinned (OpenSpec.ofChange replicaHasWrong)

/-- 'strongboxlaw22.ReplicaImages': WHATEVER THE INPUT: true; the input reads as it did. -/
def replicaImagesSpec : ChangeSpec := { name := "replicaImages", fn := fun _ => fun
  | [d1, d2, d3] => { results := [.lit (.bool true)], args := [d1, d2, d3] }
  | _ => none }
def replicaImagesRow : OpenClaim := { program := "ytnfdedolgfcmfaagreatdoor", sum := "5ced1773ae470741dfac83d9eb092b37e5ab3ccc188462040850e129df025ec0", func := "strongbox/strongboxlaw22.ReplicaImages", spec := "replicaImages", inPlace := ["internal/abi.NoEscape", "internal/bytealg.MakeNoZero", "internal/reflectlite.ValueOf", "(internal/reflectlite.Value).Type", "(internal/reflectlite.Value).IsNil", "internal/reflectlite.TypeOf", "(internal/reflectlite.Value).Elem", "(internal/reflectlite.Value).Set"], unfollowed := true, recurses := true, named := ["strongbox/hash.roundWords", "errors.errorType"], apart := false, laid := [("strongbox/hash.roundWords", laid_strongbox_hash_roundWords), ("errors.errorType", laid_errors_errorType)] }
def ReplicaImagesSaid : Prop := replicaImagesRow.holds Tryz.pinned (OpenSpec.ofChange replicaImagesSpec)

/-- ITS FALSE NEIGHBOUR: 'it returns false'. Refute it at one input. -/
def replicaImagesWrong : ChangeSpec := { name := "replicaImages", fn := fun _ => fun
  | [d1, d2, d3] => { results := [.lit (.bool false)], args := [d1, d2, d3] }
  | _ => none }
def ReplicaImagesWrongFalsely : Prop := replicaImagesRow.holds Tryz.pinned (OpenSpec.ofChange replicaImagesWrong)

/-- 'strongboxlaw22.ReplicaFrames': WHATEVER THE INPUT: true; the input reads as it did. -/
def replicaFramesSpec : ChangeSpec := { name := "replicaFrames", fn := fun _ => fun
  | [d1, d2] => { results := [.lit (.bool true)], args := [d1, d2] }
  | _ => none }
def replicaFramesRow : OpenClaim := { program := "ytnfdedolgfcmfaagreatdoor", sum := "5ced1773ae470741dfac83d9eb092b37e5ab3ccc188462040850e129df025ec0", func := "strongbox/strongboxlaw22.ReplicaFrames", spec := "replicaFrames", inPlace := ["internal/abi.NoEscape", "internal/bytealg.MakeNoZero", "internal/reflectlite.ValueOf", "(internal/reflectlite.Value).Type", "(internal/reflectlite.Value).IsNil", "internal/reflectlite.TypeOf", "(internal/reflectlite.Value).Elem", "(internal/reflectlite.Value).Set"], unfollowed := true, recurses := true, named := ["strongbox/hash.roundWords", "errors.errorType"], apart := false, laid := [("strongbox/hash.roundWords", laid_strongbox_hash_roundWords), ("errors.errorType", laid_errors_errorType)] }
def ReplicaFramesSaid : Prop := replicaFramesRow.holds Tryz.pinned (OpenSpec.ofChange replicaFramesSpec)

/-- ITS FALSE NEIGHBOUR: 'it returns false'. Refute it at one input. -/
def replicaFramesWrong : ChangeSpec := { name := "replicaFrames", fn := fun _ => fun
  | [d1, d2] => { results := [.lit (.bool false)], args := [d1, d2] }
  | _ => none }
def ReplicaFramesWrongFalsely : Prop := replicaFramesRow.holds Tryz.pinned (OpenSpec.ofChange replicaFramesWrong)

/-- 'strongboxlaw22.ReplicaPromotes': WHATEVER THE INPUT: true; the input reads as it did. -/
def replicaPromotesSpec : ChangeSpec := { name := "replicaPromotes", fn := fun _ => fun
  | [d1, d2, d3] => { results := [.lit (.bool true)], args := [d1, d2, d3] }
  | _ => none }
def replicaPromotesRow : OpenClaim := { program := "ytnfdedolgfcmfaagreatdoor", sum := "5ced1773ae470741dfac83d9eb092b37e5ab3ccc188462040850e129df025ec0", func := "strongbox/strongboxlaw22.ReplicaPromotes", spec := "replicaPromotes", inPlace := ["internal/abi.NoEscape", "internal/bytealg.MakeNoZero", "internal/reflectlite.ValueOf", "(internal/reflectlite.Value).Type", "(internal/reflectlite.Value).IsNil", "internal/reflectlite.TypeOf", "(internal/reflectlite.Value).Elem", "(internal/reflectlite.Value).Set"], unfollowed := true, recurses := true, named := ["strongbox/hash.roundWords", "errors.errorType"], apart := false, laid := [("strongbox/hash.roundWords", laid_strongbox_hash_roundWords), ("errors.errorType", laid_errors_errorType)] }
def ReplicaPromotesSaid : Prop := replicaPromotesRow.holds Tryz.pinned (OpenSpec.ofChange replicaPromotesSpec)

/-- ITS FALSE NEIGHBOUR: 'it returns false'. Refute it at one input. -/
def replicaPromotesWrong : ChangeSpec := { name := "replicaPromotes", fn := fun _ => fun
  | [d1, d2, d3] => { results := [.lit (.bool false)], args := [d1, d2, d3] }
  | _ => none }
def ReplicaPromotesWrongFalsely : Prop := replicaPromotesRow.holds Tryz.pinned (OpenSpec.ofChange replicaPromotesWrong)

/-- 'strongboxlaw22.ReplicaPlays': WHATEVER THE INPUT: true; the input reads as it did. -/
def replicaPlaysSpec : ChangeSpec := { name := "replicaPlays", fn := fun _ => fun
  | [d1, d2] => { results := [.lit (.bool true)], args := [d1, d2] }
  | _ => none }
def replicaPlaysRow : OpenClaim := { program := "ytnfdedolgfcmfaagreatdoor", sum := "5ced1773ae470741dfac83d9eb092b37e5ab3ccc188462040850e129df025ec0", func := "strongbox/strongboxlaw22.ReplicaPlays", spec := "replicaPlays", inPlace := ["internal/abi.NoEscape", "internal/bytealg.MakeNoZero", "internal/reflectlite.ValueOf", "(internal/reflectlite.Value).Type", "(internal/reflectlite.Value).IsNil", "internal/reflectlite.TypeOf", "(internal/reflectlite.Value).Elem", "(internal/reflectlite.Value).Set"], unfollowed := true, recurses := true, named := ["strongbox/hash.roundWords", "errors.errorType"], apart := false, laid := [("strongbox/hash.roundWords", laid_strongbox_hash_roundWords), ("errors.errorType", laid_errors_errorType)] }
def ReplicaPlaysSaid : Prop := replicaPlaysRow.holds Tryz.pinned (OpenSpec.ofChange replicaPlaysSpec)

/-- ITS FALSE NEIGHBOUR: 'it returns false'. Refute it at one input. -/
def replicaPlaysWrong : ChangeSpec := { name := "replicaPlays", fn := fun _ => fun
  | [d1, d2] => { results := [.lit (.bool false)], args := [d1, d2] }
  | _ => none }
def ReplicaPlaysWrongFalsely : Prop := replicaPlaysRow.holds Tryz.pinned (OpenSpec.ofChange replicaPlaysWrong)

/- THE SECOND FORM. 'bulk': how many values and letters a reading holds, each counted each time it is reached (what is shared counts as often as it is met; a slice's spare places count too). A statement '..UptoSaid' is the law's where the arguments, and the package variables that the reading takes, are together of bulk at most 1048576: NARROWER than '..Said'. Prove '..Said' where nothing that the law and all that it calls make is longer than what came in: it says more and counts as full. Else prove '..UptoSaid'. A law counts once. -/
mutual
def uptoBulk {H : Type} : DataW H → Nat
  | .lit (.string bytes) => bytes.length + 1
  | .lit _ => 1
  | .nil => 1
  | .ptr d => uptoBulk d + 1
  | .slice elems spare => uptoBulkAll elems + uptoBulkAll spare + 1
  | .agg parts => uptoBulkAll parts + 1
  | .iface _ d => uptoBulk d + 1
  | .map entries => uptoBulkEntries entries + 1
  | .held _ => 1
def uptoBulkAll {H : Type} : List (DataW H) → Nat
  | [] => 0
  | d :: r => uptoBulk d + uptoBulkAll r
def uptoBulkEntries {H : Type} : List (Lit × DataW H) → Nat
  | [] => 0
  | x :: r => uptoBulkEntry x + uptoBulkEntries r
def uptoBulkEntry {H : Type} : Lit × DataW H → Nat
  | (.string bytes, d) => bytes.length + uptoBulk d + 1
  | (_, d) => uptoBulk d + 1
 end
def uptoSmall : (H : Type) → List (DataW H) → Bool := fun _ ds => decide (uptoBulkAll ds ≤ 1048576)
def OpenSpec.upto (s : _root_.Go.ChangeSpec) : _root_.Go.OpenSpec := { _root_.Go.OpenSpec.ofChange s with cond := some uptoSmall }

/-- 'strongboxlaw22.ReplicaHas', WHERE WHAT IT READS IS OF BULK AT MOST 1048576: true; the input reads as it did. -/
def replicaHasUptoRow : OpenClaim := { program := "ytnfdedolgfcmfaagreatdoor", sum := "5ced1773ae470741dfac83d9eb092b37e5ab3ccc188462040850e129df025ec0", func := "strongbox/strongboxlaw22.ReplicaHas", spec := "replicaHas", inPlace := ["internal/abi.NoEscape", "internal/bytealg.MakeNoZero", "internal/reflectlite.ValueOf", "(internal/reflectlite.Value).Type", "(internal/reflectlite.Value).IsNil", "internal/reflectlite.TypeOf", "(internal/reflectlite.Value).Elem", "(internal/reflectlite.Value).Set"], unfollowed := true, recurses := true, named := ["strongbox/hash.roundWords", "errors.errorType"], apart := false, laid := [("strongbox/hash.roundWords", laid_strongbox_hash_roundWords), ("errors.errorType", laid_errors_errorType)], narrowed := true }
def ReplicaHasUptoSaid : Prop := replicaHasUptoRow.holds Tryz.pinned (OpenSpec.upto replicaHasSpec)

/-- 'strongboxlaw22.ReplicaImages', WHERE WHAT IT READS IS OF BULK AT MOST 1048576: true; the input reads as it did. -/
def replicaImagesUptoRow : OpenClaim := { program := "ytnfdedolgfcmfaagreatdoor", sum := "5ced1773ae470741dfac83d9eb092b37e5ab3ccc188462040850e129df025ec0", func := "strongbox/strongboxlaw22.ReplicaImages", spec := "replicaImages", inPlace := ["internal/abi.NoEscape", "internal/bytealg.MakeNoZero", "internal/reflectlite.ValueOf", "(internal/reflectlite.Value).Type", "(internal/reflectlite.Value).IsNil", "internal/reflectlite.TypeOf", "(internal/reflectlite.Value).Elem", "(internal/reflectlite.Value).Set"], unfollowed := true, recurses := true, named := ["strongbox/hash.roundWords", "errors.errorType"], apart := false, laid := [("strongbox/hash.roundWords", laid_strongbox_hash_roundWords), ("errors.errorType", laid_errors_errorType)], narrowed := true }
def ReplicaImagesUptoSaid : Prop := replicaImagesUptoRow.holds Tryz.pinned (OpenSpec.upto replicaImagesSpec)

/-- 'strongboxlaw22.ReplicaFrames', WHERE WHAT IT READS IS OF BULK AT MOST 1048576: true; the input reads as it did. -/
def replicaFramesUptoRow : OpenClaim := { program := "ytnfdedolgfcmfaagreatdoor", sum := "5ced1773ae470741dfac83d9eb092b37e5ab3ccc188462040850e129df025ec0", func := "strongbox/strongboxlaw22.ReplicaFrames", spec := "replicaFrames", inPlace := ["internal/abi.NoEscape", "internal/bytealg.MakeNoZero", "internal/reflectlite.ValueOf", "(internal/reflectlite.Value).Type", "(internal/reflectlite.Value).IsNil", "internal/reflectlite.TypeOf", "(internal/reflectlite.Value).Elem", "(internal/reflectlite.Value).Set"], unfollowed := true, recurses := true, named := ["strongbox/hash.roundWords", "errors.errorType"], apart := false, laid := [("strongbox/hash.roundWords", laid_strongbox_hash_roundWords), ("errors.errorType", laid_errors_errorType)], narrowed := true }
def ReplicaFramesUptoSaid : Prop := replicaFramesUptoRow.holds Tryz.pinned (OpenSpec.upto replicaFramesSpec)

/-- 'strongboxlaw22.ReplicaPromotes', WHERE WHAT IT READS IS OF BULK AT MOST 1048576: true; the input reads as it did. -/
def replicaPromotesUptoRow : OpenClaim := { program := "ytnfdedolgfcmfaagreatdoor", sum := "5ced1773ae470741dfac83d9eb092b37e5ab3ccc188462040850e129df025ec0", func := "strongbox/strongboxlaw22.ReplicaPromotes", spec := "replicaPromotes", inPlace := ["internal/abi.NoEscape", "internal/bytealg.MakeNoZero", "internal/reflectlite.ValueOf", "(internal/reflectlite.Value).Type", "(internal/reflectlite.Value).IsNil", "internal/reflectlite.TypeOf", "(internal/reflectlite.Value).Elem", "(internal/reflectlite.Value).Set"], unfollowed := true, recurses := true, named := ["strongbox/hash.roundWords", "errors.errorType"], apart := false, laid := [("strongbox/hash.roundWords", laid_strongbox_hash_roundWords), ("errors.errorType", laid_errors_errorType)], narrowed := true }
def ReplicaPromotesUptoSaid : Prop := replicaPromotesUptoRow.holds Tryz.pinned (OpenSpec.upto replicaPromotesSpec)

/-- 'strongboxlaw22.ReplicaPlays', WHERE WHAT IT READS IS OF BULK AT MOST 1048576: true; the input reads as it did. -/
def replicaPlaysUptoRow : OpenClaim := { program := "ytnfdedolgfcmfaagreatdoor", sum := "5ced1773ae470741dfac83d9eb092b37e5ab3ccc188462040850e129df025ec0", func := "strongbox/strongboxlaw22.ReplicaPlays", spec := "replicaPlays", inPlace := ["internal/abi.NoEscape", "internal/bytealg.MakeNoZero", "internal/reflectlite.ValueOf", "(internal/reflectlite.Value).Type", "(internal/reflectlite.Value).IsNil", "internal/reflectlite.TypeOf", "(internal/reflectlite.Value).Elem", "(internal/reflectlite.Value).Set"], unfollowed := true, recurses := true, named := ["strongbox/hash.roundWords", "errors.errorType"], apart := false, laid := [("strongbox/hash.roundWords", laid_strongbox_hash_roundWords), ("errors.errorType", laid_errors_errorType)], narrowed := true }
def ReplicaPlaysUptoSaid : Prop := replicaPlaysUptoRow.holds Tryz.pinned (OpenSpec.upto replicaPlaysSpec)

end Rows
end Go.Proofs.YtnfdedolgfcmfaaGreatDoor
