/-
  NARROWER THAN 'FOR EVERY INPUT', by the rows' own cells (each row's printed sentence says how): SealPieces: laid · SealShared: laid · SealStreams: laid · SealBack: laid · SealXors: laid · SealKeys: laid.
  DERIVED. THE GIVEN ROWS OF THIS SEAT. 6 by the template 'for every input the law returns true; each argument reads behind the call as it read before'; 0 by the template 'total and deterministic' (their statements: YtbnefbncjnfjdaaDoorTotals.lean).
  GIVEN WITH THE SEED: the statements are not yours to turn. If you find one false, say at which input.
  Laid BY PROGRAM, IN A SANDBOX (cutbox-rows.mjs): the forced cells as the released guide's own fill.sh prints them over the translation e4ce88a53e736310… (all of the seat's roots in one cut). By AI agents, Wed Nov 11 2026. No macro, syntax, notation, axiom, sorry.
-/
import Derived.Test.YtbnefbncjnfjdaaDoorChecked
import GoSem.Claim
import GoSem.ClaimJoined
import GoSem.ClaimMapViews
import Derived.JoinedTies
import Derived.KernelRfl
namespace Go.Proofs.YtbnefbncjnfjdaaDoor
/- THE CELL 'sum', in the pinned program and in every row, IS THE sha256 OF THE DUMP (.gsa) THAT YtbnefbncjnfjdaaDoorProg.lean LOADS. Nothing in Lean hashes anything: it is a label: what it is worth is what the hold of that sum in a sandbox is worth. -/
noncomputable def Tryd.pinned : Pinned := { name := "ytbnefbncjnfjdaadoor", sum := "e4ce88a53e736310927bcdb0c5a17ba3d796188ccd079d4880efe354a73c6100", checked := Tryd.checked }
namespace Rows
def none {H : Type} : Left H := { results := [], args := [] }

/- WHAT THE LISTED PACKAGE-LEVEL VARIABLES READ AS WHEN THE CALL BEGINS. Each datum BY PROGRAM (the guide's laid-datum.mjs) off the statement by which the dump's own 'gosem.cut.vars' lays the variable. In a bare row this is a premise. The card (YtbnefbncjnfjdaaDoorCards.lean) ties it to the program's text. -/
def laid_strongbox_hash_roundWords {H : Type} : DataW H := .agg [.lit (.int .u32 1116352408), .lit (.int .u32 1899447441), .lit (.int .u32 3049323471), .lit (.int .u32 3921009573), .lit (.int .u32 961987163), .lit (.int .u32 1508970993), .lit (.int .u32 2453635748), .lit (.int .u32 2870763221), .lit (.int .u32 3624381080), .lit (.int .u32 310598401), .lit (.int .u32 607225278), .lit (.int .u32 1426881987), .lit (.int .u32 1925078388), .lit (.int .u32 2162078206), .lit (.int .u32 2614888103), .lit (.int .u32 3248222580), .lit (.int .u32 3835390401), .lit (.int .u32 4022224774), .lit (.int .u32 264347078), .lit (.int .u32 604807628), .lit (.int .u32 770255983), .lit (.int .u32 1249150122), .lit (.int .u32 1555081692), .lit (.int .u32 1996064986), .lit (.int .u32 2554220882), .lit (.int .u32 2821834349), .lit (.int .u32 2952996808), .lit (.int .u32 3210313671), .lit (.int .u32 3336571891), .lit (.int .u32 3584528711), .lit (.int .u32 113926993), .lit (.int .u32 338241895), .lit (.int .u32 666307205), .lit (.int .u32 773529912), .lit (.int .u32 1294757372), .lit (.int .u32 1396182291), .lit (.int .u32 1695183700), .lit (.int .u32 1986661051), .lit (.int .u32 2177026350), .lit (.int .u32 2456956037), .lit (.int .u32 2730485921), .lit (.int .u32 2820302411), .lit (.int .u32 3259730800), .lit (.int .u32 3345764771), .lit (.int .u32 3516065817), .lit (.int .u32 3600352804), .lit (.int .u32 4094571909), .lit (.int .u32 275423344), .lit (.int .u32 430227734), .lit (.int .u32 506948616), .lit (.int .u32 659060556), .lit (.int .u32 883997877), .lit (.int .u32 958139571), .lit (.int .u32 1322822218), .lit (.int .u32 1537002063), .lit (.int .u32 1747873779), .lit (.int .u32 1955562222), .lit (.int .u32 2024104815), .lit (.int .u32 2227730452), .lit (.int .u32 2361852424), .lit (.int .u32 2428436474), .lit (.int .u32 2756734187), .lit (.int .u32 3204031479), .lit (.int .u32 3329325298)]

/-- 'strongboxlaw2.SealPieces': WHATEVER THE INPUT: true; the input reads as it did. -/
def sealPiecesSpec : ChangeSpec := { name := "sealPieces", fn := fun _ => fun
  | [d1, d2, d3, d4] => { results := [.lit (.bool true)], args := [d1, d2, d3, d4] }
  | _ => none }
def sealPiecesRow : OpenClaim := { program := "ytbnefbncjnfjdaadoor", sum := "e4ce88a53e736310927bcdb0c5a17ba3d796188ccd079d4880efe354a73c6100", func := "strongbox/strongboxlaw2.SealPieces", spec := "sealPieces", unfollowed := true, recurses := true, named := ["strongbox/hash.roundWords"], apart := false, laid := [("strongbox/hash.roundWords", laid_strongbox_hash_roundWords)] }
def SealPiecesSaid : Prop := sealPiecesRow.holds Tryd.pinned (OpenSpec.ofChange sealPiecesSpec)

/-- ITS FALSE NEIGHBOUR: 'it returns false'. Refute it at one input. -/
def sealPiecesWrong : ChangeSpec := { name := "sealPieces", fn := fun _ => fun
  | [d1, d2, d3, d4] => { results := [.lit (.bool false)], args := [d1, d2, d3, d4] }
  | _ => none }
def SealPiecesWrongFalsely : Prop := sealPiecesRow.holds Tryd.pinned (OpenSpec.ofChange sealPiecesWrong)

/-- 'strongboxlaw2.SealShared': WHATEVER THE INPUT: true; the input reads as it did. -/
def sealSharedSpec : ChangeSpec := { name := "sealShared", fn := fun _ => fun
  | [d1, d2, d3, d4] => { results := [.lit (.bool true)], args := [d1, d2, d3, d4] }
  | _ => none }
def sealSharedRow : OpenClaim := { program := "ytbnefbncjnfjdaadoor", sum := "e4ce88a53e736310927bcdb0c5a17ba3d796188ccd079d4880efe354a73c6100", func := "strongbox/strongboxlaw2.SealShared", spec := "sealShared", unfollowed := true, recurses := true, named := ["strongbox/hash.roundWords"], apart := false, laid := [("strongbox/hash.roundWords", laid_strongbox_hash_roundWords)] }
def SealSharedSaid : Prop := sealSharedRow.holds Tryd.pinned (OpenSpec.ofChange sealSharedSpec)

/-- ITS FALSE NEIGHBOUR: 'it returns false'. Refute it at one input. -/
def sealSharedWrong : ChangeSpec := { name := "sealShared", fn := fun _ => fun
  | [d1, d2, d3, d4] => { results := [.lit (.bool false)], args := [d1, d2, d3, d4] }
  | _ => none }
def SealSharedWrongFalsely : Prop := sealSharedRow.holds Tryd.pinned (OpenSpec.ofChange sealSharedWrong)

/-- 'strongboxlaw2.SealStreams': WHATEVER THE INPUT: true; the input reads as it did. -/
def sealStreamsSpec : ChangeSpec := { name := "sealStreams", fn := fun _ => fun
  | [d1, d2, d3] => { results := [.lit (.bool true)], args := [d1, d2, d3] }
  | _ => none }
def sealStreamsRow : OpenClaim := { program := "ytbnefbncjnfjdaadoor", sum := "e4ce88a53e736310927bcdb0c5a17ba3d796188ccd079d4880efe354a73c6100", func := "strongbox/strongboxlaw2.SealStreams", spec := "sealStreams", unfollowed := true, recurses := true, named := ["strongbox/hash.roundWords"], apart := false, laid := [("strongbox/hash.roundWords", laid_strongbox_hash_roundWords)] }
def SealStreamsSaid : Prop := sealStreamsRow.holds Tryd.pinned (OpenSpec.ofChange sealStreamsSpec)

/-- ITS FALSE NEIGHBOUR: 'it returns false'. Refute it at one input. -/
def sealStreamsWrong : ChangeSpec := { name := "sealStreams", fn := fun _ => fun
  | [d1, d2, d3] => { results := [.lit (.bool false)], args := [d1, d2, d3] }
  | _ => none }
def SealStreamsWrongFalsely : Prop := sealStreamsRow.holds Tryd.pinned (OpenSpec.ofChange sealStreamsWrong)

/-- 'strongboxlaw2.SealBack': WHATEVER THE INPUT: true; the input reads as it did. -/
def sealBackSpec : ChangeSpec := { name := "sealBack", fn := fun _ => fun
  | [d1, d2, d3, d4, d5] => { results := [.lit (.bool true)], args := [d1, d2, d3, d4, d5] }
  | _ => none }
def sealBackRow : OpenClaim := { program := "ytbnefbncjnfjdaadoor", sum := "e4ce88a53e736310927bcdb0c5a17ba3d796188ccd079d4880efe354a73c6100", func := "strongbox/strongboxlaw2.SealBack", spec := "sealBack", unfollowed := true, recurses := true, named := ["strongbox/hash.roundWords"], apart := false, laid := [("strongbox/hash.roundWords", laid_strongbox_hash_roundWords)] }
def SealBackSaid : Prop := sealBackRow.holds Tryd.pinned (OpenSpec.ofChange sealBackSpec)

/-- ITS FALSE NEIGHBOUR: 'it returns false'. Refute it at one input. -/
def sealBackWrong : ChangeSpec := { name := "sealBack", fn := fun _ => fun
  | [d1, d2, d3, d4, d5] => { results := [.lit (.bool false)], args := [d1, d2, d3, d4, d5] }
  | _ => none }
def SealBackWrongFalsely : Prop := sealBackRow.holds Tryd.pinned (OpenSpec.ofChange sealBackWrong)

/-- 'strongboxlaw2.SealXors': WHATEVER THE INPUT: true; the input reads as it did. -/
def sealXorsSpec : ChangeSpec := { name := "sealXors", fn := fun _ => fun
  | [d1, d2, d3] => { results := [.lit (.bool true)], args := [d1, d2, d3] }
  | _ => none }
def sealXorsRow : OpenClaim := { program := "ytbnefbncjnfjdaadoor", sum := "e4ce88a53e736310927bcdb0c5a17ba3d796188ccd079d4880efe354a73c6100", func := "strongbox/strongboxlaw2.SealXors", spec := "sealXors", unfollowed := true, recurses := true, named := ["strongbox/hash.roundWords"], apart := false, laid := [("strongbox/hash.roundWords", laid_strongbox_hash_roundWords)] }
def SealXorsSaid : Prop := sealXorsRow.holds Tryd.pinned (OpenSpec.ofChange sealXorsSpec)

/-- ITS FALSE NEIGHBOUR: 'it returns false'. Refute it at one input. -/
def sealXorsWrong : ChangeSpec := { name := "sealXors", fn := fun _ => fun
  | [d1, d2, d3] => { results := [.lit (.bool false)], args := [d1, d2, d3] }
  | _ => none }
def SealXorsWrongFalsely : Prop := sealXorsRow.holds Tryd.pinned (OpenSpec.ofChange sealXorsWrong)

/-- 'strongboxlaw2.SealKeys': WHATEVER THE INPUT: true; the input reads as it did. -/
def sealKeysSpec : ChangeSpec := { name := "sealKeys", fn := fun _ => fun
  | [d1, d2] => { results := [.lit (.bool true)], args := [d1, d2] }
  | _ => none }
def sealKeysRow : OpenClaim := { program := "ytbnefbncjnfjdaadoor", sum := "e4ce88a53e736310927bcdb0c5a17ba3d796188ccd079d4880efe354a73c6100", func := "strongbox/strongboxlaw2.SealKeys", spec := "sealKeys", unfollowed := true, recurses := true, named := ["strongbox/hash.roundWords"], apart := false, laid := [("strongbox/hash.roundWords", laid_strongbox_hash_roundWords)] }
def SealKeysSaid : Prop := sealKeysRow.holds Tryd.pinned (OpenSpec.ofChange sealKeysSpec)

/-- ITS FALSE NEIGHBOUR: 'it returns false'. Refute it at one input. -/
def sealKeysWrong : ChangeSpec := { name := "sealKeys", fn := fun _ => fun
  | [d1, d2] => { results := [.lit (.bool false)], args := [d1, d2] }
  | _ => none }
def SealKeysWrongFalsely : Prop := sealKeysRow.holds Tryd.pinned (OpenSpec.ofChange sealKeysWrong)

/- THE SECOND FORM. 'bulk': how many values and letters a reading holds, each counted each time it is reached (what is shared counts as often as it is met; a slice's spare places count too). A statement '..UptoSaid' is the law's where the arguments, and the package variables that the reading takes, are together of bulk at most 1048576: NARROWER than '..Said'. Prove '..Said' where nothing that the law and all that it calls make is longer than what came in: it says more and counts as full. Else prove '..UptoSaid'. A law counts once. -/
mutual
def uptoBulk {H : Type} : DataW H → Nat
  | .lit (.string bytes) => bytes.length + 1
  | .lit _ => 1
  | .nil => 1
  | .ptr d => uptoBulk d + 1
  | .slice elems spare => uptoBulkAll elems + uptoBulkAll spare + 1
  | .agg parts => uptoBulkAll parts + 1
  | .iface _ d => uptoBulk d + 1
  | .map entries => uptoBulkEntries entries + 1
  | .held _ => 1
def uptoBulkAll {H : Type} : List (DataW H) → Nat
  | [] => 0
  | d :: r => uptoBulk d + uptoBulkAll r
def uptoBulkEntries {H : Type} : List (Lit × DataW H) → Nat
  | [] => 0
  | x :: r => uptoBulkEntry x + uptoBulkEntries r
def uptoBulkEntry {H : Type} : Lit × DataW H → Nat
  | (.string bytes, d) => bytes.length + uptoBulk d + 1
  | (_, d) => uptoBulk d + 1
 end
def uptoSmall : (H : Type) → List (DataW H) → Bool := fun _ ds => decide (uptoBulkAll ds ≤ 1048576)
def OpenSpec.upto (s : _root_.Go.ChangeSpec) : _root_.Go.OpenSpec := { _root_.Go.OpenSpec.ofChange s with cond := some uptoSmall }

/-- 'strongboxlaw2.SealPieces', WHERE WHAT IT READS IS OF BULK AT MOST 1048576: true; the input reads as it did. -/
def sealPiecesUptoRow : OpenClaim := { program := "ytbnefbncjnfjdaadoor", sum := "e4ce88a53e736310927bcdb0c5a17ba3d796188ccd079d4880efe354a73c6100", func := "strongbox/strongboxlaw2.SealPieces", spec := "sealPieces", unfollowed := true, recurses := true, named := ["strongbox/hash.roundWords"], apart := false, laid := [("strongbox/hash.roundWords", laid_strongbox_hash_roundWords)], narrowed := true }
def SealPiecesUptoSaid : Prop := sealPiecesUptoRow.holds Tryd.pinned (OpenSpec.upto sealPiecesSpec)

/-- 'strongboxlaw2.SealShared', WHERE WHAT IT READS IS OF BULK AT MOST 1048576: true; the input reads as it did. -/
def sealSharedUptoRow : OpenClaim := { program := "ytbnefbncjnfjdaadoor", sum := "e4ce88a53e736310927bcdb0c5a17ba3d796188ccd079d4880efe354a73c6100", func := "strongbox/strongboxlaw2.SealShared", spec := "sealShared", unfollowed := true, recurses := true, named := ["strongbox/hash.roundWords"], apart := false, laid := [("strongbox/hash.roundWords", laid_strongbox_hash_roundWords)], narrowed := true }
def SealSharedUptoSaid : Prop := sealSharedUptoRow.holds Tryd.pinned (OpenSpec.upto sealSharedSpec)

/-- 'strongboxlaw2.SealStreams', WHERE WHAT IT READS IS OF BULK AT MOST 1048576: true; the input reads as it did. -/
def sealStreamsUptoRow : OpenClaim := { program := "ytbnefbncjnfjdaadoor", sum := "e4ce88a53e736310927bcdb0c5a17ba3d796188ccd079d4880efe354a73c6100", func := "strongbox/strongboxlaw2.SealStreams", spec := "sealStreams", unfollowed := true, recurses := true, named := ["strongbox/hash.roundWords"], apart := false, laid := [("strongbox/hash.roundWords", laid_strongbox_hash_roundWords)], narrowed := true }
def SealStreamsUptoSaid : Prop := sealStreamsUptoRow.holds Tryd.pinned (OpenSpec.upto sealStreamsSpec)

/-- 'strongboxlaw2.SealBack', WHERE WHAT IT READS IS OF BULK AT MOST 1048576: true; the input reads as it did. -/
def sealBackUptoRow : OpenClaim := { program := "ytbnefbncjnfjdaadoor", sum := "e4ce88a53e736310927bcdb0c5a17ba3d796188ccd079d4880efe354a73c6100", func := "strongbox/strongboxlaw2.SealBack", spec := "sealBack", unfollowed := true, recurses := true, named := ["strongbox/hash.roundWords"], apart := false, laid := [("strongbox/hash.roundWords", laid_strongbox_hash_roundWords)], narrowed := true }
def SealBackUptoSaid : Prop := sealBackUptoRow.holds Tryd.pinned (OpenSpec.upto sealBackSpec)

/-- 'strongboxlaw2.SealXors', WHERE WHAT IT READS IS OF BULK AT MOST 1048576: true; the input reads as it did. -/
def sealXorsUptoRow : OpenClaim := { program := "ytbnefbncjnfjdaadoor", sum := "e4ce88a53e736310927bcdb0c5a17ba3d796188ccd079d4880efe354a73c6100", func := "strongbox/strongboxlaw2.SealXors", spec := "sealXors", unfollowed := true, recurses := true, named := ["strongbox/hash.roundWords"], apart := false, laid := [("strongbox/hash.roundWords", laid_strongbox_hash_roundWords)], narrowed := true }
def SealXorsUptoSaid : Prop := sealXorsUptoRow.holds Tryd.pinned (OpenSpec.upto sealXorsSpec)

/-- 'strongboxlaw2.SealKeys', WHERE WHAT IT READS IS OF BULK AT MOST 1048576: true; the input reads as it did. -/
def sealKeysUptoRow : OpenClaim := { program := "ytbnefbncjnfjdaadoor", sum := "e4ce88a53e736310927bcdb0c5a17ba3d796188ccd079d4880efe354a73c6100", func := "strongbox/strongboxlaw2.SealKeys", spec := "sealKeys", unfollowed := true, recurses := true, named := ["strongbox/hash.roundWords"], apart := false, laid := [("strongbox/hash.roundWords", laid_strongbox_hash_roundWords)], narrowed := true }
def SealKeysUptoSaid : Prop := sealKeysUptoRow.holds Tryd.pinned (OpenSpec.upto sealKeysSpec)

end Rows
end Go.Proofs.YtbnefbncjnfjdaaDoor
