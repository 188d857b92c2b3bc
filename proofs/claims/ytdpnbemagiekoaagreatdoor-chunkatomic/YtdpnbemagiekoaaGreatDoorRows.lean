/-
  NARROWER THAN 'FOR EVERY INPUT', by the rows' own cells (each row's printed sentence says how): ChunkBound: laid · ChunkClash: laid · ChunkCounts: laid · ChunkAtomic: laid · ChunkPlays: laid · ChunkDies: laid.
  DERIVED. THE GIVEN ROWS OF THIS SEAT. 6 by the template 'for every input the law returns true; each argument reads behind the call as it read before'; 0 by the template 'total and deterministic' (their statements: YtdpnbemagiekoaaGreatDoorTotals.lean).
  GIVEN WITH THE SEED: the statements are not yours to turn. If you find one false, say at which input.
  Laid BY PROGRAM, IN A SANDBOX (cutbox-rows.mjs): the forced cells as the released guide's own fill.sh prints them over the translation 8020da2a4e7851c5… (all of the seat's roots in one cut). By AI agents, Wed Nov 11 2026. No macro, syntax, notation, axiom, sorry.
-/
import Derived.Test.YtdpnbemagiekoaaGreatDoorChecked
import GoSem.Claim
import GoSem.ClaimJoined
import GoSem.ClaimMapViews
import Derived.JoinedTies
import Derived.KernelRfl
namespace Go.Proofs.YtdpnbemagiekoaaGreatDoor
/- THE CELL 'sum', in the pinned program and in every row, IS THE sha256 OF THE DUMP (.gsa) THAT YtdpnbemagiekoaaGreatDoorProg.lean LOADS. Nothing in Lean hashes anything: it is a label: what it is worth is what the hold of that sum in a sandbox is worth. -/
noncomputable def Tryz.pinned : Pinned := { name := "ytdpnbemagiekoaagreatdoor", sum := "8020da2a4e7851c56d8073e4d6499d66351a9c4ca4672285e38aa9df1cd751c3", checked := Tryz.checked }
namespace Rows
def none {H : Type} : Left H := { results := [], args := [] }

/- WHAT THE LISTED PACKAGE-LEVEL VARIABLES READ AS WHEN THE CALL BEGINS. Each datum BY PROGRAM (the guide's laid-datum.mjs) off the statement by which the dump's own 'gosem.cut.vars' lays the variable. In a bare row this is a premise. The card (YtdpnbemagiekoaaGreatDoorCards.lean) ties it to the program's text. -/
def laid_strongbox_hash_roundWords {H : Type} : DataW H := .agg [.lit (.int .u32 1116352408), .lit (.int .u32 1899447441), .lit (.int .u32 3049323471), .lit (.int .u32 3921009573), .lit (.int .u32 961987163), .lit (.int .u32 1508970993), .lit (.int .u32 2453635748), .lit (.int .u32 2870763221), .lit (.int .u32 3624381080), .lit (.int .u32 310598401), .lit (.int .u32 607225278), .lit (.int .u32 1426881987), .lit (.int .u32 1925078388), .lit (.int .u32 2162078206), .lit (.int .u32 2614888103), .lit (.int .u32 3248222580), .lit (.int .u32 3835390401), .lit (.int .u32 4022224774), .lit (.int .u32 264347078), .lit (.int .u32 604807628), .lit (.int .u32 770255983), .lit (.int .u32 1249150122), .lit (.int .u32 1555081692), .lit (.int .u32 1996064986), .lit (.int .u32 2554220882), .lit (.int .u32 2821834349), .lit (.int .u32 2952996808), .lit (.int .u32 3210313671), .lit (.int .u32 3336571891), .lit (.int .u32 3584528711), .lit (.int .u32 113926993), .lit (.int .u32 338241895), .lit (.int .u32 666307205), .lit (.int .u32 773529912), .lit (.int .u32 1294757372), .lit (.int .u32 1396182291), .lit (.int .u32 1695183700), .lit (.int .u32 1986661051), .lit (.int .u32 2177026350), .lit (.int .u32 2456956037), .lit (.int .u32 2730485921), .lit (.int .u32 2820302411), .lit (.int .u32 3259730800), .lit (.int .u32 3345764771), .lit (.int .u32 3516065817), .lit (.int .u32 3600352804), .lit (.int .u32 4094571909), .lit (.int .u32 275423344), .lit (.int .u32 430227734), .lit (.int .u32 506948616), .lit (.int .u32 659060556), .lit (.int .u32 883997877), .lit (.int .u32 958139571), .lit (.int .u32 1322822218), .lit (.int .u32 1537002063), .lit (.int .u32 1747873779), .lit (.int .u32 1955562222), .lit (.int .u32 2024104815), .lit (.int .u32 2227730452), .lit (.int .u32 2361852424), .lit (.int .u32 2428436474), .lit (.int .u32 2756734187), .lit (.int .u32 3204031479), .lit (.int .u32 3329325298)]
def laid_errors_errorType {H : Type} : DataW H := .iface "internal/reflectlite.rtype" (.agg [.ptr (.lit (.string [101, 114, 114, 111, 114]))])
def laid_strongbox_chunk_errNone {H : Type} : DataW H := .iface "*errors.errorString" (.ptr (.agg [.lit (.string [116, 104, 101, 114, 101, 32, 105, 115, 32, 110, 111, 32, 115, 117, 99, 104, 32, 99, 104, 117, 110, 107])]))
def laid_strongbox_chunk_errCount {H : Type} : DataW H := .iface "*errors.errorString" (.ptr (.agg [.lit (.string [105, 116, 32, 105, 115, 32, 99, 111, 117, 110, 116, 101, 100, 32, 97, 115, 32, 111, 102, 116, 101, 110, 32, 97, 115, 32, 111, 110, 101, 32, 99, 97, 110, 32, 98, 101])]))
def laid_strongbox_chunk_errClash {H : Type} : DataW H := .iface "*errors.errorString" (.ptr (.agg [.lit (.string [111, 116, 104, 101, 114, 32, 98, 121, 116, 101, 115, 32, 104, 97, 118, 101, 32, 116, 104, 105, 115, 32, 100, 105, 103, 101, 115, 116])]))
def laid_strongbox_chunk_passed {H : Type} : DataW H := .agg [.lit (.int .i64 2), .lit (.int .i64 61), .lit (.int .i64 62), .lit (.int .i64 41), .lit (.int .i64 52), .lit (.int .i64 71), .lit (.int .i64 72), .lit (.int .i64 73), .lit (.int .i64 82), .lit (.int .i64 83)]

/-- 'strongboxlaw9.ChunkBound': WHATEVER THE INPUT: true; the input reads as it did. -/
def chunkBoundSpec : ChangeSpec := { name := "chunkBound", fn := fun _ => fun
  | [d1, d2] => { results := [.lit (.bool true)], args := [d1, d2] }
  | _ => none }
def chunkBoundRow : OpenClaim := { program := "ytdpnbemagiekoaagreatdoor", sum := "8020da2a4e7851c56d8073e4d6499d66351a9c4ca4672285e38aa9df1cd751c3", func := "strongbox/strongboxlaw9.ChunkBound", spec := "chunkBound", inPlace := ["internal/abi.NoEscape", "internal/bytealg.MakeNoZero", "internal/reflectlite.ValueOf", "(internal/reflectlite.Value).Type", "(internal/reflectlite.Value).IsNil", "internal/reflectlite.TypeOf", "(internal/reflectlite.Value).Elem", "(internal/reflectlite.Value).Set", "slices.overlaps[int]"], unfollowed := true, recurses := true, named := ["errors.errorType", "strongbox/chunk.errNone", "strongbox/hash.roundWords", "strongbox/chunk.errClash", "strongbox/chunk.errCount", "strongbox/chunk.passed"], plainKeys := false, apart := false, laid := [("strongbox/hash.roundWords", laid_strongbox_hash_roundWords), ("errors.errorType", laid_errors_errorType), ("strongbox/chunk.errNone", laid_strongbox_chunk_errNone), ("strongbox/chunk.errCount", laid_strongbox_chunk_errCount), ("strongbox/chunk.errClash", laid_strongbox_chunk_errClash), ("strongbox/chunk.passed", laid_strongbox_chunk_passed)] }
def ChunkBoundSaid : Prop := chunkBoundRow.holds Tryz.pinned (OpenSpec.ofChange chunkBoundSpec)

/-- ITS FALSE NEIGHBOUR: 'it returns false'. Refute it at one input. -/
def chunkBoundWrong : ChangeSpec := { name := "chunkBound", fn := fun _ => fun
  | [d1, d2] => { results := [.lit (.bool false)], args := [d1, d2] }
  | _ => none }
def ChunkBoundWrongFalsely : Prop := chunkBoundRow.holds Tryz.pinned (OpenSpec.ofChange chunkBoundWrong)

/-- 'strongboxlaw9.ChunkClash': WHATEVER THE INPUT: true; the input reads as it did. -/
def chunkClashSpec : ChangeSpec := { name := "chunkClash", fn := fun _ => fun
  | [d1, d2, d3] => { results := [.lit (.bool true)], args := [d1, d2, d3] }
  | _ => none }
def chunkClashRow : OpenClaim := { program := "ytdpnbemagiekoaagreatdoor", sum := "8020da2a4e7851c56d8073e4d6499d66351a9c4ca4672285e38aa9df1cd751c3", func := "strongbox/strongboxlaw9.ChunkClash", spec := "chunkClash", inPlace := ["internal/abi.NoEscape", "internal/bytealg.MakeNoZero", "internal/reflectlite.ValueOf", "(internal/reflectlite.Value).Type", "(internal/reflectlite.Value).IsNil", "internal/reflectlite.TypeOf", "(internal/reflectlite.Value).Elem", "(internal/reflectlite.Value).Set", "slices.overlaps[int]"], unfollowed := true, recurses := true, named := ["errors.errorType", "strongbox/chunk.errNone", "strongbox/hash.roundWords", "strongbox/chunk.errClash", "strongbox/chunk.errCount", "strongbox/chunk.passed"], plainKeys := false, apart := false, laid := [("strongbox/hash.roundWords", laid_strongbox_hash_roundWords), ("errors.errorType", laid_errors_errorType), ("strongbox/chunk.errNone", laid_strongbox_chunk_errNone), ("strongbox/chunk.errCount", laid_strongbox_chunk_errCount), ("strongbox/chunk.errClash", laid_strongbox_chunk_errClash), ("strongbox/chunk.passed", laid_strongbox_chunk_passed)] }
def ChunkClashSaid : Prop := chunkClashRow.holds Tryz.pinned (OpenSpec.ofChange chunkClashSpec)

/-- ITS FALSE NEIGHBOUR: 'it returns false'. Refute it at one input. -/
def chunkClashWrong : ChangeSpec := { name := "chunkClash", fn := fun _ => fun
  | [d1, d2, d3] => { results := [.lit (.bool false)], args := [d1, d2, d3] }
  | _ => none }
def ChunkClashWrongFalsely : Prop := chunkClashRow.holds Tryz.pinned (OpenSpec.ofChange chunkClashWrong)

/-- 'strongboxlaw9.ChunkCounts': WHATEVER THE INPUT: true; the input reads as it did. -/
def chunkCountsSpec : ChangeSpec := { name := "chunkCounts", fn := fun _ => fun
  | [d1, d2] => { results := [.lit (.bool true)], args := [d1, d2] }
  | _ => none }
def chunkCountsRow : OpenClaim := { program := "ytdpnbemagiekoaagreatdoor", sum := "8020da2a4e7851c56d8073e4d6499d66351a9c4ca4672285e38aa9df1cd751c3", func := "strongbox/strongboxlaw9.ChunkCounts", spec := "chunkCounts", inPlace := ["internal/abi.NoEscape", "internal/bytealg.MakeNoZero", "internal/reflectlite.ValueOf", "(internal/reflectlite.Value).Type", "(internal/reflectlite.Value).IsNil", "internal/reflectlite.TypeOf", "(internal/reflectlite.Value).Elem", "(internal/reflectlite.Value).Set", "slices.overlaps[int]"], unfollowed := true, recurses := true, named := ["errors.errorType", "strongbox/hash.roundWords", "strongbox/chunk.errNone", "strongbox/chunk.errClash", "strongbox/chunk.errCount", "strongbox/chunk.passed"], plainKeys := false, apart := false, laid := [("strongbox/hash.roundWords", laid_strongbox_hash_roundWords), ("errors.errorType", laid_errors_errorType), ("strongbox/chunk.errNone", laid_strongbox_chunk_errNone), ("strongbox/chunk.errCount", laid_strongbox_chunk_errCount), ("strongbox/chunk.errClash", laid_strongbox_chunk_errClash), ("strongbox/chunk.passed", laid_strongbox_chunk_passed)] }
def ChunkCountsSaid : Prop := chunkCountsRow.holds Tryz.pinned (OpenSpec.ofChange chunkCountsSpec)

/-- ITS FALSE NEIGHBOUR: 'it returns false'. Refute it at one input. -/
def chunkCountsWrong : ChangeSpec := { name := "chunkCounts", fn := fun _ => fun
  | [d1, d2] => { results := [.lit (.bool false)], args := [d1, d2] }
  | _ => none }
def ChunkCountsWrongFalsely : Prop := chunkCountsRow.holds Tryz.pinned (OpenSpec.ofChange chunkCountsWrong)

/-- 'strongboxlaw9.ChunkAtomic': WHATEVER THE INPUT: true; the input reads as it did. -/
def chunkAtomicSpec : ChangeSpec := { name := "chunkAtomic", fn := fun _ => fun
  | [d1, d2, d3, d4] => { results := [.lit (.bool true)], args := [d1, d2, d3, d4] }
  | _ => none }
def chunkAtomicRow : OpenClaim := { program := "ytdpnbemagiekoaagreatdoor", sum := "8020da2a4e7851c56d8073e4d6499d66351a9c4ca4672285e38aa9df1cd751c3", func := "strongbox/strongboxlaw9.ChunkAtomic", spec := "chunkAtomic", inPlace := ["internal/abi.NoEscape", "internal/bytealg.MakeNoZero", "internal/reflectlite.ValueOf", "(internal/reflectlite.Value).Type", "(internal/reflectlite.Value).IsNil", "internal/reflectlite.TypeOf", "(internal/reflectlite.Value).Elem", "(internal/reflectlite.Value).Set", "slices.overlaps[int]"], unfollowed := true, recurses := true, named := ["errors.errorType", "strongbox/chunk.errNone", "strongbox/hash.roundWords", "strongbox/chunk.errClash", "strongbox/chunk.errCount", "strongbox/chunk.passed"], plainKeys := false, apart := false, laid := [("strongbox/hash.roundWords", laid_strongbox_hash_roundWords), ("errors.errorType", laid_errors_errorType), ("strongbox/chunk.errNone", laid_strongbox_chunk_errNone), ("strongbox/chunk.errCount", laid_strongbox_chunk_errCount), ("strongbox/chunk.errClash", laid_strongbox_chunk_errClash), ("strongbox/chunk.passed", laid_strongbox_chunk_passed)] }
def ChunkAtomicSaid : Prop := chunkAtomicRow.holds Tryz.pinned (OpenSpec.ofChange chunkAtomicSpec)

/-- ITS FALSE NEIGHBOUR: 'it returns false'. Refute it at one input. -/
def chunkAtomicWrong : ChangeSpec := { name := "chunkAtomic", fn := fun _ => fun
  | [d1, d2, d3, d4] => { results := [.lit (.bool false)], args := [d1, d2, d3, d4] }
  | _ => none }
def ChunkAtomicWrongFalsely : Prop := chunkAtomicRow.holds Tryz.pinned (OpenSpec.ofChange chunkAtomicWrong)

/-- 'strongboxlaw9.ChunkPlays': WHATEVER THE INPUT: true; the input reads as it did. -/
def chunkPlaysSpec : ChangeSpec := { name := "chunkPlays", fn := fun _ => fun
  | [d1, d2] => { results := [.lit (.bool true)], args := [d1, d2] }
  | _ => none }
def chunkPlaysRow : OpenClaim := { program := "ytdpnbemagiekoaagreatdoor", sum := "8020da2a4e7851c56d8073e4d6499d66351a9c4ca4672285e38aa9df1cd751c3", func := "strongbox/strongboxlaw9.ChunkPlays", spec := "chunkPlays", inPlace := ["internal/abi.NoEscape", "internal/bytealg.MakeNoZero", "internal/reflectlite.ValueOf", "(internal/reflectlite.Value).Type", "(internal/reflectlite.Value).IsNil", "internal/reflectlite.TypeOf", "(internal/reflectlite.Value).Elem", "(internal/reflectlite.Value).Set", "slices.overlaps[int]"], unfollowed := true, recurses := true, named := ["errors.errorType", "strongbox/chunk.errNone", "strongbox/hash.roundWords", "strongbox/chunk.errClash", "strongbox/chunk.errCount", "strongbox/chunk.passed"], plainKeys := false, apart := false, laid := [("strongbox/hash.roundWords", laid_strongbox_hash_roundWords), ("errors.errorType", laid_errors_errorType), ("strongbox/chunk.errNone", laid_strongbox_chunk_errNone), ("strongbox/chunk.errCount", laid_strongbox_chunk_errCount), ("strongbox/chunk.errClash", laid_strongbox_chunk_errClash), ("strongbox/chunk.passed", laid_strongbox_chunk_passed)] }
def ChunkPlaysSaid : Prop := chunkPlaysRow.holds Tryz.pinned (OpenSpec.ofChange chunkPlaysSpec)

/-- ITS FALSE NEIGHBOUR: 'it returns false'. Refute it at one input. -/
def chunkPlaysWrong : ChangeSpec := { name := "chunkPlays", fn := fun _ => fun
  | [d1, d2] => { results := [.lit (.bool false)], args := [d1, d2] }
  | _ => none }
def ChunkPlaysWrongFalsely : Prop := chunkPlaysRow.holds Tryz.pinned (OpenSpec.ofChange chunkPlaysWrong)

/-- 'strongboxlaw9.ChunkDies': WHATEVER THE INPUT: true; the input reads as it did. -/
def chunkDiesSpec : ChangeSpec := { name := "chunkDies", fn := fun _ => fun
  | [d1, d2] => { results := [.lit (.bool true)], args := [d1, d2] }
  | _ => none }
def chunkDiesRow : OpenClaim := { program := "ytdpnbemagiekoaagreatdoor", sum := "8020da2a4e7851c56d8073e4d6499d66351a9c4ca4672285e38aa9df1cd751c3", func := "strongbox/strongboxlaw9.ChunkDies", spec := "chunkDies", inPlace := ["internal/abi.NoEscape", "internal/bytealg.MakeNoZero", "internal/reflectlite.ValueOf", "(internal/reflectlite.Value).Type", "(internal/reflectlite.Value).IsNil", "internal/reflectlite.TypeOf", "(internal/reflectlite.Value).Elem", "(internal/reflectlite.Value).Set", "slices.overlaps[int]"], unfollowed := true, recurses := true, named := ["errors.errorType", "strongbox/chunk.errNone", "strongbox/hash.roundWords", "strongbox/chunk.errClash", "strongbox/chunk.errCount", "strongbox/chunk.passed"], plainKeys := false, apart := false, laid := [("strongbox/hash.roundWords", laid_strongbox_hash_roundWords), ("errors.errorType", laid_errors_errorType), ("strongbox/chunk.errNone", laid_strongbox_chunk_errNone), ("strongbox/chunk.errCount", laid_strongbox_chunk_errCount), ("strongbox/chunk.errClash", laid_strongbox_chunk_errClash), ("strongbox/chunk.passed", laid_strongbox_chunk_passed)] }
def ChunkDiesSaid : Prop := chunkDiesRow.holds Tryz.pinned (OpenSpec.ofChange chunkDiesSpec)

/-- ITS FALSE NEIGHBOUR: 'it returns false'. Refute it at one input. -/
def chunkDiesWrong : ChangeSpec := { name := "chunkDies", fn := fun _ => fun
  | [d1, d2] => { results := [.lit (.bool false)], args := [d1, d2] }
  | _ => none }
def ChunkDiesWrongFalsely : Prop := chunkDiesRow.holds Tryz.pinned (OpenSpec.ofChange chunkDiesWrong)

/- THE SECOND FORM. 'bulk': how many values and letters a reading holds, each counted each time it is reached (what is shared counts as often as it is met; a slice's spare places count too). A statement '..UptoSaid' is the law's where the arguments, and the package variables that the reading takes, are together of bulk at most 1048576: NARROWER than '..Said'. Prove '..Said' where nothing that the law and all that it calls make is longer than what came in: it says more and counts as full. Else prove '..UptoSaid'. A law counts once. -/
mutual
def uptoBulk {H : Type} : DataW H → Nat
  | .lit (.string bytes) => bytes.length + 1
  | .lit _ => 1
  | .nil => 1
  | .ptr d => uptoBulk d + 1
  | .slice elems spare => uptoBulkAll elems + uptoBulkAll spare + 1
  | .agg parts => uptoBulkAll parts + 1
  | .iface _ d => uptoBulk d + 1
  | .map entries => uptoBulkEntries entries + 1
  | .held _ => 1
def uptoBulkAll {H : Type} : List (DataW H) → Nat
  | [] => 0
  | d :: r => uptoBulk d + uptoBulkAll r
def uptoBulkEntries {H : Type} : List (Lit × DataW H) → Nat
  | [] => 0
  | x :: r => uptoBulkEntry x + uptoBulkEntries r
def uptoBulkEntry {H : Type} : Lit × DataW H → Nat
  | (.string bytes, d) => bytes.length + uptoBulk d + 1
  | (_, d) => uptoBulk d + 1
 end
def uptoSmall : (H : Type) → List (DataW H) → Bool := fun _ ds => decide (uptoBulkAll ds ≤ 1048576)
def OpenSpec.upto (s : _root_.Go.ChangeSpec) : _root_.Go.OpenSpec := { _root_.Go.OpenSpec.ofChange s with cond := some uptoSmall }

/-- 'strongboxlaw9.ChunkBound', WHERE WHAT IT READS IS OF BULK AT MOST 1048576: true; the input reads as it did. -/
def chunkBoundUptoRow : OpenClaim := { program := "ytdpnbemagiekoaagreatdoor", sum := "8020da2a4e7851c56d8073e4d6499d66351a9c4ca4672285e38aa9df1cd751c3", func := "strongbox/strongboxlaw9.ChunkBound", spec := "chunkBound", inPlace := ["internal/abi.NoEscape", "internal/bytealg.MakeNoZero", "internal/reflectlite.ValueOf", "(internal/reflectlite.Value).Type", "(internal/reflectlite.Value).IsNil", "internal/reflectlite.TypeOf", "(internal/reflectlite.Value).Elem", "(internal/reflectlite.Value).Set", "slices.overlaps[int]"], unfollowed := true, recurses := true, named := ["errors.errorType", "strongbox/chunk.errNone", "strongbox/hash.roundWords", "strongbox/chunk.errClash", "strongbox/chunk.errCount", "strongbox/chunk.passed"], plainKeys := false, apart := false, laid := [("strongbox/hash.roundWords", laid_strongbox_hash_roundWords), ("errors.errorType", laid_errors_errorType), ("strongbox/chunk.errNone", laid_strongbox_chunk_errNone), ("strongbox/chunk.errCount", laid_strongbox_chunk_errCount), ("strongbox/chunk.errClash", laid_strongbox_chunk_errClash), ("strongbox/chunk.passed", laid_strongbox_chunk_passed)], narrowed := true }
def ChunkBoundUptoSaid : Prop := chunkBoundUptoRow.holds Tryz.pinned (OpenSpec.upto chunkBoundSpec)

/-- 'strongboxlaw9.ChunkClash', WHERE WHAT IT READS IS OF BULK AT MOST 1048576: true; the input reads as it did. -/
def chunkClashUptoRow : OpenClaim := { program := "ytdpnbemagiekoaagreatdoor", sum := "8020da2a4e7851c56d8073e4d6499d66351a9c4ca4672285e38aa9df1cd751c3", func := "strongbox/strongboxlaw9.ChunkClash", spec := "chunkClash", inPlace := ["internal/abi.NoEscape", "internal/bytealg.MakeNoZero", "internal/reflectlite.ValueOf", "(internal/reflectlite.Value).Type", "(internal/reflectlite.Value).IsNil", "internal/reflectlite.TypeOf", "(internal/reflectlite.Value).Elem", "(internal/reflectlite.Value).Set", "slices.overlaps[int]"], unfollowed := true, recurses := true, named := ["errors.errorType", "strongbox/chunk.errNone", "strongbox/hash.roundWords", "strongbox/chunk.errClash", "strongbox/chunk.errCount", "strongbox/chunk.passed"], plainKeys := false, apart := false, laid := [("strongbox/hash.roundWords", laid_strongbox_hash_roundWords), ("errors.errorType", laid_errors_errorType), ("strongbox/chunk.errNone", laid_strongbox_chunk_errNone), ("strongbox/chunk.errCount", laid_strongbox_chunk_errCount), ("strongbox/chunk.errClash", laid_strongbox_chunk_errClash), ("strongbox/chunk.passed", laid_strongbox_chunk_passed)], narrowed := true }
def ChunkClashUptoSaid : Prop := chunkClashUptoRow.holds Tryz.pinned (OpenSpec.upto chunkClashSpec)

/-- 'strongboxlaw9.ChunkCounts', WHERE WHAT IT READS IS OF BULK AT MOST 1048576: true; the input reads as it did. -/
def chunkCountsUptoRow : OpenClaim := { program := "ytdpnbemagiekoaagreatdoor", sum := "8020da2a4e7851c56d8073e4d6499d66351a9c4ca4672285e38aa9df1cd751c3", func := "strongbox/strongboxlaw9.ChunkCounts", spec := "chunkCounts", inPlace := ["internal/abi.NoEscape", "internal/bytealg.MakeNoZero", "internal/reflectlite.ValueOf", "(internal/reflectlite.Value).Type", "(internal/reflectlite.Value).IsNil", "internal/reflectlite.TypeOf", "(internal/reflectlite.Value).Elem", "(internal/reflectlite.Value).Set", "slices.overlaps[int]"], unfollowed := true, recurses := true, named := ["errors.errorType", "strongbox/hash.roundWords", "strongbox/chunk.errNone", "strongbox/chunk.errClash", "strongbox/chunk.errCount", "strongbox/chunk.passed"], plainKeys := false, apart := false, laid := [("strongbox/hash.roundWords", laid_strongbox_hash_roundWords), ("errors.errorType", laid_errors_errorType), ("strongbox/chunk.errNone", laid_strongbox_chunk_errNone), ("strongbox/chunk.errCount", laid_strongbox_chunk_errCount), ("strongbox/chunk.errClash", laid_strongbox_chunk_errClash), ("strongbox/chunk.passed", laid_strongbox_chunk_passed)], narrowed := true }
def ChunkCountsUptoSaid : Prop := chunkCountsUptoRow.holds Tryz.pinned (OpenSpec.upto chunkCountsSpec)

/-- 'strongboxlaw9.ChunkAtomic', WHERE WHAT IT READS IS OF BULK AT MOST 1048576: true; the input reads as it did. -/
def chunkAtomicUptoRow : OpenClaim := { program := "ytdpnbemagiekoaagreatdoor", sum := "8020da2a4e7851c56d8073e4d6499d66351a9c4ca4672285e38aa9df1cd751c3", func := "strongbox/strongboxlaw9.ChunkAtomic", spec := "chunkAtomic", inPlace := ["internal/abi.NoEscape", "internal/bytealg.MakeNoZero", "internal/reflectlite.ValueOf", "(internal/reflectlite.Value).Type", "(internal/reflectlite.Value).IsNil", "internal/reflectlite.TypeOf", "(internal/reflectlite.Value).Elem", "(internal/reflectlite.Value).Set", "slices.overlaps[int]"], unfollowed := true, recurses := true, named := ["errors.errorType", "strongbox/chunk.errNone", "strongbox/hash.roundWords", "strongbox/chunk.errClash", "strongbox/chunk.errCount", "strongbox/chunk.passed"], plainKeys := false, apart := false, laid := [("strongbox/hash.roundWords", laid_strongbox_hash_roundWords), ("errors.errorType", laid_errors_errorType), ("strongbox/chunk.errNone", laid_strongbox_chunk_errNone), ("strongbox/chunk.errCount", laid_strongbox_chunk_errCount), ("strongbox/chunk.errClash", laid_strongbox_chunk_errClash), ("strongbox/chunk.passed", laid_strongbox_chunk_passed)], narrowed := true }
def ChunkAtomicUptoSaid : Prop := chunkAtomicUptoRow.holds Tryz.pinned (OpenSpec.upto chunkAtomicSpec)

/-- 'strongboxlaw9.ChunkPlays', WHERE WHAT IT READS IS OF BULK AT MOST 1048576: true; the input reads as it did. -/
def chunkPlaysUptoRow : OpenClaim := { program := "ytdpnbemagiekoaagreatdoor", sum := "8020da2a4e7851c56d8073e4d6499d66351a9c4ca4672285e38aa9df1cd751c3", func := "strongbox/strongboxlaw9.ChunkPlays", spec := "chunkPlays", inPlace := ["internal/abi.NoEscape", "internal/bytealg.MakeNoZero", "internal/reflectlite.ValueOf", "(internal/reflectlite.Value).Type", "(internal/reflectlite.Value).IsNil", "internal/reflectlite.TypeOf", "(internal/reflectlite.Value).Elem", "(internal/reflectlite.Value).Set", "slices.overlaps[int]"], unfollowed := true, recurses := true, named := ["errors.errorType", "strongbox/chunk.errNone", "strongbox/hash.roundWords", "strongbox/chunk.errClash", "strongbox/chunk.errCount", "strongbox/chunk.passed"], plainKeys := false, apart := false, laid := [("strongbox/hash.roundWords", laid_strongbox_hash_roundWords), ("errors.errorType", laid_errors_errorType), ("strongbox/chunk.errNone", laid_strongbox_chunk_errNone), ("strongbox/chunk.errCount", laid_strongbox_chunk_errCount), ("strongbox/chunk.errClash", laid_strongbox_chunk_errClash), ("strongbox/chunk.passed", laid_strongbox_chunk_passed)], narrowed := true }
def ChunkPlaysUptoSaid : Prop := chunkPlaysUptoRow.holds Tryz.pinned (OpenSpec.upto chunkPlaysSpec)

/-- 'strongboxlaw9.ChunkDies', WHERE WHAT IT READS IS OF BULK AT MOST 1048576: true; the input reads as it did. -/
def chunkDiesUptoRow : OpenClaim := { program := "ytdpnbemagiekoaagreatdoor", sum := "8020da2a4e7851c56d8073e4d6499d66351a9c4ca4672285e38aa9df1cd751c3", func := "strongbox/strongboxlaw9.ChunkDies", spec := "chunkDies", inPlace := ["internal/abi.NoEscape", "internal/bytealg.MakeNoZero", "internal/reflectlite.ValueOf", "(internal/reflectlite.Value).Type", "(internal/reflectlite.Value).IsNil", "internal/reflectlite.TypeOf", "(internal/reflectlite.Value).Elem", "(internal/reflectlite.Value).Set", "slices.overlaps[int]"], unfollowed := true, recurses := true, named := ["errors.errorType", "strongbox/chunk.errNone", "strongbox/hash.roundWords", "strongbox/chunk.errClash", "strongbox/chunk.errCount", "strongbox/chunk.passed"], plainKeys := false, apart := false, laid := [("strongbox/hash.roundWords", laid_strongbox_hash_roundWords), ("errors.errorType", laid_errors_errorType), ("strongbox/chunk.errNone", laid_strongbox_chunk_errNone), ("strongbox/chunk.errCount", laid_strongbox_chunk_errCount), ("strongbox/chunk.errClash", laid_strongbox_chunk_errClash), ("strongbox/chunk.passed", laid_strongbox_chunk_passed)], narrowed := true }
def ChunkDiesUptoSaid : Prop := chunkDiesUptoRow.holds Tryz.pinned (OpenSpec.upto chunkDiesSpec)

end Rows
end Go.Proofs.YtdpnbemagiekoaaGreatDoor
