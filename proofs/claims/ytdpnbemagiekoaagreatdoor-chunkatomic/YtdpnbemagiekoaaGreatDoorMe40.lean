import Derived.Test.YtdpnbemagiekoaaGreatDoorMe31
import Derived.Test.YtdpnbemagiekoaaGreatDoorMe18
import Derived.Test.YtdpnbemagiekoaaGreatDoorCards
import Derived.Test.YtdpnbemagiekoaaGreatDoorTie
import Derived.ProofKit
import Derived.OpenShut
import Derived.ShutString
import Derived.SizedLaws
import Derived.Deep.DeepHandedRow
import Derived.LaidLaws
import Derived.LaidHandle
import Derived.Lib.LaidTab
import Derived.Deep.Slices
import Derived.Deep.Strs
import Derived.Lib.SmallJoins
import Derived.Stop.LaidErr
import Derived.Stop.LaidTwo
namespace Go.Proofs.YtdpnbemagiekoaaGreatDoor
section
open Go.ChangeShapes Go.WideShapes Go.ChangeAt Go.RowKit
theorem own : ownKnob Tryz.prog.godebug = none := by kernel_rfl
theorem zFX : laidOutB Tryz.prog = true := by kernel_rfl
theorem gEt : Tryz.prog.globalNamed "errors.errorType" = some 6 := by kernel_rfl
theorem gRt : (Tryz.prog.cutTypes.find? (·.1 == "internal/reflectlite.rtype")).map (·.2) = some 297 := by kernel_rfl
theorem gOne : ((List.range 424).filter fun t => Tryz.prog.rowNamed t [101, 114, 114, 111, 114]) = [86] := by kernel_rfl
theorem gSize : Tryz.prog.types.size = 424 := by kernel_rfl
theorem gTab : Tryz.prog.globalNamed "strongbox/hash.roundWords" = some 4 := by kernel_rfl
theorem zMg : (Tryz.prog.globals[4]?).map (·.type) = some 315 := by kernel_rfl
theorem zOF : Tryz.prog.cellsOf 315 = 64 := by kernel_rfl
theorem zOi : Tryz.prog.cellsOf 149 = 1 := by kernel_rfl
theorem gS0 : Tryz.prog.globalNamed "strongbox/chunk.errNone" = some 0 := by kernel_rfl
theorem gS1 : Tryz.prog.globalNamed "strongbox/chunk.errCount" = some 1 := by kernel_rfl
theorem gS2 : Tryz.prog.globalNamed "strongbox/chunk.errClash" = some 2 := by kernel_rfl
theorem gT0 : (Tryz.prog.globals[0]?).map (·.type) = some 86 := by kernel_rfl
theorem gT1 : (Tryz.prog.globals[1]?).map (·.type) = some 86 := by kernel_rfl
theorem gT2 : (Tryz.prog.globals[2]?).map (·.type) = some 86 := by kernel_rfl
theorem zPk : Tryz.prog.cellsOf 413 = 1 := by kernel_rfl
theorem zOT : Tryz.prog.cellsOf 9 = 1 := by kernel_rfl
theorem zOP : "*" ++ "errors.errorString" = "*errors.errorString" := by decide
theorem rowE (u : TypeId) (h : Tryz.prog.typeName? 3 u = some "*errors.errorString") : u = 394 :=
 typeName_ptr_named (nm := "errors.errorString") (by rw [zOP]; kernel_rfl) (by kernel_rfl) (by decide) u (by rw [zOP]; exact h)
theorem zNd {z : Int} (h : (Lit.int .i64 z).wf = true) : I64 z := by
 simpa [I64, Lit.wf, IntKind.min, IntKind.max, IntKind.signed, IntKind.bits] using h
def zN7 : List (String × DataW Unit) := [("strongbox/chunk.errNone", Rows.laid_strongbox_chunk_errNone), ("strongbox/chunk.errCount", Rows.laid_strongbox_chunk_errCount), ("strongbox/chunk.errClash", Rows.laid_strongbox_chunk_errClash), ("strongbox/chunk.passed", Rows.laid_strongbox_chunk_passed)]
def zOX : List (String × DataW Unit) := ("strongbox/hash.roundWords", Rows.laid_strongbox_hash_roundWords) :: zN7
def zMu : List (String × DataW Unit) := ("strongbox/hash.roundWords", Rows.laid_strongbox_hash_roundWords) :: ("errors.errorType", Rows.laid_errors_errorType) :: zN7
theorem zDS {W : World} (h : laidMetH Tryz.prog zMu W) : laidMet Tryz.prog zOX W /\ handlesMet Tryz.prog [("errors.errorType", Rows.laid_errors_errorType)] W := h
theorem zPb {W : World} (h : laidMetH Tryz.prog zMu W) : ETy W := by
 obtain ⟨name, u, ty, e1, e2, e3, e4, e5⟩ := (zDS h).2 _ (List.mem_singleton.2 rfl)
 have en : name = [101, 114, 114, 111, 114] := (Option.some.inj e1).symm
 subst en
 obtain rfl := Option.some.inj (gRt.symm.trans e2)
 have hm : ty ∈ (List.range 424).filter fun t => Tryz.prog.rowNamed t [101, 114, 114, 111, 114] := List.mem_filter.2 ⟨List.mem_range.2 (by rw [<- gSize]; exact e3), e4⟩
 rw [gOne] at hm
 obtain rfl := List.mem_singleton.1 hm
 have hh : typeHandle Tryz.prog 86 = .pointer (some ⟨7, 86, none⟩) := by kernel_rfl
 rw [hh] at e5
 have := World.var?_cell gEt e5 0
 unfold ETy
 simpa using this
set_option maxRecDepth 100000 in
theorem zNG {W : World} (h : laidMetH Tryz.prog zMu W) : KTab W := by
 have hT : Lib.TabIs Tryz.prog W "strongbox/hash.roundWords" .u32 kWords :=
  Lib.tabIs_of_head (rest := zN7) gTab zMg Tryz.underlying315 Tryz.underlying149 zOi zOF (zDS h).1
 have hc : ∀ j, j < 64 -> W.cell? ⟨4, j, none⟩ = some (.int .u32 (kWords.getD j 0)) := fun j hj => hT.cell gTab j hj
 exact ⟨World.block_lt_of_cell? W _ (hc 0 (by decide)), hc⟩
theorem zEx {P : Program} {n0 n1 n2 nm : String} {text0 text1 text2 : List UInt8} {r : List (String × DataW Unit)} {W : World} {g0 g1 g2 : Nat} {ti tp te ts : TypeId} {ms : Array (String × TypeId)} {f : Field}
  (h : laidMet P ((n0, .iface nm (.ptr (.agg [.lit (.string text0)]))) :: (n1, .iface nm (.ptr (.agg [.lit (.string text1)]))) :: (n2, .iface nm (.ptr (.agg [.lit (.string text2)]))) :: r) W)
  (hg0 : P.globalNamed n0 = some g0) (ht0 : (P.globals[g0]?).map (·.type) = some ti) (hg1 : P.globalNamed n1 = some g1) (ht1 : (P.globals[g1]?).map (·.type) = some ti) (hg2 : P.globalNamed n2 = some g2) (ht2 : (P.globals[g2]?).map (·.type) = some ti)
  (hi : P.underlying ti = some (.interface ms)) (hrow : ∀ u, P.typeName? 3 u = some nm -> u = tp)
  (hp : P.underlying tp = some (.pointer te)) (he : P.underlying te = some (.struct #[f])) (hft : f.type = ts) (hfo : f.offset = 0) (hs : P.underlying ts = some .string) (hc : P.cellsOf te = 1) (hcs : P.cellsOf ts = 1) :
  ∃ (a0 a1 a2 : Addr), W.var? P n0 = some #[.iface tp (.pointer (some a0))] /\ W.var? P n1 = some #[.iface tp (.pointer (some a1))] /\ W.var? P n2 = some #[.iface tp (.pointer (some a2))] /\
   (∃ c t, W.heap[a0.block]? = some (.cells c t (0, 0))) /\ (∃ c t, W.heap[a1.block]? = some (.cells c t (0, 0))) /\ (∃ c t, W.heap[a2.block]? = some (.cells c t (0, 0))) /\ a0 ≠ a1 /\ a0 ≠ a2 /\ a1 ≠ a2 := by
 obtain ⟨ps, ⟨g0', t0', cs0, f0, p0, q0, hg0', ht0', hv0, hd0, ⟨g1', t1', cs1, f1, p1, q1, hg1', ht1', hv1, hd1, ⟨g2', t2', cs2, f2, p2, q2, hg2', ht2', hv2, hd2, _, e2⟩, e1⟩, e0⟩, hnd, hrows⟩ := h
 obtain rfl := Option.some.inj (hg0.symm.trans hg0')
 obtain rfl := Option.some.inj (hg1.symm.trans hg1')
 obtain rfl := Option.some.inj (hg2.symm.trans hg2')
 obtain rfl := Option.some.inj (ht0.symm.trans ht0')
 obtain rfl := Option.some.inj (ht1.symm.trans ht1')
 obtain rfl := Option.some.inj (ht2.symm.trans ht2')
 subst e2
 subst e1
 subst e0
 obtain ⟨l0⟩ := cs0
 obtain ⟨l1⟩ := cs1
 obtain ⟨l2⟩ := cs2
 have ok0 : ∀ u v, l0 = [.iface u v] -> Value.okWide P W .any 0 u v := fun u v e => by
  subst e
  exact (hrows g0 0 (by simp [MemPlace.row])).2 u v (by simpa using World.var?_cell hg0' hv0 0)
 have ok1 : ∀ u v, l1 = [.iface u v] -> Value.okWide P W .any 0 u v := fun u v e => by
  subst e
  exact (hrows g1 0 (by simp [MemPlace.row])).2 u v (by simpa using World.var?_cell hg1' hv1 0)
 have ok2 : ∀ u v, l2 = [.iface u v] -> Value.okWide P W .any 0 u v := fun u v e => by
  subst e
  exact (hrows g2 0 (by simp [MemPlace.row])).2 u v (by simpa using World.var?_cell hg2' hv2 0)
 obtain ⟨a0, s0, rfl, hc0, hs0, hz0, rfl⟩ := errorString_of_trod hi hrow hp he hft hfo hs hc hcs hd0 ok0
 obtain ⟨a1, s1, rfl, hc1, hs1, hz1, rfl⟩ := errorString_of_trod hi hrow hp he hft hfo hs hc hcs hd1 ok1
 obtain ⟨a2, s2, rfl, hc2, hs2, hz2, rfl⟩ := errorString_of_trod hi hrow hp he hft hfo hs hc hcs hd2 ok2
 refine ⟨a0, a1, a2, hv0, hv1, hv2, (hrows a0.block a0.off (by simp [MemPlace.row])).1, (hrows a1.block a1.off (by simp [MemPlace.row])).1, (hrows a2.block a2.off (by simp [MemPlace.row])).1, ?_, ?_, ?_⟩ <;> (rintro rfl; simp [MemPlace.row] at hnd)
theorem zO8 {W : World} (h : laidMetH Tryz.prog zMu W) : ∃ e0 e1 e2, Snt W e0 e1 e2 := by
 obtain ⟨a0, a1, a2, v0, v1, v2, h0, h1, h2, n01, n02, n12⟩ := zEx (zDS h).1.tail gS0 gT0 gS1 gT1 gS2 gT2 Tryz.underlying86 rowE Tryz.underlying394 Tryz.underlying413 rfl rfl Tryz.underlying9 zPk zOT
 exact ⟨a0, a1, a2, by simpa using World.var?_cell gS0 v0 0, by simpa using World.var?_cell gS1 v1 0, by simpa using World.var?_cell gS2 v2 0, h0, h1, h2, n01, n02, n12⟩
abbrev txt0 : ByteArray := ⟨#[116, 104, 101, 114, 101, 32, 105, 115, 32, 110, 111, 32, 115, 117, 99, 104, 32, 99, 104, 117, 110, 107]⟩
abbrev txt1 : ByteArray := ⟨#[105, 116, 32, 105, 115, 32, 99, 111, 117, 110, 116, 101, 100, 32, 97, 115, 32, 111, 102, 116, 101, 110, 32, 97, 115, 32, 111, 110, 101, 32, 99, 97, 110, 32, 98, 101]⟩
abbrev txt2 : ByteArray := ⟨#[111, 116, 104, 101, 114, 32, 98, 121, 116, 101, 115, 32, 104, 97, 118, 101, 32, 116, 104, 105, 115, 32, 100, 105, 103, 101, 115, 116]⟩
noncomputable def lowB : Nat := (World.holding Tryz.prog default ⟨#[], #[], []⟩).heap.size
noncomputable def zDg (os : Os) : World :=
 let w0 := World.holding Tryz.prog os ⟨#[.cells #[.string txt0] 413, .cells #[.string txt1] 413, .cells #[.string txt2] 413], #[], []⟩
 { w0 with heap := (((((w0.heap.modify 6 fun
   | .cells _ t frozen => .cells #[.iface 297 (.agg #[.pointer (some ⟨7, 86, none⟩)])] t frozen
   | o => o).modify 4 fun
   | .cells _ t frozen => .cells (kWords.map (Value.int .u32)).toArray t frozen
   | o => o).modify 0 fun
   | .cells _ t frozen => .cells #[eP ⟨lowB, 0, none⟩] t frozen
   | o => o).modify 1 fun
   | .cells _ t frozen => .cells #[eP ⟨lowB + 1, 0, none⟩] t frozen
   | o => o).modify 2 fun
   | .cells _ t frozen => .cells #[eP ⟨lowB + 2, 0, none⟩] t frozen
   | o => o).modify 3 fun
   | .cells _ t frozen => .cells #[.int .i64 2, .int .i64 61, .int .i64 62, .int .i64 41, .int .i64 52, .int .i64 71, .int .i64 72, .int .i64 73, .int .i64 82, .int .i64 83] t frozen
   | o => o }
theorem zLv (os : Os) (args : Array Value) : laidMet Tryz.prog zOX ((zDg os).forCall (fun _ _ => 0) ⟨#[], args, []⟩).memory :=
 laidMet_of_run' 80 (by kernel_rfl) (by kernel_rfl)
end
end Go.Proofs.YtdpnbemagiekoaaGreatDoor
