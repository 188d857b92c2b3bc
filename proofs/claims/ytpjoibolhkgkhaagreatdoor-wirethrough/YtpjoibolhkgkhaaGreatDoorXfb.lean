import Derived.Test.YtpjoibolhkgkhaaGreatDoorXfa
import Derived.Test.YtpjoibolhkgkhaaGreatDoorXba
import Derived.Great.BuildSlice
import Derived.Laws.CopyOwn
namespace Go.Proofs.YtpjoibolhkgkhaaGreatDoor
open Go.RowKit
set_option maxRecDepth 100000
theorem wpList_buildAs {P : Program} {ops : Array Oper} {rest : List Oper} {o : Oper} {a : Act} {w : World} {Q : Exit → Act → World → Prop} (hg : o.guard = none) (t : TypeId) (parts : Array (Nat × Operand)) (ho : o.op = .build t parts) (vs : List (Nat × Value)) (hv : (parts.map fun (i, x) => (i, a.eval x)).toList = vs) (cells : Array Value) (hb : P.built t vs = some cells)
    (h : wpList P ops Q rest (a.put o.dst (.agg cells)) w) : wpList P ops Q (o :: rest) a w :=
  wpList_build hg t parts ho (by rw [hv, hb]; rfl) (by rw [hv, hb]; exact h)
theorem blk_setRow {w : World} {g : Nat} {old cells : Array Value} {T : TypeId} (h : Blk w g old T) : Blk (w.setRow g cells) g cells T := setRow_heap w g old cells T (0, 0) h
theorem blk_setRow_other {w : World} {g b : Nat} {cur cells : Array Value} {T : TypeId} (h : Blk w b cur T) (hb : g ≠ b) : Blk (w.setRow g cells) b cur T := by
  unfold Blk at *
  rw [World.setRow]
  simp only [Array.getElem?_modify, hb, if_false]
  exact h
theorem only_setRow {w : World} (g : Nat) (cells : Array Value) {P : Nat → Prop} (hP : P g) : Only P w (w.setRow g cells) := by
  refine ⟨below_setRow (Below.refl _ _) (Nat.zero_le _) cells, fun k hk hp => ?_⟩
  have hb : g ≠ k := fun e => hp (e ▸ hP)
  rw [World.setRow]
  simp only [Array.getElem?_modify, hb, if_false]
/-- the table of fields, by its cells -/
def tabC : Array Value := #[.int .i64 1, .int .i64 1, .int .i64 8, .int .i64 2, .int .i64 0, .int .i64 65535, .int .i64 2, .int .i64 0, .int .i64 65535, .int .i64 1, .int .i64 1, .int .i64 99, .int .i64 1, .int .i64 0, .int .i64 255, .int .i64 4, .int .i64 0, .int .i64 4294967295, .int .i64 32, .int .i64 48, .int .i64 8, .int .i64 256]
theorem bn_tenant : Tryz.prog.built 119 [(0, .int .i64 1), (1, .int .i64 1), (2, .int .i64 8)] = some fTen.cs := by kernel_rfl
theorem bf_tenant : Tryz.prog.built 121 [(0, .agg fTen.cs)] = some fTen.cs := by kernel_rfl
theorem bn_quota : Tryz.prog.built 119 [(0, .int .i64 2), (2, .int .i64 65535)] = some fQuo.cs := by kernel_rfl
theorem bf_quota : Tryz.prog.built 122 [(0, .agg fQuo.cs)] = some fQuo.cs := by kernel_rfl
theorem bn_charge : Tryz.prog.built 119 [(0, .int .i64 2), (2, .int .i64 65535)] = some fCha.cs := by kernel_rfl
theorem bf_charge : Tryz.prog.built 123 [(0, .agg fCha.cs)] = some fCha.cs := by kernel_rfl
theorem bn_volume : Tryz.prog.built 119 [(0, .int .i64 1), (1, .int .i64 1), (2, .int .i64 99)] = some fVol.cs := by kernel_rfl
theorem bf_volume : Tryz.prog.built 124 [(0, .agg fVol.cs)] = some fVol.cs := by kernel_rfl
theorem bn_block : Tryz.prog.built 119 [(0, .int .i64 1), (2, .int .i64 255)] = some fBlo.cs := by kernel_rfl
theorem bf_block : Tryz.prog.built 125 [(0, .agg fBlo.cs)] = some fBlo.cs := by kernel_rfl
theorem bn_nonce : Tryz.prog.built 119 [(0, .int .i64 4), (2, .int .i64 4294967295)] = some fNon.cs := by kernel_rfl
theorem bf_nonce : Tryz.prog.built 126 [(0, .agg fNon.cs)] = some fNon.cs := by kernel_rfl
theorem bn_digest : Tryz.prog.built 128 [(0, .int .i64 32)] = some fDig.cs := by kernel_rfl
theorem bf_digest : Tryz.prog.built 130 [(0, .agg fDig.cs)] = some fDig.cs := by kernel_rfl
theorem bn_wrapped : Tryz.prog.built 128 [(0, .int .i64 48)] = some fWra.cs := by kernel_rfl
theorem bf_wrapped : Tryz.prog.built 131 [(0, .agg fWra.cs)] = some fWra.cs := by kernel_rfl
theorem bn_sample : Tryz.prog.built 128 [(0, .int .i64 8)] = some fSam.cs := by kernel_rfl
theorem bf_sample : Tryz.prog.built 132 [(0, .agg fSam.cs)] = some fSam.cs := by kernel_rfl
theorem bn_data : Tryz.prog.built 128 [(0, .int .i64 256)] = some fDat.cs := by kernel_rfl
theorem bf_data : Tryz.prog.built 133 [(0, .agg fDat.cs)] = some fDat.cs := by kernel_rfl
theorem bt_all : Tryz.prog.built 138 [(0, .agg fTen.cs), (1, .agg fQuo.cs), (2, .agg fCha.cs), (3, .agg fVol.cs), (4, .agg fBlo.cs), (5, .agg fNon.cs), (6, .agg fDig.cs), (7, .agg fWra.cs), (8, .agg fSam.cs), (9, .agg fDat.cs)] = some tabC := by kernel_rfl
theorem sizeTab : (Tryz.prog.info? 138).map (·.size) = some tabC.size := by kernel_rfl
set_option maxHeartbeats 1000000 in
theorem allFields_any (w : World) : Calls Tryz.prog 72 #[] w fun e w' => e = .returned (.agg tabC) ∧ Below w.heap.size w w' := by
  obtain ⟨x2, hx2⟩ : ∃ q, w.alloc (.cells #[.int .i64 0, .int .i64 0, .int .i64 0, .int .i64 0, .int .i64 0, .int .i64 0, .int .i64 0, .int .i64 0, .int .i64 0, .int .i64 0, .int .i64 0, .int .i64 0, .int .i64 0, .int .i64 0, .int .i64 0, .int .i64 0, .int .i64 0, .int .i64 0, .int .i64 0, .int .i64 0, .int .i64 0, .int .i64 0] 138) = q := ⟨_, rfl⟩
  have BZ : Blk x2 w.heap.size #[.int .i64 0, .int .i64 0, .int .i64 0, .int .i64 0, .int .i64 0, .int .i64 0, .int .i64 0, .int .i64 0, .int .i64 0, .int .i64 0, .int .i64 0, .int .i64 0, .int .i64 0, .int .i64 0, .int .i64 0, .int .i64 0, .int .i64 0, .int .i64 0, .int .i64 0, .int .i64 0, .int .i64 0, .int .i64 0] 138 := by rw [← hx2]; exact Blk.new w _ _
  have hb : Below w.heap.size w x2 := by rw [← hx2]; exact (Below.refl _ w).alloc (Nat.le_refl _) _
  have BT : Blk (x2.setRow w.heap.size tabC) w.heap.size tabC 138 := blk_setRow BZ
  have hb2 := below_setRow hb (Nat.le_refl _) tabC
  have HL := hide (iload_blk 138 _ BT Tryz.underlying138 rfl sizeTab)
  have HB := hide hb2
  have HZ := hide BZ
  have HOK : tabC.all (·.oneCell') = true := by simp [tabC, Value.oneCell']
  clear hb hb2 BT BZ
  go_enter Tryz.func72, Tryz.ntmps72
  go_wp2_with (first | refine wpList_store_row rfl 138 (.tmp 0) (.tmp 21) rfl w.heap.size tabC rfl rfl 138 #[.int .i64 0, .int .i64 0, .int .i64 0, .int .i64 0, .int .i64 0, .int .i64 0, .int .i64 0, .int .i64 0, .int .i64 0, .int .i64 0, .int .i64 0, .int .i64 0, .int .i64 0, .int .i64 0, .int .i64 0, .int .i64 0, .int .i64 0, .int .i64 0, .int .i64 0, .int .i64 0, .int .i64 0, .int .i64 0] (unhide HZ) sizeTab rfl HOK ?_)
  (try simp only [Exit.inBlock, Exit.then])
  refine bodyPost_ret (results_cell rfl _ _ _ ⟨w.heap.size, 0, none⟩ rfl _ (unhide HL)) rfl ?_
  exact ⟨rfl, unhide HB⟩
end Go.Proofs.YtpjoibolhkgkhaaGreatDoor
