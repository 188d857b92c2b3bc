import Derived.Test.YtnfdedolgfcmfaaGreatDoorMrc07
namespace Go.Proofs.YtnfdedolgfcmfaaGreatDoor
open Go.RowKit Go.Extern.Stop Go.Stop Go.Extern
/-- At block b lies a Reader: what is left, how much was taken, what was wrong first. -/
def Rdr (w : World) (b : Nat) (r : ByteArray) (t e : Int) : Prop := Blk w b #[.string r, .int .i64 t, .int .i64 e] 181
theorem as_b (x : Int) (t : Addr) (old : Value) (w : World) (hg : ETy w) (ht0 : w.cell? t = some old) (hf0 : w.frozen? t = false) :
    Calls Tryz.prog 134 #[.iface 184 (.agg #[.int .i64 x]), .iface 203 (.pointer (some t))] w fun ev w' => ev = .returned (.bool true) ∧ w'.cell? t = some (.int .i64 x) ∧ Only (fun k => k = t.block) w w' := by
  have htl : t.block < w.heap.size := World.block_lt_of_cell? w _ ht0
  refine (as_hit x t old w hg ht0 hf0).mono ?_
  rintro ev w' ⟨rfl, rfl⟩
  refine ⟨rfl, ?_, (((((Only.refl _ w).alloc _).alloc _).alloc _).alloc _).setCell _ _ (fun _ => rfl)⟩
  exact World.cell?_setCell_same _ _ _ (u := old) (by
    rw [World.cell?_alloc_lt _ _ t (by simp; omega), World.cell?_alloc_lt _ _ t (by simp; omega), World.cell?_alloc_lt _ _ t (by simp; omega), World.cell?_alloc_lt _ _ t htl]
    exact ht0)
theorem ea_isError (v : Value) (w : World) : (Instr.typeAssert (.iface 184 v) 20 200 true).run Tryz.prog w = .ok (.tuple #[.iface 184 v, .bool true]) w := run_typeAssert_hasB Tryz.underlying200 (by kernel_rfl) v 20 w
set_option maxRecDepth 100000 in
set_option maxHeartbeats 400000 in
theorem settle_nil (b : Nat) (t : Int) (w : World) :
    Calls Tryz.prog 110 #[.pointer (some ⟨b, 0, none⟩), .int .i64 t, .nilIface] w fun ev w' => ev = .returned (.tuple #[]) ∧ w' = w := by
  go_enter Tryz.func110, Tryz.ntmps110
  go_wp2
  (try simp only [Exit.inBlock, Exit.then])
  exact bodyPost_ret (results_none rfl _ _ _) rfl ⟨rfl, rfl⟩
set_option maxRecDepth 100000 in
set_option maxHeartbeats 2000000 in
theorem settle_hit (b : Nat) (r : ByteArray) (t0 t e x : Int) (w : World) (hg : ETy w) (h : Rdr w b r t0 e) :
    Calls Tryz.prog 110 #[.pointer (some ⟨b, 0, none⟩), .int .i64 t, .iface 184 (.agg #[.int .i64 x])] w fun ev w' => ev = .returned (.tuple #[]) ∧ Rdr w' b ⟨#[]⟩ t x ∧ Only (fun k => k = b) w w' := by
  have hE := ea_isError
  have hA0 := (Only.refl (fun _ => False) w).alloc (Obj.cells #[Value.int .i64 0] 184)
  have HA := hide (as_b x ⟨w.heap.size, 0, none⟩ (.int .i64 0) (w.alloc (Obj.cells #[Value.int .i64 0] 184)) (hg.only hA0 (fun q => q)) (by simp) (by simp))
  have HR := hide h
  have hlt := h.lt
  clear h hg hA0
  go_enter Tryz.func110, Tryz.ntmps110
  go_wp2_with fail
  refine (unhide HA).mono ?_
  rintro ev w2 ⟨rfl, hc, hO⟩
  have HO := hide hO
  clear hO
  have hB2 : Blk w2 b #[.string r, .int .i64 t0, .int .i64 e] 181 := Blk.only (Blk.alloc (unhide HR) _) (unhide HO) (by show ¬ b = w.heap.size; omega)
  have c0 : w2.cell? ⟨b, 0, none⟩ = some (.string r) := by rw [hB2.cell 0]; rfl
  have c1 : w2.cell? ⟨b, 1, none⟩ = some (.int .i64 t0) := by rw [hB2.cell 1]; rfl
  have c2 : w2.cell? ⟨b, 2, none⟩ = some (.int .i64 e) := by rw [hB2.cell 2]; rfl
  have f0 := hB2.frozen 0
  have f1 := hB2.frozen 1
  have f2 := hB2.frozen 2
  have HB2 := hide hB2
  clear hB2
  have HS := hide hc
  go_wp2
  (try simp only [Exit.inBlock, Exit.then])
  refine bodyPost_ret (results_none rfl _ _ _) rfl ⟨rfl, ?_, ?_⟩
  · exact (((unhide HB2).set 0 _).set 1 _).set 2 _
  · have h1 : Only (fun k => k = b) w w2 := ((Only.refl _ w).alloc _).trans (unhide HO) (fun k hk hq => by
      have : k = w.heap.size := hq
      omega)
    exact ((h1.setCell _ _ (fun _ => rfl)).setCell _ _ (fun _ => rfl)).setCell _ _ (fun _ => rfl)
end Go.Proofs.YtnfdedolgfcmfaaGreatDoor
