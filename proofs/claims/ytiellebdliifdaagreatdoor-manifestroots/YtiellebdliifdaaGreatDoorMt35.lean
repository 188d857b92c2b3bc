import Derived.Test.YtiellebdliifdaaGreatDoorMt34
namespace Go.Proofs.YtiellebdliifdaaGreatDoor
open Go.RowKit Go.Maps Go.Sort Go.Shelf
def z120 : Array Value := (List.replicate 120 (.string ⟨#[]⟩)).toArray
theorem infoAr : (Tryz.prog.info? 60).map (fun i => (i.zero, i.size, i.bytes)) = some (some (.agg z120), 120, 1920) := by kernel_rfl
theorem z120_at (j : Nat) (h : j < 120) : z120[j]! = .string ⟨#[]⟩ := by
 rw [getElem!_pos z120 j (by show j < 120; exact h)]
 simp only [z120, List.getElem_toArray, List.getElem_replicate]
theorem made_mC (n : Nat) : madeCells z120 (n * 120) = mC n (fun _ _ => none) := by
 apply Array.ext_getElem?
 intro i
 by_cases hi : i < n * 120
 ·rw [mC_get n _ i hi]
  have h1 : (if i % 2 = 0 then vtD none else vtW none) = (⟨#[]⟩ : ByteArray) := by split <;> rfl
  rw [h1, Array.getElem?_eq_getElem (by simp [madeCells]; exact hi)]
  simp only [madeCells, Array.getElem_map, Array.getElem_range]
  rw [show z120.size = 120 from rfl, z120_at _ (Nat.mod_lt _ (by decide))]
 ·rw [mC_out n _ i hi]
  simp [madeCells]; omega
theorem emake (n : Nat) (hn : n ≤ 24) (w : World) : (Instr.makeSlice 33 (.int .i64 (n : Int)) (.int .i64 (n : Int))).run Tryz.prog w = .ok (.slice (some ⟨w.heap.size, 0, none⟩) n n) (w.alloc (.cells (mC n (fun _ _ => none)) 60)) := by
 have h := infoAr
 cases hq : Tryz.prog.info? 60 with
 | none => rw [hq] at h; cases h
 | some i =>
  rw [hq] at h
  simp only [Option.map_some, Option.some.injEq, Prod.mk.injEq] at h
  obtain ⟨hz, hs, hbt⟩ := h
  have := run_makeSlice (P := Tryz.prog) w 33 60 i _ Tryz.underlying33 hq hz .i64 .i64 (n : Int) (n : Int) (by omega) (by omega) (by rw [hs, Int.toNat_natCast]; omega) (by rw [hbt]; omega) (by omega)
  rw [Int.toNat_natCast, hs] at this
  rw [← made_mC]
  exact this
end Go.Proofs.YtiellebdliifdaaGreatDoor
