import Derived.Test.YtnfcnpolflfpfaaGreatDoorMr43
import Derived.Test.YtnfcnpolflfpfaaGreatDoorMr24
namespace Go.Proofs.YtnfcnpolflfpfaaGreatDoor
open Go.RowKit Go.Maps Go.Sort Go.Shelf
theorem ISt.image {w0 w : World} {b jb pb xb : Nat} {Y : Nat → Prop} {a n kp : Nat} {op : Bool} {L : List ByteArray} {A : List (Nat × Nat)} {hn : Nat} {Tw T U : Nat → En} (h : ISt w0 w b jb pb xb Y a n kp op L A hn Tw T U) : Calls Tryz.prog 13 #[.pointer (some ⟨b, 0, none⟩)] w fun e w' => ∃ g cap, e = .returned (.slice (some ⟨g, 0, none⟩) 128 cap) ∧ w.heap.size ≤ g ∧ Strs w' (some ⟨g, 0, none⟩) L ∧ Below w.heap.size w w' := by
  obtain ⟨S, eb, bm, Mw, Mn, h1, h2, h2o, h3, h4⟩ := h
  obtain ⟨bw, bv, ov, K⟩ := h1.pk
  have k1 := K.jk
  rw [h1.seen.rst.s] at k1
  refine (imageK k1 h1.seen.len).mono ?_
  rintro e w' ⟨g, cap, rfl, q1, q2, q3, q4⟩
  exact ⟨g, cap, rfl, q1, q3, q4⟩
theorem infoSlot : (Tryz.prog.info? 46).map (fun i => (i.zero, i.size, i.bytes)) = some (some (.agg #[.int .i64 0, .string ⟨#[]⟩, .int .i64 0]), 3, 32) := by kernel_rfl
theorem wr_made (w : World) (n : Nat) : WR (w.alloc (.cells (madeCells #[.int .i64 0, .string ⟨#[]⟩, .int .i64 0] (n * 3)) 46)) w.heap.size n (fun _ => none) := by
  refine ⟨(madeCells #[.int .i64 0, .string ⟨#[]⟩, .int .i64 0] (n * 3)).toList, by rw [Array.toArray_toList]; exact Blk.new w _ _, by rw [Array.length_toList, size_madeCells]; omega, fun i hi => ?_⟩
  apply List.ext_getElem
  · rw [List.length_take, List.length_drop, Array.length_toList, size_madeCells]
    show _ = 3
    omega
  · intro j h1 h2
    have h2' : j < 3 := h2
    rw [List.getElem_take, List.getElem_drop]
    simp only [madeCells, Array.getElem_toList, Array.getElem_map, Array.getElem_range]
    have e : (i * 3 + j) % (#[.int .i64 0, .string ⟨#[]⟩, .int .i64 0] : Array Value).size = j := by
      show (i * 3 + j) % 3 = j
      omega
    rw [e]
    rcases (show j = 0 ∨ j = 1 ∨ j = 2 by omega) with rfl | rfl | rfl <;> rfl
theorem wmake (n : Nat) (hn : n ≤ 24) (w : World) : (Instr.makeSlice 29 (.int .i64 (n : Int)) (.int .i64 (n : Int))).run Tryz.prog w = .ok (.slice (some ⟨w.heap.size, 0, none⟩) n n) (w.alloc (.cells (madeCells #[.int .i64 0, .string ⟨#[]⟩, .int .i64 0] (n * 3)) 46)) := by
  have h := infoSlot
  cases hq : Tryz.prog.info? 46 with
  | none => rw [hq] at h; cases h
  | some i =>
    rw [hq] at h
    simp only [Option.map_some, Option.some.injEq, Prod.mk.injEq] at h
    obtain ⟨hz, hs, hbt⟩ := h
    have := run_makeSlice (P := Tryz.prog) w 29 46 i _ Tryz.underlying29 hq hz .i64 .i64 (n : Int) (n : Int) (by omega) (by omega) (by rw [hs, Int.toNat_natCast]; omega) (by rw [hbt]; omega) (by omega)
    rw [Int.toNat_natCast, hs] at this
    exact this
/-- A list of changes, as it lies there. -/
def Raws (w : World) (p : Option Addr) (m : Nat) : Prop := ∀ i, i < m → ∃ g o k pl dg ct, p = some ⟨g, o, none⟩ ∧ g < w.heap.size ∧ w.cell? ⟨g, o + i * 4, none⟩ = some (.int .i64 k) ∧ w.cell? ⟨g, o + i * 4 + 1, none⟩ = some (.int .i64 pl) ∧ w.cell? ⟨g, o + i * 4 + 2, none⟩ = some (.int .i64 dg) ∧ w.cell? ⟨g, o + i * 4 + 3, none⟩ = some (.int .i64 ct) ∧ I64 pl ∧ I64 dg ∧ I64 ct
theorem Raws.below {w w' : World} {p : Option Addr} {m : Nat} (h : Raws w p m) (hb : Below w.heap.size w w') : Raws w' p m := fun i hi => by
  obtain ⟨g, o, k, pl, dg, ct, e, hg, c0, c1, c2, c3, r⟩ := h i hi
  refine ⟨g, o, k, pl, dg, ct, e, Nat.lt_of_lt_of_le hg hb.size, ?_, ?_, ?_, ?_, r⟩
  · rw [hb.cell (p := ⟨g, _, none⟩) hg]; exact c0
  · rw [hb.cell (p := ⟨g, _, none⟩) hg]; exact c1
  · rw [hb.cell (p := ⟨g, _, none⟩) hg]; exact c2
  · rw [hb.cell (p := ⟨g, _, none⟩) hg]; exact c3
/-- An index under change, and the row that follows it. -/
def Run (x0 : World) (b jb pb xb : Nat) (Y : Nat → Prop) (a n kp : Nat) (L : List ByteArray) (A : List (Nat × Nat)) (hn : Nat) (Tw : Nat → En) (wb : Nat) (wr : World) : Prop :=
  ∃ T, ISt x0 wr b jb pb xb Y a n kp true L A hn Tw T T ∧ WR wr wb n T
theorem Chg.run {w0 w : World} {b jb pb xb : Nat} {Y : Nat → Prop} {a n kp : Nat} {L : List ByteArray} {A : List (Nat × Nat)} {hn : Nat} {Tw : Nat → En} {wb : Nat} {w' : World} (h : Chg w0 w b jb pb xb Y a n kp L A hn Tw wb w') : Run w0 b jb pb xb Y a n kp L A hn Tw wb w' := by
  obtain ⟨T, h1, h2, _⟩ := h
  exact ⟨T, h1, h2⟩
/-- The bytes of the first j slots of page k. -/
def catL (T : Nat → En) (k j : Nat) : List Int := nums (catI (fun i => slB (T (6 * k + i))) j)
end Go.Proofs.YtnfcnpolflfpfaaGreatDoor
