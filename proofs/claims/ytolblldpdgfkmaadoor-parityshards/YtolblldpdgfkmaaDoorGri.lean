import Derived.Test.YtolblldpdgfkmaaDoorGrh
import Derived.Laws.DeepStrings4
namespace Go.Proofs.YtolblldpdgfkmaaDoor
open Go.RowKit
set_option maxRecDepth 100000
theorem gr_str : (Tryd.prog.info? 9).map (fun i => (i.zero, i.size, i.bytes)) = some (some (.string ⟨#[]⟩), 1, 16) := by kernel_rfl
/-- the shards of data of a text -/
def spD (s : ByteArray) (d : Nat) : List ByteArray := (List.range d).map (fun i => (stB s d).extract (i * stN s.size d) (i * stN s.size d + stN s.size d))
/-- all shards of a text -/
def spL (s : ByteArray) (d m : Nat) : List ByteArray := spD s d ++ (List.range m).map (fun j => shT d (d + j) (stN s.size d) (spD s d))
theorem spD_len (s : ByteArray) (d : Nat) : (spD s d).length = d := by simp [spD]
theorem spD_size (s : ByteArray) (d : Nat) (hd : 1 ≤ d) (i : Nat) (hi : i < d) : ((spD s d).getD i ByteArray.empty).size = stN s.size d := by
  rw [List.getD_eq_getElem?_getD]
  simp only [spD, List.getElem?_map, List.getElem?_range hi, Option.map_some, Option.getD_some]
  rw [ByteArray.size_extract, stB_size s d hd]
  have : i * stN s.size d + stN s.size d ≤ d * stN s.size d := by
    have := Nat.mul_le_mul_right (stN s.size d) (show i + 1 ≤ d by omega)
    rw [Nat.add_mul, Nat.one_mul] at this
    exact this
  omega
theorem own_gtx {w : World} {base n c : Nat} {p : Option Addr} {L : List ByteArray} (hn : L.length = n) (h : w.ownsRow base 9 1 (.slice p n c) n (L.map Value.string)) : GTx w w.heap.size p L := fun j hj => by
  obtain ⟨g, e, h1, _, _, h4⟩ := gr_cell h j (by omega)
  refine ⟨g, 0, e, h4, ?_⟩
  rw [Nat.zero_add, h1, List.getElem?_map, List.getElem?_eq_getElem hj, List.getD_eq_getElem?_getD, List.getElem?_eq_getElem hj]
  rfl
theorem slice_str (b : ByteArray) (lo ln : Nat) (h : lo + ln ≤ b.size) (W : World) : (Instr.slice 9 (.string b) (some (.int .i64 (lo : Int))) (some (.int .i64 ((lo : Int) + (ln : Int)))) none).run Tryd.prog W = .ok (.string (b.extract lo (lo + ln))) W := by
  have h1 : 0 ≤ (lo : Int) + (ln : Int) ∧ (lo : Int) + (ln : Int) ≤ (b.size : Int) := by omega
  have h3 : 0 ≤ (lo : Int) ∧ (lo : Int) ≤ (lo : Int) + (ln : Int) := by omega
  have h4 : ((lo : Int) + (ln : Int)).toNat = lo + ln := by omega
  rw [run_slice_string_if W 9 b .i64 .i64 _ _ Tryd.underlying9, if_pos h1, if_pos h3, h4]
  rfl
theorem wrap_two (lo ln : Nat) (h : lo + ln ≤ 1000000) : wrap64 (lo : Int) = (lo : Int) ∧ wrap64 ((lo : Int) + (ln : Int)) = (lo : Int) + (ln : Int) := ⟨wrap64_eq _ (by omega) (by omega), wrap64_eq _ (by omega) (by omega)⟩
def SplQ (w : World) (s : ByteArray) (n m : Int) (e : Ending) (w' : World) : Prop := Below w.heap.size w w' ∧ (cntB n m = false → e = .returned (.tuple #[.slice none 0 0, .int .i64 180])) ∧ (cntB n m = true → 60000 < s.size → e = .returned (.tuple #[.slice none 0 0, .int .i64 183])) ∧ (cntB n m = true → s.size ≤ 60000 → ∃ v, e = .returned (.tuple #[v, .int .i64 0]) ∧ w'.ownsRow w.heap.size 9 1 v (n.toNat + m.toNat) ((spL s n.toNat m.toNat).map Value.string))
end Go.Proofs.YtolblldpdgfkmaaDoor
