import Derived.Test.YtnfcnpolflfpfaaGreatDoorMr47
import Derived.Test.YtnfcnpolflfpfaaGreatDoorMr14
namespace Go.Proofs.YtnfcnpolflfpfaaGreatDoor
open Go.RowKit Go.Maps Go.Sort Go.Shelf
theorem only_setRow {w : World} {g : Nat} {old cs : Array Value} {t : TypeId} (hg : Blk w g old t) : Only (fun x => x = g) w (w.setRow g cs) ∧ Blk (w.setRow g cs) g cs t := by
  refine ⟨⟨⟨rfl, rfl, rfl, by simp, fun k hk => absurd hk (Nat.not_lt_zero k)⟩, fun k _ hk => setRow_other w g k cs hk⟩, setRow_heap w g old cs t (0, 0) hg⟩
theorem slC_one (i : Nat) (e : En) : ∀ v ∈ slC i e, v.oneCell' = true := fun v hv => by
  cases e with
  | none => simp [slC] at hv; rcases hv with rfl | rfl | rfl <;> rfl
  | some p => simp [slC] at hv; rcases hv with rfl | rfl | rfl <;> rfl
theorem infoSl3 : (Tryz.prog.info? 46).map (·.size) = some 3 := by kernel_rfl
/-- A row of slots is copied over another. -/
theorem wcopy {w : World} {wb nb n : Nat} {T : Nat → En} {cur : Array Value} (hW : WR w wb n T) (hB : Blk w nb cur 46) (hc : cur.size = 3 * n) :
    ∃ w', (∀ ty, (Builtin.copy_ #[29, 29] ty #[.slice (some ⟨nb, 0, none⟩) n n, .slice (some ⟨wb, 0, none⟩) n n]).run Tryz.prog w = .ok (.int .i64 (n : Int)) w') ∧ WR w' nb n T ∧ Only (fun x => x = nb) w w' := by
  obtain ⟨cs, h1, h2, h3⟩ := hW
  obtain ⟨q1, q2⟩ := only_setRow (cs := (cur.toList.take 0 ++ cs ++ cur.toList.drop (0 + cs.length)).toArray) hB
  have hone : ∀ v ∈ cs, v.oneCell' = true := fun v hv => by
    obtain ⟨j, hj, rfl⟩ := List.mem_iff_getElem.1 hv
    have hi := h3 (j / 3) (by omega)
    refine slC_one (j / 3) (T (j / 3)) _ ?_
    rw [← hi, List.mem_iff_getElem?]
    exact ⟨j % 3, by rw [List.getElem?_take, if_pos (by omega), List.getElem?_drop, show j / 3 * 3 + j % 3 = j by omega, List.getElem?_eq_getElem hj]⟩
  refine ⟨_, fun ty => run_copy_rowK w 29 29 ty 46 3 nb 0 n n ⟨wb, 0, none⟩ n n cur 46 cs n Tryz.underlying29 infoSl3 hB (by simp) (by omega) (fun j v hv => ?_) (by omega) hone, ⟨cs, ?_, h2, h3⟩, q1⟩
  · rw [Addr.add_mid, Nat.zero_add, h1.cell]
    simpa using hv
  · have e : cur.toList.take 0 ++ cs ++ cur.toList.drop (0 + cs.length) = cs := by
      rw [List.take_zero, List.nil_append, List.drop_of_length_le (by rw [Array.length_toList]; omega), List.append_nil]
    rw [e] at q2 ⊢
    exact q2
/-- Lists of changes, as they lie there. -/
def Rll (w : World) (p : Option Addr) (m : Nat) : Prop := ∀ i, i < m → ∃ g o q l c, p = some ⟨g, o, none⟩ ∧ g < w.heap.size ∧ w.cell? ⟨g, o + i, none⟩ = some (.slice q l c) ∧ Raws w q l ∧ l ≤ 9223372036854775807
theorem Rll.below {w w' : World} {p : Option Addr} {m : Nat} (h : Rll w p m) (hb : Below w.heap.size w w') : Rll w' p m := fun i hi => by
  obtain ⟨g, o, q, l, c, e, hg, c0, r, hl⟩ := h i hi
  exact ⟨g, o, q, l, c, e, Nat.lt_of_lt_of_le hg hb.size, by rw [hb.cell (p := ⟨g, _, none⟩) hg]; exact c0, r.below hb, hl⟩
/-- An index between transactions, and the row that tells what was committed. -/
def FRun (x0 : World) (b jb pb xb : Nat) (k : Nat) (u : Value) (wr : World) : Prop :=
  ∃ wb L A hn T, u = .slice (some ⟨wb, 0, none⟩) 20 20 ∧ A.length ≤ 1000 + 38 * k ∧ x0.heap.size ≤ wb ∧ ISt x0 wr b jb pb xb (fun x => x = wb) 30 20 4 false L A hn T T T ∧ WR wr wb 20 T
/-- Within a transaction: the row wb tells what was committed, nb what the transaction sees. -/
def FIn (x0 : World) (b jb pb xb : Nat) (L : List ByteArray) (A : List (Nat × Nat)) (hn : Nat) (T : Nat → En) (wb nb : Nat) (wr : World) : Prop :=
  ∃ T', ISt x0 wr b jb pb xb (fun x => x = wb ∨ x = nb) 30 20 4 true L A hn T T' T' ∧ WR wr nb 20 T' ∧ WR wr wb 20 T
end Go.Proofs.YtnfcnpolflfpfaaGreatDoor
