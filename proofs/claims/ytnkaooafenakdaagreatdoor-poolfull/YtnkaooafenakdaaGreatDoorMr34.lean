import Derived.Test.YtnkaooafenakdaaGreatDoorMr33
import Derived.Deep.DeepHandedRow
import Derived.Lib.SmallJoins
import Derived.Test.YtnkaooafenakdaaGreatDoorMr05
namespace Go.Proofs.YtnkaooafenakdaaGreatDoor
open Go.RowKit
/-- Steps of a script that lie in memory. -/
structure Op6 where
  kind : Int
  n : Int
  s : ByteArray
def op60 : Op6 := ⟨0, 0, ⟨#[]⟩⟩
instance : Inhabited Op6 := ⟨op60⟩
def Ops6 (w : World) (p : Option Addr) (l : List Op6) : Prop := ∀ i, i < l.length → ∃ g o v, p = some ⟨g, o, none⟩ ∧ g < w.heap.size ∧ w.cell? ⟨g, o + i * 4, none⟩ = some (.int .i64 (l.getD i op60).kind) ∧ w.cell? ⟨g, o + i * 4 + 1, none⟩ = some (.int .i64 (l.getD i op60).n) ∧ w.cell? ⟨g, o + i * 4 + 2, none⟩ = some (.string (l.getD i op60).s) ∧ w.cell? ⟨g, o + i * 4 + 3, none⟩ = some v ∧ ∃ sp sl sc, v = .slice sp sl sc
theorem Ops6.below {w w' : World} {B : Nat} {p : Option Addr} {l : List Op6} (h : Ops6 w p l) (hb : Below B w w') (hB : w.heap.size ≤ B) : Ops6 w' p l := fun i hi => by
  obtain ⟨g, o, v, e, hg, h0, h1, h2, h3, h4⟩ := h i hi
  exact ⟨g, o, v, e, Nat.lt_of_lt_of_le hg hb.size, (hb.cell (p := ⟨g, o + i * 4, none⟩) (by show g < B; omega)).trans h0, (hb.cell (p := ⟨g, o + i * 4 + 1, none⟩) (by show g < B; omega)).trans h1, (hb.cell (p := ⟨g, o + i * 4 + 2, none⟩) (by show g < B; omega)).trans h2, (hb.cell (p := ⟨g, o + i * 4 + 3, none⟩) (by show g < B; omega)).trans h3, h4⟩
theorem bulk_app6 {H : Type} : ∀ (l m : List (DataW H)), Rows.uptoBulkAll (l ++ m) = Rows.uptoBulkAll l + Rows.uptoBulkAll m
  | [], m => by simp [Rows.uptoBulkAll]
  | d :: l, m => by simp only [List.cons_append, Rows.uptoBulkAll, bulk_app6 l m]; omega
theorem bulk_len6 {H : Type} (D : Nat → DataW H) : ∀ n, (∀ i, i < n → 5 ≤ Rows.uptoBulk (D i)) → 5 * n ≤ Rows.uptoBulkAll ((List.range n).map D)
  | 0, _ => Nat.zero_le _
  | n + 1, h => by
    have h1 := bulk_len6 D n (fun i hi => h i (by omega))
    have h2 := h n (by omega)
    rw [List.range_succ, List.map_append, bulk_app6]
    simp only [List.map_cons, List.map_nil, Rows.uptoBulkAll]
    omega
theorem bulk_each6 {H : Type} (D : Nat → DataW H) : ∀ n i, i < n → Rows.uptoBulk (D i) ≤ Rows.uptoBulkAll ((List.range n).map D)
  | n + 1, i, h => by
    rw [List.range_succ, List.map_append, bulk_app6]
    simp only [List.map_cons, List.map_nil, Rows.uptoBulkAll]
    by_cases hi : i < n
    · have := bulk_each6 D n i hi; omega
    · obtain rfl : i = n := by omega
      omega
theorem bulk_pos6 {H : Type} (d : DataW H) : 1 ≤ Rows.uptoBulk d := by
  cases d with
  | lit l => cases l <;> simp [Rows.uptoBulk]
  | _ => simp [Rows.uptoBulk]
def Wop (l : List Op6) : Prop := ∀ i, I64 (l.getD i op60).kind ∧ I64 (l.getD i op60).n
set_option maxRecDepth 100000 in
theorem open_ops6 {H : Type} {enc : TypeId × Value → H} {w : World} {base : Nat} {spare : Nat → Bool} {held : Bool} {fuel : Nat} {a : Option Addr} {len cap : Nat} {x : DataW H × List MemPlace} (h : DataW.trod enc Tryz.prog w base spare held fuel 36 [.slice a len cap] = some x) :
    ∃ l : List Op6, len = l.length ∧ Ops6 w a l ∧ Wop l ∧ len ≤ 9223372036854775807 ∧ (5 * len ≤ Rows.uptoBulk x.1 ∧ ∀ i, i < len → (l.getD i op60).s.size ≤ Rows.uptoBulk x.1) := by
  rcases Deep.open_slice Tryz.underlying36 h with ⟨hcs, _⟩ | ⟨ad, ln, cp, m, n, D, Pl, hcs, hb, hl, hm, hmm, rfl, hx⟩
  · simp at hcs
    obtain ⟨rfl, rfl, rfl⟩ := hcs
    exact ⟨[], rfl, fun i hi => absurd hi (Nat.not_lt_zero i), fun i => by simp [op60, I64], by omega, by omega, fun i hi => by omega⟩
  · simp at hcs
    obtain ⟨rfl, rfl, rfl⟩ := hcs
    have hlm : len ≤ m := by rw [hmm]; split <;> omega
    have hML : (maxLen : Nat) = 9223372036854775807 := rfl
    have each : ∀ i, i < len → ∃ q : Op6 × Value, w.cell? (ad.add (i * 4)) = some (.int .i64 q.1.kind) ∧ w.cell? (ad.add (i * 4 + 1)) = some (.int .i64 q.1.n) ∧ w.cell? (ad.add (i * 4 + 2)) = some (.string q.1.s) ∧ w.cell? (ad.add (i * 4 + 3)) = some q.2 ∧
        (Lit.int .i64 q.1.kind).wf = true ∧ (Lit.int .i64 q.1.n).wf = true ∧ q.1.s.size ≤ Rows.uptoBulk (D i) ∧ 5 ≤ Rows.uptoBulk (D i) ∧ ∃ sp sl sc, q.2 = .slice sp sl sc := by
      intro i hi
      obtain ⟨cs', h1, h2⟩ := hx i (by omega)
      rw [show Tryz.prog.cellsOf 39 = 4 by kernel_rfl] at h1
      obtain ⟨_, hlen, hcell⟩ := World.cells?_some h1
      obtain ⟨y0, y1, y2, y3, k, hxy, _, g0, g1, g2, g3⟩ := Go.Joins.trod_struct4 Tryz.underlying39 h2
      match cs', hlen with
      | [v0, v1, v2, v3], _ =>
        simp only [show Tryz.prog.cellsOf 3 = 1 by kernel_rfl, show Tryz.prog.cellsOf 9 = 1 by kernel_rfl, show Tryz.prog.cellsOf 22 = 1 by kernel_rfl] at g0 g1 g2 g3
        obtain ⟨z0, e0, d0, f0⟩ := DataW.trod_int Tryz.underlying3 g0
        obtain ⟨z1, e1, d1, f1⟩ := DataW.trod_int Tryz.underlying3 g1
        obtain ⟨z2, e2, d2, _⟩ := DataW.trod_string Tryz.underlying9 g2
        simp at e0 e1 e2 g3
        subst e0 e1 e2
        obtain ⟨p3, n3, c3', hq3⟩ := Go.Joins.slice_form Tryz.underlying22 g3
        obtain rfl : v3 = .slice p3 n3 c3' := by simpa using hq3
        have c0 := hcell 0 (by omega)
        have c1 := hcell 1 (by omega)
        have c2 := hcell 2 (by omega)
        have c3 := hcell 3 (by omega)
        rw [Deep.add_add] at c0 c1 c2 c3
        simp only [Prod.mk.injEq] at hxy
        rw [hxy.1, d0, d1, d2]
        have h3p := bulk_pos6 y3.1
        refine ⟨(⟨z0, z1, z2⟩, .slice p3 n3 c3'), by simpa using c0, by simpa using c1, by simpa using c2, by simpa using c3, f0, f1, ?_, ?_, ⟨_, _, _, rfl⟩⟩
        · simp only [Rows.uptoBulk, Rows.uptoBulkAll]
          have : z2.data.toList.length = z2.size := rfl
          show z2.size ≤ _
          omega
        · simp only [Rows.uptoBulk, Rows.uptoBulkAll]
          omega
    obtain ⟨q, hq⟩ := Deep.choose_lt each
    have hg : ∀ i, i < len → ((List.range len).map fun i => (q i).1).getD i op60 = (q i).1 := fun i hi => by simp [List.getD_eq_getElem?_getD, hi]
    refine ⟨(List.range len).map fun i => (q i).1, by simp, fun i hi => ?_, fun i => ?_, by omega, ?_, fun i hi => ?_⟩
    · have hi' : i < len := by simpa using hi
      rw [hg i hi']
      obtain ⟨q0, q1, q2, q3, _, _, _, _, q4⟩ := hq i hi'
      obtain ⟨b, off, spot⟩ := ad
      have z0 := (hq 0 (by omega)).1
      have hspot : spot = none := by simpa [Addr.add] using World.cell?_spot z0
      subst hspot
      rw [Addr.add_mid] at q0 q1 q2 q3
      exact ⟨b, off, _, rfl, World.block_lt_of_cell? w _ q0, q0, by simpa [Nat.add_assoc] using q1, by simpa [Nat.add_assoc] using q2, by simpa [Nat.add_assoc] using q3, q4⟩
    · by_cases hi : i < len
      · rw [hg i hi]
        obtain ⟨_, _, _, _, f0, f1, _⟩ := hq i hi
        exact ⟨wf_I64 f0, wf_I64 f1⟩
      · have : ((List.range len).map fun i => (q i).1).getD i op60 = op60 := by simp [List.getD_eq_getElem?_getD, hi]
        rw [this]
        simp [op60, I64]
    · have := bulk_len6 D len (fun i hi => (hq i hi).2.2.2.2.2.2.2.1)
      simp only [Rows.uptoBulk]
      omega
    · rw [hg i hi]
      have h1 := (hq i hi).2.2.2.2.2.2.1
      have h2 := bulk_each6 D len i hi
      simp only [Rows.uptoBulk]
      omega
end Go.Proofs.YtnkaooafenakdaaGreatDoor

namespace Go.Proofs.YtnkaooafenakdaaGreatDoor
open Go.ChangeShapes Go.WideShapes Go.ChangeAt Go.RowKit
set_option maxRecDepth 100000 in
/-- An argument []int. -/
theorem open_il {H : Type} {enc : TypeId × Value → H} {w : World} {base : Nat} {spare : Nat → Bool} {held : Bool} {fuel : Nat} {a : Option Addr} {len cap : Nat} {x : DataW H × List MemPlace} (h : DataW.trod enc Tryz.prog w base spare held fuel 22 [.slice a len cap] = some x) :
    ∃ l : List Int, len = l.length ∧ Ints w a l ∧ (∀ i, I64 (l.getD i 0)) ∧ len ≤ 9223372036854775807 := by
  have hML : (maxLen : Nat) = 9223372036854775807 := rfl
  rcases open_ints Tryz.underlying22 Tryz.underlying3 (by kernel_rfl) h with ⟨hcs, _⟩ | ⟨ad, l, c, zs, hcs, _, hl, hm, hz, hd, hcell, hwz⟩
  · simp at hcs
    obtain ⟨rfl, rfl, rfl⟩ := hcs
    exact ⟨[], rfl, fun j hj => (by cases hj), fun i => by simp [I64], by omega⟩
  · simp at hcs
    obtain ⟨rfl, rfl, rfl⟩ := hcs
    have hzl : len ≤ zs.length := by rw [hz]; split <;> omega
    have hlen : (zs.take len).length = len := by simp; omega
    refine ⟨zs.take len, hlen.symm, fun j hj => ?_, fun i => ?_, by omega⟩
    · rw [hlen] at hj
      have hc := hcell j (by omega)
      have hc0 := hcell 0 (by omega)
      obtain ⟨b, off, spot⟩ := ad
      have hspot : spot = none := by simpa [Addr.add] using World.cell?_spot hc0
      subst hspot
      rw [Addr.add_mid] at hc
      refine ⟨b, off, rfl, World.block_lt_of_cell? w _ hc, hc.trans ?_⟩
      simp [hj]
    · by_cases hi : i < (zs.take len).length
      · rw [List.getD_eq_getElem?_getD, List.getElem?_eq_getElem hi]
        exact wf_I64 (hwz _ (List.mem_of_mem_take (List.getElem_mem hi)))
      · rw [List.getD_eq_getElem?_getD, List.getElem?_eq_none (by omega)]
        simp [I64]
set_option maxRecDepth 100000 in
/-- And how long it is in its datum. -/
theorem open_ild {H : Type} {enc : TypeId × Value → H} {w : World} {base : Nat} {spare : Nat → Bool} {held : Bool} {fuel : Nat} {a : Option Addr} {len cap : Nat} {x : DataW H × List MemPlace} (h : DataW.trod enc Tryz.prog w base spare held fuel 22 [.slice a len cap] = some x) :
    len = 0 ∨ ∃ es sp, x.1 = .slice es sp ∧ es.length = len := by
  rcases open_ints Tryz.underlying22 Tryz.underlying3 (by kernel_rfl) h with ⟨hcs, _⟩ | ⟨ad, l, c, zs, hcs, _, hl, hm, hz, hd, hcell, hwz⟩
  · simp at hcs
    exact .inl hcs.2.1
  · simp at hcs
    obtain ⟨rfl, rfl, rfl⟩ := hcs
    have hzl : len ≤ zs.length := by rw [hz]; split <;> omega
    refine .inr ⟨_, _, by rw [hd], ?_⟩
    simp [lits]
    omega
end Go.Proofs.YtnkaooafenakdaaGreatDoor
