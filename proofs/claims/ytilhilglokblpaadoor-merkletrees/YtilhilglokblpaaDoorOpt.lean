import Derived.Test.YtilhilglokblpaaDoorOsm
import Derived.Lib.SmallJoins
namespace Go.Proofs.YtilhilglokblpaaDoor
open Go.ChangeShapes Go.WideShapes Go.ChangeAt Go.RowKit
set_option maxRecDepth 100000
/-- a script in memory: kinds, which tree, numbers, texts -/
def OpT (w : World) (B : Nat) (p : Option Addr) (n : Nat) (K O N : Nat → Int) (S : Nat → ByteArray) : Prop := ∀ i, i < n → ∃ g o, p = some ⟨g, o, none⟩ ∧ g < B ∧ w.cell? ⟨g, o + i * 4, none⟩ = some (.int .i64 (K i)) ∧ w.cell? ⟨g, o + i * 4 + 1, none⟩ = some (.int .i64 (O i)) ∧ w.cell? ⟨g, o + i * 4 + 2, none⟩ = some (.int .i64 (N i)) ∧ w.cell? ⟨g, o + i * 4 + 3, none⟩ = some (.string (S i))
theorem OpT.below {w w' : World} {B : Nat} {p : Option Addr} {n : Nat} {K O N : Nat → Int} {S : Nat → ByteArray} (h : OpT w B p n K O N S) (hb : Below B w w') : OpT w' B p n K O N S := fun i hi => by
  obtain ⟨g, o, e, hg, h0, h1, h2, h3⟩ := h i hi
  exact ⟨g, o, e, hg, (hb.cell (p := ⟨g, o + i * 4, none⟩) hg).trans h0, (hb.cell (p := ⟨g, o + i * 4 + 1, none⟩) hg).trans h1, (hb.cell (p := ⟨g, o + i * 4 + 2, none⟩) hg).trans h2, (hb.cell (p := ⟨g, o + i * 4 + 3, none⟩) hg).trans h3⟩
theorem open_opt {H : Type} {enc : TypeId × Value → H} {w : World} {base : Nat} {spare : Nat → Bool} {held : Bool} {fuel : Nat} {a : Option Addr} {len cap : Nat} {x : DataW H × List MemPlace} (h : DataW.trod enc Tryd.prog w base spare held fuel 38 [.slice a len cap] = some x)
    (hs : ∀ n ∈ x.1.weights Tryd.prog 38, n ≤ reachBytes) :
    ∃ (K O N : Nat → Int) (S : Nat → ByteArray), OpT w w.heap.size a len K O N S ∧ (∀ i, i < len → I64 (O i) ∧ I64 (N i) ∧ (S i).size ≤ 140737488351232) ∧ len ≤ 9223372036854775807 := by
  rcases Deep.open_slice Tryd.underlying38 h with ⟨hcs, _⟩ | ⟨ad, ln, cp, m, n, D, Pl, hcs, hb, hl, hm, hmm, rfl, hx⟩
  · simp at hcs
    obtain ⟨rfl, rfl, rfl⟩ := hcs
    exact ⟨fun _ => 0, fun _ => 0, fun _ => 0, fun _ => ⟨#[]⟩, fun i hi => absurd hi (by omega), fun i hi => absurd hi (by omega), by omega⟩
  · simp at hcs
    obtain ⟨rfl, rfl, rfl⟩ := hcs
    have hlm : len ≤ m := by rw [hmm]; split <;> omega
    have hML : (maxLen : Nat) = 9223372036854775807 := rfl
    have each : ∀ i, i < len → ∃ q : Int × Int × Int × ByteArray, w.cell? (ad.add (i * 4)) = some (.int .i64 q.1) ∧ w.cell? (ad.add (i * 4 + 1)) = some (.int .i64 q.2.1) ∧ w.cell? (ad.add (i * 4 + 2)) = some (.int .i64 q.2.2.1) ∧ w.cell? (ad.add (i * 4 + 3)) = some (.string q.2.2.2) ∧ (Lit.int .i64 q.2.1).wf = true ∧ (Lit.int .i64 q.2.2.1).wf = true ∧ q.2.2.2.size ≤ 140737488351232 := by
      intro i hi
      obtain ⟨cs', h1, h2⟩ := hx i (by omega)
      rw [show Tryd.prog.cellsOf 42 = 4 by kernel_rfl] at h1
      obtain ⟨_, hlen, hcell⟩ := World.cells?_some h1
      obtain ⟨y0, y1, y2, y3, k, hxy, _, g0, g1, g2, g3⟩ := Go.Joins.trod_struct4 Tryd.underlying42 h2
      match cs', hlen with
      | [v0, v1, v2, v3], _ =>
        simp only [show Tryd.prog.cellsOf 3 = 1 by kernel_rfl, show Tryd.prog.cellsOf 9 = 1 by kernel_rfl] at g0 g1 g2 g3
        obtain ⟨z0, e0, d0, f0⟩ := DataW.trod_int Tryd.underlying3 g0
        obtain ⟨z1, e1, d1, f1⟩ := DataW.trod_int Tryd.underlying3 g1
        obtain ⟨z2, e2, d2, f2⟩ := DataW.trod_int Tryd.underlying3 g2
        obtain ⟨z3, e3, d3, _⟩ := DataW.trod_string Tryd.underlying9 g3
        simp at e0 e1 e2 e3
        subst e0 e1 e2 e3
        have c0 := hcell 0 (by omega)
        have c1 := hcell 1 (by omega)
        have c2 := hcell 2 (by omega)
        have c3 := hcell 3 (by omega)
        rw [Deep.add_add] at c0 c1 c2 c3
        have hw : z3.data.toList.length ≤ reachBytes := by
          refine hs _ ?_
          simp only [DataW.weights, Tryd.underlying38, List.mem_cons, List.mem_append]
          refine Or.inr (Or.inl (weightsAll_mem (d := D i) (List.mem_map.2 ⟨i, by simpa using by omega, rfl⟩) _ ?_))
          rw [show D i = .agg [y0.1, y1.1, y2.1, y3.1] from (Prod.mk.inj hxy).1]
          simp only [DataW.weights, Tryd.underlying42]
          rw [show y3.1 = .lit (.string z3.data.toList) from (Prod.mk.inj d3).1]
          simp [DataW.weightsEach, DataW.weights]
        have e : z3.data.toList.length = z3.size := rfl
        unfold reachBytes at hw
        exact ⟨(z0, z1, z2, z3), by simpa using c0, by simpa using c1, by simpa using c2, by simpa using c3, f1, f2, by show z3.size ≤ _; omega⟩
    obtain ⟨q, hq⟩ := Deep.choose_lt each
    refine ⟨fun i => (q i).1, fun i => (q i).2.1, fun i => (q i).2.2.1, fun i => (q i).2.2.2, fun i hi => ?_, fun i hi => ?_, by omega⟩
    · obtain ⟨q0, q1, q2, q3, _⟩ := hq i hi
      obtain ⟨b, off, spot⟩ := ad
      have z0 := (hq 0 (by omega)).1
      have hspot : spot = none := by simpa [Addr.add] using World.cell?_spot z0
      subst hspot
      rw [Addr.add_mid] at q0 q1 q2 q3
      exact ⟨b, off, rfl, World.block_lt_of_cell? w _ q0, q0, by simpa [Nat.add_assoc] using q1, by simpa [Nat.add_assoc] using q2, by simpa [Nat.add_assoc] using q3⟩
    · obtain ⟨_, _, _, _, f1, f2, f3⟩ := hq i hi
      exact ⟨wf_I64 f1, wf_I64 f2, f3⟩
end Go.Proofs.YtilhilglokblpaaDoor
