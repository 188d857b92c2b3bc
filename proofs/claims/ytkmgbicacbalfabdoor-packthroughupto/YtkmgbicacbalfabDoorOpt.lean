import Derived.Test.YtkmgbicacbalfabDoorLwh
import Derived.Test.YtkmgbicacbalfabDoorFre
namespace Go.Proofs.YtkmgbicacbalfabDoor
open Go.ChangeShapes Go.WideShapes Go.ChangeAt Go.RowKit
theorem bulk_lits {H : Type} (k : IntKind) : ∀ l : List Int, Rows.uptoBulkAll (lits (H := H) k l) = l.length
  | [] => rfl
  | _ :: r => by
    have := bulk_lits (H := H) k r
    simp only [lits, List.map_cons, Rows.uptoBulkAll, Rows.uptoBulk, List.length_cons] at this ⊢
    omega
set_option maxRecDepth 100000 in
/-- A list of numbers that came in. -/
theorem open_inl {H : Type} {enc : TypeId × Value → H} {w : World} {base : Nat} {spare : Nat → Bool} {held : Bool} {fuel : Nat} {a : Option Addr} {len cap : Nat} {x : DataW H × List MemPlace} (h : DataW.trod enc Tryd.prog w base spare held fuel 26 [.slice a len cap] = some x) :
    ∃ l : List Int, len = l.length ∧ Inl w a l ∧ (∀ z ∈ l, I64 z) ∧ l.length ≤ Rows.uptoBulk x.1 := by
  rcases open_ints Tryd.underlying26 Tryd.underlying3 (by kernel_rfl) h with ⟨hcs, _⟩ | ⟨ad, l, c, zs, hcs, _, hl, hm, hz, hd, hcell, hwz⟩
  · simp at hcs
    obtain ⟨rfl, rfl, rfl⟩ := hcs
    exact ⟨[], rfl, .inl rfl, fun z hz => (by cases hz), Nat.zero_le _⟩
  · simp at hcs
    obtain ⟨rfl, rfl, rfl⟩ := hcs
    have hzl : len ≤ zs.length := by rw [hz]; split <;> omega
    have hlen : (zs.take len).length = len := by simp; omega
    refine ⟨zs.take len, hlen.symm, ?_, fun z hzm => wf_I64 (hwz z (List.mem_of_mem_take hzm)), ?_⟩
    · by_cases h0 : 0 < len
      · have hc0 := hcell 0 (by omega)
        obtain ⟨b, off, spot⟩ := ad
        have hspot : spot = none := by simpa [Addr.add] using World.cell?_spot hc0
        subst hspot
        refine .inr ⟨b, off, rfl, World.block_lt_of_cell? w _ hc0, fun j hj => ?_⟩
        rw [hlen] at hj
        have hc := hcell j (by omega)
        rw [Addr.add_mid] at hc
        refine hc.trans ?_
        simp [hj]
      · refine .inl (List.eq_nil_of_length_eq_zero ?_)
        rw [hlen]; omega
    · rw [hd]
      simp only [Rows.uptoBulk, bulk_lits]
      omega
theorem bulk_app {H : Type} : ∀ (l m : List (DataW H)), Rows.uptoBulkAll (l ++ m) = Rows.uptoBulkAll l + Rows.uptoBulkAll m
  | [], m => by simp [Rows.uptoBulkAll]
  | d :: l, m => by simp only [List.cons_append, Rows.uptoBulkAll, bulk_app l m]; omega
theorem bulk_len {H : Type} (D : Nat → DataW H) : ∀ n, (∀ i, i < n → 1 ≤ Rows.uptoBulk (D i)) → n ≤ Rows.uptoBulkAll ((List.range n).map D)
  | 0, _ => Nat.zero_le _
  | n + 1, h => by
    have h1 := bulk_len D n (fun i hi => h i (by omega))
    have h2 := h n (by omega)
    rw [List.range_succ, List.map_append, bulk_app]
    simp only [List.map_cons, List.map_nil, Rows.uptoBulkAll]
    omega
theorem bulk_each {H : Type} (D : Nat → DataW H) : ∀ n i, i < n → Rows.uptoBulk (D i) ≤ Rows.uptoBulkAll ((List.range n).map D)
  | n + 1, i, h => by
    rw [List.range_succ, List.map_append, bulk_app]
    simp only [List.map_cons, List.map_nil, Rows.uptoBulkAll]
    by_cases hi : i < n
    · have := bulk_each D n i hi; omega
    · obtain rfl : i = n := by omega
      omega
set_option maxRecDepth 100000 in
/-- An argument []Op: its fields, its lists, and how great they are. -/
theorem open_op3 {H : Type} {enc : TypeId × Value → H} {w : World} {base : Nat} {spare : Nat → Bool} {held : Bool} {fuel : Nat} {a : Option Addr} {len cap : Nat} {x : DataW H × List MemPlace} (h : DataW.trod enc Tryd.prog w base spare held fuel 22 [.slice a len cap] = some x) :
    len ≤ Rows.uptoBulk x.1 ∧ ∃ (KD NN : Nat → Int) (PP : Nat → Option Addr) (LL : Nat → List Int) (CC : Nat → Nat) (TT : Nat → ByteArray),
      (∀ i, i < len → ∃ pb po, a = some ⟨pb, po, none⟩ ∧ pb < w.heap.size ∧ w.cell? ⟨pb, po + i * 4, none⟩ = some (.int .i64 (KD i)) ∧ w.cell? ⟨pb, po + i * 4 + 1, none⟩ = some (.int .i64 (NN i)) ∧ w.cell? ⟨pb, po + i * 4 + 2, none⟩ = some (.slice (PP i) (LL i).length (CC i)) ∧ w.cell? ⟨pb, po + i * 4 + 3, none⟩ = some (.string (TT i))) ∧
      (∀ i, i < len → Inl w (PP i) (LL i) ∧ I64 (KD i) ∧ I64 (NN i) ∧ (∀ z ∈ LL i, I64 z) ∧ (LL i).length ≤ Rows.uptoBulk x.1 ∧ (TT i).size ≤ Rows.uptoBulk x.1) := by
  rcases Deep.open_slice Tryd.underlying22 h with ⟨hcs, _⟩ | ⟨ad, ln, cp, m, n, D, Pl, hcs, hb, hl, hm, hmm, rfl, hx⟩
  · simp at hcs
    obtain ⟨rfl, rfl, rfl⟩ := hcs
    exact ⟨Nat.zero_le _, fun _ => 0, fun _ => 0, fun _ => none, fun _ => [], fun _ => 0, fun _ => ⟨#[]⟩, fun i hi => absurd hi (by omega), fun i hi => absurd hi (by omega)⟩
  · simp at hcs
    obtain ⟨rfl, rfl, rfl⟩ := hcs
    have hlm : len ≤ m := by rw [hmm]; split <;> omega
    have each : ∀ i, i < len → ∃ q : Int × Int × (Option Addr × List Int × Nat) × ByteArray, w.cell? (ad.add (i * 4)) = some (.int .i64 q.1) ∧ w.cell? (ad.add (i * 4 + 1)) = some (.int .i64 q.2.1) ∧ w.cell? (ad.add (i * 4 + 2)) = some (.slice q.2.2.1.1 q.2.2.1.2.1.length q.2.2.1.2.2) ∧ w.cell? (ad.add (i * 4 + 3)) = some (.string q.2.2.2) ∧
        Inl w q.2.2.1.1 q.2.2.1.2.1 ∧ (∀ z ∈ q.2.2.1.2.1, I64 z) ∧ q.2.2.1.2.1.length ≤ Rows.uptoBulk (D i) ∧ q.2.2.2.size ≤ Rows.uptoBulk (D i) ∧ 1 ≤ Rows.uptoBulk (D i) ∧ I64 q.1 ∧ I64 q.2.1 := by
      intro i hi
      obtain ⟨cs', h1, h2⟩ := hx i (by omega)
      rw [show Tryd.prog.cellsOf 28 = 4 by kernel_rfl] at h1
      obtain ⟨_, hlen, hcell⟩ := World.cells?_some h1
      obtain ⟨y0, y1, y2, y3, k, hxy, _, g0, g1, g2, g3⟩ := Go.Joins.trod_struct4 Tryd.underlying28 h2
      match cs', hlen with
      | [v0, v1, v2, v3], _ =>
        simp only [show Tryd.prog.cellsOf 3 = 1 by kernel_rfl, show Tryd.prog.cellsOf 9 = 1 by kernel_rfl, show Tryd.prog.cellsOf 26 = 1 by kernel_rfl] at g0 g1 g2 g3
        obtain ⟨z0, e0, d0, f0⟩ := DataW.trod_int Tryd.underlying3 g0
        obtain ⟨z1, e1, d1, f1⟩ := DataW.trod_int Tryd.underlying3 g1
        obtain ⟨z3, e3, d3, _⟩ := DataW.trod_string Tryd.underlying9 g3
        simp at e0 e1 e3 g2
        subst e0 e1 e3
        obtain ⟨p, nn, c, hq⟩ := Go.Joins.slice_form Tryd.underlying26 g2
        obtain rfl : v2 = .slice p nn c := by simpa using hq
        obtain ⟨l, rfl, hl1, hl2, hl3⟩ := open_inl g2
        have c0 := hcell 0 (by omega)
        have c1 := hcell 1 (by omega)
        have c2 := hcell 2 (by omega)
        have c3 := hcell 3 (by omega)
        rw [Deep.add_add] at c0 c1 c2 c3
        simp only [Prod.mk.injEq] at hxy
        rw [hxy.1, d0, d1, d3]
        refine ⟨(z0, z1, (p, l, c), z3), by simpa using c0, by simpa using c1, by simpa using c2, by simpa using c3, hl1, hl2, ?_, ?_, ?_, wf_I64 f0, wf_I64 f1⟩
        · simp only [Rows.uptoBulk, Rows.uptoBulkAll]
          show l.length ≤ _
          omega
        · simp only [Rows.uptoBulk, Rows.uptoBulkAll]
          have : z3.data.toList.length = z3.size := rfl
          show z3.size ≤ _
          omega
        · simp only [Rows.uptoBulk]; omega
    obtain ⟨q, hq⟩ := Deep.choose_lt each
    have hbig : ∀ i, i < len → Rows.uptoBulk (D i) ≤ Rows.uptoBulkAll ((List.range len).map D) := fun i hi => bulk_each D len i hi
    refine ⟨?_, fun i => (q i).1, fun i => (q i).2.1, fun i => (q i).2.2.1.1, fun i => (q i).2.2.1.2.1, fun i => (q i).2.2.1.2.2, fun i => (q i).2.2.2, fun i hi => ?_, fun i hi => ?_⟩
    · have := bulk_len D len (fun i hi => (hq i hi).2.2.2.2.2.2.2.2.1)
      simp only [Rows.uptoBulk]
      omega
    · obtain ⟨q0, q1, q2, q3, _⟩ := hq i hi
      obtain ⟨b, off, spot⟩ := ad
      have z0 := (hq 0 (by omega)).1
      have hspot : spot = none := by simpa [Addr.add] using World.cell?_spot z0
      subst hspot
      rw [Addr.add_mid] at q0 q1 q2 q3
      exact ⟨b, off, rfl, World.block_lt_of_cell? w _ q0, q0, by simpa [Nat.add_assoc] using q1, by simpa [Nat.add_assoc] using q2, by simpa [Nat.add_assoc] using q3⟩
    · obtain ⟨_, _, _, _, f0, f1, f2, f3, _, f4, f5⟩ := hq i hi
      have := hbig i hi
      refine ⟨f0, f4, f5, f1, ?_, ?_⟩
      · simp only [Rows.uptoBulk]; show (q i).2.2.1.2.1.length ≤ _; omega
      · simp only [Rows.uptoBulk]; show (q i).2.2.2.size ≤ _; omega
end Go.Proofs.YtkmgbicacbalfabDoor
