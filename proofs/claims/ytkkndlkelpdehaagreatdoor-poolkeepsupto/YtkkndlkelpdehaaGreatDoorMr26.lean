import Derived.Test.YtkkndlkelpdehaaGreatDoorMr25
import Derived.BigQuiet
import Derived.Test.YtkkndlkelpdehaaGreatDoorMr12
import Derived.Test.YtkkndlkelpdehaaGreatDoorCards
import Derived.Test.YtkkndlkelpdehaaGreatDoorTie
import Derived.ProofKit
import Derived.OpenShut
import Derived.ShutString
import Derived.SizedLaws
import Derived.Deep.DeepHandedRow
import Derived.LaidLaws
import Derived.LaidHandle
import Derived.Lib.LaidTab
import Derived.Deep.Slices
import Derived.Deep.Strs
import Derived.Lib.SmallJoins
namespace Go.Proofs.YtkkndlkelpdehaaGreatDoor
open Go.RowKit
/-- The kind of a commit's i-th act, as it is told. -/
def kindC (i : Nat) : Int := if i = 16 ∨ i = 18 ∨ i = 35 ∨ i = 37 then 2 else 1
theorem act_rec (l : List Wr1) (h : l.length ≤ 16) (i : Nat) (hi : i < 16) : (actW (recL (filled l)))[i]? = some (0, 2 + i) := by
  have h16 := filled_len l h
  have e : (actW (recL (filled l)))[i]? = some (0, (((2 + i : Nat) : Int)).toNat) := by simp [actW, recL, h16, hi]
  rw [e, Int.toNat_natCast]
theorem act_fill (l : List Wr1) (h : GoodL l) (i : Nat) (hi : i < 16) : ∃ x, 18 ≤ x ∧ (actW (filled l))[i]? = some (0, x) := by
  have h16 := filled_len l h.len
  have hi' : i < (filled l).length := by omega
  refine ⟨((filled l)[i]).1.toNat, ?_, by simp [actW, hi']⟩
  have hm := List.getElem_mem hi'
  rcases List.mem_append.1 hm with q | q
  · have := h.free _ q
    omega
  · have := List.eq_of_mem_replicate q
    rw [this]
    decide
theorem comA_form (l : List Wr1) : comA l = actW (recL (filled l)) ++ ([(1, 0), (0, 1), (1, 0)] ++ (actW (filled l) ++ [(1, 0), (0, 1), (1, 0)])) := by simp [comA]
/-- The i-th act of a commit. -/
theorem comA_at (l : List Wr1) (h : GoodL l) (i : Nat) (hi : i < 38) : ∃ p, (comA l)[i]? = some p ∧ ∃ y : Nat, tel1 p = [.int .i64 (kindC i), .int .i64 (y : Int)] ∧ (19 ≤ i → i < 35 → 18 ≤ y) ∧ (¬ (19 ≤ i ∧ i < 35) → y = if i < 16 then 2 + i else if i = 17 ∨ i = 36 then 1 else 0) := by
  have h16 := filled_len l h.len
  have e1 : (actW (recL (filled l))).length = 16 := by simp [actW, recL_len, h16]
  have e2 : (actW (filled l)).length = 16 := by simp [actW, h16]
  rw [comA_form]
  by_cases c1 : i < 16
  · refine ⟨(0, 2 + i), by rw [List.getElem?_append_left (by omega)]; exact act_rec l h.len i c1, 2 + i, ?_, by omega, fun _ => by rw [if_pos c1]⟩
    rw [kindC, if_neg (by omega)]; rfl
  · rw [List.getElem?_append_right (by omega), e1]
    by_cases c2 : i < 19
    · rw [List.getElem?_append_left (by simp; omega)]
      obtain q | q | q : i = 16 ∨ i = 17 ∨ i = 18 := by omega
      · subst q; exact ⟨(1, 0), rfl, 0, rfl, by omega, fun _ => rfl⟩
      · subst q; exact ⟨(0, 1), rfl, 1, rfl, by omega, fun _ => rfl⟩
      · subst q; exact ⟨(1, 0), rfl, 0, rfl, by omega, fun _ => rfl⟩
    · rw [List.getElem?_append_right (by simp; omega)]
      have e3 : i - 16 - ([(1, 0), (0, 1), (1, 0)] : List (Nat × Nat)).length = i - 19 := by simp; omega
      rw [e3]
      by_cases c3 : i < 35
      · rw [List.getElem?_append_left (by omega)]
        obtain ⟨x, hx, ex⟩ := act_fill l h (i - 19) (by omega)
        refine ⟨(0, x), ex, x, ?_, fun _ _ => hx, fun q => absurd ⟨by omega, c3⟩ q⟩
        rw [kindC, if_neg (by omega)]; rfl
      · rw [List.getElem?_append_right (by omega), e2]
        obtain q | q | q : i = 35 ∨ i = 36 ∨ i = 37 := by omega
        · subst q; exact ⟨(1, 0), rfl, 0, rfl, by omega, fun _ => rfl⟩
        · subst q; exact ⟨(0, 1), rfl, 1, rfl, by omega, fun _ => rfl⟩
        · subst q; exact ⟨(1, 0), rfl, 0, rfl, by omega, fun _ => rfl⟩
theorem tels_at : ∀ (l : List (Nat × Nat)) (k : Nat) (p : Nat × Nat) (a b : Value), l[k]? = some p → tel1 p = [a, b] → (tels l)[k * 2]? = some a ∧ (tels l)[k * 2 + 1]? = some b
  | q :: r, 0, p, a, b, h, e => by
    simp at h
    subst h
    simp [tels, e]
  | q :: r, k + 1, p, a, b, h, e => by
    have := tels_at r k p a b (by simpa using h) e
    rw [show (k + 1) * 2 = k * 2 + 2 by omega]
    have hl : (tel1 q).length = 2 := tel1_len q
    simp only [tels]
    constructor
    · rw [List.getElem?_append_right (by omega), hl]; simpa using this.1
    · rw [List.getElem?_append_right (by omega), hl, show k * 2 + 2 + 1 - 2 = k * 2 + 1 by omega]; exact this.2
/-- The two commits' acts, as they lie in the trace. -/
theorem trace_at {w : World} {g : Nat} {l1 l2 : List Wr1} (h1 : GoodL l1) (h2 : GoodL l2) (hB : Blk w g (tels (A0 ++ comA l1 ++ comA l2)).toArray 43) (i : Nat) (hi : i < 38) :
    ∃ x y : Nat, w.cell? ⟨g, 4 + i * 2, none⟩ = some (.int .i64 (kindC i)) ∧ w.cell? ⟨g, 4 + i * 2 + 1, none⟩ = some (.int .i64 (x : Int)) ∧ w.cell? ⟨g, 80 + i * 2, none⟩ = some (.int .i64 (kindC i)) ∧ w.cell? ⟨g, 80 + i * 2 + 1, none⟩ = some (.int .i64 (y : Int)) ∧ (19 ≤ i → i < 35 → 18 ≤ x ∧ 18 ≤ y) ∧ (¬ (19 ≤ i ∧ i < 35) → x = y) := by
  obtain ⟨p, hp, x, ex, fx, gx⟩ := comA_at l1 h1 i hi
  obtain ⟨q, hq, y, ey, fy, gy⟩ := comA_at l2 h2 i hi
  have n1 := comA_len l1 h1.len
  have hA : A0.length = 2 := rfl
  have p' : (A0 ++ comA l1 ++ comA l2)[2 + i]? = some p := by
    rw [List.append_assoc, List.getElem?_append_right (by omega), hA, Nat.add_sub_cancel_left, List.getElem?_append_left (by omega)]; exact hp
  have q' : (A0 ++ comA l1 ++ comA l2)[40 + i]? = some q := by
    rw [List.getElem?_append_right (by rw [List.length_append]; omega)]
    have : 40 + i - (A0 ++ comA l1).length = i := by rw [List.length_append]; omega
    rw [this]; exact hq
  obtain ⟨a1, a2⟩ := tels_at _ (2 + i) p _ _ p' ex
  obtain ⟨b1, b2⟩ := tels_at _ (40 + i) q _ _ q' ey
  rw [show (2 + i) * 2 = 4 + i * 2 by omega] at a1 a2
  rw [show (40 + i) * 2 = 80 + i * 2 by omega] at b1 b2
  refine ⟨x, y, by rw [hB.cell]; simpa using a1, by rw [hB.cell]; simpa using a2, by rw [hB.cell]; simpa using b1, by rw [hB.cell]; simpa using b2, fun u v => ⟨fx u v, fy u v⟩, fun u => by rw [gx u, gy u]⟩
def flC (i : Nat) : Nat := (if 16 < i then 1 else 0) + (if 18 < i then 1 else 0) + (if 35 < i then 1 else 0) + (if 37 < i then 1 else 0)
theorem one_le (p : Prop) [Decidable p] : (if p then 1 else 0) ≤ 1 := by split <;> omega
theorem flC_le (k : Nat) : flC k ≤ 4 := by
  have h1 := one_le (16 < k)
  have h2 := one_le (18 < k)
  have h3 := one_le (35 < k)
  have h4 := one_le (37 < k)
  unfold flC
  omega
theorem flC_step (i : Nat) : flC (i + 1) = flC i + (if kindC i = 2 then 1 else 0) := by
  unfold flC kindC
  by_cases h : i = 16 ∨ i = 18 ∨ i = 35 ∨ i = 37
  · rw [if_pos h, if_pos rfl]
    rcases h with h | h | h | h <;> subst h <;> decide
  · have h12 : ¬ ((1 : Int) = 2) := by decide
    rw [if_neg h, if_neg h12]
    have e1 : (16 < i + 1) ↔ (16 < i) := by omega
    have e2 : (18 < i + 1) ↔ (18 < i) := by omega
    have e3 : (35 < i + 1) ↔ (35 < i) := by omega
    have e4 : (37 < i + 1) ↔ (37 < i) := by omega
    simp only [e1, e2, e3, e4, Nat.add_zero]
end Go.Proofs.YtkkndlkelpdehaaGreatDoor

namespace Go.Proofs.YtkkndlkelpdehaaGreatDoor
open Go.RowKit
/-- Behind k lists: the disk, its journal, and the image that is wanted. -/
def LtR (w0 : World) (k b jb g : Nat) (L : List ByteArray) (A : List (Nat × Nat)) (want : List ByteArray) (wr : World) : Prop :=
  JK w0 wr b jb (rs L A) (k + 1) false (fun x => x = g) ∧ Strs wr (some ⟨g, 0, none⟩) want ∧ want.length = 128 ∧ L.length = 128 ∧ freeQ L want ∧ (∀ t ∈ L, t.size = 256) ∧ L.getD 1 ByteArray.empty = headB k [] ∧ A.length ≤ 2 + 38 * k
theorem L0_size : ∀ t ∈ L0, t.size = 256 := fun t ht => by
  rcases List.mem_or_eq_of_mem_set ht with q | q
  · rw [List.eq_of_mem_replicate q]; exact zero256_size
  · rw [q]; exact headB_size 0 [] (by simp)
theorem Wls.fence0 {w w' : World} {p : Option Addr} {l : List Wr1} {X : Nat → Prop} (h : Wls w p l) (ho : Only (fun x => ¬ X x) w w') (hp : 0 < l.length → ∀ g o, p = some ⟨g, o, none⟩ → X g) : Wls w' p l := by
  by_cases h0 : 0 < l.length
  · exact h.fence ho (hp h0)
  · intro j hj; omega
/-- What a list is to the fence: its block, if it has any write. -/
def Xl (g : Nat) (q : Option Addr) (l : List Wr1) (x : Nat) : Prop := x = g ∨ (0 < l.length ∧ ∃ o, q = some ⟨x, o, none⟩)
end Go.Proofs.YtkkndlkelpdehaaGreatDoor

namespace Go.Proofs.YtkkndlkelpdehaaGreatDoor
open Go.ChangeShapes Go.WideShapes Go.ChangeAt Go.RowKit
theorem own : ownKnob Tryz.prog.godebug = none := by kernel_rfl
theorem laidOut : laidOutB Tryz.prog = true := by kernel_rfl
theorem gEt : Tryz.prog.globalNamed "errors.errorType" = some 1 := by kernel_rfl
theorem gRt : (Tryz.prog.cutTypes.find? (·.1 == "internal/reflectlite.rtype")).map (·.2) = some 210 := by kernel_rfl
theorem gOne : ((List.range 248).filter fun t => Tryz.prog.rowNamed t [101, 114, 114, 111, 114]) = [116] := by kernel_rfl
theorem gSize : Tryz.prog.types.size = 248 := by kernel_rfl
def laidL : List (String × DataW Unit) := [("errors.errorType", Rows.laid_errors_errorType)]
theorem wf_I64 {z : Int} (h : (Lit.int .i64 z).wf = true) : I64 z := by
  simpa [I64, Lit.wf, IntKind.min, IntKind.max, IntKind.signed, IntKind.bits] using h
/-- What the row's list gives. -/
theorem ety_of {W : World} (h : laidMetH Tryz.prog laidL W) : ETy W := by
  have h' : laidMet Tryz.prog [] W ∧ handlesMet Tryz.prog laidL W := h
  obtain ⟨name, u, ty, e1, e2, e3, e4, e5⟩ := h'.2 _ (List.mem_singleton.2 rfl)
  have en : name = [101, 114, 114, 111, 114] := (Option.some.inj e1).symm
  subst en
  obtain rfl := Option.some.inj (gRt.symm.trans e2)
  have hm : ty ∈ (List.range 248).filter fun t => Tryz.prog.rowNamed t [101, 114, 114, 111, 114] := List.mem_filter.2 ⟨List.mem_range.2 (by rw [← gSize]; exact e3), e4⟩
  rw [gOne] at hm
  obtain rfl := List.mem_singleton.1 hm
  have hh : typeHandle Tryz.prog 116 = .pointer (some ⟨2, 116, none⟩) := by kernel_rfl
  rw [hh] at e5
  have := World.var?_cell gEt e5 0
  unfold ETy
  simpa using this
/-- A world for the witness: the settled one, the variable's cell laid. -/
noncomputable def laidWorld (os : Os) : World :=
  let w0 := World.holding Tryz.prog os ⟨#[], #[], []⟩
  { w0 with heap := w0.heap.modify 1 fun
      | .cells _ t frozen => .cells #[.iface 210 (.agg #[.pointer (some ⟨2, 116, none⟩)])] t frozen
      | o => o }
end Go.Proofs.YtkkndlkelpdehaaGreatDoor

namespace Go.Proofs.YtkkndlkelpdehaaGreatDoor
open Go.RowKit
/-- Steps of a script that lie in memory. -/
structure Op6 where
  kind : Int
  n : Int
  s : ByteArray
def op60 : Op6 := ⟨0, 0, ⟨#[]⟩⟩
instance : Inhabited Op6 := ⟨op60⟩
def Ops6 (w : World) (p : Option Addr) (l : List Op6) : Prop := ∀ i, i < l.length → ∃ g o v, p = some ⟨g, o, none⟩ ∧ g < w.heap.size ∧ w.cell? ⟨g, o + i * 4, none⟩ = some (.int .i64 (l.getD i op60).kind) ∧ w.cell? ⟨g, o + i * 4 + 1, none⟩ = some (.int .i64 (l.getD i op60).n) ∧ w.cell? ⟨g, o + i * 4 + 2, none⟩ = some (.string (l.getD i op60).s) ∧ w.cell? ⟨g, o + i * 4 + 3, none⟩ = some v ∧ ∃ sp sl sc, v = .slice sp sl sc
theorem Ops6.below {w w' : World} {B : Nat} {p : Option Addr} {l : List Op6} (h : Ops6 w p l) (hb : Below B w w') (hB : w.heap.size ≤ B) : Ops6 w' p l := fun i hi => by
  obtain ⟨g, o, v, e, hg, h0, h1, h2, h3, h4⟩ := h i hi
  exact ⟨g, o, v, e, Nat.lt_of_lt_of_le hg hb.size, (hb.cell (p := ⟨g, o + i * 4, none⟩) (by show g < B; omega)).trans h0, (hb.cell (p := ⟨g, o + i * 4 + 1, none⟩) (by show g < B; omega)).trans h1, (hb.cell (p := ⟨g, o + i * 4 + 2, none⟩) (by show g < B; omega)).trans h2, (hb.cell (p := ⟨g, o + i * 4 + 3, none⟩) (by show g < B; omega)).trans h3, h4⟩
theorem bulk_app6 {H : Type} : ∀ (l m : List (DataW H)), Rows.uptoBulkAll (l ++ m) = Rows.uptoBulkAll l + Rows.uptoBulkAll m
  | [], m => by simp [Rows.uptoBulkAll]
  | d :: l, m => by simp only [List.cons_append, Rows.uptoBulkAll, bulk_app6 l m]; omega
theorem bulk_len6 {H : Type} (D : Nat → DataW H) : ∀ n, (∀ i, i < n → 5 ≤ Rows.uptoBulk (D i)) → 5 * n ≤ Rows.uptoBulkAll ((List.range n).map D)
  | 0, _ => Nat.zero_le _
  | n + 1, h => by
    have h1 := bulk_len6 D n (fun i hi => h i (by omega))
    have h2 := h n (by omega)
    rw [List.range_succ, List.map_append, bulk_app6]
    simp only [List.map_cons, List.map_nil, Rows.uptoBulkAll]
    omega
theorem bulk_each6 {H : Type} (D : Nat → DataW H) : ∀ n i, i < n → Rows.uptoBulk (D i) ≤ Rows.uptoBulkAll ((List.range n).map D)
  | n + 1, i, h => by
    rw [List.range_succ, List.map_append, bulk_app6]
    simp only [List.map_cons, List.map_nil, Rows.uptoBulkAll]
    by_cases hi : i < n
    · have := bulk_each6 D n i hi; omega
    · obtain rfl : i = n := by omega
      omega
theorem bulk_pos6 {H : Type} (d : DataW H) : 1 ≤ Rows.uptoBulk d := by
  cases d with
  | lit l => cases l <;> simp [Rows.uptoBulk]
  | _ => simp [Rows.uptoBulk]
def Wop (l : List Op6) : Prop := ∀ i, I64 (l.getD i op60).kind ∧ I64 (l.getD i op60).n
set_option maxRecDepth 100000 in
theorem open_ops6 {H : Type} {enc : TypeId × Value → H} {w : World} {base : Nat} {spare : Nat → Bool} {held : Bool} {fuel : Nat} {a : Option Addr} {len cap : Nat} {x : DataW H × List MemPlace} (h : DataW.trod enc Tryz.prog w base spare held fuel 22 [.slice a len cap] = some x) :
    ∃ l : List Op6, len = l.length ∧ Ops6 w a l ∧ Wop l ∧ len ≤ 9223372036854775807 ∧ (5 * len ≤ Rows.uptoBulk x.1 ∧ ∀ i, i < len → (l.getD i op60).s.size ≤ Rows.uptoBulk x.1) := by
  rcases Deep.open_slice Tryz.underlying22 h with ⟨hcs, _⟩ | ⟨ad, ln, cp, m, n, D, Pl, hcs, hb, hl, hm, hmm, rfl, hx⟩
  · simp at hcs
    obtain ⟨rfl, rfl, rfl⟩ := hcs
    exact ⟨[], rfl, fun i hi => absurd hi (Nat.not_lt_zero i), fun i => by simp [op60, I64], by omega, by omega, fun i hi => by omega⟩
  · simp at hcs
    obtain ⟨rfl, rfl, rfl⟩ := hcs
    have hlm : len ≤ m := by rw [hmm]; split <;> omega
    have hML : (maxLen : Nat) = 9223372036854775807 := rfl
    have each : ∀ i, i < len → ∃ q : Op6 × Value, w.cell? (ad.add (i * 4)) = some (.int .i64 q.1.kind) ∧ w.cell? (ad.add (i * 4 + 1)) = some (.int .i64 q.1.n) ∧ w.cell? (ad.add (i * 4 + 2)) = some (.string q.1.s) ∧ w.cell? (ad.add (i * 4 + 3)) = some q.2 ∧
        (Lit.int .i64 q.1.kind).wf = true ∧ (Lit.int .i64 q.1.n).wf = true ∧ q.1.s.size ≤ Rows.uptoBulk (D i) ∧ 5 ≤ Rows.uptoBulk (D i) ∧ ∃ sp sl sc, q.2 = .slice sp sl sc := by
      intro i hi
      obtain ⟨cs', h1, h2⟩ := hx i (by omega)
      rw [show Tryz.prog.cellsOf 30 = 4 by kernel_rfl] at h1
      obtain ⟨_, hlen, hcell⟩ := World.cells?_some h1
      obtain ⟨y0, y1, y2, y3, k, hxy, _, g0, g1, g2, g3⟩ := Go.Joins.trod_struct4 Tryz.underlying30 h2
      match cs', hlen with
      | [v0, v1, v2, v3], _ =>
        simp only [show Tryz.prog.cellsOf 3 = 1 by kernel_rfl, show Tryz.prog.cellsOf 9 = 1 by kernel_rfl, show Tryz.prog.cellsOf 28 = 1 by kernel_rfl] at g0 g1 g2 g3
        obtain ⟨z0, e0, d0, f0⟩ := DataW.trod_int Tryz.underlying3 g0
        obtain ⟨z1, e1, d1, f1⟩ := DataW.trod_int Tryz.underlying3 g1
        obtain ⟨z2, e2, d2, _⟩ := DataW.trod_string Tryz.underlying9 g2
        simp at e0 e1 e2 g3
        subst e0 e1 e2
        obtain ⟨p3, n3, c3', hq3⟩ := Go.Joins.slice_form Tryz.underlying28 g3
        obtain rfl : v3 = .slice p3 n3 c3' := by simpa using hq3
        have c0 := hcell 0 (by omega)
        have c1 := hcell 1 (by omega)
        have c2 := hcell 2 (by omega)
        have c3 := hcell 3 (by omega)
        rw [Deep.add_add] at c0 c1 c2 c3
        simp only [Prod.mk.injEq] at hxy
        rw [hxy.1, d0, d1, d2]
        have h3p := bulk_pos6 y3.1
        refine ⟨(⟨z0, z1, z2⟩, .slice p3 n3 c3'), by simpa using c0, by simpa using c1, by simpa using c2, by simpa using c3, f0, f1, ?_, ?_, ⟨_, _, _, rfl⟩⟩
        · simp only [Rows.uptoBulk, Rows.uptoBulkAll]
          have : z2.data.toList.length = z2.size := rfl
          show z2.size ≤ _
          omega
        · simp only [Rows.uptoBulk, Rows.uptoBulkAll]
          omega
    obtain ⟨q, hq⟩ := Deep.choose_lt each
    have hg : ∀ i, i < len → ((List.range len).map fun i => (q i).1).getD i op60 = (q i).1 := fun i hi => by simp [List.getD_eq_getElem?_getD, hi]
    refine ⟨(List.range len).map fun i => (q i).1, by simp, fun i hi => ?_, fun i => ?_, by omega, ?_, fun i hi => ?_⟩
    · have hi' : i < len := by simpa using hi
      rw [hg i hi']
      obtain ⟨q0, q1, q2, q3, _, _, _, _, q4⟩ := hq i hi'
      obtain ⟨b, off, spot⟩ := ad
      have z0 := (hq 0 (by omega)).1
      have hspot : spot = none := by simpa [Addr.add] using World.cell?_spot z0
      subst hspot
      rw [Addr.add_mid] at q0 q1 q2 q3
      exact ⟨b, off, _, rfl, World.block_lt_of_cell? w _ q0, q0, by simpa [Nat.add_assoc] using q1, by simpa [Nat.add_assoc] using q2, by simpa [Nat.add_assoc] using q3, q4⟩
    · by_cases hi : i < len
      · rw [hg i hi]
        obtain ⟨_, _, _, _, f0, f1, _⟩ := hq i hi
        exact ⟨wf_I64 f0, wf_I64 f1⟩
      · have : ((List.range len).map fun i => (q i).1).getD i op60 = op60 := by simp [List.getD_eq_getElem?_getD, hi]
        rw [this]
        simp [op60, I64]
    · have := bulk_len6 D len (fun i hi => (hq i hi).2.2.2.2.2.2.2.1)
      simp only [Rows.uptoBulk]
      omega
    · rw [hg i hi]
      have h1 := (hq i hi).2.2.2.2.2.2.1
      have h2 := bulk_each6 D len i hi
      simp only [Rows.uptoBulk]
      omega
end Go.Proofs.YtkkndlkelpdehaaGreatDoor

namespace Go.Proofs.YtkkndlkelpdehaaGreatDoor
open Go.RowKit
theorem dies_two {s : DSt} (h : 1 < s.fuse) : diesS s = { s with fuse := s.fuse - 1, dead := false } := by
  rw [diesS, if_pos (by omega), decide_eq_false (by omega)]
theorem dies_one {s : DSt} (h : s.fuse = 1) : diesS s = { s with fuse := 0, dead := true } := by
  rw [diesS, if_pos (by omega), decide_eq_true h, h]
  rfl
theorem write_two {s : DSt} (h : 1 < s.fuse) (hd : s.dead = false) (j : Nat) (hj : j < s.last.length) (t : ByteArray) (ht : t.size = 256) : writeE s (j : Int) t = 0 ∧ writeS s (j : Int) t = { s with now := s.now.set j t, pend := s.pend ++ [(j, t)], acts := s.acts ++ [(0, j)], fuse := s.fuse - 1 } := by
  have hi : isOk s (j : Int) := ⟨by omega, by omega⟩
  have e := dies_two h
  have hq : ¬ (diesS s).dead = true := by rw [e]; exact Bool.false_ne_true
  rw [writeE, writeS, if_pos hi, if_pos hi, if_pos ht, if_pos ht, if_neg hq, if_neg hq, e, Int.toNat_natCast, ← hd]
  exact ⟨rfl, rfl⟩
theorem write_one {s : DSt} (h : s.fuse = 1) (j : Nat) (hj : j < s.last.length) (t : ByteArray) (ht : t.size = 256) : writeE s (j : Int) t = 2 ∧ writeS s (j : Int) t = { s with fuse := 0, dead := true } := by
  have hi : isOk s (j : Int) := ⟨by omega, by omega⟩
  have e := dies_one h
  have hq : (diesS s).dead = true := by rw [e]
  rw [writeE, writeS, if_pos hi, if_pos hi, if_pos ht, if_pos ht, if_pos hq, if_pos hq, e]
  exact ⟨rfl, rfl⟩
/-- Writes on a disk that is armed, and lives through them. -/
theorem lay_armed (l : List Wr1) : ∀ (s : DSt), s.dead = false → (l.length : Int) + 1 < s.fuse → OkW s.last.length l → layR s l = (0, ⟨layP s.last (s.pend ++ natW l), layP s.now (natW l), [], s.acts ++ actW l ++ [(1, 0)], s.fuse - ((l.length : Int) + 1), false⟩) := by
  induction l with
  | nil =>
    intro s h hf _
    have e := dies_two (s := s) (by simpa using hf)
    have hq : ¬ (diesS s).dead = true := by rw [e]; exact Bool.false_ne_true
    rw [layR, flushE, flushS, if_neg hq, if_neg hq, e]
    simp [natW, actW, layP]
  | cons x r ih =>
    intro s h hf hk
    obtain ⟨x1, x2⟩ := x
    obtain ⟨k1, k2, k3⟩ := hk (x1, x2) (by simp)
    obtain ⟨j, hj⟩ : ∃ j : Nat, x1 = (j : Int) := ⟨x1.toNat, by omega⟩
    subst hj
    rw [List.length_cons] at hf
    obtain ⟨a1, a2⟩ := write_two (s := s) (by omega) h j (by omega) x2 k3
    rw [layR, if_pos a1, a2]
    refine (ih { s with now := s.now.set j x2, pend := s.pend ++ [(j, x2)], acts := s.acts ++ [(0, j)], fuse := s.fuse - 1 } h (by show _ < s.fuse - 1; omega) (fun y hy => hk y (by simp [hy]))).trans ?_
    simp [natW, actW, layP]
    omega
/-- Writes on a disk that dies among them. -/
theorem lay_dies (l : List Wr1) : ∀ (s : DSt) (f : Nat), s.dead = false → s.fuse = (f : Int) + 1 → f ≤ l.length → OkW s.last.length l → layR s l = (2, ⟨s.last, layP s.now (natW (l.take f)), s.pend ++ natW (l.take f), s.acts ++ actW (l.take f), 0, true⟩) := by
  induction l with
  | nil =>
    intro s f h hf hle _
    have hf0 : f = 0 := by simpa using hle
    subst hf0
    have e := dies_one (s := s) (by rw [hf]; rfl)
    have hq : (diesS s).dead = true := by rw [e]
    rw [layR, flushE, flushS, if_pos hq, if_pos hq, e]
    simp [natW, actW, layP]
  | cons x r ih =>
    intro s f h hf hle hk
    obtain ⟨x1, x2⟩ := x
    obtain ⟨k1, k2, k3⟩ := hk (x1, x2) (by simp)
    obtain ⟨j, hj⟩ : ∃ j : Nat, x1 = (j : Int) := ⟨x1.toNat, by omega⟩
    subst hj
    cases f with
    | zero =>
      obtain ⟨a1, a2⟩ := write_one (s := s) (by rw [hf]; rfl) j (by omega) x2 k3
      rw [layR, if_neg (by rw [a1]; decide), a1, a2]
      simp [natW, actW, layP]
    | succ f =>
      obtain ⟨a1, a2⟩ := write_two (s := s) (by omega) h j (by omega) x2 k3
      rw [layR, if_pos a1, a2]
      refine (ih { s with now := s.now.set j x2, pend := s.pend ++ [(j, x2)], acts := s.acts ++ [(0, j)], fuse := s.fuse - 1 } f h (by show s.fuse - 1 = _; rw [hf]; omega) (by simpa using hle) (fun y hy => hk y (by simp [hy]))).trans ?_
      simp [natW, actW, layP]
/-- The image of a disk whose head is set. -/
def midL (L : List ByteArray) (nx : Nat) (l : List Wr1) : List ByteArray := layP (layP L (natW (recL (filled l)))) [(1, headB nx (secs (filled l)))]
theorem midL_len (L : List ByteArray) (nx : Nat) (l : List Wr1) : (midL L nx l).length = L.length := by simp only [midL, layP_len]
theorem natW_head (n : Nat) (H : List Int) : natW [(1, headB n H)] = [(1, headB n H)] := rfl
/-- A commit on a disk that dies behind the head is set. -/
theorem commit_20 (L : List ByteArray) (A : List (Nat × Nat)) (nx : Nat) (l : List Wr1) (hL : L.length = 128) (h : GoodL l) : ∃ A', A'.length = A.length + 19 ∧ commitR (armS (rs L A) 20) nx false l = ⟨2, ⟨midL L nx l, midL L nx l, [], A', 0, true⟩, nx, true⟩ := by
  have h16 := filled_len l h.len
  have hr : refE l (((armS (rs L A) 20).last.length : Nat) : Int) = 0 := by
    show refE l ((L.length : Nat) : Int) = 0
    rw [hL]
    exact h.ref
  have e0 : armS (rs L A) 20 = ⟨L, L, [], A, 20, false⟩ := rfl
  have e1 := lay_armed (recL (filled l)) ⟨L, L, [], A, 20, false⟩ rfl (by rw [recL_len, h16]; show (17 : Int) < 20; decide) (by show OkW L.length _; rw [hL]; exact rec_ok l h)
  have e2 := lay_armed [(1, headB nx (secs (filled l)))] ⟨layP L (natW (recL (filled l))), layP L (natW (recL (filled l))), [], A ++ actW (recL (filled l)) ++ [(1, 0)], 3, false⟩ rfl (show (2 : Int) < 3 by decide) (head_ok _ (by show 1 < (layP L _).length; rw [layP_len, hL]; decide) nx _ (by rw [secs16 l h]; decide))
  have e3 := lay_dies (filled l) ⟨midL L nx l, midL L nx l, [], A ++ actW (recL (filled l)) ++ [(1, 0)] ++ actW [(1, headB nx (secs (filled l)))] ++ [(1, 0)], 1, false⟩ 0 rfl rfl (Nat.zero_le _) (by show OkW (midL L nx l).length _; rw [midL_len, hL]; exact fill_ok l h)
  refine ⟨A ++ actW (recL (filled l)) ++ [(1, 0)] ++ actW [(1, headB nx (secs (filled l)))] ++ [(1, 0)], by simp [actW, recL_len, h16], ?_⟩
  have f1 : layR ⟨L, L, [], A, 20, false⟩ (recL (filled l)) = (0, ⟨layP L (natW (recL (filled l))), layP L (natW (recL (filled l))), [], A ++ actW (recL (filled l)) ++ [(1, 0)], 3, false⟩) := by
    rw [e1, recL_len, h16]
    rfl
  have f2 : layR ⟨layP L (natW (recL (filled l))), layP L (natW (recL (filled l))), [], A ++ actW (recL (filled l)) ++ [(1, 0)], 3, false⟩ [(1, headB nx (secs (filled l)))] = (0, ⟨midL L nx l, midL L nx l, [], A ++ actW (recL (filled l)) ++ [(1, 0)] ++ actW [(1, headB nx (secs (filled l)))] ++ [(1, 0)], 1, false⟩) := by
    rw [e2]
    rfl
  have f3 : layR ⟨midL L nx l, midL L nx l, [], A ++ actW (recL (filled l)) ++ [(1, 0)] ++ actW [(1, headB nx (secs (filled l)))] ++ [(1, 0)], 1, false⟩ (filled l) = (2, ⟨midL L nx l, midL L nx l, [], A ++ actW (recL (filled l)) ++ [(1, 0)] ++ actW [(1, headB nx (secs (filled l)))] ++ [(1, 0)], 0, true⟩) := by
    rw [e3]
    simp [natW, actW, layP]
  have hR : runsR (armS (rs L A) 20) (runsOf nx l) = (2, ⟨midL L nx l, midL L nx l, [], A ++ actW (recL (filled l)) ++ [(1, 0)] ++ actW [(1, headB nx (secs (filled l)))] ++ [(1, 0)], 0, true⟩) := by
    rw [e0, runsOf, runsR, f1, if_pos rfl, runsR]
    simp only
    rw [f2, if_pos rfl, runsR]
    simp only
    rw [f3, if_neg (show ¬ (2 : Int) = 0 by decide)]
  rw [commitR, hr, if_neg (by simp), if_neg (by decide), hR, if_neg (show ¬ (2 : Int) = 0 by decide)]
theorem crash_20 (M : List ByteArray) (A : List (Nat × Nat)) : crashE ⟨M, M, [], A, 0, true⟩ [] = 0 ∧ crashS ⟨M, M, [], A, 0, true⟩ [] = rs M A := by
  obtain ⟨h1, h2⟩ := crash_nil ⟨M, M, [], A, 0, true⟩
  exact ⟨h1, h2⟩
theorem mid_head (L : List ByteArray) (nx : Nat) (l : List Wr1) (hL : 1 < L.length) : (midL L nx l).getD 1 ByteArray.empty = headB nx (secs (filled l)) := by
  unfold midL
  exact getD_set_same _ 1 _ (by rw [layP_len]; exact hL)
/-- Each record lies where it belongs. -/
theorem lay_recs (R : List Wr1) : ∀ (m : Nat) (L : List ByteArray), m ≤ R.length → 2 + R.length ≤ L.length → ∀ i, i < m → (layP L (natW ((recL R).take m))).getD (2 + i) ByteArray.empty = (R.getD i wr0).2
  | 0, _, _, _, i, hi => absurd hi (Nat.not_lt_zero i)
  | m + 1, L, hm, hL, i, hi => by
    have hmr : m < (recL R).length := by rw [recL_len]; omega
    have e : (recL R).take (m + 1) = (recL R).take m ++ [(((2 + m : Nat) : Int), (R.getD m wr0).2)] := by
      rw [List.take_succ_eq_append_getElem hmr, ← getD_of hmr, recL_at R m (by omega)]
    have e2 : natW [(((2 + m : Nat) : Int), (R.getD m wr0).2)] = [(2 + m, (R.getD m wr0).2)] := by
      show [((((2 + m : Nat) : Int)).toNat, (R.getD m wr0).2)] = _
      rw [Int.toNat_natCast]
    rw [e, natW_app, e2, layP_snoc]
    by_cases h : i = m
    · subst h
      exact getD_set_same _ _ _ (by rw [layP_len]; omega)
    · rw [getD_set_other _ _ _ _ (by omega)]
      exact lay_recs R m L (by omega) hL i (by omega)
theorem mid_rec (L : List ByteArray) (nx : Nat) (l : List Wr1) (hL : L.length = 128) (hl : l.length ≤ 16) (i : Nat) (hi : i < 16) : (midL L nx l).getD (2 + i) ByteArray.empty = ((filled l).getD i wr0).2 := by
  have h16 := filled_len l hl
  unfold midL
  rw [layP_skip [(1, headB nx (secs (filled l)))] _ (2 + i) (by intro p hp; simp at hp; subst hp; show 1 ≠ 2 + i; omega)]
  have := lay_recs (filled l) 16 L (by omega) (by omega) i hi
  rwa [List.take_of_length_le (by rw [recL_len]; omega)] at this
theorem mid_size (L : List ByteArray) (nx : Nat) (l : List Wr1) (hl : GoodL l) (h : ∀ t ∈ L, t.size = 256) : ∀ t ∈ midL L nx l, t.size = 256 := by
  unfold midL
  refine layP_size _ _ (layP_size _ _ h (natW_size (rec_ok l hl))) (fun p hp => ?_)
  simp at hp; subst hp; exact headB_size nx _ (by rw [secs16 l hl]; decide)
theorem homes_ok (l : List Wr1) (h : GoodL l) : HomesOk 128 (secs (filled l)) := fun a z r e => by
  have hs : secs (filled l) = secs l ++ List.replicate (16 - l.length) 18 := by simp [secs, filled, fillW]
  have hz : z ∈ secs (filled l) := by rw [e]; simp
  rw [hs] at hz e
  have hrng : z = 18 ∨ (19 ≤ z ∧ z < 128 ∧ z ∈ secs l) := by
    rcases List.mem_append.1 hz with q | q
    · obtain ⟨x, hx, rfl⟩ := List.mem_map.1 q
      have := h.free x hx
      exact .inr ⟨this.1, this.2, q⟩
    · exact .inl (List.eq_of_mem_replicate q)
  refine ⟨fun hb => ?_, by omega, by omega⟩
  obtain ⟨b1, b2⟩ := hb
  rcases hrng with q | ⟨q1, q2, q3⟩
  · exact b1 q
  · rcases b2 with b2 | b2
    · exact b2 ⟨q1, q2⟩
    · have f1 : (secs l ++ List.replicate (16 - l.length) 18).filter (fun x => x != 18) = secs l := by
        rw [List.filter_append, List.filter_eq_self.2, List.filter_eq_nil_iff.2, List.append_nil]
        · intro x hx
          rw [List.eq_of_mem_replicate hx]
          decide
        · intro x hx
          obtain ⟨y, hy, rfl⟩ := List.mem_map.1 hx
          have := h.free y hy
          simp
          omega
      rw [e, List.filter_append, List.filter_cons_of_pos (by simp; omega)] at f1
      have hn := h.nodup
      rw [← f1] at hn
      obtain ⟨_, _, hd⟩ := List.nodup_append.1 hn
      exact hd z (List.mem_filter.2 ⟨b2, by simp; omega⟩) z (by simp) rfl
theorem redo_mid (L : List ByteArray) (nx : Nat) (l : List Wr1) (hL : L.length = 128) (h : GoodL l) : redoL (rs (midL L nx l) []) (secs (filled l)) = filled l := by
  have h16 := filled_len l h.len
  have hs : (secs (filled l)).length = 16 := secs16 l h
  refine List.ext_getElem (by rw [redoL_len, hs, h16]) (fun i h1 h2 => ?_)
  have hi : i < 16 := by omega
  rw [← getD_of h1, ← getD_of h2, redoL_at _ _ i (by omega), secs_at _ i (by omega), (read_rs _ _ (2 + i) (by rw [midL_len, hL]; omega)).2, mid_rec L nx l hL h.len i hi]
theorem redoR_mid (L : List ByteArray) (nx : Nat) (l : List Wr1) (hL : L.length = 128) (h : GoodL l) : redoR (rs (midL L nx l) []) nx (secs (filled l)) = (0, rs (comL L nx l) ([] ++ actW (filled l) ++ [(1, 0)] ++ actW [(1, headB nx [])] ++ [(1, 0)])) := by
  have e1 := lay_rs (midL L nx l) [] (filled l) (by rw [midL_len, hL]; exact fill_ok l h)
  have e2 := lay_rs (layP (midL L nx l) (natW (filled l))) ([] ++ actW (filled l) ++ [(1, 0)]) [(1, headB nx [])] (head_ok _ (by rw [layP_len, midL_len, hL]; decide) nx _ (by simp))
  rw [redoR, redo_mid L nx l hL h, e1, if_pos rfl]
  simp only
  rw [e2]
  rfl
end Go.Proofs.YtkkndlkelpdehaaGreatDoor
