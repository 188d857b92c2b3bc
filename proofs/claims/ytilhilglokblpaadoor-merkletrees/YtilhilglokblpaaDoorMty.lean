import Derived.Test.YtilhilglokblpaaDoorQtz
import Derived.Test.YtilhilglokblpaaDoorCards
import Derived.Test.YtilhilglokblpaaDoorTie
import Derived.ProofKit
import Derived.OpenShut
import Derived.ShutString
import Derived.SizedLaws
import Derived.Deep.DeepHandedRow
import Derived.Lib.LaidTab
import Derived.Stop.LaidErr
import Derived.Test.YtilhilglokblpaaDoorQmc
import Derived.SliceStrings
import Derived.Deep.SlicePairs
import Derived.Lib.SmallJoins
import Derived.Test.YtilhilglokblpaaDoorQtv
import Derived.Test.YtilhilglokblpaaDoorQtk
import Derived.Test.YtilhilglokblpaaDoorQrc
import Derived.BigQuiet
namespace Go.Proofs.YtilhilglokblpaaDoor
open Go.ChangeShapes Go.WideShapes Go.ChangeAt Go.RowKit
theorem own : ownKnob Tryd.prog.godebug = none := by kernel_rfl
theorem laidOut : laidOutB Tryd.prog = true := by kernel_rfl
theorem gTab : Tryd.prog.globalNamed "strongbox/hash.roundWords" = some 2 := by kernel_rfl
theorem gTabType : (Tryd.prog.globals[2]?).map (·.type) = some 82 := by kernel_rfl
theorem cells54 : Tryd.prog.cellsOf 82 = 64 := by kernel_rfl
theorem cells44 : Tryd.prog.cellsOf 69 = 1 := by kernel_rfl
theorem gTabB : Tryd.prog.globalNamed "math/bits.deBruijn64tab" = some 1 := by kernel_rfl
theorem gTabBType : (Tryd.prog.globals[1]?).map (·.type) = some 89 := by kernel_rfl
theorem cellsB64 : Tryd.prog.cellsOf 89 = 64 := by kernel_rfl
theorem cellsB1 : Tryd.prog.cellsOf 5 = 1 := by kernel_rfl
theorem wf_I64 {z : Int} (h : (Lit.int .i64 z).wf = true) : I64 z := by
  simpa [I64, Lit.wf, IntKind.min, IntKind.max, IntKind.signed, IntKind.bits] using h
def laidKm : List (String × DataW Unit) := [("strongbox/hash.roundWords", Rows.laid_strongbox_hash_roundWords)]
def laidBm : List (String × DataW Unit) := ("math/bits.deBruijn64tab", Rows.laid_math_bits_deBruijn64tab) :: laidKm
def laidL : List (String × DataW Unit) := ("math/bits.deBruijn32tab", Rows.laid_math_bits_deBruijn32tab) :: laidBm
theorem laid_plain {W : World} (h : laidMetH Tryd.prog laidL W) : laidMet Tryd.prog laidL W := h
set_option maxRecDepth 100000 in
/-- What the row's list gives. -/
theorem ktab_of {W : World} (h : laidMetH Tryd.prog laidL W) : KTab W := by
  have hT : Lib.TabIs Tryd.prog W "strongbox/hash.roundWords" .u32 kWords :=
    Lib.tabIs_of_head (rest := []) gTab gTabType Tryd.underlying82 Tryd.underlying69 cells44 cells54 (laid_plain h).tail.tail
  have hc : ∀ j, j < 64 → W.cell? ⟨2, j, none⟩ = some (.int .u32 (kWords.getD j 0)) := fun j hj => hT.cell gTab j hj
  exact ⟨World.block_lt_of_cell? W _ (hc 0 (by decide)), hc⟩
set_option maxRecDepth 100000 in
theorem btab_of {W : World} (h : laidMetH Tryd.prog laidL W) : BTab W := by
  have hT : Lib.TabIs Tryd.prog W "math/bits.deBruijn64tab" .u8 bWords :=
    Lib.tabIs_of_head (rest := laidKm) gTabB gTabBType Tryd.underlying89 Tryd.underlying5 cellsB1 cellsB64 (laid_plain h).tail
  have hc : ∀ j, j < 64 → W.cell? ⟨1, j, none⟩ = some (.int .u8 (bWords.getD j 0)) := fun j hj => hT.cell gTabB j hj
  exact ⟨World.block_lt_of_cell? W _ (hc 0 (by decide)), hc⟩
def litV : DataW Unit → List Value
  | .lit (.int k v) => [.int k v]
  | _ => []
def rowV : DataW Unit → List Value
  | .agg l => l.flatMap litV
  | _ => []
noncomputable def laidWorld1 (os : Os) : World :=
  { World.holding Tryd.prog os ⟨#[], #[], []⟩ with heap := (World.holding Tryd.prog os ⟨#[], #[], []⟩).heap.modify 0 fun
      | .cells _ t frozen => .cells (rowV Rows.laid_math_bits_deBruijn32tab).toArray t frozen
      | o => o }
noncomputable def laidWorld2 (os : Os) : World :=
  { laidWorld1 os with heap := (laidWorld1 os).heap.modify 1 fun
      | .cells _ t frozen => .cells (rowV Rows.laid_math_bits_deBruijn64tab).toArray t frozen
      | o => o }
/-- A world for the witness: the three tables laid. -/
noncomputable def laidWorld (os : Os) : World :=
  { laidWorld2 os with heap := (laidWorld2 os).heap.modify 2 fun
      | .cells _ t frozen => .cells (rowV Rows.laid_strongbox_hash_roundWords).toArray t frozen
      | o => o }
end Go.Proofs.YtilhilglokblpaaDoor
namespace Go.Proofs.YtilhilglokblpaaDoor
open Go.ChangeShapes Go.WideShapes Go.ChangeAt Go.RowKit
theorem weightsAll_mem {H : Type} {P : Program} {e : TypeId} : ∀ {l : List (DataW H)} {d : DataW H}, d ∈ l → ∀ n ∈ d.weights P e, n ∈ DataW.weightsAll P e l
  | x :: l, d, h, n, hn => by
    rw [DataW.weightsAll]
    rcases List.mem_cons.1 h with rfl | h
    · exact List.mem_append_left _ hn
    · exact List.mem_append_right _ (weightsAll_mem h n hn)
set_option maxRecDepth 100000 in
/-- An argument []string, with the bound that its texts' bytes make. -/
theorem open_sb {H : Type} {enc : TypeId × Value → H} {w : World} {base : Nat} {spare : Nat → Bool} {held : Bool} {fuel : Nat} {a : Option Addr} {len cap : Nat} {x : DataW H × List MemPlace} (h : DataW.trod enc Tryd.prog w base spare held fuel 22 [.slice a len cap] = some x)
    (hs : ∀ n ∈ x.1.weights Tryd.prog 22, n ≤ reachBytes) :
    ∃ l : List ByteArray, l.length = len ∧ SB w w.heap.size a l ∧ (∀ j, j < l.length → (l.getD j ⟨#[]⟩).size ≤ 140737488351232) ∧ len ≤ cap ∧ cap ≤ 9223372036854775807 ∧ (a = none → cap = 0) ∧ len ≤ 8796093021952 := by
  rcases open_strings Tryd.underlying22 Tryd.underlying9 (by kernel_rfl) h with ⟨hcs, _⟩ | ⟨ad, l, c, zs, hcs, _, hl, hm, hz, hd, hcell, _⟩
  · simp at hcs
    obtain ⟨rfl, rfl, rfl⟩ := hcs
    exact ⟨[], rfl, fun j hj => (by cases hj), fun t ht => (by cases ht), Nat.le_refl _, by omega, fun _ => rfl, by omega⟩
  · simp at hcs
    obtain ⟨rfl, rfl, rfl⟩ := hcs
    have hzl : len ≤ zs.length := by rw [hz]; split <;> omega
    have hlen : (zs.take len).length = len := by simp; omega
    have hb : Tryd.prog.bytesOf 9 = 16 := by kernel_rfl
    have hw := hs ((zs.length) * 16) (by
      rw [hd]
      simp only [DataW.weights, Tryd.underlying22, List.mem_cons]
      left
      rw [hb]
      simp [strs]
      omega)
    refine ⟨zs.take len, hlen, fun j hj => ?_, fun j hj => ?_, hl, hm, fun q => (by cases q), by unfold reachBytes at hw; omega⟩
    · rw [hlen] at hj
      have hc := hcell j (by omega)
      have hc0 := hcell 0 (by omega)
      obtain ⟨b, off, spot⟩ := ad
      have hspot : spot = none := by simpa [Addr.add] using World.cell?_spot hc0
      subst hspot
      rw [Addr.add_mid] at hc
      refine ⟨b, off, rfl, World.block_lt_of_cell? w _ hc, hc.trans ?_⟩
      rw [getD_take zs len j hj]
      rfl
    · have ht : (zs.take len).getD j ⟨#[]⟩ ∈ zs.take len := by
        rw [List.getD_eq_getElem?_getD, List.getElem?_eq_getElem hj]
        exact List.getElem_mem hj
      generalize (zs.take len).getD j ⟨#[]⟩ = t at *
      have hw : t.data.toList.length ≤ reachBytes := by
        refine hs _ ?_
        rw [hd]
        simp only [DataW.weights, Tryd.underlying22, List.mem_cons, List.mem_append]
        refine Or.inr (Or.inl (weightsAll_mem (d := .lit (.string t.data.toList)) (List.mem_map.2 ⟨t, ht, rfl⟩) _ ?_))
        simp [DataW.weights]
      have e : t.data.toList.length = t.size := rfl
      unfold reachBytes at hw
      omega
end Go.Proofs.YtilhilglokblpaaDoor
namespace Go.Proofs.YtilhilglokblpaaDoor
open Go.ChangeShapes Go.WideShapes Go.ChangeAt Go.RowKit
set_option maxRecDepth 100000
/-- a script in memory: kinds, which tree, numbers, texts -/
def OpT (w : World) (B : Nat) (p : Option Addr) (n : Nat) (K O N : Nat → Int) (S : Nat → ByteArray) : Prop := ∀ i, i < n → ∃ g o, p = some ⟨g, o, none⟩ ∧ g < B ∧ w.cell? ⟨g, o + i * 4, none⟩ = some (.int .i64 (K i)) ∧ w.cell? ⟨g, o + i * 4 + 1, none⟩ = some (.int .i64 (O i)) ∧ w.cell? ⟨g, o + i * 4 + 2, none⟩ = some (.int .i64 (N i)) ∧ w.cell? ⟨g, o + i * 4 + 3, none⟩ = some (.string (S i))
theorem OpT.below {w w' : World} {B : Nat} {p : Option Addr} {n : Nat} {K O N : Nat → Int} {S : Nat → ByteArray} (h : OpT w B p n K O N S) (hb : Below B w w') : OpT w' B p n K O N S := fun i hi => by
  obtain ⟨g, o, e, hg, h0, h1, h2, h3⟩ := h i hi
  exact ⟨g, o, e, hg, (hb.cell (p := ⟨g, o + i * 4, none⟩) hg).trans h0, (hb.cell (p := ⟨g, o + i * 4 + 1, none⟩) hg).trans h1, (hb.cell (p := ⟨g, o + i * 4 + 2, none⟩) hg).trans h2, (hb.cell (p := ⟨g, o + i * 4 + 3, none⟩) hg).trans h3⟩
theorem open_opt {H : Type} {enc : TypeId × Value → H} {w : World} {base : Nat} {spare : Nat → Bool} {held : Bool} {fuel : Nat} {a : Option Addr} {len cap : Nat} {x : DataW H × List MemPlace} (h : DataW.trod enc Tryd.prog w base spare held fuel 38 [.slice a len cap] = some x)
    (hs : ∀ n ∈ x.1.weights Tryd.prog 38, n ≤ reachBytes) :
    ∃ (K O N : Nat → Int) (S : Nat → ByteArray), OpT w w.heap.size a len K O N S ∧ (∀ i, i < len → I64 (O i) ∧ I64 (N i) ∧ (S i).size ≤ 140737488351232) ∧ len ≤ 9223372036854775807 := by
  rcases Deep.open_slice Tryd.underlying38 h with ⟨hcs, _⟩ | ⟨ad, ln, cp, m, n, D, Pl, hcs, hb, hl, hm, hmm, rfl, hx⟩
  · simp at hcs
    obtain ⟨rfl, rfl, rfl⟩ := hcs
    exact ⟨fun _ => 0, fun _ => 0, fun _ => 0, fun _ => ⟨#[]⟩, fun i hi => absurd hi (by omega), fun i hi => absurd hi (by omega), by omega⟩
  · simp at hcs
    obtain ⟨rfl, rfl, rfl⟩ := hcs
    have hlm : len ≤ m := by rw [hmm]; split <;> omega
    have hML : (maxLen : Nat) = 9223372036854775807 := rfl
    have each : ∀ i, i < len → ∃ q : Int × Int × Int × ByteArray, w.cell? (ad.add (i * 4)) = some (.int .i64 q.1) ∧ w.cell? (ad.add (i * 4 + 1)) = some (.int .i64 q.2.1) ∧ w.cell? (ad.add (i * 4 + 2)) = some (.int .i64 q.2.2.1) ∧ w.cell? (ad.add (i * 4 + 3)) = some (.string q.2.2.2) ∧ (Lit.int .i64 q.2.1).wf = true ∧ (Lit.int .i64 q.2.2.1).wf = true ∧ q.2.2.2.size ≤ 140737488351232 := by
      intro i hi
      obtain ⟨cs', h1, h2⟩ := hx i (by omega)
      rw [show Tryd.prog.cellsOf 42 = 4 by kernel_rfl] at h1
      obtain ⟨_, hlen, hcell⟩ := World.cells?_some h1
      obtain ⟨y0, y1, y2, y3, k, hxy, _, g0, g1, g2, g3⟩ := Go.Joins.trod_struct4 Tryd.underlying42 h2
      match cs', hlen with
      | [v0, v1, v2, v3], _ =>
        simp only [show Tryd.prog.cellsOf 3 = 1 by kernel_rfl, show Tryd.prog.cellsOf 9 = 1 by kernel_rfl] at g0 g1 g2 g3
        obtain ⟨z0, e0, d0, f0⟩ := DataW.trod_int Tryd.underlying3 g0
        obtain ⟨z1, e1, d1, f1⟩ := DataW.trod_int Tryd.underlying3 g1
        obtain ⟨z2, e2, d2, f2⟩ := DataW.trod_int Tryd.underlying3 g2
        obtain ⟨z3, e3, d3, _⟩ := DataW.trod_string Tryd.underlying9 g3
        simp at e0 e1 e2 e3
        subst e0 e1 e2 e3
        have c0 := hcell 0 (by omega)
        have c1 := hcell 1 (by omega)
        have c2 := hcell 2 (by omega)
        have c3 := hcell 3 (by omega)
        rw [Deep.add_add] at c0 c1 c2 c3
        have hw : z3.data.toList.length ≤ reachBytes := by
          refine hs _ ?_
          simp only [DataW.weights, Tryd.underlying38, List.mem_cons, List.mem_append]
          refine Or.inr (Or.inl (weightsAll_mem (d := D i) (List.mem_map.2 ⟨i, by simpa using by omega, rfl⟩) _ ?_))
          rw [show D i = .agg [y0.1, y1.1, y2.1, y3.1] from (Prod.mk.inj hxy).1]
          simp only [DataW.weights, Tryd.underlying42]
          rw [show y3.1 = .lit (.string z3.data.toList) from (Prod.mk.inj d3).1]
          simp [DataW.weightsEach, DataW.weights]
        have e : z3.data.toList.length = z3.size := rfl
        unfold reachBytes at hw
        exact ⟨(z0, z1, z2, z3), by simpa using c0, by simpa using c1, by simpa using c2, by simpa using c3, f1, f2, by show z3.size ≤ _; omega⟩
    obtain ⟨q, hq⟩ := Deep.choose_lt each
    refine ⟨fun i => (q i).1, fun i => (q i).2.1, fun i => (q i).2.2.1, fun i => (q i).2.2.2, fun i hi => ?_, fun i hi => ?_, by omega⟩
    · obtain ⟨q0, q1, q2, q3, _⟩ := hq i hi
      obtain ⟨b, off, spot⟩ := ad
      have z0 := (hq 0 (by omega)).1
      have hspot : spot = none := by simpa [Addr.add] using World.cell?_spot z0
      subst hspot
      rw [Addr.add_mid] at q0 q1 q2 q3
      exact ⟨b, off, rfl, World.block_lt_of_cell? w _ q0, q0, by simpa [Nat.add_assoc] using q1, by simpa [Nat.add_assoc] using q2, by simpa [Nat.add_assoc] using q3⟩
    · obtain ⟨_, _, _, _, f1, f2, f3⟩ := hq i hi
      exact ⟨wf_I64 f1, wf_I64 f2, f3⟩
end Go.Proofs.YtilhilglokblpaaDoor
namespace Go.Proofs.YtilhilglokblpaaDoor
open Go.RowKit
set_option maxRecDepth 100000
def upF {α : Type} (f : Nat → α) (k : Nat) (x : α) : Nat → α := fun j => if j = k then x else f j
theorem upF_self {α : Type} (f : Nat → α) (k : Nat) (x : α) : upF f k x k = x := if_pos rfl
theorem upF_ne {α : Type} (f : Nat → α) (k : Nat) (x : α) (j : Nat) (h : j ≠ k) : upF f k x j = f j := if_neg h
theorem upF_id {α : Type} (f : Nat → α) (k : Nat) : upF f k (f k) = f := by
  funext j
  unfold upF
  split
  · rename_i e; rw [e]
  · rfl
/-- two trees at b + 1, b + 2 that have taken the leaves A; the lists L, held by the box at b; the row of the trees at b + 3 -/
structure TsI (w0 : World) (h b : Nat) (W : World) (A L : Nat → List ByteArray) (V : Nat → Value) : Prop where
  bel : Below h w0 W
  box : Blk W b #[V 0, V 1] 39
  row : Blk W (b + 3) #[.pointer (some ⟨b + 1, 0, none⟩), .pointer (some ⟨b + 1 + 1, 0, none⟩)] 25
  tre : ∀ k, k < 2 → TrM W (b + 1 + k) (A k)
  own : ∀ k, k < 2 → W.ownsRow (b + 4) 9 1 (V k) (L k).length ((L k).map Value.string)
  dis : ∀ q, (V 0).ownBlock = some q → (V 1).ownBlock ≠ some q
  len : ∀ k, k < 2 → (L k).length ≤ 4096
  sht : ∀ k, k < 2 → Sht (L k)
  hb : h ≤ b
  sz : b + 4 ≤ W.heap.size
theorem TsI.bel' {w0 : World} {h b : Nat} {W W' : World} {A L : Nat → List ByteArray} {V : Nat → Value} (x : TsI w0 h b W A L V) (hb : Below W.heap.size W W') : TsI w0 h b W' A L V :=
  have hz := x.sz
  have hs := hb.size
  have hh := x.hb
  ⟨x.bel.trans (hb.mono (by omega)), x.box.below hb (by omega), x.row.below hb (by omega), fun k hk => (x.tre k hk).below hb (by omega), fun k hk => own_bel (x.own k hk) hb, x.dis, x.len, x.sht, x.hb, by omega⟩
theorem own_touch2 {w w' : World} {g B n : Nat} {v : Value} {xs : List Value} (hB : g < B) (h : w.ownsRow B 9 1 v n xs) (ht : Touch g w w') : w'.ownsRow B 9 1 v n xs := by
  have hlt := h.lt
  refine ⟨h.1, ?_⟩
  rcases h.2 with hn | ⟨g', cap, cur, rfl, hb, hg, rest⟩
  · exact .inl hn
  · have := (hlt g' rfl).2
    exact .inr ⟨g', cap, cur, rfl, hb, (ht.2 g' (by omega) this).trans hg, rest⟩
theorem TsI.grow {w0 : World} {h b : Nat} {W W' : World} {A L : Nat → List ByteArray} {V : Nat → Value} (x : TsI w0 h b W A L V) (k : Nat) (hk : k < 2) (l' : List ByteArray) (ht : Touch (b + 1 + k) W W') (hT : TrM W' (b + 1 + k) l') : TsI w0 h b W' (upF A k l') L V :=
  have hz := x.sz
  have hs := ht.1.size
  have hh := x.hb
  ⟨x.bel.trans (ht.1.mono (by omega)), x.box.below ht.1 (by omega), x.row.kept (ht.2 (b + 3) (by omega) (by omega)), fun j hj => by
    by_cases e : j = k
    · subst e; rw [upF_self]; exact hT
    · rw [upF_ne _ _ _ _ e]; exact (x.tre j hj).touch ht (by omega), fun j hj => own_touch2 (by omega) (x.own j hj) ht, x.dis, x.len, x.sht, x.hb, by omega⟩
theorem TsI.app {w0 : World} {h b : Nat} {W x5 : World} {A L : Nat → List ByteArray} {V : Nat → Value} (x : TsI w0 h b W A L V) (k : Nat) (hk : k < 2) (t : ByteArray) (hts : t.size ≤ 140737488355000) (hn : (L k).length < 4096) {g5 cap5 : Nat}
    (ho : x5.ownsRow (b + 4) 9 1 (.slice (some ⟨g5, 0, none⟩) ((L k).length + 1) cap5) ((L k).length + 1) ((L k).map Value.string ++ [.string t])) (hg : (W.alloc (.cells #[.string t] 9)).grownBy x5 (V k).ownBlock) (hat : (V k).ownBlock = some g5 ∨ g5 = W.heap.size + 1) :
    TsI w0 h b (x5.setCell ⟨b, k, none⟩ (.slice (some ⟨g5, 0, none⟩) ((L k).length + 1) cap5)) A (upF L k (L k ++ [t])) (upF V k (.slice (some ⟨g5, 0, none⟩) ((L k).length + 1) cap5)) := by
  have hz := x.sz
  have hh := x.hb
  have hB : Below (b + 4) W x5 := ((Below.refl _ W).alloc hz (.cells #[.string t] 9)).grown hg (by simp; omega) (fun q hq => ((x.own k hk).lt q hq).1)
  have hO : Only (fun q => (V k).ownBlock = some q) W x5 := ((Only.refl _ W).alloc (.cells #[.string t] 9)).grown hg (fun _ _ e => e)
  have hs := hB.size
  obtain ⟨nv, hnv⟩ : ∃ nv, Value.slice (some ⟨g5, 0, none⟩) ((L k).length + 1) cap5 = nv := ⟨_, rfl⟩
  have hnb : nv.ownBlock = some g5 := by rw [← hnv]; rfl
  have hTb : Touch b x5 (x5.setCell ⟨b, k, none⟩ nv) := (Touch.refl _ _).setCell _ _
  have hss : (x5.setCell ⟨b, k, none⟩ nv).heap.size = x5.heap.size := by simp
  rw [hnv] at ho ⊢
  have hdd : ∀ j, j < 2 → j ≠ k → ∀ q, (V j).ownBlock = some q → (V k).ownBlock ≠ some q := fun j hj e q hq hq2 => by
    obtain rfl | rfl : k = 0 ∨ k = 1 := by omega
    · obtain rfl : j = 1 := by omega
      exact x.dis q hq2 hq
    · obtain rfl : j = 0 := by omega
      exact x.dis q hq hq2
  have hd2 : ∀ j, j < 2 → j ≠ k → ∀ q, (V j).ownBlock = some q → nv.ownBlock ≠ some q := fun j hj e q hq hq2 => by
    rw [hnb] at hq2
    injection hq2 with hq2
    rcases hat with r | r
    · exact hdd j hj e q hq (by rw [r, hq2])
    · have := ((x.own j hj).lt q hq).2
      omega
  refine ⟨x.bel.trans ((hB.mono (by omega)).trans (hTb.1.mono (by omega))), ?_, (x.row.below hB (by omega)).other _ _ (by show b ≠ b + 3; omega), fun j hj => ((x.tre j hj).below hB (by omega)).touch hTb (by omega), fun j hj => ?_, ?_, fun j hj => ?_, fun j hj => ?_, hh, by omega⟩
  · have := (x.box.below hB (by omega)).set k nv
    obtain rfl | rfl : k = 0 ∨ k = 1 := by omega
    · exact this
    · exact this
  · by_cases e : j = k
    · subst e
      rw [upF_self, upF_self, List.length_append, List.map_append]
      exact own_touch2 (by omega) ho hTb
    · rw [upF_ne _ _ _ _ e, upF_ne _ _ _ _ e]
      exact own_touch2 (by omega) (owns_only (x.own j hj) hO (fun q hq => hdd j hj e q hq)) hTb
  · intro q hq hq2
    obtain rfl | rfl : k = 0 ∨ k = 1 := by omega
    · rw [upF_self] at hq
      rw [upF_ne _ _ _ _ (by omega)] at hq2
      exact hd2 1 (by omega) (by omega) q hq2 hq
    · rw [upF_self] at hq2
      rw [upF_ne _ _ _ _ (by omega)] at hq
      exact hd2 0 (by omega) (by omega) q hq hq2
  · by_cases e : j = k
    · subst e
      rw [upF_self, List.length_append]
      show (L j).length + 1 ≤ 4096
      omega
    · rw [upF_ne _ _ _ _ e]
      exact x.len j hj
  · by_cases e : j = k
    · subst e
      rw [upF_self]
      intro i hi
      rw [List.length_append] at hi
      by_cases e2 : i < (L j).length
      · have := x.sht j hj i e2
        rw [List.getD_eq_getElem?_getD, List.getElem?_append_left e2, ← List.getD_eq_getElem?_getD]
        exact this
      · obtain rfl : i = (L j).length := by simp at hi; omega
        rw [List.getD_eq_getElem?_getD, List.getElem?_append_right (Nat.le_refl _), Nat.sub_self]
        exact hts
    · rw [upF_ne _ _ _ _ e]
      exact x.sht j hj
theorem TsI.cellV {w0 : World} {h b : Nat} {W : World} {A L : Nat → List ByteArray} {V : Nat → Value} (x : TsI w0 h b W A L V) (k : Nat) (hk : k < 2) : W.cell? ⟨b, k, none⟩ = some (V k) ∧ W.frozen? ⟨b, k, none⟩ = false := by
  refine ⟨?_, x.box.frozen k⟩
  rw [x.box.cell k]
  obtain rfl | rfl : k = 0 ∨ k = 1 := by omega
  · rfl
  · rfl
theorem TsI.cellT {w0 : World} {h b : Nat} {W : World} {A L : Nat → List ByteArray} {V : Nat → Value} (x : TsI w0 h b W A L V) (k : Nat) (hk : k < 2) : W.cell? ⟨b + 3, k, none⟩ = some (.pointer (some ⟨b + 1 + k, 0, none⟩)) := by
  rw [x.row.cell k]
  obtain rfl | rfl : k = 0 ∨ k = 1 := by omega
  · rfl
  · rfl
/-- the list of one of them, as it lies -/
theorem TsI.form {w0 : World} {h b : Nat} {W : World} {A L : Nat → List ByteArray} {V : Nat → Value} (x : TsI w0 h b W A L V) (k : Nat) (hk : k < 2) : ∃ p c, V k = .slice p (L k).length c ∧ SB W W.heap.size p (L k) ∧ (L k).length ≤ c ∧ c ≤ 9223372036854775807 := by
  have ho := x.own k hk
  obtain ⟨p, c, e, _⟩ := gr_form ho
  rw [e] at ho
  exact ⟨p, c, e, own_SB rfl ho, (own_ccT ho).1, (own_ccT ho).2⟩
theorem TsI.init (w0 : World) (h b : Nat) (W : World) (hb : Below h w0 W) (hB : h ≤ b) (h0 : Blk W b #[.slice none 0 0, .slice none 0 0] 39) (h1 : TrM W (b + 1) []) (h2 : TrM W (b + 1 + 1) []) (h3 : Blk W (b + 3) #[.pointer (some ⟨b + 1, 0, none⟩), .pointer (some ⟨b + 1 + 1, 0, none⟩)] 25) : TsI w0 h b W (fun _ => []) (fun _ => []) (fun _ => .slice none 0 0) :=
  ⟨hb, h0, h3, fun k hk => by
    obtain rfl | rfl : k = 0 ∨ k = 1 := by omega
    · exact h1
    · exact h2, fun k _ => World.ownsRow_nil _ _ _ _, fun q hq => by simp [Value.ownBlock] at hq, fun _ _ => Nat.zero_le _, fun _ _ j hj => absurd hj (by simp), hB, by have := h3.lt; omega⟩
end Go.Proofs.YtilhilglokblpaaDoor
namespace Go.Proofs.YtilhilglokblpaaDoor
open Go.RowKit
set_option maxRecDepth 100000
set_option maxHeartbeats 16000000 in
theorem trees19 (kf of nf : Nat → Int) (sf : Nat → ByteArray) (q c : Nat) (p : Option Addr) (hI : ∀ i, i < q → I64 (of i) ∧ I64 (nf i) ∧ (sf i).size ≤ 140737488351232) (hq9 : q ≤ 9223372036854775807) (w : World) (hOp : OpT w w.heap.size p q kf of nf sf) (hK : KTab w) (hT : BTab w) : Calls Tryd.prog 4 #[.slice p q c] w fun e w' => e = .returned (.bool true) ∧ Below w.heap.size w w' := by
  obtain ⟨h, hh⟩ : ∃ h, w.heap.size = h := ⟨_, rfl⟩
  have HKB := hide (show ∀ W, Below h w W → KTab W from fun W hW => hK.below hW (by rw [← hh]; exact hK.1))
  have HTB := hide (show ∀ W, Below h w W → BTab W from fun W hW => hT.below hW (by rw [← hh]; exact hT.1))
  have hvh : 2 < h := by rw [← hh]; exact hK.1
  rw [hh] at hOp
  have HOP := hide (show ∀ W, Below h w W → OpT W h p q kf of nf sf from fun W hW => hOp.below hW)
  have HII := hide hI
  have HAW := hide (fun W (hW : Below h w W) => awake19 W (unhide HKB W hW))
  have HB0 := hide (show Below h w w from Below.refl _ _)
  obtain ⟨i0, hi, hz3, hz1, hz2⟩ := info_parts gr_str
  have HI := hide (And.intro hi (And.intro hz3 (And.intro hz1 hz2)))
  rw [hh]
  clear hOp hI hK hT hi hz3 hz1 hz2
  go_enter Tryd.func4, Tryd.ntmps4
  go_wp2_with fail
  refine (unhide HAW _ (unhide HB0)).mono ?_
  rintro e y1 ⟨rfl, hb⟩
  have HB1 := hide (show Below h w y1 from (unhide HB0).trans (hb.mono (by have := (unhide HB0).size; omega)))
  clear hb HB0 HAW
  obtain ⟨b, hbb⟩ : ∃ z, y1.heap.size = z := ⟨_, rfl⟩
  have hhb : h ≤ b := by have := (unhide HB1).size; omega
  obtain ⟨z1, hz1⟩ : ∃ z, y1.alloc (.cells #[.slice none 0 0, .slice none 0 0] 39) = z := ⟨_, rfl⟩
  have hs1 : z1.heap.size = b + 1 := by rw [← hz1, ← hbb]; simp
  have HX0 := hide (show Blk z1 b #[.slice none 0 0, .slice none 0 0] 39 from by rw [← hz1, ← hbb]; exact Blk.new y1 _ _)
  have HX1 := hide (show Below h w z1 from by rw [← hz1]; exact (unhide HB1).alloc (by omega) _)
  have HNA := hide (tnew_any z1)
  rw [hs1] at HNA
  go_wp2_with fail
  refine (unhide HNA).mono ?_
  rintro e z2 ⟨rfl, ht1, hb2, hs2⟩
  have hs2' : z2.heap.size = b + 1 + 1 := hs2
  have HT1 := hide ht1
  have HX2 := hide (show Below h w z2 from (unhide HX1).trans (hb2.mono (by omega)))
  have HX3 := hide (show Blk z2 b #[.slice none 0 0, .slice none 0 0] 39 from (unhide HX0).below hb2 (by omega))
  have HNB := hide (tnew_any z2)
  rw [hs2'] at HNB
  clear ht1 hb2 hs2 HNA HX0 HX1
  go_wp2_with fail
  refine (unhide HNB).mono ?_
  rintro e z3 ⟨rfl, ht2, hb3, hs3⟩
  have hs3' : z3.heap.size = b + 3 := by omega
  obtain ⟨z4, hz4⟩ : ∃ z, z3.alloc (.cells #[.pointer (some ⟨b + 1, 0, none⟩), .pointer (some ⟨b + 1 + 1, 0, none⟩)] 25) = z := ⟨_, rfl⟩
  have HTS := hide (show TsI w h b z4 (fun _ => []) (fun _ => []) (fun _ => .slice none 0 0) from by
    have hbel : Below z3.heap.size z3 z4 := by rw [← hz4]; exact (Below.refl _ _).alloc (Nat.le_refl _) _
    refine TsI.init w h b z4 (((unhide HX2).trans (hb3.mono (by omega))).trans (hbel.mono (by omega))) hhb (((unhide HX3).below hb3 (by omega)).below hbel (by omega)) (((unhide HT1).below hb3 (by omega)).below hbel (by omega)) (ht2.below hbel (by omega)) ?_
    rw [← hz4, ← hs3']
    exact Blk.new z3 _ _)
  have c0 := (unhide HTS).cellT 0 (by omega)
  have c1 := (unhide HTS).cellT 1 (by omega)
  clear ht2 hb3 hs3 HT1 HX2 HX3 HNB HB1
  go_wp2
  go_loopw [6] (fun iv wr => ∃ (i : Nat) (L : Nat → List ByteArray) (V : Nat → Value), i ≤ q ∧ iv = .int .i64 (i : Int) ∧ Hid (TsI w h b wr L L V)) (fun iv _ => q - (intOf iv).toNat)
  case atStart => exact ⟨0, _, _, by omega, rfl, HTS⟩
  case round =>
  clear HTS c0 c1 hz4 hs3' hs2' hs1 hz1 hbb
  obtain ⟨i, L, V, hiq, rfl, HTS⟩ := hrel
  obtain ⟨wi, rfl⟩ : ∃ z, z = wr := ⟨_, rfl⟩
  by_cases hiq2 : i < q
  · have e1 : (i : Int) < (q : Int) := by omega
    obtain ⟨gp, op, rfl, hgp, hc0, hc1, hc2, hc3⟩ := unhide HOP wi (unhide HTS).bel i hiq2
    obtain ⟨hO, hN, hSz⟩ := unhide HII i hiq2
    have HC3 := hide (show ∀ y, Below h w y → y.cell? ⟨gp, op + i * 4 + 3, none⟩ = some (.string (sf i)) from fun y hy => by
      obtain ⟨g9, o9, e9, _, _, _, _, r9⟩ := unhide HOP y hy i hiq2
      injection e9 with e9
      injection e9 with e8 e9
      subst e8 e9
      exact r9)
    generalize sf i = x at *
    generalize kf i = kd at *
    have HPK := hide (fun W => pick19 (of i) 2 (by decide) hO W)
    rw [show (((2 : Nat)) : Int) = 2 from rfl] at HPK
    have HPM := hide (fun W => pick19 (nf i) 5000 (by decide) hN W)
    rw [show (((5000 : Nat)) : Int) = 5000 from rfl] at HPM
    generalize of i = ofi at *
    generalize nf i = nfi at *
    clear hO hN hc3
    go_wp2_with fail
    refine (unhide HPK _).mono ?_
    rintro e y ⟨k, hk2, rfl, hy⟩
    subst y
    clear HPK hc1
    by_cases k1 : kd = 1
    · subst k1
      clear HPM hc2
      have HTS0 := hide (((unhide HTS).bel' (Below.refl _ _).drew).tre k hk2)
      obtain ⟨l', hl'⟩ : ∃ z, (if (L k).length = 4096 then L k else L k ++ [x]) = z := ⟨_, rfl⟩
      have HAD := hide (fun hT => tadd_any (L k) x (by omega) (b + 1 + k) wi.drew hT (unhide HKB _ ((unhide HTS).bel' (Below.refl _ _).drew).bel) (by omega))
      rw [hl'] at HAD
      obtain ⟨AT, hAT⟩ : ∃ AT : World → Prop, AT = fun y => Below h w y ∧ y.cell? ⟨b + 3, k, none⟩ = some (.pointer (some ⟨b + 1 + k, 0, none⟩)) := ⟨_, rfl⟩
      have HAT := hide (show AT wi.drew from by rw [hAT]; exact ⟨((unhide HTS).bel' (Below.refl _ _).drew).bel, ((unhide HTS).bel' (Below.refl _ _).drew).cellT k hk2⟩)
      have HC := hide (show ∀ y, AT y → y.cell? ⟨b + 3, k, none⟩ = some (.pointer (some ⟨b + 1 + k, 0, none⟩)) ∧ y.cell? ⟨gp, op + i * 4 + 3, none⟩ = some (.string x) from fun y hy => by
        rw [hAT] at hy
        exact ⟨hy.2, unhide HC3 y hy.1⟩)
      have HGR := hide (show ∀ y4, TrM y4 (b + 1 + k) l' → Touch (b + 1 + k) wi.drew y4 → TsI w h b y4 (upF L k l') L V from fun y4 h1 h2 => ((unhide HTS).bel' (Below.refl _ _).drew).grow k hk2 l' h2 h1)
      have HSA := hide (show ∀ y4, TrM y4 (b + 1 + k) l' → Touch (b + 1 + k) wi.drew y4 → AT y4 from fun y4 h1 h2 => by
        rw [hAT]
        have := unhide HGR y4 h1 h2
        exact ⟨this.bel, this.cellT k hk2⟩)
      have hk0 : (k : Int) < 2 := by omega
      clear hAT HTS
      go_wp2_with fail
      refine wp_region_held_drew (S := AT) (by kernel_rfl) (unhide HAT) ?_
      intro hS
      refine wpAnyH_takeD 0 (some 48) (.slice (some ⟨b + 3, 0, none⟩) 2 2) rfl rfl (by kernel_rfl) (by kernel_rfl) (by kernel_rfl) (fun _ _ _ h => h) (Or.inl ⟨by rfl, fun w hSw => by obtain ⟨hq1, hq2⟩ := unhide HC w hSw; clear hSw; go_simp⟩) hS ?_
      simp only [Act.put, List.setIfInBounds_toArray, List.set_cons_zero, List.set_cons_succ]
      refine wpAnyH_takeD 1 (some 49) (.int .i64 (k : Int)) rfl rfl (by kernel_rfl) (by kernel_rfl) (by kernel_rfl) (fun _ _ _ h => h) (Or.inl ⟨by rfl, fun w hSw => by obtain ⟨hq1, hq2⟩ := unhide HC w hSw; clear hSw; go_simp⟩) hS ?_
      simp only [Act.put, List.setIfInBounds_toArray, List.set_cons_zero, List.set_cons_succ]
      refine wpAnyH_takeD 2 (some 50) (.pointer (some ⟨b + 3, k, none⟩)) rfl rfl (by kernel_rfl) (by kernel_rfl) (by kernel_rfl) (fun _ _ _ h => h) (Or.inl ⟨by rfl, fun w hSw => by obtain ⟨hq1, hq2⟩ := unhide HC w hSw; clear hSw; go_simp⟩) hS ?_
      simp only [Act.put, List.setIfInBounds_toArray, List.set_cons_zero, List.set_cons_succ]
      refine wpAnyH_takeD 3 (some 51) (.pointer (some ⟨b + 1 + k, 0, none⟩)) rfl rfl (by kernel_rfl) (by kernel_rfl) (by kernel_rfl) (fun _ _ _ h => h) (Or.inl ⟨by rfl, fun w hSw => by obtain ⟨hq1, hq2⟩ := unhide HC w hSw; clear hSw; go_simp⟩) hS ?_
      simp only [Act.put, List.setIfInBounds_toArray, List.set_cons_zero, List.set_cons_succ]
      refine wpAnyH_takeD 4 (some 52) (.slice (some ⟨gp, op, none⟩) q c) rfl rfl (by kernel_rfl) (by kernel_rfl) (by kernel_rfl) (fun _ _ _ h => h) (Or.inl ⟨by rfl, fun w hSw => by obtain ⟨hq1, hq2⟩ := unhide HC w hSw; clear hSw; go_simp⟩) hS ?_
      simp only [Act.put, List.setIfInBounds_toArray, List.set_cons_zero, List.set_cons_succ]
      refine wpAnyH_takeD 5 (some 53) (.int .i64 (i : Int)) rfl rfl (by kernel_rfl) (by kernel_rfl) (by kernel_rfl) (fun _ _ _ h => h) (Or.inl ⟨by rfl, fun w hSw => by obtain ⟨hq1, hq2⟩ := unhide HC w hSw; clear hSw; go_simp⟩) hS ?_
      simp only [Act.put, List.setIfInBounds_toArray, List.set_cons_zero, List.set_cons_succ]
      refine wpAnyH_takeD 6 (some 54) (.pointer (some ⟨gp, op + i * 4, none⟩)) rfl rfl (by kernel_rfl) (by kernel_rfl) (by kernel_rfl) (fun _ _ _ h => h) (Or.inl ⟨by rfl, fun w hSw => by obtain ⟨hq1, hq2⟩ := unhide HC w hSw; clear hSw; go_simp⟩) hS ?_
      simp only [Act.put, List.setIfInBounds_toArray, List.set_cons_zero, List.set_cons_succ]
      refine wpAnyH_takeD 7 (some 55) (.pointer (some ⟨gp, op + i * 4 + 3, none⟩)) rfl rfl (by kernel_rfl) (by kernel_rfl) (by kernel_rfl) (fun _ _ _ h => h) (Or.inl ⟨by rfl, fun w hSw => by obtain ⟨hq1, hq2⟩ := unhide HC w hSw; clear hSw; go_simp⟩) hS ?_
      simp only [Act.put, List.setIfInBounds_toArray, List.set_cons_zero, List.set_cons_succ]
      refine wpAnyH_takeD 8 (some 56) (.string x) rfl rfl (by kernel_rfl) (by kernel_rfl) (by kernel_rfl) (fun _ _ _ h => h) (Or.inl ⟨by rfl, fun w hSw => by obtain ⟨hq1, hq2⟩ := unhide HC w hSw; clear hSw; go_simp⟩) hS ?_
      simp only [Act.put, List.setIfInBounds_toArray, List.set_cons_zero, List.set_cons_succ]
      refine wpAnyH_ready (rs := [9]) (by kernel_rfl) (by simp) ?_
      refine AllReadyH.cons rfl (fun K hK => ?_) AllReadyH.nil
      simp only [List.getElem_toArray, List.getElem_cons_succ, List.getElem_cons_zero]
      go_simp
      refine (unhide HAD (unhide HTS0)).mono ?_
      rintro e y4 ⟨rfl, hT4, ht4⟩
      have hS9 := unhide HSA y4 hT4 ht4
      have HTS4 := hide (unhide HGR _ hT4 ht4)
      clear hT4 ht4
      refine hK.out _ _ hS9 (fun hS => ?_)
      clear hK K
      refine wpAnyH_done (by kernel_rfl) ?_ _
      clear hS HAT HC HSA HGR HAD HTS0 hS9
      have HTS5 := HTS4
      obtain ⟨pk, ck, hvk, _, hck1, hck2⟩ := (unhide HTS5).form k hk2
      have hln := (unhide HTS5).len k hk2
      obtain ⟨n, hn⟩ : ∃ z, (L k).length = z := ⟨_, rfl⟩
      rw [hn] at hvk hck1 hln
      have cv1 := ((unhide HTS5).cellV k hk2).1
      have fv1 := ((unhide HTS5).cellV k hk2).2
      rw [hvk] at cv1
      by_cases hn4 : n < 4096
      · have e4 : (n : Int) < 4096 := by omega
        have hl2 : l' = L k ++ [x] := by rw [← hl', if_neg (by omega)]
        have HB4 := hide (show Below h w y4.drew from ((unhide HTS5).bel' (Below.refl _ _).drew).bel)
        have hzb := (unhide HTS5).sz
        have HBA := hide (show Below h w ((y4.alloc (.cells #[.string x] 9)).drew) from ((unhide HTS5).bel.alloc (by omega) _).drew)
        have HBS := hide (show b + 4 ≤ ((y4.alloc (.cells #[.string x] 9)).drew).heap.size from by simp; omega)
        have HOW := hide (show ((y4.alloc (.cells #[.string x] 9)).drew).ownsRow (b + 4) 9 1 (.slice pk n ck) n ((L k).map Value.string) from by
          have := (((unhide HTS5).own k hk2).alloc (.cells #[.string x] 9)).drew
          rw [hvk, hn] at this
          exact this)
        have HAP := hide (show ∀ g5 cap5 x5, x5.ownsRow (b + 4) 9 1 (.slice (some ⟨g5, 0, none⟩) (n + 1) cap5) (n + 1) ((L k).map Value.string ++ [.string x]) → ((y4.alloc (.cells #[.string x] 9)).drew).grownBy x5 (Value.slice pk n ck).ownBlock → ((Value.slice pk n ck).ownBlock = some g5 ∨ g5 = y4.heap.size + 1) → TsI w h b (x5.setCell ⟨b, k, none⟩ (.slice (some ⟨g5, 0, none⟩) (n + 1) cap5)) (upF L k l') (upF L k l') (upF V k (.slice (some ⟨g5, 0, none⟩) (n + 1) cap5)) ∧ Below h w x5 ∧ Below h w (x5.setCell ⟨b, k, none⟩ (.slice (some ⟨g5, 0, none⟩) (n + 1) cap5)) ∧ x5.cell? ⟨b, k, none⟩ = some (.slice pk n ck) ∧ x5.frozen? ⟨b, k, none⟩ = false from fun g5 cap5 x5 a1 a2 a3 => by
          have hx := (unhide HTS5).bel' (Below.refl _ _).drew
          rw [← hvk] at a2 a3
          have hap := hx.app k hk2 x (by omega) (by rw [hn]; exact hn4) (g5 := g5) (cap5 := cap5) (x5 := x5) (by rw [hn]; exact a1) a2 a3
          rw [hn, ← hl2] at hap
          have hB : Below (b + 4) y4.drew x5 := ((Below.refl _ y4.drew).alloc hx.sz (.cells #[.string x] 9)).grown a2 (by simp; omega) (fun q hq => ((hx.own k hk2).lt q hq).1)
          have hcv := hx.cellV k hk2
          rw [hvk] at hcv
          have hbz : b < y4.drew.heap.size := by have := hx.sz; omega
          exact ⟨hap, hx.bel.trans (hB.mono (by omega)), hap.bel, (hB.cell (p := ⟨b, k, none⟩) (by show b < b + 4; omega)).trans hcv.1, (hx.box.below hB (by omega)).frozen k⟩)
        have cA1 : ((y4.alloc (.cells #[.string x] 9)).drew).cell? ⟨b, k, none⟩ = some (.slice pk n ck) := (((Below.refl y4.heap.size y4).alloc (Nat.le_refl _) (.cells #[.string x] 9)).cell (p := ⟨b, k, none⟩) (by show b < _; omega)).trans cv1
        have cA2 : (y4.alloc (.cells #[.string x] 9)).cell? ⟨b, k, none⟩ = some (.slice pk n ck) := cA1
        clear hn hvk hl' hl2 HTS4 HTS5
        go_wp2_with fail
        refine wp_region_held_drew (S := fun W => Below h w W) (by kernel_rfl) (unhide HB4) ?_
        intro hS
        refine wpAnyH_takeD 0 (some 63) (.int .i64 (k : Int)) rfl rfl (by kernel_rfl) (by kernel_rfl) (by kernel_rfl) (fun _ _ _ h => h) (Or.inl ⟨by rfl, fun w hSw => by have hq2 := unhide HC3 w hSw; clear hSw; go_simp⟩) hS ?_
        simp only [Act.put, List.setIfInBounds_toArray, List.set_cons_zero, List.set_cons_succ]
        refine wpAnyH_takeD 1 (some 64) (.int .i64 (k : Int)) rfl rfl (by kernel_rfl) (by kernel_rfl) (by kernel_rfl) (fun _ _ _ h => h) (Or.inl ⟨by rfl, fun w hSw => by have hq2 := unhide HC3 w hSw; clear hSw; go_simp⟩) hS ?_
        simp only [Act.put, List.setIfInBounds_toArray, List.set_cons_zero, List.set_cons_succ]
        refine wpAnyH_takeD 2 (some 65) (.pointer (some ⟨b, k, none⟩)) rfl rfl (by kernel_rfl) (by kernel_rfl) (by kernel_rfl) (fun _ _ _ h => h) (Or.inl ⟨by rfl, fun w hSw => by have hq2 := unhide HC3 w hSw; clear hSw; go_simp⟩) hS ?_
        simp only [Act.put, List.setIfInBounds_toArray, List.set_cons_zero, List.set_cons_succ]
        refine wpAnyH_takeD 4 (some 67) (.slice (some ⟨gp, op, none⟩) q c) rfl rfl (by kernel_rfl) (by kernel_rfl) (by kernel_rfl) (fun _ _ _ h => h) (Or.inl ⟨by rfl, fun w hSw => by have hq2 := unhide HC3 w hSw; clear hSw; go_simp⟩) hS ?_
        simp only [Act.put, List.setIfInBounds_toArray, List.set_cons_zero, List.set_cons_succ]
        refine wpAnyH_takeD 5 (some 68) (.int .i64 (i : Int)) rfl rfl (by kernel_rfl) (by kernel_rfl) (by kernel_rfl) (fun _ _ _ h => h) (Or.inl ⟨by rfl, fun w hSw => by have hq2 := unhide HC3 w hSw; clear hSw; go_simp⟩) hS ?_
        simp only [Act.put, List.setIfInBounds_toArray, List.set_cons_zero, List.set_cons_succ]
        refine wpAnyH_takeD 6 (some 69) (.pointer (some ⟨gp, op + i * 4, none⟩)) rfl rfl (by kernel_rfl) (by kernel_rfl) (by kernel_rfl) (fun _ _ _ h => h) (Or.inl ⟨by rfl, fun w hSw => by have hq2 := unhide HC3 w hSw; clear hSw; go_simp⟩) hS ?_
        simp only [Act.put, List.setIfInBounds_toArray, List.set_cons_zero, List.set_cons_succ]
        refine wpAnyH_takeD 7 (some 70) (.pointer (some ⟨gp, op + i * 4 + 3, none⟩)) rfl rfl (by kernel_rfl) (by kernel_rfl) (by kernel_rfl) (fun _ _ _ h => h) (Or.inl ⟨by rfl, fun w hSw => by have hq2 := unhide HC3 w hSw; clear hSw; go_simp⟩) hS ?_
        simp only [Act.put, List.setIfInBounds_toArray, List.set_cons_zero, List.set_cons_succ]
        refine wpAnyH_takeD 8 (some 71) (.string x) rfl rfl (by kernel_rfl) (by kernel_rfl) (by kernel_rfl) (fun _ _ _ h => h) (Or.inl ⟨by rfl, fun w hSw => by have hq2 := unhide HC3 w hSw; clear hSw; go_simp⟩) hS ?_
        simp only [Act.put, List.setIfInBounds_toArray, List.set_cons_zero, List.set_cons_succ]
        refine wpAnyH_ready (rs := [3, 9]) (by kernel_rfl) (by simp) ?_
        refine AllReadyH.cons rfl (fun K hK => ?_) (AllReadyH.cons rfl (fun K hK => ?_) AllReadyH.nil)
        · simp only [List.getElem_toArray, List.getElem_cons_succ, List.getElem_cons_zero]
          go_simp
          refine hK.out _ _ hS (fun hS => ?_)
          clear hK K
          refine wpAnyH_ready (rs := [9]) (by kernel_rfl) (by simp) ?_
          refine AllReadyH.cons rfl (fun K hK => ?_) AllReadyH.nil
          simp only [List.getElem_toArray, List.getElem_cons_succ, List.getElem_cons_zero]
          go_simp
          refine hK.out _ _ (unhide HBA) (fun hS => ?_)
          clear hK K
          refine wpAnyH_ready (rs := [10]) (by kernel_rfl) (by simp) ?_
          refine AllReadyH.cons rfl (fun Kk hKk => ?_) AllReadyH.nil
          simp only [List.getElem_toArray, List.getElem_cons_succ, List.getElem_cons_zero]
          rw [if_pos (by rfl)]
          refine wp_append_lies _ (.tmp 66) (.tmp 72) 22 rfl (b + 4) 9 i0 (.string ⟨#[]⟩) 1 16 Tryd.underlying22 (unhide HI).1 (unhide HI).2.1 (unhide HI).2.2.1 (unhide HI).2.2.2 rfl (by decide) _ n _ rfl (unhide HOW) ⟨y4.heap.size, 0, none⟩ 1 1 [.string x] rfl rfl (fun q u hu => gr_new y4 9 _ q u hu) (by simp [Value.oneCell']) (by decide) (by unfold maxLen; omega) (by omega) (unhide HBS) (y4.heap.size + 1) (by simp) ?_
          intro g5 cap5 x5 ho5 hg5 hgg hgl5
          obtain ⟨hnew, hb5, hb6, cl5, fl5⟩ := unhide HAP g5 cap5 x5 ho5 hg5 hgg
          have HTN := hide hnew
          simp only [Act.put, List.setIfInBounds_toArray, List.set_cons_zero, List.set_cons_succ]
          refine hKk.out _ _ hb5 (fun hS => ?_)
          clear hKk Kk ho5 hg5 hgg hgl5 hnew
          refine wpAnyH_takeD 11 (some 74) (.pointer (some ⟨b, k, none⟩)) rfl rfl (by kernel_rfl) (by kernel_rfl) (by kernel_rfl) (fun _ _ _ h => h) (Or.inl ⟨by rfl, fun w hSw => by have hq2 := unhide HC3 w hSw; clear hSw; go_simp⟩) hS ?_
          simp only [Act.put, List.setIfInBounds_toArray, List.set_cons_zero, List.set_cons_succ]
          refine wpAnyH_ready (rs := [12]) (by kernel_rfl) (by simp) ?_
          refine AllReadyH.cons rfl (fun K hK => ?_) AllReadyH.nil
          simp only [List.getElem_toArray, List.getElem_cons_succ, List.getElem_cons_zero]
          go_simp
          refine hK.out _ _ hb6 (fun hS => ?_)
          clear hK K
          refine wpAnyH_done (by kernel_rfl) ?_ _
          clear hS cl5 fl5 hb5 hb6
          clear HB4 HBA HBS HOW HAP cA1 cA2 cv1 fv1
          go_wp2
          go_roundw
          case rel => exact ⟨i + 1, upF L k l', _, by omega, by go_num, HTN⟩
          case measure => simp [intOf] <;> omega
        · simp only [List.getElem_toArray, List.getElem_cons_succ, List.getElem_cons_zero]
          go_simp
          refine hK.out _ _ (unhide HBA) (fun hS => ?_)
          clear hK K
          refine wpAnyH_ready (rs := [3]) (by kernel_rfl) (by simp) ?_
          refine AllReadyH.cons rfl (fun K hK => ?_) AllReadyH.nil
          simp only [List.getElem_toArray, List.getElem_cons_succ, List.getElem_cons_zero]
          go_simp
          refine hK.out _ _ (unhide HBA) (fun hS => ?_)
          clear hK K
          refine wpAnyH_ready (rs := [10]) (by kernel_rfl) (by simp) ?_
          refine AllReadyH.cons rfl (fun Kk hKk => ?_) AllReadyH.nil
          simp only [List.getElem_toArray, List.getElem_cons_succ, List.getElem_cons_zero]
          rw [if_pos (by rfl)]
          refine wp_append_lies _ (.tmp 66) (.tmp 72) 22 rfl (b + 4) 9 i0 (.string ⟨#[]⟩) 1 16 Tryd.underlying22 (unhide HI).1 (unhide HI).2.1 (unhide HI).2.2.1 (unhide HI).2.2.2 rfl (by decide) _ n _ rfl (unhide HOW) ⟨y4.heap.size, 0, none⟩ 1 1 [.string x] rfl rfl (fun q u hu => gr_new y4 9 _ q u hu) (by simp [Value.oneCell']) (by decide) (by unfold maxLen; omega) (by omega) (unhide HBS) (y4.heap.size + 1) (by simp) ?_
          intro g5 cap5 x5 ho5 hg5 hgg hgl5
          obtain ⟨hnew, hb5, hb6, cl5, fl5⟩ := unhide HAP g5 cap5 x5 ho5 hg5 hgg
          have HTN := hide hnew
          simp only [Act.put, List.setIfInBounds_toArray, List.set_cons_zero, List.set_cons_succ]
          refine hKk.out _ _ hb5 (fun hS => ?_)
          clear hKk Kk ho5 hg5 hgg hgl5 hnew
          refine wpAnyH_takeD 11 (some 74) (.pointer (some ⟨b, k, none⟩)) rfl rfl (by kernel_rfl) (by kernel_rfl) (by kernel_rfl) (fun _ _ _ h => h) (Or.inl ⟨by rfl, fun w hSw => by have hq2 := unhide HC3 w hSw; clear hSw; go_simp⟩) hS ?_
          simp only [Act.put, List.setIfInBounds_toArray, List.set_cons_zero, List.set_cons_succ]
          refine wpAnyH_ready (rs := [12]) (by kernel_rfl) (by simp) ?_
          refine AllReadyH.cons rfl (fun K hK => ?_) AllReadyH.nil
          simp only [List.getElem_toArray, List.getElem_cons_succ, List.getElem_cons_zero]
          go_simp
          refine hK.out _ _ hb6 (fun hS => ?_)
          clear hK K
          refine wpAnyH_done (by kernel_rfl) ?_ _
          clear hS cl5 fl5 hb5 hb6
          clear HB4 HBA HBS HOW HAP cA1 cA2 cv1 fv1
          go_wp2
          go_roundw
          case rel => exact ⟨i + 1, upF L k l', _, by omega, by go_num, HTN⟩
          case measure => simp [intOf] <;> omega
      · have e4 : ¬ (n : Int) < 4096 := by omega
        have hl2 : l' = L k := by rw [← hl', if_pos (by omega)]
        have HTN := hide (show TsI w h b y4 L L V from by
          have := unhide HTS5
          rw [hl2, upF_id] at this
          exact this)
        clear hn hvk hl' hl2 HTS4 HTS5
        go_wp2
        go_roundw
        case rel => exact ⟨i + 1, L, V, by omega, by go_num, HTN⟩
        case measure => simp [intOf] <;> omega
    have d1 : (kd == 1) = false := by simpa using k1
    by_cases k5 : kd = 5
    · subst k5
      go_wp2_with fail
      refine (unhide HPM _).mono ?_
      rintro e y ⟨m0, hm0, rfl, hy⟩
      subst y
      clear HPM hc2 hc0 d1 k1
      go_wp2
      go_loopw [8] (fun nv wr => ∃ (m : Nat) (L : Nat → List ByteArray) (V : Nat → Value), m < 5000 ∧ nv = .int .i64 (m : Int) ∧ Hid (TsI w h b wr L L V)) (fun nv _ => (intOf nv).toNat)
      case atStart => exact ⟨m0, _, _, hm0, rfl, HTS⟩
      case round =>
      clear HTS
      obtain ⟨m, L, V, hm5, rfl, HTS⟩ := hrel
      obtain ⟨wi, rfl⟩ : ∃ z, z = wr := ⟨_, rfl⟩
      by_cases hm0 : 0 < m
      · have e5 : (m : Int) > 0 := by omega
        have HTS0 := hide (((unhide HTS).bel' (Below.refl _ _).drew).tre k hk2)
        obtain ⟨l', hl'⟩ : ∃ z, (if (L k).length = 4096 then L k else L k ++ [x]) = z := ⟨_, rfl⟩
        have HAD := hide (fun hT => tadd_any (L k) x (by omega) (b + 1 + k) wi.drew hT (unhide HKB _ ((unhide HTS).bel' (Below.refl _ _).drew).bel) (by omega))
        rw [hl'] at HAD
        obtain ⟨AT, hAT⟩ : ∃ AT : World → Prop, AT = fun y => Below h w y ∧ y.cell? ⟨b + 3, k, none⟩ = some (.pointer (some ⟨b + 1 + k, 0, none⟩)) := ⟨_, rfl⟩
        have HAT := hide (show AT wi.drew from by rw [hAT]; exact ⟨((unhide HTS).bel' (Below.refl _ _).drew).bel, ((unhide HTS).bel' (Below.refl _ _).drew).cellT k hk2⟩)
        have HC := hide (show ∀ y, AT y → y.cell? ⟨b + 3, k, none⟩ = some (.pointer (some ⟨b + 1 + k, 0, none⟩)) ∧ y.cell? ⟨gp, op + i * 4 + 3, none⟩ = some (.string x) from fun y hy => by
          rw [hAT] at hy
          exact ⟨hy.2, unhide HC3 y hy.1⟩)
        have HGR := hide (show ∀ y4, TrM y4 (b + 1 + k) l' → Touch (b + 1 + k) wi.drew y4 → TsI w h b y4 (upF L k l') L V from fun y4 h1 h2 => ((unhide HTS).bel' (Below.refl _ _).drew).grow k hk2 l' h2 h1)
        have HSA := hide (show ∀ y4, TrM y4 (b + 1 + k) l' → Touch (b + 1 + k) wi.drew y4 → AT y4 from fun y4 h1 h2 => by
          rw [hAT]
          have := unhide HGR y4 h1 h2
          exact ⟨this.bel, this.cellT k hk2⟩)
        have hk0 : (k : Int) < 2 := by omega
        clear hAT HTS
        go_wp2_with fail
        refine wp_region_held_drew (S := AT) (by kernel_rfl) (unhide HAT) ?_
        intro hS
        refine wpAnyH_takeD 0 (some 87) (.slice (some ⟨b + 3, 0, none⟩) 2 2) rfl rfl (by kernel_rfl) (by kernel_rfl) (by kernel_rfl) (fun _ _ _ h => h) (Or.inl ⟨by rfl, fun w hSw => by obtain ⟨hq1, hq2⟩ := unhide HC w hSw; clear hSw; go_simp⟩) hS ?_
        simp only [Act.put, List.setIfInBounds_toArray, List.set_cons_zero, List.set_cons_succ]
        refine wpAnyH_takeD 1 (some 88) (.int .i64 (k : Int)) rfl rfl (by kernel_rfl) (by kernel_rfl) (by kernel_rfl) (fun _ _ _ h => h) (Or.inl ⟨by rfl, fun w hSw => by obtain ⟨hq1, hq2⟩ := unhide HC w hSw; clear hSw; go_simp⟩) hS ?_
        simp only [Act.put, List.setIfInBounds_toArray, List.set_cons_zero, List.set_cons_succ]
        refine wpAnyH_takeD 2 (some 89) (.pointer (some ⟨b + 3, k, none⟩)) rfl rfl (by kernel_rfl) (by kernel_rfl) (by kernel_rfl) (fun _ _ _ h => h) (Or.inl ⟨by rfl, fun w hSw => by obtain ⟨hq1, hq2⟩ := unhide HC w hSw; clear hSw; go_simp⟩) hS ?_
        simp only [Act.put, List.setIfInBounds_toArray, List.set_cons_zero, List.set_cons_succ]
        refine wpAnyH_takeD 3 (some 90) (.pointer (some ⟨b + 1 + k, 0, none⟩)) rfl rfl (by kernel_rfl) (by kernel_rfl) (by kernel_rfl) (fun _ _ _ h => h) (Or.inl ⟨by rfl, fun w hSw => by obtain ⟨hq1, hq2⟩ := unhide HC w hSw; clear hSw; go_simp⟩) hS ?_
        simp only [Act.put, List.setIfInBounds_toArray, List.set_cons_zero, List.set_cons_succ]
        refine wpAnyH_takeD 4 (some 91) (.slice (some ⟨gp, op, none⟩) q c) rfl rfl (by kernel_rfl) (by kernel_rfl) (by kernel_rfl) (fun _ _ _ h => h) (Or.inl ⟨by rfl, fun w hSw => by obtain ⟨hq1, hq2⟩ := unhide HC w hSw; clear hSw; go_simp⟩) hS ?_
        simp only [Act.put, List.setIfInBounds_toArray, List.set_cons_zero, List.set_cons_succ]
        refine wpAnyH_takeD 5 (some 92) (.int .i64 (i : Int)) rfl rfl (by kernel_rfl) (by kernel_rfl) (by kernel_rfl) (fun _ _ _ h => h) (Or.inl ⟨by rfl, fun w hSw => by obtain ⟨hq1, hq2⟩ := unhide HC w hSw; clear hSw; go_simp⟩) hS ?_
        simp only [Act.put, List.setIfInBounds_toArray, List.set_cons_zero, List.set_cons_succ]
        refine wpAnyH_takeD 6 (some 93) (.pointer (some ⟨gp, op + i * 4, none⟩)) rfl rfl (by kernel_rfl) (by kernel_rfl) (by kernel_rfl) (fun _ _ _ h => h) (Or.inl ⟨by rfl, fun w hSw => by obtain ⟨hq1, hq2⟩ := unhide HC w hSw; clear hSw; go_simp⟩) hS ?_
        simp only [Act.put, List.setIfInBounds_toArray, List.set_cons_zero, List.set_cons_succ]
        refine wpAnyH_takeD 7 (some 94) (.pointer (some ⟨gp, op + i * 4 + 3, none⟩)) rfl rfl (by kernel_rfl) (by kernel_rfl) (by kernel_rfl) (fun _ _ _ h => h) (Or.inl ⟨by rfl, fun w hSw => by obtain ⟨hq1, hq2⟩ := unhide HC w hSw; clear hSw; go_simp⟩) hS ?_
        simp only [Act.put, List.setIfInBounds_toArray, List.set_cons_zero, List.set_cons_succ]
        refine wpAnyH_takeD 8 (some 95) (.string x) rfl rfl (by kernel_rfl) (by kernel_rfl) (by kernel_rfl) (fun _ _ _ h => h) (Or.inl ⟨by rfl, fun w hSw => by obtain ⟨hq1, hq2⟩ := unhide HC w hSw; clear hSw; go_simp⟩) hS ?_
        simp only [Act.put, List.setIfInBounds_toArray, List.set_cons_zero, List.set_cons_succ]
        refine wpAnyH_ready (rs := [9]) (by kernel_rfl) (by simp) ?_
        refine AllReadyH.cons rfl (fun K hK => ?_) AllReadyH.nil
        simp only [List.getElem_toArray, List.getElem_cons_succ, List.getElem_cons_zero]
        go_simp
        refine (unhide HAD (unhide HTS0)).mono ?_
        rintro e y4 ⟨rfl, hT4, ht4⟩
        have hS9 := unhide HSA y4 hT4 ht4
        have HTS4 := hide (unhide HGR _ hT4 ht4)
        clear hT4 ht4
        refine hK.out _ _ hS9 (fun hS => ?_)
        clear hK K
        refine wpAnyH_done (by kernel_rfl) ?_ _
        clear hS HAT HC HSA HGR HAD HTS0 hS9
        have HTS5 := HTS4
        obtain ⟨pk, ck, hvk, _, hck1, hck2⟩ := (unhide HTS5).form k hk2
        have hln := (unhide HTS5).len k hk2
        obtain ⟨n, hn⟩ : ∃ z, (L k).length = z := ⟨_, rfl⟩
        rw [hn] at hvk hck1 hln
        have cv1 := ((unhide HTS5).cellV k hk2).1
        have fv1 := ((unhide HTS5).cellV k hk2).2
        rw [hvk] at cv1
        by_cases hn4 : n < 4096
        · have e4 : (n : Int) < 4096 := by omega
          have hl2 : l' = L k ++ [x] := by rw [← hl', if_neg (by omega)]
          have HB4 := hide (show Below h w y4.drew from ((unhide HTS5).bel' (Below.refl _ _).drew).bel)
          have hzb := (unhide HTS5).sz
          have HBA := hide (show Below h w ((y4.alloc (.cells #[.string x] 9)).drew) from ((unhide HTS5).bel.alloc (by omega) _).drew)
          have HBS := hide (show b + 4 ≤ ((y4.alloc (.cells #[.string x] 9)).drew).heap.size from by simp; omega)
          have HOW := hide (show ((y4.alloc (.cells #[.string x] 9)).drew).ownsRow (b + 4) 9 1 (.slice pk n ck) n ((L k).map Value.string) from by
            have := (((unhide HTS5).own k hk2).alloc (.cells #[.string x] 9)).drew
            rw [hvk, hn] at this
            exact this)
          have HAP := hide (show ∀ g5 cap5 x5, x5.ownsRow (b + 4) 9 1 (.slice (some ⟨g5, 0, none⟩) (n + 1) cap5) (n + 1) ((L k).map Value.string ++ [.string x]) → ((y4.alloc (.cells #[.string x] 9)).drew).grownBy x5 (Value.slice pk n ck).ownBlock → ((Value.slice pk n ck).ownBlock = some g5 ∨ g5 = y4.heap.size + 1) → TsI w h b (x5.setCell ⟨b, k, none⟩ (.slice (some ⟨g5, 0, none⟩) (n + 1) cap5)) (upF L k l') (upF L k l') (upF V k (.slice (some ⟨g5, 0, none⟩) (n + 1) cap5)) ∧ Below h w x5 ∧ Below h w (x5.setCell ⟨b, k, none⟩ (.slice (some ⟨g5, 0, none⟩) (n + 1) cap5)) ∧ x5.cell? ⟨b, k, none⟩ = some (.slice pk n ck) ∧ x5.frozen? ⟨b, k, none⟩ = false from fun g5 cap5 x5 a1 a2 a3 => by
            have hx := (unhide HTS5).bel' (Below.refl _ _).drew
            rw [← hvk] at a2 a3
            have hap := hx.app k hk2 x (by omega) (by rw [hn]; exact hn4) (g5 := g5) (cap5 := cap5) (x5 := x5) (by rw [hn]; exact a1) a2 a3
            rw [hn, ← hl2] at hap
            have hB : Below (b + 4) y4.drew x5 := ((Below.refl _ y4.drew).alloc hx.sz (.cells #[.string x] 9)).grown a2 (by simp; omega) (fun q hq => ((hx.own k hk2).lt q hq).1)
            have hcv := hx.cellV k hk2
            rw [hvk] at hcv
            have hbz : b < y4.drew.heap.size := by have := hx.sz; omega
            exact ⟨hap, hx.bel.trans (hB.mono (by omega)), hap.bel, (hB.cell (p := ⟨b, k, none⟩) (by show b < b + 4; omega)).trans hcv.1, (hx.box.below hB (by omega)).frozen k⟩)
          have cA1 : ((y4.alloc (.cells #[.string x] 9)).drew).cell? ⟨b, k, none⟩ = some (.slice pk n ck) := (((Below.refl y4.heap.size y4).alloc (Nat.le_refl _) (.cells #[.string x] 9)).cell (p := ⟨b, k, none⟩) (by show b < _; omega)).trans cv1
          have cA2 : (y4.alloc (.cells #[.string x] 9)).cell? ⟨b, k, none⟩ = some (.slice pk n ck) := cA1
          clear hn hvk hl' hl2 HTS4 HTS5
          go_wp2_with fail
          refine wp_region_held_drew (S := fun W => Below h w W) (by kernel_rfl) (unhide HB4) ?_
          intro hS
          refine wpAnyH_takeD 0 (some 102) (.int .i64 (k : Int)) rfl rfl (by kernel_rfl) (by kernel_rfl) (by kernel_rfl) (fun _ _ _ h => h) (Or.inl ⟨by rfl, fun w hSw => by have hq2 := unhide HC3 w hSw; clear hSw; go_simp⟩) hS ?_
          simp only [Act.put, List.setIfInBounds_toArray, List.set_cons_zero, List.set_cons_succ]
          refine wpAnyH_takeD 1 (some 103) (.int .i64 (k : Int)) rfl rfl (by kernel_rfl) (by kernel_rfl) (by kernel_rfl) (fun _ _ _ h => h) (Or.inl ⟨by rfl, fun w hSw => by have hq2 := unhide HC3 w hSw; clear hSw; go_simp⟩) hS ?_
          simp only [Act.put, List.setIfInBounds_toArray, List.set_cons_zero, List.set_cons_succ]
          refine wpAnyH_takeD 2 (some 104) (.pointer (some ⟨b, k, none⟩)) rfl rfl (by kernel_rfl) (by kernel_rfl) (by kernel_rfl) (fun _ _ _ h => h) (Or.inl ⟨by rfl, fun w hSw => by have hq2 := unhide HC3 w hSw; clear hSw; go_simp⟩) hS ?_
          simp only [Act.put, List.setIfInBounds_toArray, List.set_cons_zero, List.set_cons_succ]
          refine wpAnyH_takeD 4 (some 106) (.slice (some ⟨gp, op, none⟩) q c) rfl rfl (by kernel_rfl) (by kernel_rfl) (by kernel_rfl) (fun _ _ _ h => h) (Or.inl ⟨by rfl, fun w hSw => by have hq2 := unhide HC3 w hSw; clear hSw; go_simp⟩) hS ?_
          simp only [Act.put, List.setIfInBounds_toArray, List.set_cons_zero, List.set_cons_succ]
          refine wpAnyH_takeD 5 (some 107) (.int .i64 (i : Int)) rfl rfl (by kernel_rfl) (by kernel_rfl) (by kernel_rfl) (fun _ _ _ h => h) (Or.inl ⟨by rfl, fun w hSw => by have hq2 := unhide HC3 w hSw; clear hSw; go_simp⟩) hS ?_
          simp only [Act.put, List.setIfInBounds_toArray, List.set_cons_zero, List.set_cons_succ]
          refine wpAnyH_takeD 6 (some 108) (.pointer (some ⟨gp, op + i * 4, none⟩)) rfl rfl (by kernel_rfl) (by kernel_rfl) (by kernel_rfl) (fun _ _ _ h => h) (Or.inl ⟨by rfl, fun w hSw => by have hq2 := unhide HC3 w hSw; clear hSw; go_simp⟩) hS ?_
          simp only [Act.put, List.setIfInBounds_toArray, List.set_cons_zero, List.set_cons_succ]
          refine wpAnyH_takeD 7 (some 109) (.pointer (some ⟨gp, op + i * 4 + 3, none⟩)) rfl rfl (by kernel_rfl) (by kernel_rfl) (by kernel_rfl) (fun _ _ _ h => h) (Or.inl ⟨by rfl, fun w hSw => by have hq2 := unhide HC3 w hSw; clear hSw; go_simp⟩) hS ?_
          simp only [Act.put, List.setIfInBounds_toArray, List.set_cons_zero, List.set_cons_succ]
          refine wpAnyH_takeD 8 (some 110) (.string x) rfl rfl (by kernel_rfl) (by kernel_rfl) (by kernel_rfl) (fun _ _ _ h => h) (Or.inl ⟨by rfl, fun w hSw => by have hq2 := unhide HC3 w hSw; clear hSw; go_simp⟩) hS ?_
          simp only [Act.put, List.setIfInBounds_toArray, List.set_cons_zero, List.set_cons_succ]
          refine wpAnyH_ready (rs := [3, 9]) (by kernel_rfl) (by simp) ?_
          refine AllReadyH.cons rfl (fun K hK => ?_) (AllReadyH.cons rfl (fun K hK => ?_) AllReadyH.nil)
          · simp only [List.getElem_toArray, List.getElem_cons_succ, List.getElem_cons_zero]
            go_simp
            refine hK.out _ _ hS (fun hS => ?_)
            clear hK K
            refine wpAnyH_ready (rs := [9]) (by kernel_rfl) (by simp) ?_
            refine AllReadyH.cons rfl (fun K hK => ?_) AllReadyH.nil
            simp only [List.getElem_toArray, List.getElem_cons_succ, List.getElem_cons_zero]
            go_simp
            refine hK.out _ _ (unhide HBA) (fun hS => ?_)
            clear hK K
            refine wpAnyH_ready (rs := [10]) (by kernel_rfl) (by simp) ?_
            refine AllReadyH.cons rfl (fun Kk hKk => ?_) AllReadyH.nil
            simp only [List.getElem_toArray, List.getElem_cons_succ, List.getElem_cons_zero]
            rw [if_pos (by rfl)]
            refine wp_append_lies _ (.tmp 105) (.tmp 111) 22 rfl (b + 4) 9 i0 (.string ⟨#[]⟩) 1 16 Tryd.underlying22 (unhide HI).1 (unhide HI).2.1 (unhide HI).2.2.1 (unhide HI).2.2.2 rfl (by decide) _ n _ rfl (unhide HOW) ⟨y4.heap.size, 0, none⟩ 1 1 [.string x] rfl rfl (fun q u hu => gr_new y4 9 _ q u hu) (by simp [Value.oneCell']) (by decide) (by unfold maxLen; omega) (by omega) (unhide HBS) (y4.heap.size + 1) (by simp) ?_
            intro g5 cap5 x5 ho5 hg5 hgg hgl5
            obtain ⟨hnew, hb5, hb6, cl5, fl5⟩ := unhide HAP g5 cap5 x5 ho5 hg5 hgg
            have HTN := hide hnew
            simp only [Act.put, List.setIfInBounds_toArray, List.set_cons_zero, List.set_cons_succ]
            refine hKk.out _ _ hb5 (fun hS => ?_)
            clear hKk Kk ho5 hg5 hgg hgl5 hnew
            refine wpAnyH_takeD 11 (some 113) (.pointer (some ⟨b, k, none⟩)) rfl rfl (by kernel_rfl) (by kernel_rfl) (by kernel_rfl) (fun _ _ _ h => h) (Or.inl ⟨by rfl, fun w hSw => by have hq2 := unhide HC3 w hSw; clear hSw; go_simp⟩) hS ?_
            simp only [Act.put, List.setIfInBounds_toArray, List.set_cons_zero, List.set_cons_succ]
            refine wpAnyH_ready (rs := [12]) (by kernel_rfl) (by simp) ?_
            refine AllReadyH.cons rfl (fun K hK => ?_) AllReadyH.nil
            simp only [List.getElem_toArray, List.getElem_cons_succ, List.getElem_cons_zero]
            go_simp
            refine hK.out _ _ hb6 (fun hS => ?_)
            clear hK K
            refine wpAnyH_done (by kernel_rfl) ?_ _
            clear hS cl5 fl5 hb5 hb6
            clear HB4 HBA HBS HOW HAP cA1 cA2 cv1 fv1
            go_wp2
            go_roundw
            case rel => exact ⟨m - 1, upF L k l', _, by omega, by go_num, HTN⟩
            case measure => simp [intOf] <;> omega
          · simp only [List.getElem_toArray, List.getElem_cons_succ, List.getElem_cons_zero]
            go_simp
            refine hK.out _ _ (unhide HBA) (fun hS => ?_)
            clear hK K
            refine wpAnyH_ready (rs := [3]) (by kernel_rfl) (by simp) ?_
            refine AllReadyH.cons rfl (fun K hK => ?_) AllReadyH.nil
            simp only [List.getElem_toArray, List.getElem_cons_succ, List.getElem_cons_zero]
            go_simp
            refine hK.out _ _ (unhide HBA) (fun hS => ?_)
            clear hK K
            refine wpAnyH_ready (rs := [10]) (by kernel_rfl) (by simp) ?_
            refine AllReadyH.cons rfl (fun Kk hKk => ?_) AllReadyH.nil
            simp only [List.getElem_toArray, List.getElem_cons_succ, List.getElem_cons_zero]
            rw [if_pos (by rfl)]
            refine wp_append_lies _ (.tmp 105) (.tmp 111) 22 rfl (b + 4) 9 i0 (.string ⟨#[]⟩) 1 16 Tryd.underlying22 (unhide HI).1 (unhide HI).2.1 (unhide HI).2.2.1 (unhide HI).2.2.2 rfl (by decide) _ n _ rfl (unhide HOW) ⟨y4.heap.size, 0, none⟩ 1 1 [.string x] rfl rfl (fun q u hu => gr_new y4 9 _ q u hu) (by simp [Value.oneCell']) (by decide) (by unfold maxLen; omega) (by omega) (unhide HBS) (y4.heap.size + 1) (by simp) ?_
            intro g5 cap5 x5 ho5 hg5 hgg hgl5
            obtain ⟨hnew, hb5, hb6, cl5, fl5⟩ := unhide HAP g5 cap5 x5 ho5 hg5 hgg
            have HTN := hide hnew
            simp only [Act.put, List.setIfInBounds_toArray, List.set_cons_zero, List.set_cons_succ]
            refine hKk.out _ _ hb5 (fun hS => ?_)
            clear hKk Kk ho5 hg5 hgg hgl5 hnew
            refine wpAnyH_takeD 11 (some 113) (.pointer (some ⟨b, k, none⟩)) rfl rfl (by kernel_rfl) (by kernel_rfl) (by kernel_rfl) (fun _ _ _ h => h) (Or.inl ⟨by rfl, fun w hSw => by have hq2 := unhide HC3 w hSw; clear hSw; go_simp⟩) hS ?_
            simp only [Act.put, List.setIfInBounds_toArray, List.set_cons_zero, List.set_cons_succ]
            refine wpAnyH_ready (rs := [12]) (by kernel_rfl) (by simp) ?_
            refine AllReadyH.cons rfl (fun K hK => ?_) AllReadyH.nil
            simp only [List.getElem_toArray, List.getElem_cons_succ, List.getElem_cons_zero]
            go_simp
            refine hK.out _ _ hb6 (fun hS => ?_)
            clear hK K
            refine wpAnyH_done (by kernel_rfl) ?_ _
            clear hS cl5 fl5 hb5 hb6
            clear HB4 HBA HBS HOW HAP cA1 cA2 cv1 fv1
            go_wp2
            go_roundw
            case rel => exact ⟨m - 1, upF L k l', _, by omega, by go_num, HTN⟩
            case measure => simp [intOf] <;> omega
        · have e4 : ¬ (n : Int) < 4096 := by omega
          have hl2 : l' = L k := by rw [← hl', if_pos (by omega)]
          have HTN := hide (show TsI w h b y4 L L V from by
            have := unhide HTS5
            rw [hl2, upF_id] at this
            exact this)
          clear hn hvk hl' hl2 HTS4 HTS5
          go_wp2
          go_roundw
          case rel => exact ⟨m - 1, L, V, by omega, by go_num, HTN⟩
          case measure => simp [intOf] <;> omega
      obtain rfl : m = 0 := by omega
      have e5 : ¬ (((0 : Nat)) : Int) > 0 := by omega
      go_wp2
      go_roundw
      case rel => exact ⟨i + 1, L, V, by omega, by go_num, HTS⟩
      case measure => simp [intOf] <;> omega
    have d5 : (kd == 5) = false := by simpa using k5
    by_cases k2 : kd = 2
    · subst k2
      obtain ⟨AT, hAT⟩ : ∃ AT : World → Prop, AT = fun y => TsI w h b y L L V := ⟨_, rfl⟩
      have HAT := hide (show AT wi.drew from by rw [hAT]; exact (unhide HTS).bel' (Below.refl _ _).drew)
      obtain ⟨pk, ck, hvk, _, hck1, hck2⟩ := (unhide HTS).form k hk2
      have hln := (unhide HTS).len k hk2
      have hsht := (unhide HTS).sht k hk2
      obtain ⟨l, hl⟩ : ∃ z, L k = z := ⟨_, rfl⟩
      obtain ⟨n, hn⟩ : ∃ z, l.length = z := ⟨_, rfl⟩
      rw [hl, hn] at hvk hck1
      rw [hl, hn] at hln
      rw [hl] at hsht
      have HC := hide (show ∀ y, AT y → y.cell? ⟨b + 3, k, none⟩ = some (.pointer (some ⟨b + 1 + k, 0, none⟩)) ∧ y.cell? ⟨b, k, none⟩ = some (.slice pk n ck) from fun y hy => by
        rw [hAT] at hy
        exact ⟨hy.cellT k hk2, by rw [← hvk]; exact (hy.cellV k hk2).1⟩)
      have HA3 := hide (show ∀ y z, AT y → Below y.heap.size y z → AT z from fun y z hy hz => by
        rw [hAT] at hy ⊢
        exact hy.bel' hz)
      have HSZ := hide (fun y (hy : AT y) => size_any (b + 1 + k) n y (by rw [hAT] at hy; have := (hy.tre k hk2).cell; rw [hl, hn] at this; exact this))
      have HKP := hide (fun y (hy : AT y) => kept_any (b + 1 + k) n hln y (by rw [hAT] at hy; have := (hy.tre k hk2).cell; rw [hl, hn] at this; exact this))
      have HRT := hide (fun y (hy : AT y) => troot_any l (b + 1 + k) y (by rw [hAT] at hy; have := hy.tre k hk2; rw [hl] at this; exact this) (unhide HKB _ (by rw [hAT] at hy; exact hy.bel)) (unhide HTB _ (by rw [hAT] at hy; exact hy.bel)))
      have HSB := hide (show ∀ y, AT y → SB y y.heap.size pk l from fun y hy => by
        rw [hAT] at hy
        obtain ⟨p9, c9, e9, s9, _⟩ := hy.form k hk2
        rw [hvk] at e9
        injection e9 with e9
        subst e9
        rw [hl] at s9
        exact s9)
      have HRR := hide (fun y (hy : AT y) => rroot_any n l hn y y.heap.size ck pk (unhide HSB _ hy) (Nat.le_refl _) hsht (by omega) hck1 hck2)
      have HRO := hide (fun y (hy : AT y) => root_any l n hn y y.heap.size ck pk (unhide HSB _ hy) (Nat.le_refl _) (unhide HKB _ (by rw [hAT] at hy; exact hy.bel)) hsht (by omega) hck1 hck2)
      have HAX := hide (show ∀ y, AT y → TsI w h b y L L V from fun y hy => by rw [hAT] at hy; exact hy)
      obtain ⟨rr, hrr⟩ : ∃ z, rt l = z := ⟨_, rfl⟩
      rw [hrr] at HRT HRR HRO
      clear hrr hAT hsht hl hn hvk HSB
      have hk0 : (k : Int) < 2 := by omega
      clear HTS
      clear HPM hc2 HC3
      go_wp2_with fail
      refine wp_region_held_drew (S := AT) (by kernel_rfl) (unhide HAT) ?_
      intro hS
      refine wpAnyH_takeD 0 (some 116) (.slice (some ⟨b + 3, 0, none⟩) 2 2) rfl rfl (by kernel_rfl) (by kernel_rfl) (by kernel_rfl) (fun _ _ _ h => h) (Or.inl ⟨by rfl, fun w hSw => by obtain ⟨hq1, hq2⟩ := unhide HC w hSw; clear hSw; go_simp⟩) hS ?_
      simp only [Act.put, List.setIfInBounds_toArray, List.set_cons_zero, List.set_cons_succ]
      refine wpAnyH_takeD 1 (some 117) (.int .i64 (k : Int)) rfl rfl (by kernel_rfl) (by kernel_rfl) (by kernel_rfl) (fun _ _ _ h => h) (Or.inl ⟨by rfl, fun w hSw => by obtain ⟨hq1, hq2⟩ := unhide HC w hSw; clear hSw; go_simp⟩) hS ?_
      simp only [Act.put, List.setIfInBounds_toArray, List.set_cons_zero, List.set_cons_succ]
      refine wpAnyH_takeD 2 (some 118) (.pointer (some ⟨b + 3, k, none⟩)) rfl rfl (by kernel_rfl) (by kernel_rfl) (by kernel_rfl) (fun _ _ _ h => h) (Or.inl ⟨by rfl, fun w hSw => by obtain ⟨hq1, hq2⟩ := unhide HC w hSw; clear hSw; go_simp⟩) hS ?_
      simp only [Act.put, List.setIfInBounds_toArray, List.set_cons_zero, List.set_cons_succ]
      refine wpAnyH_takeD 3 (some 119) (.pointer (some ⟨b + 1 + k, 0, none⟩)) rfl rfl (by kernel_rfl) (by kernel_rfl) (by kernel_rfl) (fun _ _ _ h => h) (Or.inl ⟨by rfl, fun w hSw => by obtain ⟨hq1, hq2⟩ := unhide HC w hSw; clear hSw; go_simp⟩) hS ?_
      simp only [Act.put, List.setIfInBounds_toArray, List.set_cons_zero, List.set_cons_succ]
      refine wpAnyH_takeD 5 (some 121) (.int .i64 (k : Int)) rfl rfl (by kernel_rfl) (by kernel_rfl) (by kernel_rfl) (fun _ _ _ h => h) (Or.inl ⟨by rfl, fun w hSw => by obtain ⟨hq1, hq2⟩ := unhide HC w hSw; clear hSw; go_simp⟩) hS ?_
      simp only [Act.put, List.setIfInBounds_toArray, List.set_cons_zero, List.set_cons_succ]
      refine wpAnyH_takeD 6 (some 122) (.pointer (some ⟨b, k, none⟩)) rfl rfl (by kernel_rfl) (by kernel_rfl) (by kernel_rfl) (fun _ _ _ h => h) (Or.inl ⟨by rfl, fun w hSw => by obtain ⟨hq1, hq2⟩ := unhide HC w hSw; clear hSw; go_simp⟩) hS ?_
      simp only [Act.put, List.setIfInBounds_toArray, List.set_cons_zero, List.set_cons_succ]
      refine wpAnyH_takeD 7 (some 123) (.slice pk n ck) rfl rfl (by kernel_rfl) (by kernel_rfl) (by kernel_rfl) (fun _ _ _ h => h) (Or.inl ⟨by rfl, fun w hSw => by obtain ⟨hq1, hq2⟩ := unhide HC w hSw; clear hSw; go_simp⟩) hS ?_
      simp only [Act.put, List.setIfInBounds_toArray, List.set_cons_zero, List.set_cons_succ]
      refine wpAnyH_takeD 8 (some 124) (.int .i64 (n : Int)) rfl rfl (by kernel_rfl) (by kernel_rfl) (by kernel_rfl) (fun _ _ _ h => h) (Or.inl ⟨by rfl, fun w hSw => by obtain ⟨hq1, hq2⟩ := unhide HC w hSw; clear hSw; go_simp⟩) hS ?_
      simp only [Act.put, List.setIfInBounds_toArray, List.set_cons_zero, List.set_cons_succ]
      refine wpAnyH_ready (rs := [4]) (by kernel_rfl) (by simp) ?_
      refine AllReadyH.cons rfl (fun K hK => ?_) AllReadyH.nil
      simp only [List.getElem_toArray, List.getElem_cons_succ, List.getElem_cons_zero]
      go_simp
      refine (unhide HSZ _ hS).mono ?_
      rintro e y ⟨rfl, hy⟩
      subst y
      refine hK.out _ _ hS (fun hS => ?_)
      clear hK K
      refine wpAnyH_takeD 9 (some 125) (.bool false) rfl rfl (by kernel_rfl) (by kernel_rfl) (by kernel_rfl) (fun _ _ _ h => h) (Or.inl ⟨by rfl, fun w hSw => by obtain ⟨hq1, hq2⟩ := unhide HC w hSw; clear hSw; go_simp⟩) hS ?_
      simp only [Act.put, List.setIfInBounds_toArray, List.set_cons_zero, List.set_cons_succ]
      refine wpAnyH_done (by kernel_rfl) ?_ _
      have HTN := hide (unhide HAX _ hS)
      clear hS HAT HAX HA3 HC HSZ HKP HRT HRR HRO
      go_wp2
      go_roundw
      case rel => exact ⟨i + 1, L, V, by omega, by go_num, HTN⟩
      case measure => simp [intOf] <;> omega
    have d2 : (kd == 2) = false := by simpa using k2
    by_cases k3 : kd = 3
    · subst k3
      obtain ⟨AT, hAT⟩ : ∃ AT : World → Prop, AT = fun y => TsI w h b y L L V := ⟨_, rfl⟩
      have HAT := hide (show AT wi.drew from by rw [hAT]; exact (unhide HTS).bel' (Below.refl _ _).drew)
      obtain ⟨pk, ck, hvk, _, hck1, hck2⟩ := (unhide HTS).form k hk2
      have hln := (unhide HTS).len k hk2
      have hsht := (unhide HTS).sht k hk2
      obtain ⟨l, hl⟩ : ∃ z, L k = z := ⟨_, rfl⟩
      obtain ⟨n, hn⟩ : ∃ z, l.length = z := ⟨_, rfl⟩
      rw [hl, hn] at hvk hck1
      rw [hl, hn] at hln
      rw [hl] at hsht
      have HC := hide (show ∀ y, AT y → y.cell? ⟨b + 3, k, none⟩ = some (.pointer (some ⟨b + 1 + k, 0, none⟩)) ∧ y.cell? ⟨b, k, none⟩ = some (.slice pk n ck) from fun y hy => by
        rw [hAT] at hy
        exact ⟨hy.cellT k hk2, by rw [← hvk]; exact (hy.cellV k hk2).1⟩)
      have HA3 := hide (show ∀ y z, AT y → Below y.heap.size y z → AT z from fun y z hy hz => by
        rw [hAT] at hy ⊢
        exact hy.bel' hz)
      have HSZ := hide (fun y (hy : AT y) => size_any (b + 1 + k) n y (by rw [hAT] at hy; have := (hy.tre k hk2).cell; rw [hl, hn] at this; exact this))
      have HKP := hide (fun y (hy : AT y) => kept_any (b + 1 + k) n hln y (by rw [hAT] at hy; have := (hy.tre k hk2).cell; rw [hl, hn] at this; exact this))
      have HRT := hide (fun y (hy : AT y) => troot_any l (b + 1 + k) y (by rw [hAT] at hy; have := hy.tre k hk2; rw [hl] at this; exact this) (unhide HKB _ (by rw [hAT] at hy; exact hy.bel)) (unhide HTB _ (by rw [hAT] at hy; exact hy.bel)))
      have HSB := hide (show ∀ y, AT y → SB y y.heap.size pk l from fun y hy => by
        rw [hAT] at hy
        obtain ⟨p9, c9, e9, s9, _⟩ := hy.form k hk2
        rw [hvk] at e9
        injection e9 with e9
        subst e9
        rw [hl] at s9
        exact s9)
      have HRR := hide (fun y (hy : AT y) => rroot_any n l hn y y.heap.size ck pk (unhide HSB _ hy) (Nat.le_refl _) hsht (by omega) hck1 hck2)
      have HRO := hide (fun y (hy : AT y) => root_any l n hn y y.heap.size ck pk (unhide HSB _ hy) (Nat.le_refl _) (unhide HKB _ (by rw [hAT] at hy; exact hy.bel)) hsht (by omega) hck1 hck2)
      have HAX := hide (show ∀ y, AT y → TsI w h b y L L V from fun y hy => by rw [hAT] at hy; exact hy)
      obtain ⟨rr, hrr⟩ : ∃ z, rt l = z := ⟨_, rfl⟩
      rw [hrr] at HRT HRR HRO
      clear hrr hAT hsht hl hn hvk HSB
      have hk0 : (k : Int) < 2 := by omega
      clear HTS
      clear HPM hc2 HC3
      go_wp2_with fail
      refine wp_region_held_drew (S := AT) (by kernel_rfl) (unhide HAT) ?_
      intro hS
      refine wpAnyH_takeD 0 (some 128) (.slice (some ⟨b + 3, 0, none⟩) 2 2) rfl rfl (by kernel_rfl) (by kernel_rfl) (by kernel_rfl) (fun _ _ _ h => h) (Or.inl ⟨by rfl, fun w hSw => by obtain ⟨hq1, hq2⟩ := unhide HC w hSw; clear hSw; go_simp⟩) hS ?_
      simp only [Act.put, List.setIfInBounds_toArray, List.set_cons_zero, List.set_cons_succ]
      refine wpAnyH_takeD 1 (some 129) (.int .i64 (k : Int)) rfl rfl (by kernel_rfl) (by kernel_rfl) (by kernel_rfl) (fun _ _ _ h => h) (Or.inl ⟨by rfl, fun w hSw => by obtain ⟨hq1, hq2⟩ := unhide HC w hSw; clear hSw; go_simp⟩) hS ?_
      simp only [Act.put, List.setIfInBounds_toArray, List.set_cons_zero, List.set_cons_succ]
      refine wpAnyH_takeD 2 (some 130) (.pointer (some ⟨b + 3, k, none⟩)) rfl rfl (by kernel_rfl) (by kernel_rfl) (by kernel_rfl) (fun _ _ _ h => h) (Or.inl ⟨by rfl, fun w hSw => by obtain ⟨hq1, hq2⟩ := unhide HC w hSw; clear hSw; go_simp⟩) hS ?_
      simp only [Act.put, List.setIfInBounds_toArray, List.set_cons_zero, List.set_cons_succ]
      refine wpAnyH_takeD 3 (some 131) (.pointer (some ⟨b + 1 + k, 0, none⟩)) rfl rfl (by kernel_rfl) (by kernel_rfl) (by kernel_rfl) (fun _ _ _ h => h) (Or.inl ⟨by rfl, fun w hSw => by obtain ⟨hq1, hq2⟩ := unhide HC w hSw; clear hSw; go_simp⟩) hS ?_
      simp only [Act.put, List.setIfInBounds_toArray, List.set_cons_zero, List.set_cons_succ]
      refine wpAnyH_takeD 5 (some 133) (.int .i64 (k : Int)) rfl rfl (by kernel_rfl) (by kernel_rfl) (by kernel_rfl) (fun _ _ _ h => h) (Or.inl ⟨by rfl, fun w hSw => by obtain ⟨hq1, hq2⟩ := unhide HC w hSw; clear hSw; go_simp⟩) hS ?_
      simp only [Act.put, List.setIfInBounds_toArray, List.set_cons_zero, List.set_cons_succ]
      refine wpAnyH_takeD 6 (some 134) (.pointer (some ⟨b, k, none⟩)) rfl rfl (by kernel_rfl) (by kernel_rfl) (by kernel_rfl) (fun _ _ _ h => h) (Or.inl ⟨by rfl, fun w hSw => by obtain ⟨hq1, hq2⟩ := unhide HC w hSw; clear hSw; go_simp⟩) hS ?_
      simp only [Act.put, List.setIfInBounds_toArray, List.set_cons_zero, List.set_cons_succ]
      refine wpAnyH_takeD 7 (some 135) (.slice pk n ck) rfl rfl (by kernel_rfl) (by kernel_rfl) (by kernel_rfl) (fun _ _ _ h => h) (Or.inl ⟨by rfl, fun w hSw => by obtain ⟨hq1, hq2⟩ := unhide HC w hSw; clear hSw; go_simp⟩) hS ?_
      simp only [Act.put, List.setIfInBounds_toArray, List.set_cons_zero, List.set_cons_succ]
      refine wpAnyH_ready (rs := [4]) (by kernel_rfl) (by simp) ?_
      refine AllReadyH.cons rfl (fun K hK => ?_) AllReadyH.nil
      simp only [List.getElem_toArray, List.getElem_cons_succ, List.getElem_cons_zero]
      go_simp
      refine (unhide HRT _ hS).mono ?_
      rintro e y5 ⟨rfl, hb⟩
      have hS9 := unhide HA3 _ _ hS hb
      clear hb
      refine hK.out _ _ hS9 (fun hS => ?_)
      clear hK K
      refine wpAnyH_ready (rs := [8]) (by kernel_rfl) (by simp) ?_
      refine AllReadyH.cons rfl (fun K hK => ?_) AllReadyH.nil
      simp only [List.getElem_toArray, List.getElem_cons_succ, List.getElem_cons_zero]
      go_simp
      refine (unhide HRR _ hS).mono ?_
      rintro e y6 ⟨rfl, hb⟩
      have hS9 := unhide HA3 _ _ hS hb
      clear hb
      refine hK.out _ _ hS9 (fun hS => ?_)
      clear hK K
      refine wpAnyH_takeD 9 (some 137) (.bool false) rfl rfl (by kernel_rfl) (by kernel_rfl) (by kernel_rfl) (fun _ _ _ h => h) (Or.inl ⟨by rfl, fun w hSw => by obtain ⟨hq1, hq2⟩ := unhide HC w hSw; clear hSw; go_simp⟩) hS ?_
      simp only [Act.put, List.setIfInBounds_toArray, List.set_cons_zero, List.set_cons_succ]
      refine wpAnyH_done (by kernel_rfl) ?_ _
      have HTN := hide (unhide HAX _ hS)
      clear hS HAT HAX HA3 HC HSZ HKP HRT HRR HRO
      go_wp2
      go_roundw
      case rel => exact ⟨i + 1, L, V, by omega, by go_num, HTN⟩
      case measure => simp [intOf] <;> omega
    have d3 : (kd == 3) = false := by simpa using k3
    by_cases k4 : kd = 4
    · subst k4
      obtain ⟨AT, hAT⟩ : ∃ AT : World → Prop, AT = fun y => TsI w h b y L L V := ⟨_, rfl⟩
      have HAT := hide (show AT wi.drew from by rw [hAT]; exact (unhide HTS).bel' (Below.refl _ _).drew)
      obtain ⟨pk, ck, hvk, _, hck1, hck2⟩ := (unhide HTS).form k hk2
      have hln := (unhide HTS).len k hk2
      have hsht := (unhide HTS).sht k hk2
      obtain ⟨l, hl⟩ : ∃ z, L k = z := ⟨_, rfl⟩
      obtain ⟨n, hn⟩ : ∃ z, l.length = z := ⟨_, rfl⟩
      rw [hl, hn] at hvk hck1
      rw [hl, hn] at hln
      rw [hl] at hsht
      have HC := hide (show ∀ y, AT y → y.cell? ⟨b + 3, k, none⟩ = some (.pointer (some ⟨b + 1 + k, 0, none⟩)) ∧ y.cell? ⟨b, k, none⟩ = some (.slice pk n ck) from fun y hy => by
        rw [hAT] at hy
        exact ⟨hy.cellT k hk2, by rw [← hvk]; exact (hy.cellV k hk2).1⟩)
      have HA3 := hide (show ∀ y z, AT y → Below y.heap.size y z → AT z from fun y z hy hz => by
        rw [hAT] at hy ⊢
        exact hy.bel' hz)
      have HSZ := hide (fun y (hy : AT y) => size_any (b + 1 + k) n y (by rw [hAT] at hy; have := (hy.tre k hk2).cell; rw [hl, hn] at this; exact this))
      have HKP := hide (fun y (hy : AT y) => kept_any (b + 1 + k) n hln y (by rw [hAT] at hy; have := (hy.tre k hk2).cell; rw [hl, hn] at this; exact this))
      have HRT := hide (fun y (hy : AT y) => troot_any l (b + 1 + k) y (by rw [hAT] at hy; have := hy.tre k hk2; rw [hl] at this; exact this) (unhide HKB _ (by rw [hAT] at hy; exact hy.bel)) (unhide HTB _ (by rw [hAT] at hy; exact hy.bel)))
      have HSB := hide (show ∀ y, AT y → SB y y.heap.size pk l from fun y hy => by
        rw [hAT] at hy
        obtain ⟨p9, c9, e9, s9, _⟩ := hy.form k hk2
        rw [hvk] at e9
        injection e9 with e9
        subst e9
        rw [hl] at s9
        exact s9)
      have HRR := hide (fun y (hy : AT y) => rroot_any n l hn y y.heap.size ck pk (unhide HSB _ hy) (Nat.le_refl _) hsht (by omega) hck1 hck2)
      have HRO := hide (fun y (hy : AT y) => root_any l n hn y y.heap.size ck pk (unhide HSB _ hy) (Nat.le_refl _) (unhide HKB _ (by rw [hAT] at hy; exact hy.bel)) hsht (by omega) hck1 hck2)
      have HAX := hide (show ∀ y, AT y → TsI w h b y L L V from fun y hy => by rw [hAT] at hy; exact hy)
      obtain ⟨rr, hrr⟩ : ∃ z, rt l = z := ⟨_, rfl⟩
      rw [hrr] at HRT HRR HRO
      clear hrr hAT hsht hl hn hvk HSB
      have hk0 : (k : Int) < 2 := by omega
      clear HTS
      clear HPM hc2 HC3
      go_wp2_with fail
      refine wp_region_held_drew (S := AT) (by kernel_rfl) (unhide HAT) ?_
      intro hS
      refine wpAnyH_takeD 0 (some 140) (.slice (some ⟨b + 3, 0, none⟩) 2 2) rfl rfl (by kernel_rfl) (by kernel_rfl) (by kernel_rfl) (fun _ _ _ h => h) (Or.inl ⟨by rfl, fun w hSw => by obtain ⟨hq1, hq2⟩ := unhide HC w hSw; clear hSw; go_simp⟩) hS ?_
      simp only [Act.put, List.setIfInBounds_toArray, List.set_cons_zero, List.set_cons_succ]
      refine wpAnyH_takeD 1 (some 141) (.int .i64 (k : Int)) rfl rfl (by kernel_rfl) (by kernel_rfl) (by kernel_rfl) (fun _ _ _ h => h) (Or.inl ⟨by rfl, fun w hSw => by obtain ⟨hq1, hq2⟩ := unhide HC w hSw; clear hSw; go_simp⟩) hS ?_
      simp only [Act.put, List.setIfInBounds_toArray, List.set_cons_zero, List.set_cons_succ]
      refine wpAnyH_takeD 2 (some 142) (.pointer (some ⟨b + 3, k, none⟩)) rfl rfl (by kernel_rfl) (by kernel_rfl) (by kernel_rfl) (fun _ _ _ h => h) (Or.inl ⟨by rfl, fun w hSw => by obtain ⟨hq1, hq2⟩ := unhide HC w hSw; clear hSw; go_simp⟩) hS ?_
      simp only [Act.put, List.setIfInBounds_toArray, List.set_cons_zero, List.set_cons_succ]
      refine wpAnyH_takeD 3 (some 143) (.pointer (some ⟨b + 1 + k, 0, none⟩)) rfl rfl (by kernel_rfl) (by kernel_rfl) (by kernel_rfl) (fun _ _ _ h => h) (Or.inl ⟨by rfl, fun w hSw => by obtain ⟨hq1, hq2⟩ := unhide HC w hSw; clear hSw; go_simp⟩) hS ?_
      simp only [Act.put, List.setIfInBounds_toArray, List.set_cons_zero, List.set_cons_succ]
      refine wpAnyH_takeD 5 (some 145) (.int .i64 (k : Int)) rfl rfl (by kernel_rfl) (by kernel_rfl) (by kernel_rfl) (fun _ _ _ h => h) (Or.inl ⟨by rfl, fun w hSw => by obtain ⟨hq1, hq2⟩ := unhide HC w hSw; clear hSw; go_simp⟩) hS ?_
      simp only [Act.put, List.setIfInBounds_toArray, List.set_cons_zero, List.set_cons_succ]
      refine wpAnyH_takeD 6 (some 146) (.pointer (some ⟨b, k, none⟩)) rfl rfl (by kernel_rfl) (by kernel_rfl) (by kernel_rfl) (fun _ _ _ h => h) (Or.inl ⟨by rfl, fun w hSw => by obtain ⟨hq1, hq2⟩ := unhide HC w hSw; clear hSw; go_simp⟩) hS ?_
      simp only [Act.put, List.setIfInBounds_toArray, List.set_cons_zero, List.set_cons_succ]
      refine wpAnyH_takeD 7 (some 147) (.slice pk n ck) rfl rfl (by kernel_rfl) (by kernel_rfl) (by kernel_rfl) (fun _ _ _ h => h) (Or.inl ⟨by rfl, fun w hSw => by obtain ⟨hq1, hq2⟩ := unhide HC w hSw; clear hSw; go_simp⟩) hS ?_
      simp only [Act.put, List.setIfInBounds_toArray, List.set_cons_zero, List.set_cons_succ]
      refine wpAnyH_takeD 8 (some 148) (.int .i64 (n : Int)) rfl rfl (by kernel_rfl) (by kernel_rfl) (by kernel_rfl) (fun _ _ _ h => h) (Or.inl ⟨by rfl, fun w hSw => by obtain ⟨hq1, hq2⟩ := unhide HC w hSw; clear hSw; go_simp⟩) hS ?_
      simp only [Act.put, List.setIfInBounds_toArray, List.set_cons_zero, List.set_cons_succ]
      refine wpAnyH_ready (rs := [4]) (by kernel_rfl) (by simp) ?_
      refine AllReadyH.cons rfl (fun K hK => ?_) AllReadyH.nil
      simp only [List.getElem_toArray, List.getElem_cons_succ, List.getElem_cons_zero]
      go_simp
      refine (unhide HKP _ hS).mono ?_
      rintro e y ⟨rfl, hy⟩
      subst y
      refine hK.out _ _ hS (fun hS => ?_)
      clear hK K
      refine wpAnyH_ready (rs := [9]) (by kernel_rfl) (by simp) ?_
      refine AllReadyH.cons rfl (fun K hK => ?_) AllReadyH.nil
      simp only [List.getElem_toArray, List.getElem_cons_succ, List.getElem_cons_zero]
      go_simp
      refine (rkept_any n (by omega) _).mono ?_
      rintro e y ⟨rfl, hy⟩
      subst y
      refine hK.out _ _ hS (fun hS => ?_)
      clear hK K
      refine wpAnyH_takeD 10 (some 150) (.bool false) rfl rfl (by kernel_rfl) (by kernel_rfl) (by kernel_rfl) (fun _ _ _ h => h) (Or.inl ⟨by rfl, fun w hSw => by obtain ⟨hq1, hq2⟩ := unhide HC w hSw; clear hSw; go_simp⟩) hS ?_
      simp only [Act.put, List.setIfInBounds_toArray, List.set_cons_zero, List.set_cons_succ]
      refine wpAnyH_done (by kernel_rfl) ?_ _
      have HTN := hide (unhide HAX _ hS)
      clear hS HAT HAX HA3 HC HSZ HKP HRT HRR HRO
      go_wp2
      go_roundw
      case rel => exact ⟨i + 1, L, V, by omega, by go_num, HTN⟩
      case measure => simp [intOf] <;> omega
    have d4 : (kd == 4) = false := by simpa using k4
    clear HPM hc2 HC3
    go_wp2
    go_roundw
    case rel => exact ⟨i + 1, L, V, by omega, by go_num, HTS⟩
    case measure => simp [intOf] <;> omega
  obtain rfl : i = q := by omega
  have e1 : ¬ (i : Int) < (i : Int) := by omega
  clear HOP HII
  go_wp2
  go_loopw [9] (fun jv wr => ∃ j : Nat, j ≤ 100 ∧ jv = .int .i64 (j : Int) ∧ Hid (TsI w h b wr L L V)) (fun jv _ => 100 - (intOf jv).toNat)
  case atStart => exact ⟨0, by omega, rfl, HTS⟩
  case round =>
  clear HTS e1
  obtain ⟨j, hj, rfl, HTS⟩ := hrel
  obtain ⟨wi, rfl⟩ : ∃ z, z = wr := ⟨_, rfl⟩
  by_cases hj1 : j < 100
  · have e2 : (j : Int) < 100 := by omega
    obtain ⟨g, hg⟩ : ∃ z, wi.heap.size = z := ⟨_, rfl⟩
    have hgh : h ≤ g := by have := (unhide HTS).bel.size; have := (unhide HTS).sz; omega
    have HNA := hide (tnew_any wi)
    rw [hg] at HNA
    have HSZ0 := hide (fun W (hT : TrM W g []) => size_any g 0 W hT.cell)
    rw [show (((0 : Nat)) : Int) = 0 from rfl] at HSZ0
    have HSZ1 := hide (fun W (hT : TrM W g [(⟨#[122]⟩ : ByteArray)]) => size_any g 1 W hT.cell)
    rw [show (((1 : Nat)) : Int) = 1 from rfl] at HSZ1
    have HAD9 := hide (fun W (hT : TrM W g []) (hW : Below h w W) => tadd_any [] ⟨#[122]⟩ (by decide) g W hT (unhide HKB _ hW) (by omega))
    rw [if_neg (by decide), List.nil_append] at HAD9
    have HRT9 := hide (fun W (hT : TrM W g [(⟨#[122]⟩ : ByteArray)]) (hW : Below h w W) => troot_any [⟨#[122]⟩] g W hT (unhide HKB _ hW) (unhide HTB _ hW))
    have HRR9 := hide (fun W p (hS : SB W W.heap.size p [(⟨#[122]⟩ : ByteArray)]) => rroot_any 1 [⟨#[122]⟩] rfl W W.heap.size 1 p hS (Nat.le_refl _) (fun j hj => by
      obtain rfl : j = 0 := by simpa using hj
      decide) (by decide) (by decide) (by decide))
    obtain ⟨r9, hr9⟩ : ∃ z, rt [(⟨#[122]⟩ : ByteArray)] = z := ⟨_, rfl⟩
    rw [hr9] at HRT9 HRR9
    clear hr9
    go_wp2_with fail
    refine (unhide HNA).mono ?_
    rintro e y1 ⟨rfl, ht, hb, hs⟩
    have HT1 := hide ht
    have HB1 := hide (show Below g wi y1 from hb)
    have HW1 := hide (show Below h w y1 from (unhide HTS).bel.trans (hb.mono (by omega)))
    have hgz : g < y1.heap.size := by omega
    clear ht hb hs HNA
    go_wp2_with fail
    refine (unhide HSZ0 _ (unhide HT1)).mono ?_
    rintro e y ⟨rfl, hy⟩
    subst y
    go_wp2_with fail
    refine (unhide HAD9 _ (unhide HT1) (unhide HW1)).mono ?_
    rintro e y2 ⟨rfl, ht, hto⟩
    have HT2 := hide ht
    have HB2 := hide (show Below g wi y2 from (unhide HB1).trans hto.1)
    have HW2 := hide (show Below h w y2 from (unhide HW1).trans (hto.1.mono (by omega)))
    have hgz2 : g < y2.heap.size := by have := hto.1.size; omega
    clear ht hto HAD9 HT1 HB1 HW1 HSZ0 hgz
    go_wp2_with fail
    refine (unhide HSZ1 _ (unhide HT2)).mono ?_
    rintro e y ⟨rfl, hy⟩
    subst y
    go_wp2_with fail
    refine (unhide HRT9 _ (unhide HT2) (unhide HW2)).mono ?_
    rintro e y3 ⟨rfl, hb⟩
    have HB3 := hide (show Below g wi y3 from (unhide HB2).trans (hb.mono (by omega)))
    have hgz3 : g < y3.heap.size := by have := hb.size; omega
    have HS3 := hide (show SB (y3.alloc (.cells #[.string ⟨#[122]⟩] 9)) (y3.alloc (.cells #[.string ⟨#[122]⟩] 9)).heap.size (some ⟨y3.heap.size, 0, none⟩) [(⟨#[122]⟩ : ByteArray)] from own_SB rfl (own_one y3 0 (.string ⟨#[122]⟩) (Nat.zero_le _)))
    clear hb HT2 HB2 HW2 HSZ1 HRT9 hgz2
    go_wp2_with fail
    refine (unhide HRR9 _ _ (unhide HS3)).mono ?_
    rintro e y4 ⟨rfl, hb⟩
    have HTN := hide (show TsI w h b y4 L L V from (unhide HTS).bel' (by
      rw [hg]
      exact ((unhide HB3).alloc (by omega) _).trans (hb.mono (by simp; omega))))
    clear hb HS3 HB3 HRR9 HTS hg hgz3
    go_wp2
    go_roundw
    case rel => exact ⟨j + 1, by omega, by go_num, HTN⟩
    case measure => simp [intOf] <;> omega
  obtain rfl : j = 100 := by omega
  have e2 : ¬ (((100 : Nat)) : Int) < 100 := by omega
  go_wp2
  go_loopw [11] (fun jv wr => ∃ k : Nat, k ≤ 2 ∧ jv = .int .i64 (k : Int) ∧ Hid (TsI w h b wr L L V)) (fun jv _ => 2 - (intOf jv).toNat)
  case atStart => exact ⟨0, by omega, rfl, HTS⟩
  case round =>
  clear HTS e2
  obtain ⟨k, hk, rfl, HTS⟩ := hrel
  obtain ⟨wi, rfl⟩ : ∃ z, z = wr := ⟨_, rfl⟩
  by_cases hk2 : k < 2
  · obtain ⟨AT, hAT⟩ : ∃ AT : World → Prop, AT = fun y => TsI w h b y L L V := ⟨_, rfl⟩
    have HAT := hide (show AT wi from by rw [hAT]; exact (unhide HTS).bel' (Below.refl _ _))
    obtain ⟨pk, ck, hvk, _, hck1, hck2⟩ := (unhide HTS).form k hk2
    have hln := (unhide HTS).len k hk2
    have hsht := (unhide HTS).sht k hk2
    obtain ⟨l, hl⟩ : ∃ z, L k = z := ⟨_, rfl⟩
    obtain ⟨n, hn⟩ : ∃ z, l.length = z := ⟨_, rfl⟩
    rw [hl, hn] at hvk hck1
    rw [hl, hn] at hln
    rw [hl] at hsht
    have HC := hide (show ∀ y, AT y → y.cell? ⟨b + 3, k, none⟩ = some (.pointer (some ⟨b + 1 + k, 0, none⟩)) ∧ y.cell? ⟨b, k, none⟩ = some (.slice pk n ck) from fun y hy => by
      rw [hAT] at hy
      exact ⟨hy.cellT k hk2, by rw [← hvk]; exact (hy.cellV k hk2).1⟩)
    have HA3 := hide (show ∀ y z, AT y → Below y.heap.size y z → AT z from fun y z hy hz => by
      rw [hAT] at hy ⊢
      exact hy.bel' hz)
    have HSZ := hide (fun y (hy : AT y) => size_any (b + 1 + k) n y (by rw [hAT] at hy; have := (hy.tre k hk2).cell; rw [hl, hn] at this; exact this))
    have HKP := hide (fun y (hy : AT y) => kept_any (b + 1 + k) n hln y (by rw [hAT] at hy; have := (hy.tre k hk2).cell; rw [hl, hn] at this; exact this))
    have HRT := hide (fun y (hy : AT y) => troot_any l (b + 1 + k) y (by rw [hAT] at hy; have := hy.tre k hk2; rw [hl] at this; exact this) (unhide HKB _ (by rw [hAT] at hy; exact hy.bel)) (unhide HTB _ (by rw [hAT] at hy; exact hy.bel)))
    have HSB := hide (show ∀ y, AT y → SB y y.heap.size pk l from fun y hy => by
      rw [hAT] at hy
      obtain ⟨p9, c9, e9, s9, _⟩ := hy.form k hk2
      rw [hvk] at e9
      injection e9 with e9
      subst e9
      rw [hl] at s9
      exact s9)
    have HRR := hide (fun y (hy : AT y) => rroot_any n l hn y y.heap.size ck pk (unhide HSB _ hy) (Nat.le_refl _) hsht (by omega) hck1 hck2)
    have HRO := hide (fun y (hy : AT y) => root_any l n hn y y.heap.size ck pk (unhide HSB _ hy) (Nat.le_refl _) (unhide HKB _ (by rw [hAT] at hy; exact hy.bel)) hsht (by omega) hck1 hck2)
    have HAX := hide (show ∀ y, AT y → TsI w h b y L L V from fun y hy => by rw [hAT] at hy; exact hy)
    obtain ⟨rr, hrr⟩ : ∃ z, rt l = z := ⟨_, rfl⟩
    rw [hrr] at HRT HRR HRO
    clear hrr hAT hsht hl hn hvk HSB
    have hk0 : (k : Int) < 2 := by omega
    clear HTS
    obtain ⟨cT, cV⟩ := unhide HC wi (unhide HAT)
    go_wp2_with fail
    refine (unhide HRO _ (unhide HAT)).mono ?_
    rintro e y7 ⟨rfl, hb⟩
    have HAT2 := hide (show AT y7.drew from unhide HA3 _ _ (unhide HAT) hb.drew)
    clear hb HAT cT cV
    go_wp2_with fail
    refine wp_region_held_drew (S := AT) (by kernel_rfl) (unhide HAT2) ?_
    intro hS
    refine wpAnyH_takeD 0 (some 183) (.slice (some ⟨b + 3, 0, none⟩) 2 2) rfl rfl (by kernel_rfl) (by kernel_rfl) (by kernel_rfl) (fun _ _ _ h => h) (Or.inl ⟨by rfl, fun w hSw => by obtain ⟨hq1, hq2⟩ := unhide HC w hSw; clear hSw; go_simp⟩) hS ?_
    simp only [Act.put, List.setIfInBounds_toArray, List.set_cons_zero, List.set_cons_succ]
    refine wpAnyH_takeD 1 (some 184) (.int .i64 (k : Int)) rfl rfl (by kernel_rfl) (by kernel_rfl) (by kernel_rfl) (fun _ _ _ h => h) (Or.inl ⟨by rfl, fun w hSw => by obtain ⟨hq1, hq2⟩ := unhide HC w hSw; clear hSw; go_simp⟩) hS ?_
    simp only [Act.put, List.setIfInBounds_toArray, List.set_cons_zero, List.set_cons_succ]
    refine wpAnyH_takeD 2 (some 185) (.pointer (some ⟨b + 3, k, none⟩)) rfl rfl (by kernel_rfl) (by kernel_rfl) (by kernel_rfl) (fun _ _ _ h => h) (Or.inl ⟨by rfl, fun w hSw => by obtain ⟨hq1, hq2⟩ := unhide HC w hSw; clear hSw; go_simp⟩) hS ?_
    simp only [Act.put, List.setIfInBounds_toArray, List.set_cons_zero, List.set_cons_succ]
    refine wpAnyH_takeD 3 (some 186) (.pointer (some ⟨b + 1 + k, 0, none⟩)) rfl rfl (by kernel_rfl) (by kernel_rfl) (by kernel_rfl) (fun _ _ _ h => h) (Or.inl ⟨by rfl, fun w hSw => by obtain ⟨hq1, hq2⟩ := unhide HC w hSw; clear hSw; go_simp⟩) hS ?_
    simp only [Act.put, List.setIfInBounds_toArray, List.set_cons_zero, List.set_cons_succ]
    refine wpAnyH_takeD 5 (some 188) (.int .i64 (k : Int)) rfl rfl (by kernel_rfl) (by kernel_rfl) (by kernel_rfl) (fun _ _ _ h => h) (Or.inl ⟨by rfl, fun w hSw => by obtain ⟨hq1, hq2⟩ := unhide HC w hSw; clear hSw; go_simp⟩) hS ?_
    simp only [Act.put, List.setIfInBounds_toArray, List.set_cons_zero, List.set_cons_succ]
    refine wpAnyH_takeD 6 (some 189) (.pointer (some ⟨b, k, none⟩)) rfl rfl (by kernel_rfl) (by kernel_rfl) (by kernel_rfl) (fun _ _ _ h => h) (Or.inl ⟨by rfl, fun w hSw => by obtain ⟨hq1, hq2⟩ := unhide HC w hSw; clear hSw; go_simp⟩) hS ?_
    simp only [Act.put, List.setIfInBounds_toArray, List.set_cons_zero, List.set_cons_succ]
    refine wpAnyH_takeD 7 (some 190) (.slice pk n ck) rfl rfl (by kernel_rfl) (by kernel_rfl) (by kernel_rfl) (fun _ _ _ h => h) (Or.inl ⟨by rfl, fun w hSw => by obtain ⟨hq1, hq2⟩ := unhide HC w hSw; clear hSw; go_simp⟩) hS ?_
    simp only [Act.put, List.setIfInBounds_toArray, List.set_cons_zero, List.set_cons_succ]
    refine wpAnyH_takeD 8 (some 191) (.int .i64 (n : Int)) rfl rfl (by kernel_rfl) (by kernel_rfl) (by kernel_rfl) (fun _ _ _ h => h) (Or.inl ⟨by rfl, fun w hSw => by obtain ⟨hq1, hq2⟩ := unhide HC w hSw; clear hSw; go_simp⟩) hS ?_
    simp only [Act.put, List.setIfInBounds_toArray, List.set_cons_zero, List.set_cons_succ]
    refine wpAnyH_ready (rs := [4]) (by kernel_rfl) (by simp) ?_
    refine AllReadyH.cons rfl (fun K hK => ?_) AllReadyH.nil
    simp only [List.getElem_toArray, List.getElem_cons_succ, List.getElem_cons_zero]
    go_simp
    refine (unhide HSZ _ hS).mono ?_
    rintro e y ⟨rfl, hy⟩
    subst y
    refine hK.out _ _ hS (fun hS => ?_)
    clear hK K
    refine wpAnyH_takeD 9 (some 192) (.bool false) rfl rfl (by kernel_rfl) (by kernel_rfl) (by kernel_rfl) (fun _ _ _ h => h) (Or.inl ⟨by rfl, fun w hSw => by obtain ⟨hq1, hq2⟩ := unhide HC w hSw; clear hSw; go_simp⟩) hS ?_
    simp only [Act.put, List.setIfInBounds_toArray, List.set_cons_zero, List.set_cons_succ]
    refine wpAnyH_takeD 10 (some 193) (.bool false) rfl rfl (by kernel_rfl) (by kernel_rfl) (by kernel_rfl) (fun _ _ _ h => h) (Or.inl ⟨by rfl, fun w hSw => by obtain ⟨hq1, hq2⟩ := unhide HC w hSw; clear hSw; go_simp⟩) hS ?_
    simp only [Act.put, List.setIfInBounds_toArray, List.set_cons_zero, List.set_cons_succ]
    refine wpAnyH_takeD 11 (some 194) (.string rr) rfl rfl (by kernel_rfl) (by kernel_rfl) (by kernel_rfl) (fun _ _ _ h => h) (Or.inl ⟨by rfl, fun w hSw => by obtain ⟨hq1, hq2⟩ := unhide HC w hSw; clear hSw; go_simp⟩) hS ?_
    simp only [Act.put, List.setIfInBounds_toArray, List.set_cons_zero, List.set_cons_succ]
    refine wpAnyH_takeD 12 (some 195) (.slice (some ⟨b + 3, 0, none⟩) 2 2) rfl rfl (by kernel_rfl) (by kernel_rfl) (by kernel_rfl) (fun _ _ _ h => h) (Or.inl ⟨by rfl, fun w hSw => by obtain ⟨hq1, hq2⟩ := unhide HC w hSw; clear hSw; go_simp⟩) hS ?_
    simp only [Act.put, List.setIfInBounds_toArray, List.set_cons_zero, List.set_cons_succ]
    refine wpAnyH_takeD 13 (some 196) (.int .i64 (k : Int)) rfl rfl (by kernel_rfl) (by kernel_rfl) (by kernel_rfl) (fun _ _ _ h => h) (Or.inl ⟨by rfl, fun w hSw => by obtain ⟨hq1, hq2⟩ := unhide HC w hSw; clear hSw; go_simp⟩) hS ?_
    simp only [Act.put, List.setIfInBounds_toArray, List.set_cons_zero, List.set_cons_succ]
    refine wpAnyH_takeD 14 (some 197) (.pointer (some ⟨b + 3, k, none⟩)) rfl rfl (by kernel_rfl) (by kernel_rfl) (by kernel_rfl) (fun _ _ _ h => h) (Or.inl ⟨by rfl, fun w hSw => by obtain ⟨hq1, hq2⟩ := unhide HC w hSw; clear hSw; go_simp⟩) hS ?_
    simp only [Act.put, List.setIfInBounds_toArray, List.set_cons_zero, List.set_cons_succ]
    refine wpAnyH_takeD 15 (some 198) (.pointer (some ⟨b + 1 + k, 0, none⟩)) rfl rfl (by kernel_rfl) (by kernel_rfl) (by kernel_rfl) (fun _ _ _ h => h) (Or.inl ⟨by rfl, fun w hSw => by obtain ⟨hq1, hq2⟩ := unhide HC w hSw; clear hSw; go_simp⟩) hS ?_
    simp only [Act.put, List.setIfInBounds_toArray, List.set_cons_zero, List.set_cons_succ]
    refine wpAnyH_ready (rs := [16]) (by kernel_rfl) (by simp) ?_
    refine AllReadyH.cons rfl (fun K hK => ?_) AllReadyH.nil
    simp only [List.getElem_toArray, List.getElem_cons_succ, List.getElem_cons_zero]
    go_simp
    refine (unhide HRT _ hS).mono ?_
    rintro e y5 ⟨rfl, hb⟩
    have hS9 := unhide HA3 _ _ hS hb
    clear hb
    refine hK.out _ _ hS9 (fun hS => ?_)
    clear hK K
    refine wpAnyH_takeD 17 (some 200) (.bool false) rfl rfl (by kernel_rfl) (by kernel_rfl) (by kernel_rfl) (fun _ _ _ h => h) (Or.inl ⟨by rfl, fun w hSw => by obtain ⟨hq1, hq2⟩ := unhide HC w hSw; clear hSw; go_simp⟩) hS ?_
    simp only [Act.put, List.setIfInBounds_toArray, List.set_cons_zero, List.set_cons_succ]
    refine wpAnyH_takeD 18 (some 201) (.bool false) rfl rfl (by kernel_rfl) (by kernel_rfl) (by kernel_rfl) (fun _ _ _ h => h) (Or.inl ⟨by rfl, fun w hSw => by obtain ⟨hq1, hq2⟩ := unhide HC w hSw; clear hSw; go_simp⟩) hS ?_
    simp only [Act.put, List.setIfInBounds_toArray, List.set_cons_zero, List.set_cons_succ]
    refine wpAnyH_takeD 19 (some 202) (.bool false) rfl rfl (by kernel_rfl) (by kernel_rfl) (by kernel_rfl) (fun _ _ _ h => h) (Or.inl ⟨by rfl, fun w hSw => by obtain ⟨hq1, hq2⟩ := unhide HC w hSw; clear hSw; go_simp⟩) hS ?_
    simp only [Act.put, List.setIfInBounds_toArray, List.set_cons_zero, List.set_cons_succ]
    refine wpAnyH_takeD 20 (some 203) (.string rr) rfl rfl (by kernel_rfl) (by kernel_rfl) (by kernel_rfl) (fun _ _ _ h => h) (Or.inl ⟨by rfl, fun w hSw => by obtain ⟨hq1, hq2⟩ := unhide HC w hSw; clear hSw; go_simp⟩) hS ?_
    simp only [Act.put, List.setIfInBounds_toArray, List.set_cons_zero, List.set_cons_succ]
    refine wpAnyH_takeD 21 (some 204) (.int .i64 (k : Int)) rfl rfl (by kernel_rfl) (by kernel_rfl) (by kernel_rfl) (fun _ _ _ h => h) (Or.inl ⟨by rfl, fun w hSw => by obtain ⟨hq1, hq2⟩ := unhide HC w hSw; clear hSw; go_simp⟩) hS ?_
    simp only [Act.put, List.setIfInBounds_toArray, List.set_cons_zero, List.set_cons_succ]
    refine wpAnyH_takeD 22 (some 205) (.pointer (some ⟨b, k, none⟩)) rfl rfl (by kernel_rfl) (by kernel_rfl) (by kernel_rfl) (fun _ _ _ h => h) (Or.inl ⟨by rfl, fun w hSw => by obtain ⟨hq1, hq2⟩ := unhide HC w hSw; clear hSw; go_simp⟩) hS ?_
    simp only [Act.put, List.setIfInBounds_toArray, List.set_cons_zero, List.set_cons_succ]
    refine wpAnyH_takeD 23 (some 206) (.slice pk n ck) rfl rfl (by kernel_rfl) (by kernel_rfl) (by kernel_rfl) (fun _ _ _ h => h) (Or.inl ⟨by rfl, fun w hSw => by obtain ⟨hq1, hq2⟩ := unhide HC w hSw; clear hSw; go_simp⟩) hS ?_
    simp only [Act.put, List.setIfInBounds_toArray, List.set_cons_zero, List.set_cons_succ]
    refine wpAnyH_ready (rs := [24]) (by kernel_rfl) (by simp) ?_
    refine AllReadyH.cons rfl (fun K hK => ?_) AllReadyH.nil
    simp only [List.getElem_toArray, List.getElem_cons_succ, List.getElem_cons_zero]
    go_simp
    refine (unhide HRR _ hS).mono ?_
    rintro e y6 ⟨rfl, hb⟩
    have hS9 := unhide HA3 _ _ hS hb
    clear hb
    refine hK.out _ _ hS9 (fun hS => ?_)
    clear hK K
    refine wpAnyH_takeD 25 (some 208) (.bool false) rfl rfl (by kernel_rfl) (by kernel_rfl) (by kernel_rfl) (fun _ _ _ h => h) (Or.inl ⟨by rfl, fun w hSw => by obtain ⟨hq1, hq2⟩ := unhide HC w hSw; clear hSw; go_simp⟩) hS ?_
    simp only [Act.put, List.setIfInBounds_toArray, List.set_cons_zero, List.set_cons_succ]
    refine wpAnyH_takeD 26 (some 209) (.bool false) rfl rfl (by kernel_rfl) (by kernel_rfl) (by kernel_rfl) (fun _ _ _ h => h) (Or.inl ⟨by rfl, fun w hSw => by obtain ⟨hq1, hq2⟩ := unhide HC w hSw; clear hSw; go_simp⟩) hS ?_
    simp only [Act.put, List.setIfInBounds_toArray, List.set_cons_zero, List.set_cons_succ]
    refine wpAnyH_done (by kernel_rfl) ?_ _
    have HTN := hide (unhide HAX _ hS)
    clear hS HAT2 HAX HA3 HC HSZ HKP HRT HRR HRO
    go_wp2
    go_roundw
    case rel => exact ⟨k + 1, by omega, by go_num, HTN⟩
    case measure => simp [intOf] <;> omega
  obtain rfl : k = 2 := by omega
  have e3 : ¬ (((2 : Nat)) : Int) < 2 := by omega
  go_wp2
  go_ret
  exact ⟨rfl, (unhide HTS).bel⟩
end Go.Proofs.YtilhilglokblpaaDoor
