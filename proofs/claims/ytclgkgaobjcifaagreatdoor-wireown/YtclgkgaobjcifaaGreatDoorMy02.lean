import Derived.Test.YtclgkgaobjcifaaGreatDoorMy01
import Derived.Laws.BytesArg
import Derived.Laws.Tables
import Derived.Deep.MidRow
import Derived.BigQuiet
import Derived.WalkMore
import Derived.Great.BuildSlice
import Derived.Laws.CopyOwn
namespace Go.Proofs.YtclgkgaobjcifaaGreatDoor
open Go.RowKit
theorem wnumK {w wr : World} {base b : Nat} {v : Value} {l : List Int} (h : WPost base b v l 0 w wr) (hb : base ≤ w.heap.size) (k : Nat) (h1 : 1 ≤ k) (h8 : k ≤ 8) (n : Int) (hf : fitsP n k) (hsz : l.length ≤ 1000) (K : Int) (hK : K = (k : Int)) (l' : List Int) (hl : l ++ numB n k = l') :
    Calls Tryz.prog 29 #[.pointer (some ⟨b, 0, none⟩), .int .i64 K, .slice (some ⟨wr.heap.size, 0, none⟩) 1 1] (wr.alloc (Obj.cells #[.int .i64 n] 3)) fun ev w' => ev = .returned (.tuple #[]) ∧ WPost base b v l' 0 w w' := by
  subst hK
  refine (numK h hb (k : Int) [n] #[.int .i64 n] rfl (by simp; omega) 1 rfl).mono ?_
  rintro ev w' ⟨rfl, hp⟩
  have hE : errN (k : Int) [n] = 0 := by
    rw [errN, if_neg (by omega), if_pos]
    intro m hm
    simp at hm
    subst hm
    exact hf
  rw [hE, wl_good, we_good] at hp
  have ho : outN ((k : Int).toNat) [n] = numB n k := by simp [outN]
  rw [ho, hl] at hp
  exact ⟨rfl, hp⟩
theorem iload_blk {W : World} {b : Nat} {cur : Array Value} {T : TypeId} (ty : TypeId) (d : TypeDesc) (h : Blk W b cur T) (hu : Tryz.prog.underlying ty = some d) (hd : d.isRow = true) (hi : (Tryz.prog.info? ty).map (·.size) = some cur.size) : (loadVar ty ⟨b, 0, none⟩).run Tryz.prog W = .ok (.agg cur) W := by
  have := run_loadVar_mid (P := Tryz.prog) W b 0 ty cur.toList d (fun j v hv => by rw [Nat.zero_add, h.cell j]; simpa using hv) hu hd (by simpa using hi)
  simpa using this
theorem results_cell2 {fn : Func} {p q : Tmp} {ty : TypeId} (h : fn.results = #[.cell p ty, .tmp q]) (tmps : Array Value) (P : Program) (w : World) (ad : Addr) (ha : tmps.getD p undef = .pointer (some ad)) (v : Value) (hl : (loadVar ty ad).run P w = .ok v w) :
    (results fn tmps).run P w = .ok (.tuple #[v, tmps.getD q undef]) w := by
  have ha' : tmps[p]?.getD undef = .pointer (some ad) := by simpa using ha
  simp only [results, h]
  simp [ha', asAddr, hl]
theorem blk_there {W : World} {g : Nat} {cur : Array Value} {T : TypeId} (h : Blk W g cur T) (n : Nat) (hn : n = cur.size) : W.there g 0 n := fun j hj => ⟨by rw [h.cell, Nat.zero_add]; simp; omega, h.frozen _⟩
theorem setCells_blk : ∀ (vs pre post : List Value) {w : World} {b : Nat} {cur : Array Value} {T : TypeId} (_ : Blk w b cur T) (mid : List Value) (_ : mid.length = vs.length) (_ : cur = (pre ++ mid ++ post).toArray), Blk (w.setCells b pre.length vs) b (pre ++ vs ++ post).toArray T
  | [], pre, post, w, b, cur, T, h, mid, hm, hc => by
    have : mid = [] := List.length_eq_zero_iff.1 hm
    subst this
    rw [World.setCells, ← hc]
    exact h
  | v :: r, pre, post, w, b, cur, T, h, mid, hm, hc => by
    cases mid with
    | nil => simp at hm
    | cons x m =>
      rw [World.setCells]
      have h1 := h.set pre.length v
      have e1 : cur.setIfInBounds pre.length v = ((pre ++ [v]) ++ m ++ post).toArray := by
        rw [hc]
        apply Array.ext'
        simp
      have := setCells_blk r (pre ++ [v]) post h1 m (by simpa using hm) e1
      simpa using this
theorem blk_cells_other : ∀ (vs : List Value) (o : Nat) {w : World} {b : Nat} {cur : Array Value} {T : TypeId} (_ : Blk w b cur T) (b' : Nat) (_ : b' ≠ b), Blk (w.setCells b' o vs) b cur T
  | [], _, _, _, _, _, h, _, _ => h
  | v :: r, o, w, b, cur, T, h, b', hb => by
    rw [World.setCells]
    exact blk_cells_other r (o + 1) (h.other _ v hb) b' hb
theorem only_cells {w : World} (b o : Nat) (vs : List Value) {P : Nat → Prop} (hP : P b) : Only P w (w.setCells b o vs) := by
  induction vs generalizing w o with
  | nil => exact Only.refl _ _
  | cons v r ih =>
    rw [World.setCells]
    exact ((Only.refl P w).setCell ⟨b, o, none⟩ v (fun _ => hP)).trans (ih _) (fun _ _ q => q)
theorem blk_range {W : World} {g : Nat} {cs : List Value} {T : TypeId} (h : Blk W g cs.toArray T) : W.rangeAt g 0 cs := fun j v hv => by
  rw [h.cell, Nat.zero_add]
  simpa using hv
/-- A block is set as a whole. -/
theorem setCells_all {w : World} {b : Nat} {cur : Array Value} {T : TypeId} (h : Blk w b cur T) (vs : List Value) (hl : cur.size = vs.length) : Blk (w.setCells b 0 vs) b vs.toArray T := by
  have := setCells_blk vs [] [] h cur.toList (by simpa using hl) (by simp)
  simpa using this
end Go.Proofs.YtclgkgaobjcifaaGreatDoor

namespace Go.Proofs.YtclgkgaobjcifaaGreatDoor
open Go.RowKit
set_option maxRecDepth 100000
theorem wpList_buildAs {P : Program} {ops : Array Oper} {rest : List Oper} {o : Oper} {a : Act} {w : World} {Q : Exit → Act → World → Prop} (hg : o.guard = none) (t : TypeId) (parts : Array (Nat × Operand)) (ho : o.op = .build t parts) (vs : List (Nat × Value)) (hv : (parts.map fun (i, x) => (i, a.eval x)).toList = vs) (cells : Array Value) (hb : P.built t vs = some cells)
    (h : wpList P ops Q rest (a.put o.dst (.agg cells)) w) : wpList P ops Q (o :: rest) a w :=
  wpList_build hg t parts ho (by rw [hv, hb]; rfl) (by rw [hv, hb]; exact h)
theorem blk_setRow {w : World} {g : Nat} {old cells : Array Value} {T : TypeId} (h : Blk w g old T) : Blk (w.setRow g cells) g cells T := setRow_heap w g old cells T (0, 0) h
theorem blk_setRow_other {w : World} {g b : Nat} {cur cells : Array Value} {T : TypeId} (h : Blk w b cur T) (hb : g ≠ b) : Blk (w.setRow g cells) b cur T := by
  unfold Blk at *
  rw [World.setRow]
  simp only [Array.getElem?_modify, hb, if_false]
  exact h
theorem only_setRow {w : World} (g : Nat) (cells : Array Value) {P : Nat → Prop} (hP : P g) : Only P w (w.setRow g cells) := by
  refine ⟨below_setRow (Below.refl _ _) (Nat.zero_le _) cells, fun k hk hp => ?_⟩
  have hb : g ≠ k := fun e => hp (e ▸ hP)
  rw [World.setRow]
  simp only [Array.getElem?_modify, hb, if_false]
/-- the table of fields, by its cells -/
def tabC : Array Value := #[.int .i64 1, .int .i64 1, .int .i64 8, .int .i64 2, .int .i64 0, .int .i64 65535, .int .i64 2, .int .i64 0, .int .i64 65535, .int .i64 1, .int .i64 1, .int .i64 99, .int .i64 1, .int .i64 0, .int .i64 255, .int .i64 4, .int .i64 0, .int .i64 4294967295, .int .i64 32, .int .i64 48, .int .i64 8, .int .i64 256]
theorem sizeTab : (Tryz.prog.info? 138).map (·.size) = some tabC.size := by kernel_rfl
set_option maxHeartbeats 1000000 in
theorem allFields_any (w : World) : Calls Tryz.prog 72 #[] w fun e w' => e = .returned (.agg tabC) ∧ Below w.heap.size w w' := by
  obtain ⟨x2, hx2⟩ : ∃ q, w.alloc (.cells #[.int .i64 0, .int .i64 0, .int .i64 0, .int .i64 0, .int .i64 0, .int .i64 0, .int .i64 0, .int .i64 0, .int .i64 0, .int .i64 0, .int .i64 0, .int .i64 0, .int .i64 0, .int .i64 0, .int .i64 0, .int .i64 0, .int .i64 0, .int .i64 0, .int .i64 0, .int .i64 0, .int .i64 0, .int .i64 0] 138) = q := ⟨_, rfl⟩
  have BZ : Blk x2 w.heap.size #[.int .i64 0, .int .i64 0, .int .i64 0, .int .i64 0, .int .i64 0, .int .i64 0, .int .i64 0, .int .i64 0, .int .i64 0, .int .i64 0, .int .i64 0, .int .i64 0, .int .i64 0, .int .i64 0, .int .i64 0, .int .i64 0, .int .i64 0, .int .i64 0, .int .i64 0, .int .i64 0, .int .i64 0, .int .i64 0] 138 := by rw [← hx2]; exact Blk.new w _ _
  have hb : Below w.heap.size w x2 := by rw [← hx2]; exact (Below.refl _ w).alloc (Nat.le_refl _) _
  have BT : Blk (x2.setRow w.heap.size tabC) w.heap.size tabC 138 := blk_setRow BZ
  have hb2 := below_setRow hb (Nat.le_refl _) tabC
  have HL := hide (iload_blk 138 _ BT Tryz.underlying138 rfl sizeTab)
  have HB := hide hb2
  have HZ := hide BZ
  have HOK : tabC.all (·.oneCell') = true := by simp [tabC, Value.oneCell']
  clear hb hb2 BT BZ
  go_enter Tryz.func72, Tryz.ntmps72
  go_wp2_with (first | refine wpList_store_row rfl 138 (.tmp 0) (.tmp 21) rfl w.heap.size tabC rfl rfl 138 #[.int .i64 0, .int .i64 0, .int .i64 0, .int .i64 0, .int .i64 0, .int .i64 0, .int .i64 0, .int .i64 0, .int .i64 0, .int .i64 0, .int .i64 0, .int .i64 0, .int .i64 0, .int .i64 0, .int .i64 0, .int .i64 0, .int .i64 0, .int .i64 0, .int .i64 0, .int .i64 0, .int .i64 0, .int .i64 0] (unhide HZ) sizeTab rfl HOK ?_)
  (try simp only [Exit.inBlock, Exit.then])
  refine bodyPost_ret (results_cell rfl _ _ _ ⟨w.heap.size, 0, none⟩ rfl _ (unhide HL)) rfl ?_
  exact ⟨rfl, unhide HB⟩
end Go.Proofs.YtclgkgaobjcifaaGreatDoor
