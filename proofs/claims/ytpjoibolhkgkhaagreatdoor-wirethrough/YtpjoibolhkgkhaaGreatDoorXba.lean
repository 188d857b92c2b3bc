import Derived.Test.YtpjoibolhkgkhaaGreatDoorXpu
import Derived.Laws.BytesArg
import Derived.Laws.Tables
import Derived.Deep.MidRow
import Derived.BigQuiet
import Derived.WalkMore
namespace Go.Proofs.YtpjoibolhkgkhaaGreatDoor
open Go.RowKit
theorem wnumK {w wr : World} {base b : Nat} {v : Value} {l : List Int} (h : WPost base b v l 0 w wr) (hb : base ≤ w.heap.size) (k : Nat) (h1 : 1 ≤ k) (h8 : k ≤ 8) (n : Int) (hf : fitsP n k) (hsz : l.length ≤ 1000) (K : Int) (hK : K = (k : Int)) (l' : List Int) (hl : l ++ numB n k = l') :
    Calls Tryz.prog 29 #[.pointer (some ⟨b, 0, none⟩), .int .i64 K, .slice (some ⟨wr.heap.size, 0, none⟩) 1 1] (wr.alloc (Obj.cells #[.int .i64 n] 3)) fun ev w' => ev = .returned (.tuple #[]) ∧ WPost base b v l' 0 w w' := by
  subst hK
  refine (numK h hb (k : Int) [n] #[.int .i64 n] rfl (by simp; omega) 1 rfl).mono ?_
  rintro ev w' ⟨rfl, hp⟩
  have hE : errN (k : Int) [n] = 0 := by
    rw [errN, if_neg (by omega), if_pos]
    intro m hm
    simp at hm
    subst hm
    exact hf
  rw [hE, wl_good, we_good] at hp
  have ho : outN ((k : Int).toNat) [n] = numB n k := by simp [outN]
  rw [ho, hl] at hp
  exact ⟨rfl, hp⟩
theorem iload_blk {W : World} {b : Nat} {cur : Array Value} {T : TypeId} (ty : TypeId) (d : TypeDesc) (h : Blk W b cur T) (hu : Tryz.prog.underlying ty = some d) (hd : d.isRow = true) (hi : (Tryz.prog.info? ty).map (·.size) = some cur.size) : (loadVar ty ⟨b, 0, none⟩).run Tryz.prog W = .ok (.agg cur) W := by
  have := run_loadVar_mid (P := Tryz.prog) W b 0 ty cur.toList d (fun j v hv => by rw [Nat.zero_add, h.cell j]; simpa using hv) hu hd (by simpa using hi)
  simpa using this
theorem results_cell2 {fn : Func} {p q : Tmp} {ty : TypeId} (h : fn.results = #[.cell p ty, .tmp q]) (tmps : Array Value) (P : Program) (w : World) (ad : Addr) (ha : tmps.getD p undef = .pointer (some ad)) (v : Value) (hl : (loadVar ty ad).run P w = .ok v w) :
    (results fn tmps).run P w = .ok (.tuple #[v, tmps.getD q undef]) w := by
  have ha' : tmps[p]?.getD undef = .pointer (some ad) := by simpa using ha
  simp only [results, h]
  simp [ha', asAddr, hl]
theorem blk_there {W : World} {g : Nat} {cur : Array Value} {T : TypeId} (h : Blk W g cur T) (n : Nat) (hn : n = cur.size) : W.there g 0 n := fun j hj => ⟨by rw [h.cell, Nat.zero_add]; simp; omega, h.frozen _⟩
theorem setCells_blk : ∀ (vs pre post : List Value) {w : World} {b : Nat} {cur : Array Value} {T : TypeId} (_ : Blk w b cur T) (mid : List Value) (_ : mid.length = vs.length) (_ : cur = (pre ++ mid ++ post).toArray), Blk (w.setCells b pre.length vs) b (pre ++ vs ++ post).toArray T
  | [], pre, post, w, b, cur, T, h, mid, hm, hc => by
    have : mid = [] := List.length_eq_zero_iff.1 hm
    subst this
    rw [World.setCells, ← hc]
    exact h
  | v :: r, pre, post, w, b, cur, T, h, mid, hm, hc => by
    cases mid with
    | nil => simp at hm
    | cons x m =>
      rw [World.setCells]
      have h1 := h.set pre.length v
      have e1 : cur.setIfInBounds pre.length v = ((pre ++ [v]) ++ m ++ post).toArray := by
        rw [hc]
        apply Array.ext'
        simp
      have := setCells_blk r (pre ++ [v]) post h1 m (by simpa using hm) e1
      simpa using this
theorem blk_cells_other : ∀ (vs : List Value) (o : Nat) {w : World} {b : Nat} {cur : Array Value} {T : TypeId} (_ : Blk w b cur T) (b' : Nat) (_ : b' ≠ b), Blk (w.setCells b' o vs) b cur T
  | [], _, _, _, _, _, h, _, _ => h
  | v :: r, o, w, b, cur, T, h, b', hb => by
    rw [World.setCells]
    exact blk_cells_other r (o + 1) (h.other _ v hb) b' hb
theorem only_cells {w : World} (b o : Nat) (vs : List Value) {P : Nat → Prop} (hP : P b) : Only P w (w.setCells b o vs) := by
  induction vs generalizing w o with
  | nil => exact Only.refl _ _
  | cons v r ih =>
    rw [World.setCells]
    exact ((Only.refl P w).setCell ⟨b, o, none⟩ v (fun _ => hP)).trans (ih _) (fun _ _ q => q)
theorem setCells_drew (b : Nat) : ∀ (vs : List Value) (o : Nat) (w : World), w.drew.setCells b o vs = (w.setCells b o vs).drew
  | [], _, _ => rfl
  | v :: r, o, w => by
    rw [World.setCells, World.setCells]
    exact setCells_drew b r (o + 1) (w.setCell ⟨b, o, none⟩ v)
theorem blk_range {W : World} {g : Nat} {cs : List Value} {T : TypeId} (h : Blk W g cs.toArray T) : W.rangeAt g 0 cs := fun j v hv => by
  rw [h.cell, Nat.zero_add]
  simpa using hv
/-- A block is set as a whole. -/
theorem setCells_all {w : World} {b : Nat} {cur : Array Value} {T : TypeId} (h : Blk w b cur T) (vs : List Value) (hl : cur.size = vs.length) : Blk (w.setCells b 0 vs) b vs.toArray T := by
  have := setCells_blk vs [] [] h cur.toList (by simpa using hl) (by simp)
  simpa using this
/-- Two numbers of one size are written. -/
theorem wnum2K {w wr : World} {base b : Nat} {v : Value} {l : List Int} (h : WPost base b v l 0 w wr) (hb : base ≤ w.heap.size) (k : Nat) (h1 : 1 ≤ k) (h8 : k ≤ 8) (n m : Int) (hf : fitsP n k) (hf2 : fitsP m k) (hsz : l.length ≤ 1000) (K : Int) (hK : K = (k : Int)) (l' : List Int) (hl : l ++ (numB n k ++ numB m k) = l') :
    Calls Tryz.prog 29 #[.pointer (some ⟨b, 0, none⟩), .int .i64 K, .slice (some ⟨wr.heap.size, 0, none⟩) 2 2] (wr.alloc (Obj.cells #[.int .i64 n, .int .i64 m] 3)) fun ev w' => ev = .returned (.tuple #[]) ∧ WPost base b v l' 0 w w' := by
  subst hK
  refine (numK h hb (k : Int) [n, m] #[.int .i64 n, .int .i64 m] rfl (by simp; omega) 2 rfl).mono ?_
  rintro ev w' ⟨rfl, hp⟩
  have hE : errN (k : Int) [n, m] = 0 := by
    rw [errN, if_neg (by omega), if_pos]
    intro x hm
    simp at hm
    rcases hm with rfl | rfl
    · exact hf
    · exact hf2
  rw [hE, wl_good, we_good] at hp
  have ho : outN ((k : Int).toNat) [n, m] = numB n k ++ numB m k := by simp [outN]
  rw [ho, hl] at hp
  exact ⟨rfl, hp⟩
/-- A load of a row under a guard that lets it by. -/
theorem wpList_load_midG {ops : Array Oper} {rest : List Oper} {op : Oper} {a : Act} {w : World} {Q : Exit → Act → World → Prop} (hw : Region.wanted op (yielded ops a.tmps) = true) (ty : TypeId) (x : Operand) (ho : op.op = .load ty x) (b o : Nat) (hx : a.eval x = .pointer (some ⟨b, o, none⟩)) (cs : List Value) (d : TypeDesc) (hc : w.rangeAt b o cs) (hu : Tryz.prog.underlying ty = some d) (hd : d.isRow = true) (hi : (Tryz.prog.info? ty).map (·.size) = some cs.length) (h : wpList Tryz.prog ops Q rest (a.put op.dst (.agg cs.toArray)) w) : wpList Tryz.prog ops Q (op :: rest) a w :=
  wpList_step fun K hK => by simp only [hw, if_true]; exact wp_load_mid ty x ho b o hx cs d hc hu hd hi (hK _ _ h)
end Go.Proofs.YtpjoibolhkgkhaaGreatDoor
