import Derived.Test.YtifjmldmilmfjaaGreatDoorMkc15
import Derived.Deep.AppendLies
namespace Go.Proofs.YtifjmldmilmfjaaGreatDoor
open Go.RowKit
set_option maxRecDepth 100000
/-- texts in memory, in a block below B -/
def SB (w : World) (B : Nat) (p : Option Addr) (l : List ByteArray) : Prop := ∀ j, j < l.length → ∃ g o, p = some ⟨g, o, none⟩ ∧ g < B ∧ w.cell? ⟨g, o + j, none⟩ = some (.string (l.getD j ⟨#[]⟩))
theorem SB.below {w w' : World} {B : Nat} {p : Option Addr} {l : List ByteArray} (h : SB w B p l) (hb : Below B w w') : SB w' B p l := fun j hj => by
  obtain ⟨g, o, e, hg, hc⟩ := h j hj
  exact ⟨g, o, e, hg, (hb.cell (p := ⟨g, o + j, none⟩) hg).trans hc⟩
theorem SB.nil (w : World) (B : Nat) (p : Option Addr) : SB w B p [] := fun j hj => absurd hj (by simp)
theorem getD_take (l : List ByteArray) (k j : Nat) (h : j < k) : (l.take k).getD j ⟨#[]⟩ = l.getD j ⟨#[]⟩ := by
  rw [List.getD_eq_getElem?_getD, List.getD_eq_getElem?_getD, List.getElem?_take, if_pos h]
theorem gr_form {w : World} {base n : Nat} {e : TypeId} {k : Nat} {v : Value} {xs : List Value} (h : w.ownsRow base e k v n xs) : ∃ p cap, v = .slice p n cap ∧ n ≤ cap := by
  rcases h.2 with ⟨h1, h0⟩ | ⟨g, cap, cur, h1, hb, hg, hn, hc, hs, hx⟩
  · exact ⟨none, 0, by rw [h1, h0], by omega⟩
  · exact ⟨_, cap, h1, by omega⟩
theorem gr_cell {w : World} {base : Nat} {e : TypeId} {n c : Nat} {p : Option Addr} {xs : List Value} (h : w.ownsRow base e 1 (.slice p n c) n xs) (j : Nat) (hj : j < n) : ∃ g, p = some ⟨g, 0, none⟩ ∧ w.cell? ⟨g, j, none⟩ = xs[j]? ∧ w.frozen? ⟨g, j, none⟩ = false ∧ base ≤ g ∧ g < w.heap.size := by
  rcases h.2 with ⟨h1, h0⟩ | ⟨g, cap, cur, h1, hb, hg, hn, hc, hs, hx⟩
  · omega
  · have e0 : p = some ⟨g, 0, none⟩ := by injection h1
    have hB : Blk w g cur e := hg
    refine ⟨g, e0, ?_, hB.frozen j, hb, hB.lt⟩
    rw [hB.cell, ← hx, List.getElem?_take, if_pos (by omega)]
    simp
theorem gr_new (w : World) (T : TypeId) (x : Value) (j : Nat) (u : Value) (hu : [x][j]? = some u) : (w.alloc (.cells #[x] T)).cell? (Addr.add ⟨w.heap.size, 0, none⟩ j) = some u := by
  rw [Addr.add_mid, Nat.zero_add, (Blk.new w T #[x]).cell j, ← hu]
  simp
theorem gr_str : (Tryz.prog.info? 9).map (fun i => (i.zero, i.size, i.bytes)) = some (some (.string ⟨#[]⟩), 1, 16) := by kernel_rfl
theorem own_bel {w w' : World} {B : Nat} {e : TypeId} {k n : Nat} {v : Value} {xs : List Value} (h : w.ownsRow B e k v n xs) (hb : Below w.heap.size w w') : w'.ownsRow B e k v n xs := owns_only h (Only.of_below (P := fun _ => False) hb) (fun _ _ q => q)
def IL (w : World) (B : Nat) (p : Option Addr) (l : List Int) : Prop := ∀ j, j < l.length → ∃ g o, p = some ⟨g, o, none⟩ ∧ g < B ∧ w.cell? ⟨g, o + j, none⟩ = some (.int .i64 (l.getD j 0))
theorem IL.below {w w' : World} {B : Nat} {p : Option Addr} {l : List Int} (h : IL w B p l) (hb : Below B w w') : IL w' B p l := fun j hj => by
  obtain ⟨g, o, e, hg, hc⟩ := h j hj
  exact ⟨g, o, e, hg, (hb.cell (p := ⟨g, o + j, none⟩) hg).trans hc⟩
theorem info4 : (Tryz.prog.info? 4).map (fun i => (i.zero, i.size, i.bytes)) = some (some (.bool false), 1, 1) := by kernel_rfl
set_option maxRecDepth 100000 in
theorem run_make_bool (l : Nat) (hc : l ≤ 281474976710656) (w : World) : (Instr.makeSlice 56 (.int .i64 (l : Int)) (.int .i64 (l : Int))).run Tryz.prog w = .ok (.slice (some ⟨w.heap.size, 0, none⟩) l l) (w.alloc (.cells (List.replicate l (Value.bool false)).toArray 4)) := by
  obtain ⟨i0, hi, hz0, hz1, hz2⟩ := info_parts info4
  have := run_make (P := Tryz.prog) w 56 4 i0 (.bool false) Tryz.underlying56 hi hz0 .i64 .i64 (l : Int) (l : Int) (by omega) (by omega) (by rw [hz2]; omega) (by omega)
  rw [this, hz1]
  simp only [Int.toNat_natCast, Nat.mul_one]
  congr 3
  apply Array.ext
  · simp [size_madeCells]
  · intro j h1 h2
    simp [madeCells, Value.cells, Nat.mod_one]
/-- the frames of messages -/
def frL (h z : ByteArray) (l : List ByteArray) (n : Nat) : List ByteArray := (List.range n).map fun j : Nat => frB h z (j : Int) (l.getD j ⟨#[]⟩)
theorem frL_len (h z : ByteArray) (l : List ByteArray) (n : Nat) : (frL h z l n).length = n := by simp [frL]
theorem frL_get (h z : ByteArray) (l : List ByteArray) (n j : Nat) (hj : j < n) : (frL h z l n).getD j ⟨#[]⟩ = frB h z (j : Int) (l.getD j ⟨#[]⟩) := by
  rw [List.getD_eq_getElem?_getD, frL, List.getElem?_map, List.getElem?_range hj]
  rfl
theorem frL_snoc (h z : ByteArray) (l : List ByteArray) (m : ByteArray) (n : Nat) (hn : l.length = n) : frL h z (l ++ [m]) (n + 1) = frL h z l n ++ [frB h z (n : Int) m] := by
  have h1 : (List.range n).map (fun j : Nat => frB h z (j : Int) ((l ++ [m]).getD j ⟨#[]⟩)) = (List.range n).map (fun j : Nat => frB h z (j : Int) (l.getD j ⟨#[]⟩)) := by
    refine List.map_congr_left fun j hj => ?_
    have hj' : j < l.length := by rw [hn]; exact List.mem_range.1 hj
    rw [List.getD_eq_getElem?_getD, List.getElem?_append_left hj', ← List.getD_eq_getElem?_getD]
  have h2 : (l ++ [m]).getD n ⟨#[]⟩ = m := by
    rw [List.getD_eq_getElem?_getD, List.getElem?_append_right (by omega), hn, Nat.sub_self]
    rfl
  rw [frL, List.range_succ, List.map_append, h1, List.map_cons, List.map_nil, h2]
  rfl
theorem own_touchB {w w' : World} {g B n : Nat} {v : Value} {xs : List Value} (hB : g < B) (h : w.ownsRow B 9 1 v n xs) (ho : Only (fun k => k = g) w w') : w'.ownsRow B 9 1 v n xs := owns_only h ho (fun k hk e => by have := (h.lt k hk).1; omega)
/-- two ends and what was sent: the frames vf, the messages vs -/
structure OnI (w0 : World) (h g1 g2 B : Nat) (key one two : Int) (W : World) (l : List ByteArray) (sb : Nat) (vf vs : Value) : Prop where
  bel : Below h w0 W
  a : EndM W g1 { meA key one two with s := l.length }
  b : EndM W g2 { meB key one two with s := sb }
  f : W.ownsRow B 9 1 vf l.length ((frL ((meA key one two).h 0) ((meA key one two).z 0) l l.length).map Value.string)
  s : W.ownsRow B 9 1 vs l.length (l.map Value.string)
  dis : ∀ q, vf.ownBlock = some q → vs.ownBlock ≠ some q
  sht : ∀ j, j < l.length → (l.getD j ⟨#[]⟩).size ≤ 4096
  sb9 : sb ≤ l.length
  hh : h ≤ W.heap.size
  gB : g1 < B ∧ g2 < B ∧ g1 ≠ g2 ∧ B ≤ W.heap.size
theorem OnI.bel' {w0 : World} {h g1 g2 B : Nat} {key one two : Int} {W W' : World} {l : List ByteArray} {sb : Nat} {vf vs : Value} (x : OnI w0 h g1 g2 B key one two W l sb vf vs) (hb : Below W.heap.size W W') : OnI w0 h g1 g2 B key one two W' l sb vf vs :=
  have hg := x.gB
  have hs := hb.size
  ⟨x.bel.trans (hb.mono x.hh), x.a.below hb x.a.lt, x.b.below hb x.b.lt, own_bel x.f hb, own_bel x.s hb, x.dis, x.sht, x.sb9, by have := x.hh; omega, by omega⟩
/-- both rows grown by one -/
theorem OnI.app {w0 : World} {h g1 g2 B : Nat} {key one two : Int} {W x5 x6 : World} {l : List ByteArray} {sb' : Nat} {vf vs : Value} (m : ByteArray) (hm : m.size ≤ 4096) (bel : Below h w0 W) (hh : h ≤ B)
    (a : EndM W g1 { meA key one two with s := l.length + 1 }) (b : EndM W g2 { meB key one two with s := sb' }) (hsb : sb' ≤ l.length + 1) (gB : g1 < B ∧ g2 < B ∧ g1 ≠ g2 ∧ B ≤ W.heap.size)
    (f : W.ownsRow B 9 1 vf l.length ((frL ((meA key one two).h 0) ((meA key one two).z 0) l l.length).map Value.string)) (s : W.ownsRow B 9 1 vs l.length (l.map Value.string)) (dis : ∀ q, vf.ownBlock = some q → vs.ownBlock ≠ some q) (sht : ∀ j, j < l.length → (l.getD j ⟨#[]⟩).size ≤ 4096)
    {g5 c5 g6 c6 : Nat} (ho5 : x5.ownsRow B 9 1 (.slice (some ⟨g5, 0, none⟩) (l.length + 1) c5) (l.length + 1) ((frL ((meA key one two).h 0) ((meA key one two).z 0) l l.length).map Value.string ++ [.string (frB ((meA key one two).h 0) ((meA key one two).z 0) (l.length : Int) m)]))
    (hg5 : (W.alloc (.cells #[.string (frB ((meA key one two).h 0) ((meA key one two).z 0) (l.length : Int) m)] 9)).grownBy x5 vf.ownBlock) (hat5 : vf.ownBlock = some g5 ∨ g5 = W.heap.size + 1)
    (ho6 : x6.ownsRow B 9 1 (.slice (some ⟨g6, 0, none⟩) (l.length + 1) c6) (l.length + 1) (l.map Value.string ++ [.string m]))
    (hg6 : (x5.alloc (.cells #[.string m] 9)).grownBy x6 vs.ownBlock) (hat6 : vs.ownBlock = some g6 ∨ g6 = x5.heap.size + 1) (hl5 : g5 < x5.heap.size) :
    OnI w0 h g1 g2 B key one two x6 (l ++ [m]) sb' (.slice (some ⟨g5, 0, none⟩) (l.length + 1) c5) (.slice (some ⟨g6, 0, none⟩) (l.length + 1) c6) := by
  have hO5 : Only (fun q => vf.ownBlock = some q) W x5 := ((Only.refl _ W).alloc _).grown hg5 (fun _ _ e => e)
  have hO6 : Only (fun q => vs.ownBlock = some q) x5 x6 := ((Only.refl _ x5).alloc _).grown hg6 (fun _ _ e => e)
  have hB5 : Below B W x5 := hO5.below gB.2.2.2 (fun k hk q => by have := (f.lt k q).1; omega)
  have hs5 := hB5.size
  have hs : x5.ownsRow B 9 1 vs l.length (l.map Value.string) := owns_only s hO5 (fun q hq e => dis q e hq)
  have hB6 : Below B x5 x6 := hO6.below (by omega) (fun k hk q => by have := (s.lt k q).1; omega)
  have hs6 := hB6.size
  have hBB := hB5.trans hB6
  have hd : ∀ q, (Value.slice (some ⟨g5, 0, none⟩) (l.length + 1) c5).ownBlock = some q → vs.ownBlock ≠ some q := fun q hq hq2 => by
    have e : g5 = q := by simpa [Value.ownBlock] using hq
    rcases hat5 with r | r
    · exact dis q (by rw [r, e]) hq2
    · have := (s.lt q hq2).2
      omega
  have hf : x6.ownsRow B 9 1 (.slice (some ⟨g5, 0, none⟩) (l.length + 1) c5) (l.length + 1) ((frL ((meA key one two).h 0) ((meA key one two).z 0) l l.length).map Value.string ++ [.string (frB ((meA key one two).h 0) ((meA key one two).z 0) (l.length : Int) m)]) := owns_only ho5 hO6 (fun q hq e => hd q hq e)
  have hll : (l ++ [m]).length = l.length + 1 := by simp
  refine ⟨bel.trans (hBB.mono hh), ?_, ?_, ?_, ?_, fun q hq hq2 => ?_, fun j hj => ?_, by rw [hll]; exact hsb, by omega, ⟨gB.1, gB.2.1, gB.2.2.1, by omega⟩⟩
  · rw [hll]; exact a.below hBB gB.1
  · exact b.below hBB gB.2.1
  · rw [hll, frL_snoc _ _ _ _ _ rfl, List.map_append]; exact hf
  · rw [hll, List.map_append]; exact ho6
  · have e : g5 = q := by simpa [Value.ownBlock] using hq
    have e2 : g6 = q := by simpa [Value.ownBlock] using hq2
    rcases hat6 with r | r
    · exact hd q hq (by rw [r, e2])
    · omega
  · rw [hll] at hj
    by_cases e : j < l.length
    · rw [List.getD_eq_getElem?_getD, List.getElem?_append_left e, ← List.getD_eq_getElem?_getD]
      exact sht j e
    · obtain rfl : j = l.length := by omega
      rw [List.getD_eq_getElem?_getD, List.getElem?_append_right (Nat.le_refl _), Nat.sub_self]
      exact hm
end Go.Proofs.YtifjmldmilmfjaaGreatDoor
