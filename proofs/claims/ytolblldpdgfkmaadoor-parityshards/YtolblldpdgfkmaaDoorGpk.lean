import Derived.Test.YtolblldpdgfkmaaDoorGpj
import Derived.RangeFuncBox
namespace Go.Proofs.YtolblldpdgfkmaaDoor
open Go.RowKit
set_option maxRecDepth 100000
theorem results_cell2 {fn : Func} {p q : Tmp} {ty : TypeId} (h : fn.results = #[.cell p ty, .tmp q]) (tmps : Array Value) (P : Program) (w : World) (ad : Addr) (ha : tmps.getD p undef = .pointer (some ad)) (v : Value) (hl : (loadVar ty ad).run P w = .ok v w) :
    (results fn tmps).run P w = .ok (.tuple #[v, tmps.getD q undef]) w := by
  have ha' : tmps[p]?.getD undef = .pointer (some ad) := by simpa using ha
  simp only [results, h]
  simp [ha', asAddr, hl]
/-- the first ones as far as they are found: the struct at gf, the result's at w.heap.size -/
structure FoG (w : World) (gf : Nat) (wr : World) (un us : Value) (NL : List Nat) (ts ln : Nat) (v : Nat → Value) (TX : Nat → ByteArray) : Prop where
  gfl : w.heap.size < gf
  blk : Blk wr gf #[un, us] 43
  res : Blk wr w.heap.size #[.slice none 0 0, .slice none 0 0] 43
  rn : wr.ownsRow (w.heap.size + 1) 3 1 un NL.length (nV NL)
  rs : wr.ownsRow (w.heap.size + 1) 51 1 us ts ((List.range ts).map v)
  iv : ∀ r, r < ts → ∃ q c, v r = .slice (some ⟨q, 0, none⟩) ln c ∧ w.heap.size < q ∧ q < wr.heap.size ∧ q ≠ gf ∧ un.ownBlock ≠ some q ∧ us.ownBlock ≠ some q ∧ ∀ j, j < ln → wr.cell? ⟨q, j, none⟩ = some (.int .u8 ((gB (TX r) j).v : Int))
  bel : Below w.heap.size w wr
theorem FoG.num {w : World} {gf : Nat} {wr : World} {un us : Value} {NL : List Nat} {ts ln : Nat} {v : Nat → Value} {TX : Nat → ByteArray} (h : FoG w gf wr un us NL ts ln v TX) (j g5 c5 : Nat) (x1 : World) (ho : x1.ownsRow (w.heap.size + 1) 3 1 (.slice (some ⟨g5, 0, none⟩) (NL.length + 1) c5) (NL.length + 1) (nV NL ++ [.int .i64 (j : Int)])) (hg : (wr.alloc (.cells #[.int .i64 (j : Int)] 3)).grownBy x1 un.ownBlock) (hgg : un.ownBlock = some g5 ∨ g5 = wr.heap.size + 1) : FoG w gf (x1.setCell ⟨gf, 0, none⟩ (.slice (some ⟨g5, 0, none⟩) (NL.length + 1) c5)) (.slice (some ⟨g5, 0, none⟩) (NL.length + 1) c5) us (NL ++ [j]) ts ln v TX := by
  have hne : (43 : TypeId) ≠ 3 := by decide
  have hne2 : (43 : TypeId) ≠ 51 := by decide
  have hs1 := hg.size
  have hs0 : (wr.alloc (.cells #[.int .i64 (j : Int)] 3)).heap.size = wr.heap.size + 1 := by simp
  have keep : ∀ q, q < wr.heap.size → un.ownBlock ≠ some q → x1.heap[q]? = wr.heap[q]? := fun q hq hu => (hg.block q (by omega) (fun e => hu e.symm)).trans (Below.heap_alloc _ _ _ hq)
  have b1 : Blk x1 gf #[un, us] 43 := h.blk.kept (keep gf h.blk.lt (h.blk.not_row hne h.rn))
  have b2 : Blk x1 w.heap.size #[.slice none 0 0, .slice none 0 0] 43 := h.res.kept (keep _ h.res.lt (h.res.not_row hne h.rn))
  have hg5 : g5 ≠ gf := fun e => b1.not_row hne ho (by rw [e]; rfl)
  have hst := grownBy_setCell' x1 gf (.slice (some ⟨g5, 0, none⟩) (NL.length + 1) c5)
  refine ⟨h.gfl, ?_, b2.other _ _ (by have := h.gfl; show gf ≠ w.heap.size; omega), ?_, ?_, fun r hr => ?_, ?_⟩
  · exact b1.set 0 _
  · have e : nV (NL ++ [j]) = nV NL ++ [.int .i64 (j : Int)] := by simp [nV]
    rw [e, List.length_append]
    exact ho.kept hst (.inr (fun q => hg5 (by injection q)))
  · refine (((h.rs.alloc _).kept hg ?_).kept hst ?_)
    · cases hy : us.ownBlock with
      | none => exact .inl rfl
      | some b => exact .inr (fun q => own_types h.rs h.rn (by decide) b hy q.symm)
    · cases hy : us.ownBlock with
      | none => exact .inl rfl
      | some b => exact .inr (fun q => by
          injection q with q
          subst q
          exact h.blk.not_row hne2 h.rs hy)
  · obtain ⟨q, c, e, h1, h2, h3, h4, h5, h6⟩ := h.iv r hr
    refine ⟨q, c, e, h1, by show q < (x1.setCell _ _).heap.size; simp; omega, h3, ?_, h5, fun k hk => ?_⟩
    · intro z
      have : g5 = q := by simpa [Value.ownBlock] using z
      rcases hgg with r' | r'
      · exact h4 (by rw [r', this])
      · omega
    · rw [World.cell?_setCell_far _ _ _ _ (fun z => h3 z.symm), World.cell?_of_block (a := ⟨q, k, none⟩) (keep q h2 h4)]
      exact h6 k hk
  · have hk : ∀ k, k < w.heap.size → x1.heap[k]? = wr.heap[k]? := fun k hk => keep k (by have := h.bel.size; omega) (fun e => by have := (h.rn.lt k e).1; omega)
    refine Below.setCell (p := ⟨gf, 0, none⟩) ?_ (Nat.le_of_lt h.gfl) _
    exact h.bel.trans ⟨hg.os, hg.tape, hg.output, by omega, hk⟩
theorem FoG.shd {w : World} {gf : Nat} {wr : World} {un us : Value} {NL : List Nat} {ts ln : Nat} {v : Nat → Value} {TX : Nat → ByteArray} (h : FoG w gf wr un us NL ts ln v TX) (S : ByteArray) (hS : S.size = ln) (cap g5 c5 : Nat) (W x1 : World) (hW : Below wr.heap.size wr W) (hA : Arr W wr.heap.size 0 .u8 (nums S)) (hWs : wr.heap.size < W.heap.size) (ho : x1.ownsRow (w.heap.size + 1) 51 1 (.slice (some ⟨g5, 0, none⟩) (ts + 1) c5) (ts + 1) ((List.range ts).map v ++ [.slice (some ⟨wr.heap.size, 0, none⟩) ln cap])) (hg : (W.alloc (.cells #[.slice (some ⟨wr.heap.size, 0, none⟩) ln cap] 51)).grownBy x1 us.ownBlock) (hgg : us.ownBlock = some g5 ∨ g5 = W.heap.size + 1) : FoG w gf (x1.setCell ⟨gf, 1, none⟩ (.slice (some ⟨g5, 0, none⟩) (ts + 1) c5)) un (.slice (some ⟨g5, 0, none⟩) (ts + 1) c5) NL (ts + 1) ln (fun r => if r = ts then .slice (some ⟨wr.heap.size, 0, none⟩) ln cap else v r) (fun r => if r = ts then S else TX r) := by
  have hne : (43 : TypeId) ≠ 3 := by decide
  have hne2 : (43 : TypeId) ≠ 51 := by decide
  have hs1 := hg.size
  have hs2 := hW.size
  have hs0 : (W.alloc (.cells #[.slice (some ⟨wr.heap.size, 0, none⟩) ln cap] 51)).heap.size = W.heap.size + 1 := by simp
  have keepW : ∀ q, q < W.heap.size → us.ownBlock ≠ some q → x1.heap[q]? = W.heap[q]? := fun q hq hu => (hg.block q (by omega) (fun e => hu e.symm)).trans (Below.heap_alloc _ _ _ hq)
  have keep : ∀ q, q < wr.heap.size → us.ownBlock ≠ some q → x1.heap[q]? = wr.heap[q]? := fun q hq hu => (keepW q (by omega) hu).trans (hW.block q hq)
  have b1 : Blk x1 gf #[un, us] 43 := h.blk.kept (keep gf h.blk.lt (h.blk.not_row hne2 h.rs))
  have b2 : Blk x1 w.heap.size #[.slice none 0 0, .slice none 0 0] 43 := h.res.kept (keep _ h.res.lt (h.res.not_row hne2 h.rs))
  have hg5 : g5 ≠ gf := fun e => b1.not_row hne2 ho (by rw [e]; rfl)
  have hgfl := h.blk.lt
  have husq : us.ownBlock ≠ some wr.heap.size := fun e => by have := (h.rs.lt _ e).2; omega
  have hunq : un.ownBlock ≠ some wr.heap.size := fun e => by have := (h.rn.lt _ e).2; omega
  have hst : ∀ (W9 : World) (u : Value), W9.grownBy (W9.setCell ⟨gf, 1, none⟩ u) (some gf) := fun W9 u => ⟨rfl, rfl, rfl, by simp [World.setCell], fun k _ hn => Below.heap_setCell _ _ _ _ (fun e => hn (by rw [e]))⟩
  have nf : ∀ x, x = wr.heap.size ∨ x ≠ gf → x ≠ gf := fun x hx => by
    rcases hx with q | q
    · omega
    · exact q
  refine ⟨h.gfl, ?_, b2.other _ _ (by have := h.gfl; show gf ≠ w.heap.size; omega), ?_, ?_, fun r hr => ?_, ?_⟩
  · exact b1.set 1 _
  · have k1 : W.ownsRow (w.heap.size + 1) 3 1 un NL.length (nV NL) := owns_only h.rn (Only.of_below (P := fun _ => False) hW) (fun _ _ q => q)
    refine ((k1.alloc _).kept hg ?_).kept (hst _ _) ?_
    · cases hy : un.ownBlock with
      | none => exact .inl rfl
      | some b => exact .inr (fun q => own_types h.rn h.rs (by decide) b hy q.symm)
    · cases hy : un.ownBlock with
      | none => exact .inl rfl
      | some b => exact .inr (fun q => by
          injection q with q
          subst q
          exact h.blk.not_row hne h.rn hy)
  · have e : (List.range (ts + 1)).map (fun r => if r = ts then Value.slice (some ⟨wr.heap.size, 0, none⟩) ln cap else v r) = (List.range ts).map v ++ [.slice (some ⟨wr.heap.size, 0, none⟩) ln cap] := by
      rw [List.range_succ, List.map_append, List.map_singleton, if_pos rfl]
      congr 1
      exact List.map_congr_left (fun r hr => if_neg (by have := List.mem_range.1 hr; omega))
    rw [e]
    exact ho.kept (hst _ _) (.inr (fun q => hg5 (by injection q)))
  · by_cases e : r = ts
    · refine ⟨wr.heap.size, cap, by rw [if_pos e], by have := h.bel.size; have := h.gfl; omega, by show _ < (x1.setCell _ _).heap.size; simp; omega, by omega, hunq, ?_, fun k hk => ?_⟩
      · intro z
        have : g5 = wr.heap.size := by simpa [Value.ownBlock] using z
        rcases hgg with r' | r'
        · exact husq (by rw [r', this])
        · omega
      · rw [World.cell?_setCell_far _ _ _ _ (fun z => by have z2 : gf = wr.heap.size := z; omega), World.cell?_of_block (a := ⟨wr.heap.size, k, none⟩) (keepW wr.heap.size hWs husq), if_pos e]
        have := hA.get0 k (by rw [nums_len, hS]; exact hk)
        rw [this, gB_v]
    · obtain ⟨q, c, e2, h1, h2, h3, h4, h5, h6⟩ := h.iv r (by omega)
      refine ⟨q, c, by rw [if_neg e]; exact e2, h1, by show q < (x1.setCell _ _).heap.size; simp; omega, h3, h4, ?_, fun k hk => ?_⟩
      · intro z
        have : g5 = q := by simpa [Value.ownBlock] using z
        rcases hgg with r' | r'
        · exact h5 (by rw [r', this])
        · omega
      · rw [World.cell?_setCell_far _ _ _ _ (fun z => h3 z.symm), World.cell?_of_block (a := ⟨q, k, none⟩) (keep q h2 h5), if_neg e]
        exact h6 k hk
  · have hk : ∀ k, k < w.heap.size → x1.heap[k]? = wr.heap[k]? := fun k hk => keep k (by have := h.bel.size; omega) (fun e => by have := (h.rs.lt k e).1; omega)
    refine Below.setCell (p := ⟨gf, 1, none⟩) ?_ (Nat.le_of_lt h.gfl) _
    exact h.bel.trans ⟨hg.os.trans hW.os, hg.tape.trans hW.tape, hg.output.trans hW.output, by omega, hk⟩
end Go.Proofs.YtolblldpdgfkmaaDoor
