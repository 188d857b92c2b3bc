import Derived.Test.YtnfdedolgfcmfaaGreatDoorMrc00
import Derived.RangeFuncBox
import Derived.Deep.AppendLies
import Derived.Test.YtnfdedolgfcmfaaGreatDoorMrc03
import Derived.Deep.MidRow
import Derived.Deep.RegionHeld
import Derived.Deep.RegionHeld3
import Derived.Laws.ResultCell
namespace Go.Proofs.YtnfdedolgfcmfaaGreatDoor
open Go.RowKit
/-- Block b is this row of cells, of type T, none of them frozen. -/
def Blk (w : World) (b : Nat) (cur : Array Value) (T : TypeId) : Prop := w.heap[b]? = some (.cells cur T (0, 0))
theorem Blk.lt {w : World} {b : Nat} {cur : Array Value} {T : TypeId} (h : Blk w b cur T) : b < w.heap.size := (Array.getElem?_eq_some_iff.1 h).1
theorem Blk.cell {w : World} {b : Nat} {cur : Array Value} {T : TypeId} (h : Blk w b cur T) (j : Nat) : w.cell? ⟨b, j, none⟩ = cur[j]? := by simp [World.cell?, show w.heap[b]? = _ from h]
theorem Blk.frozen {w : World} {b : Nat} {cur : Array Value} {T : TypeId} (h : Blk w b cur T) (j : Nat) : w.frozen? ⟨b, j, none⟩ = false := by simp [World.frozen?, show w.heap[b]? = _ from h]
theorem Blk.new (w : World) (T : TypeId) (cur : Array Value) : Blk (w.alloc (.cells cur T)) w.heap.size cur T := World.alloc_heap_new w _
theorem Blk.kept {w w' : World} {b : Nat} {cur : Array Value} {T : TypeId} (h : Blk w b cur T) (e : w'.heap[b]? = w.heap[b]?) : Blk w' b cur T := e.trans h
theorem Blk.alloc {w : World} {b : Nat} {cur : Array Value} {T : TypeId} (h : Blk w b cur T) (o : Obj) : Blk (w.alloc o) b cur T :=
  h.kept ((World.grownBy_alloc w o none).block b h.lt (by simp))
theorem Blk.set {w : World} {b : Nat} {cur : Array Value} {T : TypeId} (h : Blk w b cur T) (o : Nat) (v : Value) : Blk (w.setCell ⟨b, o, none⟩ v) b (cur.setIfInBounds o v) T := by
  obtain ⟨hlt, hk⟩ := Array.getElem?_eq_some_iff.1 h
  show (w.heap.modify b _)[b]? = _
  rw [Array.getElem?_eq_getElem (by rw [Array.size_modify]; exact hlt), Array.getElem_modify_self, hk]
  rfl
theorem Blk.other {w : World} {b : Nat} {cur : Array Value} {T : TypeId} (h : Blk w b cur T) (a : Addr) (v : Value) (ha : a.block ≠ b) : Blk (w.setCell a v) b cur T :=
  h.kept (Below.heap_setCell _ _ _ _ (fun e => ha e.symm))
theorem Blk.below {w w' : World} {B b : Nat} {cur : Array Value} {T : TypeId} (h : Blk w b cur T) (hb : Below B w w') (hB : b < B) : Blk w' b cur T := h.kept (hb.block b hB)
theorem Blk.not_row {w : World} {b : Nat} {cur : Array Value} {T e : TypeId} (h : Blk w b cur T) (hte : T ≠ e) {base size k : Nat} {v : Value} {xs : List Value} (hr : w.ownsRow base e size v k xs) : v.ownBlock ≠ some b := by
  rcases hr.2 with ⟨rfl, _⟩ | ⟨g, cap, cur', rfl, _, hgb, _⟩
  · simp [Value.ownBlock]
  · intro e'
    obtain rfl : g = b := by simpa [Value.ownBlock] using e'
    have := (show w.heap[g]? = _ from h).symm.trans hgb
    simp at this
    exact hte this.2
/-- From w to w' nothing that lay there has changed but in blocks of P. -/
def Only (P : Nat → Prop) (w w' : World) : Prop := Below 0 w w' ∧ ∀ k, k < w.heap.size → ¬ P k → w'.heap[k]? = w.heap[k]?
theorem Only.refl (P : Nat → Prop) (w : World) : Only P w w := ⟨Below.refl _ _, fun _ _ _ => rfl⟩
theorem Only.trans {P Q : Nat → Prop} {w w1 w2 : World} (h : Only P w w1) (k : Only Q w1 w2) (hq : ∀ k, k < w.heap.size → Q k → P k) : Only P w w2 :=
  ⟨h.1.trans k.1, fun j hj hp => (k.2 j (Nat.lt_of_lt_of_le hj h.1.size) (fun q => hp (hq j hj q))).trans (h.2 j hj hp)⟩
theorem Only.mono {P Q : Nat → Prop} {w w' : World} (h : Only P w w') (hq : ∀ k, k < w.heap.size → P k → Q k) : Only Q w w' := ⟨h.1, fun j hj hp => h.2 j hj (fun q => hp (hq j hj q))⟩
theorem Only.of_below {P : Nat → Prop} {w w' : World} (h : Below w.heap.size w w') : Only P w w' := ⟨h.mono (Nat.zero_le _), fun k hk _ => h.block k hk⟩
theorem Only.below {P : Nat → Prop} {w w' : World} {B : Nat} (h : Only P w w') (hB : B ≤ w.heap.size) (hp : ∀ k, k < B → ¬ P k) : Below B w w' :=
  ⟨h.1.os, h.1.tape, h.1.output, h.1.size, fun k hk => h.2 k (by omega) (hp k hk)⟩
theorem Only.setCell {P : Nat → Prop} {w w' : World} (h : Only P w w') (a : Addr) (v : Value) (ha : a.block < w.heap.size → P a.block) : Only P w (w'.setCell a v) :=
  ⟨h.1.setCell (Nat.zero_le _) v, fun k hk hp => (Below.heap_setCell _ _ _ _ (fun e => by subst e; exact hp (ha hk))).trans (h.2 k hk hp)⟩
theorem Only.alloc {P : Nat → Prop} {w w' : World} (h : Only P w w') (o : Obj) : Only P w (w'.alloc o) :=
  h.trans (Q := fun _ => False) ⟨(Below.refl 0 w').alloc (Nat.zero_le _) o, fun k hk _ => (World.grownBy_alloc w' o none).block k hk (by simp)⟩ (fun _ _ q => q.elim)
theorem Only.drew {P : Nat → Prop} {w w' : World} (h : Only P w w') : Only P w w'.drew := ⟨h.1.drew, h.2⟩
theorem Only.drewN {P : Nat → Prop} {w w' : World} (h : Only P w w') (n : Nat) : Only P w (w'.drewN n) := ⟨below_drewN h.1 n, h.2⟩
theorem Only.grown {P : Nat → Prop} {w w1 w2 : World} {row : Option Nat} (h : Only P w w1) (hg : w1.grownBy w2 row) (hr : ∀ k, k < w.heap.size → row = some k → P k) : Only P w w2 :=
  h.trans (Q := fun k => row = some k) ⟨⟨hg.os, hg.tape, hg.output, hg.size, fun k hk => absurd hk (Nat.not_lt_zero k)⟩, fun k hk hn => hg.block k hk (fun e => hn e.symm)⟩ hr
theorem Only.size {P : Nat → Prop} {w w' : World} (h : Only P w w') : w.heap.size ≤ w'.heap.size := h.1.size
theorem Blk.only {w w' : World} {b : Nat} {cur : Array Value} {T : TypeId} {P : Nat → Prop} (h : Blk w b cur T) (ho : Only P w w') (hp : ¬ P b) : Blk w' b cur T := h.kept (ho.2 b h.lt hp)
theorem Arr.only {w w' : World} {c o : Nat} {k : IntKind} {l : List Int} {P : Nat → Prop} (h : Arr w c o k l) (ho : Only P w w') (hp : ¬ P c) (hc : c < w.heap.size) : Arr w' c o k l := by
  intro j hj
  have e := ho.2 c hc hp
  rw [World.cell?_of_block (a := ⟨c, o + j, none⟩) e, World.frozen?_of_block (a := ⟨c, o + j, none⟩) e]
  exact h j hj
theorem owns_only {w w' : World} {base : Nat} {e : TypeId} {size n : Nat} {v : Value} {xs : List Value} {P : Nat → Prop} (h : w.ownsRow base e size v n xs) (ho : Only P w w') (hp : ∀ k, v.ownBlock = some k → ¬ P k) : w'.ownsRow base e size v n xs := by
  refine ⟨h.1, ?_⟩
  rcases h.2 with hn | ⟨g, cap, cur, rfl, hb, hg, rest⟩
  · exact .inl hn
  · exact .inr ⟨g, cap, cur, rfl, hb, (ho.2 g (Array.getElem?_eq_some_iff.1 hg).1 (hp g rfl)).trans hg, rest⟩
/-- Appending nothing. -/
theorem run_append_none (w : World) (p q : Option Addr) (n c c' : Nat) (hn : n ≤ c) (ty : TypeId) :
    (Builtin.append_ #[122, 122] ty #[.slice p n c, .slice q 0 c']).run Tryz.prog w = .ok (.slice p n c) w := by
  obtain ⟨i0, hi, hz0, hz1, hz2⟩ := info_parts info5
  have hl : ∀ a, (loadCells a 0).run Tryz.prog w = .ok #[] w := fun a => rfl
  cases p <;> cases q <;> simp [hl, Builtin.append_, run_underlying Tryz.underlying122, sizeOf, typeInfo, hi, hz1, Builtin.lenOf, hn, Builtin.firstCells, storeCells, Result.andThen]
end Go.Proofs.YtnfdedolgfcmfaaGreatDoor

namespace Go.Proofs.YtnfdedolgfcmfaaGreatDoor
open Go.RowKit
set_option maxRecDepth 100000
/-- the cells of a digest -/
def dC (d : ByteArray) : List Value := (nums d).map (Value.int .u8)
theorem dC_len (d : ByteArray) (hd : d.size = 32) : (dC d).length = 32 := by rw [dC, List.length_map, nums_len, hd]
theorem dC_one (d : ByteArray) : ∀ v ∈ dC d, v.oneCell' = true := fun v hv => by
  obtain ⟨x, _, rfl⟩ := List.mem_map.1 hv
  rfl
theorem dC_all (d : ByteArray) : (dC d).toArray.all (·.oneCell') = true := all_oneCell_toArray (dC_one d)
theorem szD : (Tryz.prog.info? 160).map (·.size) = some 32 := by kernel_rfl
theorem zD_eq : (#[.int .u8 0, .int .u8 0, .int .u8 0, .int .u8 0, .int .u8 0, .int .u8 0, .int .u8 0, .int .u8 0, .int .u8 0, .int .u8 0, .int .u8 0, .int .u8 0, .int .u8 0, .int .u8 0, .int .u8 0, .int .u8 0, .int .u8 0, .int .u8 0, .int .u8 0, .int .u8 0, .int .u8 0, .int .u8 0, .int .u8 0, .int .u8 0, .int .u8 0, .int .u8 0, .int .u8 0, .int .u8 0, .int .u8 0, .int .u8 0, .int .u8 0, .int .u8 0] : Array Value) = ((List.replicate 32 (0 : Int)).map (Value.int .u8)).toArray := rfl
theorem zD_new (w : World) : Arr (w.alloc (.cells #[.int .u8 0, .int .u8 0, .int .u8 0, .int .u8 0, .int .u8 0, .int .u8 0, .int .u8 0, .int .u8 0, .int .u8 0, .int .u8 0, .int .u8 0, .int .u8 0, .int .u8 0, .int .u8 0, .int .u8 0, .int .u8 0, .int .u8 0, .int .u8 0, .int .u8 0, .int .u8 0, .int .u8 0, .int .u8 0, .int .u8 0, .int .u8 0, .int .u8 0, .int .u8 0, .int .u8 0, .int .u8 0, .int .u8 0, .int .u8 0, .int .u8 0, .int .u8 0] 160)) w.heap.size 0 .u8 (List.replicate 32 0) := arr_new w .u8 _ 160 _ zD_eq
theorem dC_new (w : World) (d : ByteArray) : Arr (w.alloc (.cells (dC d).toArray 160)) w.heap.size 0 .u8 (nums d) := arr_new w .u8 _ 160 _ rfl
theorem rangeAt_below {w w' : World} {B b o : Nat} {cs : List Value} (h : w.rangeAt b o cs) (hb : Below B w w') (hB : b < B) : w'.rangeAt b o cs := fun j v hv => (hb.cell (p := ⟨b, o + j, none⟩) hB).trans (h j v hv)
/-- two blocks of noughts: a text is copied into the second, and laid into the first -/
structure Cpy (y1 : World) (g : Nat) (d : ByteArray) (y2 : World) : Prop where
  cp : ∀ ty, (Builtin.copy_ #[122, 9] ty #[.slice (some ⟨g + 1, 0, none⟩) 32 32, .string d]).run Tryz.prog y1 = .ok (.int .i64 32) y2
  rg : y2.rangeAt (g + 1) 0 (dC d)
  th : y2.there g 0 32
  ld : (loadVar 160 ⟨g, 0, none⟩).run Tryz.prog (y2.setCells g 0 (dC d)) = .ok (.agg (dC d).toArray) (y2.setCells g 0 (dC d))
  be : ∀ w, Below g w y1 → Below g w (y2.setCells g 0 (dC d))
theorem cpy (y1 : World) (g : Nat) (d : ByteArray) (hd : d.size = 32) (A0 : Arr y1 g 0 .u8 (List.replicate 32 0)) (A1 : Arr y1 (g + 1) 0 .u8 (List.replicate 32 0)) : ∃ y2, Cpy y1 g d y2 := by
  have hcp := run_copy_str y1 (g + 1) 0 32 32 32 d (by rw [hd]; rfl) (by simpa using A1.there)
  have hnd : (nums d).take 32 = nums d := List.take_of_length_le (by rw [nums_len, hd]; exact Nat.le_refl _)
  rw [hnd] at hcp
  have hnl : (nums d).length = 32 := by rw [nums_len, hd]
  have A2 := A1.setCells (nums d) (by simp [hnl])
  have A3 := A0.setCells_apart (g + 1) 0 ((nums d).map (Value.int .u8)) (.inl (by omega))
  obtain ⟨y2, hy2⟩ : ∃ q, y1.setCells (g + 1) 0 ((nums d).map (Value.int .u8)) = q := ⟨_, rfl⟩
  have HB2 : ∀ w, Below g w y1 → Below g w y2 := fun w h => by rw [← hy2]; exact below_setCells (by omega) _ _ h
  rw [hy2] at hcp A2 A3
  have A4 := A3.setCells (nums d) (by simp [hnl])
  exact ⟨y2, hcp, A2.range, by simpa using A3.there, run_loadVar_mid (P := Tryz.prog) _ g 0 160 (dC d) _ A4.range Tryz.underlying160 rfl (by rw [szD, dC_len d hd]), fun w h => below_setCells (Nat.le_refl _) _ _ (HB2 w h)⟩
/-- noughts stored over noughts -/
theorem zst (y : World) (g : Nat) (d : ByteArray) (hd : d.size = 32) (A0 : Arr y g 0 .u8 (List.replicate 32 0)) : y.there g 0 32 ∧ (loadVar 160 ⟨g, 0, none⟩).run Tryz.prog (y.setCells g 0 (dC d)) = .ok (.agg (dC d).toArray) (y.setCells g 0 (dC d)) ∧ ∀ w, Below g w y → Below g w (y.setCells g 0 (dC d)) := by
  have hnl : (nums d).length = 32 := by rw [nums_len, hd]
  have A4 := A0.setCells (nums d) (by simp [hnl])
  exact ⟨by simpa using A0.there, run_loadVar_mid (P := Tryz.prog) _ g 0 160 (dC d) _ A4.range Tryz.underlying160 rfl (by rw [szD, dC_len d hd]), fun w h => below_setCells (Nat.le_refl _) _ _ h⟩
theorem hsum_any (t : ByteArray) (ht : t.size < 2305843009213693952) (w : World) (hK : KTab w) (g : Nat) (hg : w.heap.size = g) : ∀ W, Below g w W → Calls Tryz.prog 141 #[.string t] W fun e w' => e = .returned (.string (dg t)) ∧ Below W.heap.size W w' := fun W h => sum_any t W (hK.below h (by rw [← hg]; exact hK.1)) ht
set_option maxHeartbeats 1000000 in
theorem sumOf_any (t : ByteArray) (w : World) (hK : KTab w) (ht : t.size < 2305843009213693952) : Calls Tryz.prog 119 #[.string t] w fun e w' => e = .returned (.agg (dC (dg t)).toArray) ∧ Below w.heap.size w w' := by
  obtain ⟨g, hg⟩ : ∃ g, w.heap.size = g := ⟨_, rfl⟩
  have HS := hide (hsum_any t ht w hK g hg)
  have hd := dg_size t
  generalize dg t = d at *
  obtain ⟨x1, hx1⟩ : ∃ q, (w.alloc (.cells #[.int .u8 0, .int .u8 0, .int .u8 0, .int .u8 0, .int .u8 0, .int .u8 0, .int .u8 0, .int .u8 0, .int .u8 0, .int .u8 0, .int .u8 0, .int .u8 0, .int .u8 0, .int .u8 0, .int .u8 0, .int .u8 0, .int .u8 0, .int .u8 0, .int .u8 0, .int .u8 0, .int .u8 0, .int .u8 0, .int .u8 0, .int .u8 0, .int .u8 0, .int .u8 0, .int .u8 0, .int .u8 0, .int .u8 0, .int .u8 0, .int .u8 0, .int .u8 0] 160)).alloc (.cells #[.int .u8 0, .int .u8 0, .int .u8 0, .int .u8 0, .int .u8 0, .int .u8 0, .int .u8 0, .int .u8 0, .int .u8 0, .int .u8 0, .int .u8 0, .int .u8 0, .int .u8 0, .int .u8 0, .int .u8 0, .int .u8 0, .int .u8 0, .int .u8 0, .int .u8 0, .int .u8 0, .int .u8 0, .int .u8 0, .int .u8 0, .int .u8 0, .int .u8 0, .int .u8 0, .int .u8 0, .int .u8 0, .int .u8 0, .int .u8 0, .int .u8 0, .int .u8 0] 160) = q := ⟨_, rfl⟩
  have HA0 := hide (show Arr x1 g 0 .u8 (List.replicate 32 0) from by rw [← hx1, ← hg]; exact (zD_new w).alloc (by simp) _)
  have HA1 := hide (show Arr x1 (g + 1) 0 .u8 (List.replicate 32 0) from by
    rw [← hx1]
    have := zD_new (w.alloc (.cells #[.int .u8 0, .int .u8 0, .int .u8 0, .int .u8 0, .int .u8 0, .int .u8 0, .int .u8 0, .int .u8 0, .int .u8 0, .int .u8 0, .int .u8 0, .int .u8 0, .int .u8 0, .int .u8 0, .int .u8 0, .int .u8 0, .int .u8 0, .int .u8 0, .int .u8 0, .int .u8 0, .int .u8 0, .int .u8 0, .int .u8 0, .int .u8 0, .int .u8 0, .int .u8 0, .int .u8 0, .int .u8 0, .int .u8 0, .int .u8 0, .int .u8 0, .int .u8 0] 160))
    rw [show (w.alloc (.cells #[.int .u8 0, .int .u8 0, .int .u8 0, .int .u8 0, .int .u8 0, .int .u8 0, .int .u8 0, .int .u8 0, .int .u8 0, .int .u8 0, .int .u8 0, .int .u8 0, .int .u8 0, .int .u8 0, .int .u8 0, .int .u8 0, .int .u8 0, .int .u8 0, .int .u8 0, .int .u8 0, .int .u8 0, .int .u8 0, .int .u8 0, .int .u8 0, .int .u8 0, .int .u8 0, .int .u8 0, .int .u8 0, .int .u8 0, .int .u8 0, .int .u8 0, .int .u8 0] 160)).heap.size = g + 1 by simp [hg]] at this
    exact this)
  have HB1 := hide (show Below g w x1 from by rw [← hx1, ← hg]; exact ((Below.refl _ w).alloc (Nat.le_refl _) _).alloc (by simp) _)
  have HX1 := hide (show x1.heap.size = g + 2 from by rw [← hx1]; simp [hg])
  have HKL := hide (dC_len d hd)
  have HK1 := hide (dC_all d)
  rw [hg]
  clear hK ht
  go_enter Tryz.func119, Tryz.ntmps119
  go_wp2_with fail
  refine wp_region_held_drew (S := fun _ => True) (by kernel_rfl) trivial ?_
  intro hS
  refine wpAnyH_takeD 0 (some 4) (.slice (some ⟨g + 1, 0, none⟩) 32 32) rfl rfl (by kernel_rfl) (by kernel_rfl) (by kernel_rfl) (fun _ _ _ h => h) (Or.inl ⟨by rfl, fun w hSw => by clear hSw; go_simp⟩) hS ?_
  simp only [Act.put, List.setIfInBounds_toArray, List.set_cons_zero, List.set_cons_succ]
  refine wpAnyH_takeD 1 (some 5) (.string t) rfl rfl (by kernel_rfl) (by kernel_rfl) (by kernel_rfl) (fun _ _ _ h => h) (Or.inl ⟨by rfl, fun w hSw => by clear hSw; go_simp⟩) hS ?_
  simp only [Act.put, List.setIfInBounds_toArray, List.set_cons_zero, List.set_cons_succ]
  refine wpAnyH_ready (rs := [2]) (by kernel_rfl) (by simp) ?_
  refine AllReadyH.cons rfl (fun K hK => ?_) AllReadyH.nil
  simp only [List.getElem_toArray, List.getElem_cons_succ, List.getElem_cons_zero]
  go_simp
  refine (unhide HS _ (unhide HB1).drew).mono ?_
  rintro e y1 ⟨rfl, hb1⟩
  have hb2 : Below (g + 2) x1.drew y1 := hb1.mono (by show g + 2 ≤ x1.heap.size; exact Nat.le_of_eq (unhide HX1).symm)
  obtain ⟨y2, hC⟩ := cpy y1 g d hd ((unhide HA0).drew.below hb2 (by omega)) ((unhide HA1).drew.below hb2 (by omega))
  have hcp := hC.cp
  have HC := hide hC
  have HBE := hide (hC.be w ((unhide HB1).drew.trans (hb2.mono (by omega))))
  clear hC hb1 hb2 HS
  refine hK.out _ _ trivial (fun hS => ?_)
  clear hK K
  refine wpAnyH_ready (rs := [3]) (by kernel_rfl) (by simp) ?_
  refine AllReadyH.cons rfl (fun K hK => ?_) AllReadyH.nil
  simp only [List.getElem_toArray, List.getElem_cons_succ, List.getElem_cons_zero]
  go_simp
  refine hK.out _ _ trivial (fun hS => ?_)
  clear hK K
  refine wpAnyH_done (by kernel_rfl) ?_ _
  clear hcp
  have HR := hide (unhide HC).rg
  have HTH := hide (unhide HC).th
  have HLD := hide (unhide HC).ld
  clear HC
  go_wp2_with (first | refine wpList_load_mid rfl 160 (.tmp 3) rfl (g + 1) 0 rfl _ _ (unhide HR) Tryz.underlying160 rfl (by rw [szD, unhide HKL]) ?_ | refine wpList_store_mid rfl 160 (.tmp 2) (.tmp 8) rfl g 0 (dC d).toArray rfl rfl (by simpa [unhide HKL] using unhide HTH) (by rw [szD]; simp [unhide HKL]) (unhide HK1) ?_)
  refine bodyPost_ret (v := .agg (dC d).toArray) (results_cell rfl _ _ _ ⟨g, 0, none⟩ rfl _ (unhide HLD)) rfl ⟨rfl, unhide HBE⟩
set_option maxHeartbeats 1000000 in
theorem text_any (d : ByteArray) (hd : d.size = 32) (w : World) : Calls Tryz.prog 91 #[.agg (dC d).toArray] w fun e w' => e = .returned (.string d) ∧ Below w.heap.size w w' := by
  have A := dC_new w d
  have hcv := run_convert_bytes_arg (P := Tryz.prog) (w.alloc (.cells (dC d).toArray 160)) 122 5 Tryz.underlying122 Tryz.underlying5 w.heap.size 0 32 32 (nums d) (by rw [nums_len, hd]) (fun i hi => A.get i (by rw [nums_len, hd]; exact hi)) 9 Tryz.underlying9
  rw [show strOfNums (nums d) = d from strOfNums_nums d] at hcv
  have hsz : (dC d).toArray.size = 32 := by simpa using dC_len d hd
  clear A hd
  generalize (dC d).toArray = cd at *
  go_enter Tryz.func91, Tryz.ntmps91
  go_wp2
  go_ret
  exact ⟨rfl, (Below.refl _ _).alloc (Nat.le_refl _) _⟩
theorem leafText_any (s : ByteArray) (hs : s.size ≤ 140737488355000) (w : World) : Calls Tryz.prog 120 #[.string s] w fun e w' => e = .returned (.string (mk0 ++ s)) ∧ w' = w := by
  have h1 : (⟨#[0]⟩ : ByteArray).size = 1 := rfl
  go_enter Tryz.func120, Tryz.ntmps120
  go_wp2
  go_ret
  exact ⟨rfl, rfl⟩
set_option maxHeartbeats 1000000 in
theorem nodeText_any (a b : ByteArray) (ha : a.size = 32) (hb : b.size = 32) (w : World) : Calls Tryz.prog 142 #[.agg (dC a).toArray, .agg (dC b).toArray] w fun e w' => e = .returned (.string (mk1 ++ a ++ b)) ∧ Below w.heap.size w w' := by
  obtain ⟨g, hg⟩ : ∃ g, w.heap.size = g := ⟨_, rfl⟩
  obtain ⟨x1, hx1⟩ : ∃ q, (w.alloc (.cells (dC a).toArray 160)).alloc (.cells (dC b).toArray 160) = q := ⟨_, rfl⟩
  have HS0 := hide (show (x1.drew.rangeAt g 0 (dC a) ∧ x1.drew.rangeAt (g + 1) 0 (dC b) ∧ Below g w x1.drew ∧ g + 2 ≤ x1.drew.heap.size) from by
    have e1 : (w.alloc (.cells (dC a).toArray 160)).heap.size = g + 1 := by simp [hg]
    refine ⟨?_, ?_, ?_, ?_⟩
    · rw [← hx1, ← hg]; exact ((dC_new w a).alloc (by simp) _).range
    · have := dC_new (w.alloc (.cells (dC a).toArray 160)) b
      rw [e1, hx1] at this
      exact this.range
    · rw [← hx1, ← hg]; exact (((Below.refl _ w).alloc (Nat.le_refl _) _).alloc (by simp) _).drew
    · rw [← hx1]; show g + 2 ≤ ((w.alloc _).alloc _).heap.size; simp [hg])
  have HTa := hide (fun W => text_any a ha W)
  have HTb := hide (fun W => text_any b hb W)
  have HLa := hide (dC_len a ha)
  have HLb := hide (dC_len b hb)
  have hu1 : (⟨#[1]⟩ : ByteArray).size = 1 := rfl
  obtain ⟨u1, hu⟩ : ∃ q, (⟨#[1]⟩ : ByteArray) ++ a = q := ⟨_, rfl⟩
  have hsu : u1.size = 33 := by rw [← hu, ByteArray.size_append, ha]; rfl
  obtain ⟨u2, hv⟩ : ∃ q, u1 ++ b = q := ⟨_, rfl⟩
  rw [show mk1 ++ a ++ b = u2 from by rw [← hv, ← hu]; rfl]
  generalize dC a = ca at *
  generalize dC b = cb at *
  rw [hg]
  go_enter Tryz.func142, Tryz.ntmps142
  go_wp2_with fail
  refine wp_region_held_drew (S := fun W => W.rangeAt g 0 ca ∧ W.rangeAt (g + 1) 0 cb ∧ Below g w W ∧ g + 2 ≤ W.heap.size) (by kernel_rfl) (unhide HS0) ?_
  intro hS
  refine wpAnyH_takeD 0 (some 5) (.agg ca.toArray) rfl rfl (by kernel_rfl) (by kernel_rfl) (by kernel_rfl) (fun _ _ _ h => h) (yieldsIf_load_mid (by rfl) 160 (.tmp 2) rfl g 0 rfl _ _ (fun w hSw => hSw.1) Tryz.underlying160 rfl (by rw [szD, unhide HLa])) hS ?_
  simp only [Act.put, List.setIfInBounds_toArray, List.set_cons_zero, List.set_cons_succ]
  refine wpAnyH_takeD 3 (some 8) (.agg cb.toArray) rfl rfl (by kernel_rfl) (by kernel_rfl) (by kernel_rfl) (fun _ _ _ h => h) (yieldsIf_load_mid (by rfl) 160 (.tmp 3) rfl (g + 1) 0 rfl _ _ (fun w hSw => hSw.2.1) Tryz.underlying160 rfl (by rw [szD, unhide HLb])) hS ?_
  simp only [Act.put, List.setIfInBounds_toArray, List.set_cons_zero, List.set_cons_succ]
  refine wpAnyH_ready (rs := [1]) (by kernel_rfl) (by simp) ?_
  refine AllReadyH.cons rfl (fun K hK => ?_) AllReadyH.nil
  simp only [List.getElem_toArray, List.getElem_cons_succ, List.getElem_cons_zero]
  go_simp
  refine (unhide HTa _).mono ?_
  rintro e y1 ⟨rfl, hb⟩
  have hS9 : ((fun W => W.rangeAt g 0 ca ∧ W.rangeAt (g + 1) 0 cb ∧ Below g w W ∧ g + 2 ≤ W.heap.size) y1) := ⟨rangeAt_below hS.1 hb (by have := hS.2.2.2; omega), rangeAt_below hS.2.1 hb (by have := hS.2.2.2; omega), hS.2.2.1.trans (hb.mono (by have := hS.2.2.1.size; have := hS.2.2.2; omega)), by have := hb.size; have := hS.2.2.2; omega⟩
  clear hb
  refine hK.out _ _ hS9 (fun hS => ?_)
  clear hK K
  refine wpAnyH_takeD 2 (some 7) (.string u1) rfl rfl (by kernel_rfl) (by kernel_rfl) (by kernel_rfl) (fun _ _ _ h => h) (Or.inl ⟨by rfl, fun w hSw => by clear hSw; go_simp⟩) hS ?_
  simp only [Act.put, List.setIfInBounds_toArray, List.set_cons_zero, List.set_cons_succ]
  refine wpAnyH_ready (rs := [4]) (by kernel_rfl) (by simp) ?_
  refine AllReadyH.cons rfl (fun K hK => ?_) AllReadyH.nil
  simp only [List.getElem_toArray, List.getElem_cons_succ, List.getElem_cons_zero]
  go_simp
  refine (unhide HTb _).mono ?_
  rintro e y2 ⟨rfl, hb⟩
  have hS9 : ((fun W => W.rangeAt g 0 ca ∧ W.rangeAt (g + 1) 0 cb ∧ Below g w W ∧ g + 2 ≤ W.heap.size) y2) := ⟨rangeAt_below hS.1 hb (by have := hS.2.2.2; omega), rangeAt_below hS.2.1 hb (by have := hS.2.2.2; omega), hS.2.2.1.trans (hb.mono (by have := hS.2.2.1.size; have := hS.2.2.2; omega)), by have := hb.size; have := hS.2.2.2; omega⟩
  clear hb
  refine hK.out _ _ hS9 (fun hS => ?_)
  clear hK K
  refine wpAnyH_takeD 5 (some 10) (.string u2) rfl rfl (by kernel_rfl) (by kernel_rfl) (by kernel_rfl) (fun _ _ _ h => h) (Or.inl ⟨by rfl, fun w hSw => by clear hSw; go_simp⟩) hS ?_
  simp only [Act.put, List.setIfInBounds_toArray, List.set_cons_zero, List.set_cons_succ]
  refine wpAnyH_takeD 6 (some 4) (.string u2) rfl rfl (by kernel_rfl) (by kernel_rfl) (by kernel_rfl) (fun _ _ _ h => h) (Or.inl ⟨by rfl, fun w hSw => by clear hSw; go_simp⟩) hS ?_
  simp only [Act.put, List.setIfInBounds_toArray, List.set_cons_zero, List.set_cons_succ]
  refine wpAnyH_done (by kernel_rfl) ?_ _
  go_wp2
  go_ret
  exact ⟨rfl, hS.2.2.1⟩
set_option maxHeartbeats 1000000 in
theorem over_any (a b : ByteArray) (ha : a.size = 32) (hb : b.size = 32) (w : World) (hK : KTab w) : Calls Tryz.prog 122 #[.agg (dC a).toArray, .agg (dC b).toArray] w fun e w' => e = .returned (.agg (dC (ndB a b)).toArray) ∧ Below w.heap.size w w' := by
  obtain ⟨g, hg⟩ : ∃ g, w.heap.size = g := ⟨_, rfl⟩
  obtain ⟨x0, hx0⟩ : ∃ q, (w.alloc (.cells (dC a).toArray 160)).alloc (.cells (dC b).toArray 160) = q := ⟨_, rfl⟩
  obtain ⟨x1, hx1⟩ : ∃ q, x0.alloc (.cells #[.int .u8 0, .int .u8 0, .int .u8 0, .int .u8 0, .int .u8 0, .int .u8 0, .int .u8 0, .int .u8 0, .int .u8 0, .int .u8 0, .int .u8 0, .int .u8 0, .int .u8 0, .int .u8 0, .int .u8 0, .int .u8 0, .int .u8 0, .int .u8 0, .int .u8 0, .int .u8 0, .int .u8 0, .int .u8 0, .int .u8 0, .int .u8 0, .int .u8 0, .int .u8 0, .int .u8 0, .int .u8 0, .int .u8 0, .int .u8 0, .int .u8 0, .int .u8 0] 160) = q := ⟨_, rfl⟩
  have e0 : x0.heap.size = g + 2 := by rw [← hx0]; simp [hg]
  have e1 : (w.alloc (.cells (dC a).toArray 160)).heap.size = g + 1 := by simp [hg]
  have e2 : x1.heap.size = g + 3 := by rw [← hx1]; simp [e0]
  have a1 := (dC_new w a).alloc (by simp) (.cells (dC b).toArray 160)
  rw [hx0, hg] at a1
  have a2 := dC_new (w.alloc (.cells (dC a).toArray 160)) b
  rw [e1, hx0] at a2
  have a3 := zD_new x0
  rw [e0, hx1] at a3
  have HR1 := hide (show x1.rangeAt g 0 (dC a) from by rw [← hx1]; exact (a1.alloc (by omega) _).range)
  have HR2 := hide (show x1.rangeAt (g + 1) 0 (dC b) from by rw [← hx1]; exact (a2.alloc (by omega) _).range)
  have HA3 := hide a3
  have HB1 := hide (show Below g w x1 from by rw [← hx1, ← hx0, ← hg]; exact (((Below.refl _ w).alloc (Nat.le_refl _) _).alloc (by simp) _).alloc (by simp; omega) _)
  have HN := hide (fun W => nodeText_any a b ha hb W)
  have hsz : (mk1 ++ a ++ b).size < 2305843009213693952 := by simp only [ByteArray.size_append, mk1_size, ha, hb]; omega
  have HSU := hide (fun W (h : Below g w W) => sumOf_any (mk1 ++ a ++ b) W (hK.below h (by rw [← hg]; exact hK.1)) hsz)
  have hnd : dg (mk1 ++ a ++ b) = ndB a b := rfl
  rw [hnd] at HSU
  have hns := ndB_size a b
  have HLa := hide (dC_len a ha)
  have HLb := hide (dC_len b hb)
  have HLn := hide (dC_len _ hns)
  have HK1 := hide (dC_all (ndB a b))
  have HZ := hide (fun y (h : Arr y (g + 2) 0 .u8 (List.replicate 32 0)) => zst y (g + 2) (ndB a b) hns h)
  generalize dC (ndB a b) = cn at *
  generalize dC a = ca at *
  generalize dC b = cb at *
  generalize mk1 ++ a ++ b = u at *
  rw [hg]
  have HE2 := hide e2
  clear a1 a2 a3 hK hnd hns hsz e1 e2
  go_enter Tryz.func122, Tryz.ntmps122
  go_wp2_with (first | refine wpList_load_mid rfl 160 (.tmp 2) rfl g 0 rfl _ _ (unhide HR1) Tryz.underlying160 rfl (by rw [szD, unhide HLa]) ?_ | refine wpList_load_mid rfl 160 (.tmp 3) rfl (g + 1) 0 rfl _ _ (unhide HR2) Tryz.underlying160 rfl (by rw [szD, unhide HLb]) ?_ | fail)
  refine (unhide HN _).mono ?_
  rintro e y1 ⟨rfl, hb1⟩
  have hb1' : Below g w y1 := (unhide HB1).trans (hb1.mono (by rw [unhide HE2]; omega))
  have HC1 := hide hb1'
  have HD1 := hide (show g + 3 ≤ y1.heap.size from by have := hb1.size; rw [unhide HE2] at this; omega)
  have HA4 := hide ((unhide HA3).below hb1 (by rw [unhide HE2]; omega))
  clear hb1 hb1' HA3
  go_wp2_with fail
  refine (unhide HSU _ (unhide HC1)).mono ?_
  rintro e y2 ⟨rfl, hb2⟩
  obtain ⟨q1, q2, q3⟩ := unhide HZ y2 ((unhide HA4).below hb2 (by have := unhide HD1; omega))
  have HTH := hide q1
  have HLD := hide q2
  have HBE := hide (show Below g w (y2.setCells (g + 2) 0 cn) from below_setCells (by omega) _ _ ((unhide HC1).trans (hb2.mono (by have := unhide HD1; omega))))
  clear q1 q2 q3 hb2
  go_wp2_with (refine wpList_store_mid rfl 160 (.tmp 4) (.tmp 8) rfl (g + 2) 0 cn.toArray rfl rfl (by simpa [unhide HLn] using unhide HTH) (by rw [szD]; simp [unhide HLn]) (unhide HK1) ?_)
  refine bodyPost_ret (v := .agg cn.toArray) (results_cell rfl _ _ _ ⟨g + 2, 0, none⟩ rfl _ (unhide HLD)) rfl ⟨rfl, unhide HBE⟩
end Go.Proofs.YtnfdedolgfcmfaaGreatDoor

namespace Go.Proofs.YtnfdedolgfcmfaaGreatDoor
open Go.RowKit
set_option maxRecDepth 100000
def lenV (y : Nat) : Nat := if y = 0 then 0 else Nat.log2 y + 1
def L8 : ByteArray := { data := (([0, 1, 2, 2, 3, 3, 3, 3, 4, 4, 4, 4, 4, 4, 4, 4, 5, 5, 5, 5, 5, 5, 5, 5, 5, 5, 5, 5, 5, 5, 5, 5, 6, 6, 6, 6, 6, 6, 6, 6, 6, 6, 6, 6, 6, 6, 6, 6, 6, 6, 6, 6, 6, 6, 6, 6, 6, 6, 6, 6, 6, 6, 6, 6].append [7, 7, 7, 7, 7, 7, 7, 7, 7, 7, 7, 7, 7, 7, 7, 7, 7, 7, 7, 7, 7, 7, 7, 7, 7, 7, 7, 7, 7, 7, 7, 7, 7, 7, 7, 7, 7, 7, 7, 7, 7, 7, 7, 7, 7, 7, 7, 7, 7, 7, 7, 7, 7, 7, 7, 7, 7, 7, 7, 7, 7, 7, 7, 7]).append ([8, 8, 8, 8, 8, 8, 8, 8, 8, 8, 8, 8, 8, 8, 8, 8, 8, 8, 8, 8, 8, 8, 8, 8, 8, 8, 8, 8, 8, 8, 8, 8, 8, 8, 8, 8, 8, 8, 8, 8, 8, 8, 8, 8, 8, 8, 8, 8, 8, 8, 8, 8, 8, 8, 8, 8, 8, 8, 8, 8, 8, 8, 8, 8].append [8, 8, 8, 8, 8, 8, 8, 8, 8, 8, 8, 8, 8, 8, 8, 8, 8, 8, 8, 8, 8, 8, 8, 8, 8, 8, 8, 8, 8, 8, 8, 8, 8, 8, 8, 8, 8, 8, 8, 8, 8, 8, 8, 8, 8, 8, 8, 8, 8, 8, 8, 8, 8, 8, 8, 8, 8, 8, 8, 8, 8, 8, 8, 8])).toArray }
theorem L8_val : (List.range 256).all (fun y => (nums L8).getD y 0 == (lenV y : Int)) = true := by kernel_rfl
theorem L8_at (y : Nat) (hy : y < 256) : (nums L8).getD y 0 = (lenV y : Int) := by
  have h := List.all_eq_true.1 L8_val y (List.mem_range.2 hy)
  simpa using h
theorem L8_size : L8.size = 256 := by kernel_rfl
theorem index_u8 (t : ByteArray) (i : Nat) (hi : i < t.size) (w : World) : (Instr.index 9 (.string t) (.int .u8 (i : Int))).run Tryz.prog w = .ok (.int .u8 ((nums t).getD i 0)) w := by
  have h1 : (nums t).getD i 0 = ((t[i]'hi).toNat : Int) := by
    have hl : i < t.data.toList.length := by simpa using hi
    simp only [nums, List.getD_eq_getElem?_getD, List.getElem?_map]
    rw [List.getElem?_eq_getElem hl]
    simp
    rfl
  have h2 : t[i]? = some (t[i]'hi) := by simp [hi]
  rw [h1]
  simp only [Instr.index, asIntOf, Sem.run_bind, Sem.run_pure, Result.andThen_ok, run_underlying Tryz.underlying9]
  have h0 : (0 : Int) ≤ (i : Int) := by omega
  simp [h2]
theorem wpList_idx8 {ops : Array Oper} {rest : List Oper} {op : Oper} {a : Act} {w : World} {Q : Exit → Act → World → Prop} (hgd : op.guard = none) (c x : Operand) (hop : op.op = Op.index 9 c x) (s : ByteArray) (y : Nat) (hc : a.eval c = .string s) (hx : a.eval x = .int .u8 (y : Int)) (hy : y < s.size) (v : Int) (hv : (nums s).getD y 0 = v)
    (h : wpList Tryz.prog ops Q rest (a.put op.dst (.int .u8 v)) w) : wpList Tryz.prog ops Q (op :: rest) a w := by
  refine wpList_plain hgd fun K hK => ?_
  have hrun := index_u8 s y hy w
  rw [hv] at hrun
  unfold Oper.wp
  simp only [execOp, hop, hc, hx, Sem.run_bind, Sem.run_pure, hrun, Result.andThen_ok]
  exact hK _ _ h
theorem lenV_div (x : Nat) (h : 256 ≤ x) : lenV x = 8 + lenV (x / 256) := by
  have h0 : x / 256 ≠ 0 := by omega
  unfold lenV
  rw [if_neg (by omega), if_neg h0]
  have h1 : Nat.log2 x = Nat.log2 (x / 256) + 8 := by
    refine (Nat.log2_eq_iff (by omega)).2 ?_
    have a1 := Nat.log2_self_le h0
    have a2 := Nat.lt_log2_self (n := x / 256)
    rw [show Nat.log2 (x / 256) + 8 + 1 = (Nat.log2 (x / 256) + 1) + 8 from by omega, Nat.pow_add, Nat.pow_add]
    constructor
    · omega
    · omega
  omega
theorem lenV_lt (y : Nat) (h : y < 256) : lenV y ≤ 8 := by
  unfold lenV
  split
  · omega
  · have := (Nat.log2_lt (k := 8) (by assumption)).2 (by simpa using h)
    omega
theorem u8wrap (y : Nat) (h : y < 256) : IntKind.u8.wrap (y : Int) = (y : Int) := by
  have : (y : Int) % 256 = y := Int.emod_eq_of_lt (by omega) (by omega)
  simp [IntKind.wrap, IntKind.bits, IntKind.signed, this]
set_option maxHeartbeats 1000000 in
theorem len64_any (x : Nat) (hx : x < 65536) (w : World) : Calls Tryz.prog 158 #[.int .u64 (x : Int)] w fun e w' => e = .returned (.int .i64 (lenV x : Int)) ∧ w' = w := by
  have h1 : ¬ (4294967296 : Int) ≤ (x : Int) := by omega
  have h2 : ¬ (65536 : Int) ≤ (x : Int) := by omega
  by_cases h : x < 256
  · have h3 : ¬ (256 : Int) ≤ (x : Int) := by omega
    have hw := u8wrap x h
    have hl := lenV_lt x h
    have HV := hide (And.intro h (L8_at x h))
    generalize lenV x = v at *
    clear hx
    go_enter Tryz.func158, Tryz.ntmps158
    go_wp2_with (refine wpList_idx8 rfl _ (.tmp 21) rfl L8 x rfl rfl (by rw [L8_size]; exact (unhide HV).1) _ (unhide HV).2 ?_)
    go_ret
    exact ⟨by first | rfl | (congr 2; omega), rfl⟩
  · have h3 : (256 : Int) ≤ (x : Int) := by omega
    have hd : (x : Int) / 2 ^ 8 = ((x / 256 : Nat) : Int) := by omega
    have hd2 : (x : Int) / 256 = ((x / 256 : Nat) : Int) := by omega
    rw [lenV_div x (by omega)]
    have hy : x / 256 < 256 := by omega
    obtain ⟨y, hye⟩ : ∃ y, x / 256 = y := ⟨_, rfl⟩
    rw [hye] at hd hd2 hy ⊢
    clear hye
    have hw := u8wrap y hy
    have hl := lenV_lt y hy
    have HV := hide (And.intro hy (L8_at y hy))
    generalize lenV y = v at *
    go_enter Tryz.func158, Tryz.ntmps158
    go_wp2_with (refine wpList_idx8 rfl _ (.tmp 21) rfl L8 y rfl rfl (by rw [L8_size]; exact (unhide HV).1) _ (unhide HV).2 ?_)
    go_ret
    exact ⟨by first | rfl | (congr 2; omega), rfl⟩
theorem len_any (x : Nat) (hx : x < 65536) (w : World) : Calls Tryz.prog 133 #[.int .u64 (x : Int)] w fun e w' => e = .returned (.int .i64 (lenV x : Int)) ∧ w' = w := by
  have HL := hide (len64_any x hx w)
  go_enter Tryz.func133, Tryz.ntmps133
  go_wp2_with fail
  refine (unhide HL).mono ?_
  rintro e z ⟨rfl, hz⟩
  subst z
  go_wp2
  go_ret
  exact ⟨rfl, rfl⟩
set_option maxHeartbeats 1000000 in
theorem firstPart_any (n : Nat) (h2 : 2 ≤ n) (hn : n ≤ 65536) (w : World) : Calls Tryz.prog 121 #[.int .i64 (n : Int)] w fun e w' => e = .returned (.int .i64 (kk n : Int)) ∧ w' = w := by
  obtain ⟨x, rfl⟩ : ∃ x, n = x + 1 := ⟨n - 1, by omega⟩
  have HL := hide (len_any x (by omega) w)
  have hk : lenV x = Nat.log2 x + 1 := if_neg (by omega)
  rw [hk] at HL
  have hkk : kk (x + 1) = 2 ^ Nat.log2 x := rfl
  have hle : 2 ^ Nat.log2 x ≤ x := Nat.log2_self_le (by omega)
  have hlt : Nat.log2 x < 16 := (Nat.log2_lt (by omega)).2 (by omega)
  rw [hkk]
  generalize Nat.log2 x = q at *
  have e1 : ((x + 1 : Nat) : Int) - 1 = (x : Int) := by omega
  have e2 : IntKind.i64.wrap (x : Int) = (x : Int) := wrapI_eq _ (by omega) (by omega)
  have e3 : IntKind.u64.wrap (x : Int) = (x : Int) := by
    have : (x : Int) % 18446744073709551616 = x := Int.emod_eq_of_lt (by omega) (by omega)
    simp [IntKind.wrap, IntKind.bits, IntKind.signed, this]
  have e4 : ((q + 1 : Nat) : Int) - 1 = (q : Int) := by omega
  have e5 : IntKind.i64.wrap (q : Int) = (q : Int) := wrapI_eq _ (by omega) (by omega)
  have e7 : ((2 ^ q : Nat) : Int) = 2 ^ q := by simp
  have e6 : IntKind.i64.wrap (1 * 2 ^ q) = ((2 ^ q : Nat) : Int) := by
    rw [Int.one_mul, ← e7]
    exact wrapI_eq _ (by omega) (by omega)
  have e8 : IntKind.i64.wrap (2 ^ q) = ((2 ^ q : Nat) : Int) := by rw [← Int.one_mul (2 ^ q)]; exact e6
  clear hk hkk hle h2 e7
  go_enter Tryz.func121, Tryz.ntmps121
  go_wp2_with fail
  refine (unhide HL).mono ?_
  rintro e z ⟨rfl, hz⟩
  subst z
  go_wp2
  go_ret
  exact ⟨rfl, rfl⟩
end Go.Proofs.YtnfdedolgfcmfaaGreatDoor
