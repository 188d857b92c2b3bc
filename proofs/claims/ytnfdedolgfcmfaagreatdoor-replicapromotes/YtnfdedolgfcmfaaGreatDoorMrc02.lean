import Derived.Test.YtnfdedolgfcmfaaGreatDoorMrc01
import Derived.Test.YtnfdedolgfcmfaaGreatDoorMrc00
import Derived.Lib.SliceRun
import Derived.Deep.WholeRow
namespace Go.Proofs.YtnfdedolgfcmfaaGreatDoor
open Go.RowKit
def lenB (n : Nat) : List Int := (List.range 8).map (fun i => (8 * (n : Int)) / 2 ^ (8 * (7 - i)) % 256)
/-- The last pieces: r is what is held, n how many bytes were taken. -/
def fin (s : H8) (r : List Int) (n : Nat) : H8 :=
  if 56 < r.length + 1 then comp (comp s (r ++ [128] ++ List.replicate (63 - r.length) 0)) (List.replicate 56 0 ++ lenB n)
  else comp s (r ++ [128] ++ List.replicate (55 - r.length) 0 ++ lenB n)
/-- A Hasher's cells: eight words, a piece, a count. -/
def HAt (w : World) (b : Nat) (s : H8) (q : List Int) (n : Nat) : Prop :=
  Arr w b 0 .u32 s.vals ∧ Arr w b 8 .u8 q ∧ Arr w b 72 .i64 [(n : Int)]
def hCells (s : H8) (q : List Int) (n : Nat) : List Value := s.vals.map (Value.int .u32) ++ q.map (Value.int .u8) ++ [.int .i64 n]
theorem hat_new (w : World) (s : H8) (q : List Int) (n : Nat) (hq : q.length = 64) (t : TypeId) : HAt (w.alloc (.cells (hCells s q n).toArray t)) w.heap.size s q n := by
  refine ⟨?_, ?_, ?_⟩
  · exact arr_new_at w .u32 [] _ (q.map (Value.int .u8) ++ [.int .i64 n]) s.vals t (hCells s q n).toArray rfl (by simp [hCells])
  · exact arr_new_at w .u8 (s.vals.map (Value.int .u32)) _ [.int .i64 n] q t _ rfl (by simp [hCells])
  · have := arr_new_at w .i64 (s.vals.map (Value.int .u32) ++ q.map (Value.int .u8)) [.int .i64 n] [] [(n : Int)] t (hCells s q n).toArray rfl (by simp [hCells])
    simpa [hq, H8.vals] using this
theorem HAt.alloc {w : World} {b : Nat} {s : H8} {q : List Int} {n : Nat} (h : HAt w b s q n) (hb : b < w.heap.size) (x : Obj) : HAt (w.alloc x) b s q n := ⟨h.1.alloc hb x, h.2.1.alloc hb x, h.2.2.alloc hb x⟩
theorem HAt.below {w w' : World} {B b : Nat} {s : H8} {q : List Int} {n : Nat} (h : HAt w b s q n) (hb : Below B w w') (hB : b < B) : HAt w' b s q n := ⟨h.1.below hb hB, h.2.1.below hb hB, h.2.2.below hb hB⟩
theorem HAt.drew {w : World} {b : Nat} {s : H8} {q : List Int} {n : Nat} (h : HAt w b s q n) : HAt w.drew b s q n := h
theorem HAt.drewN {w : World} {b : Nat} {s : H8} {q : List Int} {n : Nat} (h : HAt w b s q n) (m : Nat) : HAt (w.drewN m) b s q n := h
theorem HAt.putByte {w : World} {b : Nat} {s : H8} {q q' : List Int} {n : Nat} (h : HAt w b s q n) (hq : q.length = 64) (i : Nat) (hi : i < 64) (v : Int) (e : q.set i v = q') : HAt (w.setCell ⟨b, 8 + i, none⟩ (.int .u8 v)) b s q' n := by
  subst e
  exact ⟨h.1.other _ _ (.inr (.inr (by simp [H8.vals]))), h.2.1.set i (by omega) v, h.2.2.other _ _ (.inr (.inl (by simp; omega)))⟩
theorem HAt.putWords {w : World} {b : Nat} {s s' : H8} {q : List Int} {n : Nat} (h : HAt w b s q n) : HAt (w.setCells b 0 (s'.vals.map (Value.int .u32))) b s' q n :=
  ⟨h.1.setCells s'.vals (by simp [H8.vals]), h.2.1.setCells_apart _ _ _ (.inr (.inr (by simp [H8.vals]))), h.2.2.setCells_apart _ _ _ (.inr (.inr (by simp [H8.vals])))⟩
theorem HAt.putPiece {w : World} {b : Nat} {s : H8} {q q' : List Int} {n : Nat} (h : HAt w b s q n) (hq : q'.length = q.length) (h64 : q.length = 64) : HAt (w.setCells b 8 (q'.map (Value.int .u8))) b s q' n :=
  ⟨h.1.setCells_apart _ _ _ (.inr (.inl (by simp [H8.vals]))), h.2.1.setCells q' hq, h.2.2.setCells_apart _ _ _ (.inr (.inr (by simp; omega)))⟩
theorem size274 : (Tryz.prog.info? 274).map (·.size) = some 73 := by kernel_rfl
theorem zeroV5 : ∀ w, (zeroValue 5).run Tryz.prog w = .ok (.int .u8 0) w := (zero_of_info (P := Tryz.prog) (t := 5) (v := .int .u8 0) (n := 1) (by kernel_rfl)).1

theorem slice_piece (b lo : Nat) (h : lo ≤ 64) : ∃ off ln, ln = 64 - lo ∧ (0 < ln → off = 8 + lo) ∧ ∀ W : World, (Instr.sliceAt 272 (.pointer (some ⟨b, 8, none⟩)) (some (.int .i64 (lo : Int))) none none).run Tryz.prog W = .ok (.slice (some ⟨b, off, none⟩) ln ln) W := by
  refine ⟨if lo = 64 then 8 else 8 + lo, 64 - lo, rfl, fun h => by rw [if_neg (by omega)], fun W => ?_⟩
  have hz : (Go.sizeOf 5).run Tryz.prog W = .ok 1 W := by kernel_rfl
  have ha : (⟨b, 8, none⟩ : Addr).add (lo * 1) = ⟨b, 8 + lo, none⟩ := by rw [Nat.mul_one, Addr.add_mid]
  simp only [Instr.sliceAt, Sem.run_bind, run_underlying Tryz.underlying272, Result.andThen_ok, Instr.sureAddr, Sem.run_pure, Instr.sliceBounds, Instr.sliceBound, asIntOf]
  have h2 : 0 ≤ (lo : Int) ∧ (lo : Int) ≤ ((64 : Nat) : Int) := by omega
  simp only [h2, and_self, if_true, Sem.run_pure, Result.andThen_ok, hz, Int.toNat_natCast]
  by_cases e : lo = 64
  · subst e; simp
  · rw [if_neg (by omega), if_neg e, ha]
theorem set_hCells (s : H8) (q : List Int) (n i : Nat) (v : Int) (hq : q.length = 64) (hi : i < 64) : (hCells s q n).set (8 + i) (.int .u8 v) = hCells s (q.set i v) n := by
  unfold hCells
  have h8 : (s.vals.map (Value.int .u32)).length = 8 := by simp [H8.vals]
  rw [List.append_assoc, List.append_assoc, List.set_append, if_neg (by omega), h8, Nat.add_sub_cancel_left, List.set_append, if_pos (by simp [hq, hi]), List.map_set]
theorem zero_tail (q : List Int) (i : Nat) (hq : q.length = 64) (hi : i < 64) : ((q.set i 128).take (i + 1) ++ List.replicate (63 - i) 0) = q.take i ++ [128] ++ List.replicate (63 - i) 0 := by
  congr 1
  rw [List.set_eq_take_append_cons_drop, if_pos (by omega), List.take_append, List.length_take, Nat.min_eq_left (by omega), Nat.add_sub_cancel_left, List.take_of_length_le (by simp; omega)]
  simp
theorem lenB_len (n : Nat) : (lenB n).length = 8 := by simp [lenB]
theorem lenB_at (n i : Nat) (hi : i < 8) : (lenB n).getD (7 - i) 0 = (8 * (n : Int)) / 2 ^ (8 * i) % 256 := by
  rcases (show i = 0 ∨ i = 1 ∨ i = 2 ∨ i = 3 ∨ i = 4 ∨ i = 5 ∨ i = 6 ∨ i = 7 by omega) with rfl | rfl | rfl | rfl | rfl | rfl | rfl | rfl <;> simp [lenB, List.range_succ]
theorem lenB_bytes (n : Nat) : Bytes (lenB n) := by
  intro j
  by_cases hj : j < 8
  · obtain ⟨i, hi, rfl⟩ : ∃ i, i < 8 ∧ j = 7 - i := ⟨7 - j, by omega, by omega⟩
    rw [lenB_at n i hi]
    exact ⟨Int.emod_nonneg _ (by decide), Int.emod_lt_of_pos _ (by decide)⟩
  · rw [List.getD_eq_getElem?_getD, List.getElem?_eq_none (by rw [lenB_len]; omega)]; simp
theorem bytes_append {a b : List Int} (ha : Bytes a) (hb : Bytes b) : Bytes (a ++ b) := by
  intro j
  have h1 := ha j
  have h2 := hb (j - a.length)
  simp only [List.getD_eq_getElem?_getD, List.getElem?_append] at *
  split <;> assumption
theorem bytes_take {a : List Int} (ha : Bytes a) (n : Nat) : Bytes (a.take n) := by
  intro j
  have h1 := ha j
  simp only [List.getD_eq_getElem?_getD, List.getElem?_take] at *
  split
  · assumption
  · simp
theorem bytes_drop {a : List Int} (ha : Bytes a) (n : Nat) : Bytes (a.drop n) := by
  intro j
  have h1 := ha (n + j)
  simpa only [List.getD_eq_getElem?_getD, List.getElem?_drop] using h1
theorem bytes_zeros (n : Nat) : Bytes (List.replicate n 0) := by
  intro j
  simp only [List.getD_eq_getElem?_getD, List.getElem?_replicate]
  split <;> simp
theorem bytes_one (v : Int) (h0 : 0 ≤ v) (h1 : v < 256) : Bytes [v] := by
  intro j
  cases j with
  | zero => simp; omega
  | succ j => simp
theorem take56 (r : List Int) (h : r.length + 1 ≤ 56) : (r ++ [128] ++ List.replicate (63 - r.length) 0).take 56 = r ++ [128] ++ List.replicate (55 - r.length) 0 := by
  have h1 : (r ++ [(128 : Int)]).length = r.length + 1 := by simp
  rw [List.take_append, List.take_of_length_le (by omega), List.take_replicate, h1]
  congr 2
  omega
theorem len_set (base : List Int) (n i : Nat) (hb : base.length = 64) (hi : i < 8) :
    (base.take (64 - i) ++ (lenB n).drop (8 - i)).set (63 - i) ((8 * (n : Int)) / 2 ^ (8 * i) % 256) = base.take (64 - (i + 1)) ++ (lenB n).drop (8 - (i + 1)) := by
  rw [← lenB_at n i hi]
  have h1 : (base.take (63 - i)).length = 63 - i := by simp; omega
  have h2 : 64 - i = 63 - i + 1 := by omega
  have h3 : 8 - i = 7 - i + 1 := by omega
  rw [h2, List.take_succ_eq_append_getElem (by omega), List.append_assoc, List.set_append, if_neg (by omega), h1, Nat.sub_self, List.singleton_append, List.set_cons_zero, h3,
    show 64 - (i + 1) = 63 - i by omega, show 8 - (i + 1) = 7 - i by omega, List.drop_eq_getElem_cons (i := 7 - i) (by rw [lenB_len]; omega)]
  congr 2
  rw [List.getD_eq_getElem?_getD, List.getElem?_eq_getElem (by rw [lenB_len]; omega)]
  rfl
def FInv (w : World) (s : H8) (n : Nat) (l : List Int) (wr : World) : Prop := HAt wr w.heap.size s l n ∧ Arr wr (w.heap.size + 1) 0 .u32 (List.replicate 8 0) ∧ Below w.heap.size w wr
theorem FInv.put {w : World} {s : H8} {n : Nat} {l l' : List Int} {wr : World} (h : FInv w s n l wr) (hl : l.length = 64) (t : Nat) (ht : t < 64) (v : Int) (e : l.set t v = l') : FInv w s n l' (wr.setCell ⟨w.heap.size, 8 + t, none⟩ (.int .u8 v)) :=
  ⟨h.1.putByte hl t ht v e, h.2.1.other _ _ (.inl (by simp)), h.2.2.setCell (by simp) _⟩
theorem fill_second (w w2 W2 W3 : World) (s s' : H8) (q1 : List Int) (n : Nat) (hq1 : q1.length = 64) (hA : HAt w2 w.heap.size s q1 n) (hR : Arr w2 (w.heap.size + 1) 0 .u32 (List.replicate 8 0)) (hB : Below w.heap.size w w2)
    (h2 : W2 = w2.setCells w.heap.size 0 ((s'.vals.map (Value.int .u32)).toArray).toList) (h3 : W3 = W2.setCells w.heap.size 8 (((List.replicate 64 (0 : Int)).map (Value.int .u8)).toArray).toList) : FInv w s' n (List.replicate 64 0) W3 := by
  subst h2 h3
  exact ⟨hA.putWords.putPiece (by simp [hq1]) hq1, (hR.setCells_apart _ _ _ (.inl (by omega))).setCells_apart _ _ _ (.inl (by omega)), below_setCells (Nat.le_refl _) _ _ (below_setCells (Nat.le_refl _) _ _ hB)⟩
theorem cell72 {w : World} {b : Nat} {s : H8} {q : List Int} {n : Nat} (h : HAt w b s q n) : w.cell? ⟨b, 72, none⟩ = some (.int .i64 (n : Int)) := by simpa using h.2.2.get 0 (by simp)
set_option maxRecDepth 100000 in
set_option maxHeartbeats 400000 in
theorem hfilled_any (s : H8) (q : List Int) (n : Nat) (hq : q.length = 64) (hb : Bytes q) (hn : n < 2305843009213693952) (w : World) (hK : KTab w) :
    Calls Tryz.prog 188 #[.agg (hCells s q n).toArray] w fun e w' => e = .returned (.agg ((fin s (q.take (n % 64)) n).vals.map (Value.int .u32)).toArray) ∧ Below w.heap.size w w' := by
  have hr : n % 64 < 64 := Nat.mod_lt _ (by decide)
  have hct : ∀ C, ((w.alloc (Obj.cells (hCells s q n).toArray 274)).alloc C).cell? ⟨w.heap.size, 72, none⟩ = some (.int .i64 (n : Int)) := fun C => by
    have := ((hat_new w s q n hq 274).alloc (by simp) C).2.2.get 0 (by simp)
    simpa using this
  obtain ⟨off, ln, h1, h2, hsl⟩ := slice_piece w.heap.size (n % 64 + 1) (by omega)
  have hq1 : (q.take (n % 64) ++ [128] ++ List.replicate (63 - n % 64) 0).length = 64 := by simp [hq]; omega
  obtain ⟨W1, hA1, hR1, hB1, hcl⟩ : ∃ W1, HAt W1 w.heap.size s (q.take (n % 64) ++ [128] ++ List.replicate (63 - n % 64) 0) n ∧ Arr W1 (w.heap.size + 1) 0 .u32 (List.replicate 8 0) ∧ Below w.heap.size w W1 ∧
      ∀ ty, (Builtin.clear_ #[122] ty #[.slice (some ⟨w.heap.size, off, none⟩) ln ln]).run Tryz.prog ((w.alloc (Obj.cells ((hCells s q n).set (8 + n % 64) (Value.int IntKind.u8 128)).toArray 274)).alloc (Obj.cells #[Value.int IntKind.u32 0, Value.int IntKind.u32 0, Value.int IntKind.u32 0, Value.int IntKind.u32 0, Value.int IntKind.u32 0, Value.int IntKind.u32 0, Value.int IntKind.u32 0, Value.int IntKind.u32 0] 243)) = .ok (.tuple #[]) W1 := by
    rw [set_hCells s q n _ _ hq hr]
    have hA := (hat_new w s (q.set (n % 64) 128) n (by simp [hq]) 274).alloc (by simp) (Obj.cells #[Value.int IntKind.u32 0, Value.int IntKind.u32 0, Value.int IntKind.u32 0, Value.int IntKind.u32 0, Value.int IntKind.u32 0, Value.int IntKind.u32 0, Value.int IntKind.u32 0, Value.int IntKind.u32 0] 243)
    have hR : Arr ((w.alloc (Obj.cells (hCells s (q.set (n % 64) 128) n).toArray 274)).alloc (Obj.cells #[Value.int IntKind.u32 0, Value.int IntKind.u32 0, Value.int IntKind.u32 0, Value.int IntKind.u32 0, Value.int IntKind.u32 0, Value.int IntKind.u32 0, Value.int IntKind.u32 0, Value.int IntKind.u32 0] 243)) (w.heap.size + 1) 0 .u32 (List.replicate 8 0) := by
      have := arr_new (w.alloc (Obj.cells (hCells s (q.set (n % 64) 128) n).toArray 274)) .u32 (List.replicate 8 0) 243 #[Value.int IntKind.u32 0, Value.int IntKind.u32 0, Value.int IntKind.u32 0, Value.int IntKind.u32 0, Value.int IntKind.u32 0, Value.int IntKind.u32 0, Value.int IntKind.u32 0, Value.int IntKind.u32 0] rfl
      simpa using this
    have hB : Below w.heap.size w ((w.alloc (Obj.cells (hCells s (q.set (n % 64) 128) n).toArray 274)).alloc (Obj.cells #[Value.int IntKind.u32 0, Value.int IntKind.u32 0, Value.int IntKind.u32 0, Value.int IntKind.u32 0, Value.int IntKind.u32 0, Value.int IntKind.u32 0, Value.int IntKind.u32 0, Value.int IntKind.u32 0] 243)) := ((Below.refl _ _).alloc (Nat.le_refl _) _).alloc (by simp) _
    generalize ((w.alloc (Obj.cells (hCells s (q.set (n % 64) 128) n).toArray 274)).alloc (Obj.cells #[Value.int IntKind.u32 0, Value.int IntKind.u32 0, Value.int IntKind.u32 0, Value.int IntKind.u32 0, Value.int IntKind.u32 0, Value.int IntKind.u32 0, Value.int IntKind.u32 0, Value.int IntKind.u32 0] 243)) = W0 at *
    have hzt := zero_tail q (n % 64) hq hr
    have hsl0 : (q.set (n % 64) 128).length = 64 := by simp [hq]
    by_cases h0 : 0 < ln
    · have hoff := h2 h0
      refine ⟨W0.setCells w.heap.size off (List.replicate ln (.int .u8 0)), ?_, hR.setCells_apart _ _ _ (.inl (by omega)), below_setCells (Nat.le_refl _) _ _ hB, fun ty => ?_⟩
      · refine ⟨hA.1.setCells_apart _ _ _ (.inr (.inl (by simp [H8.vals]; omega))), ?_, hA.2.2.setCells_apart _ _ _ (.inr (.inr (by simp; omega)))⟩
        rw [← hzt]
        have e : List.replicate ln (Value.int .u8 0) = (List.replicate (63 - n % 64) (0 : Int)).map (Value.int .u8) := by simp; omega
        rw [e, hoff]
        exact hA.2.1.tail (n % 64 + 1) _ (by simp [hsl0]; omega)
      · exact Lib.run_clear_slice W0 122 5 ty (.int .u8 0) Tryz.underlying122 zeroV5 rfl rfl w.heap.size off ln ln h0 (fun j hj => by rw [hoff, show 8 + (n % 64 + 1) + j = 8 + (n % 64 + 1 + j) by omega, hA.2.1.get _ (by omega)]; rfl) (fun j hj => by rw [hoff, show 8 + (n % 64 + 1) + j = 8 + (n % 64 + 1 + j) by omega, hA.2.1.free _ (by omega)])
    · have hl0 : ln = 0 := by omega
      have h63 : 63 - n % 64 = 0 := by omega
      subst hl0
      refine ⟨W0, ?_, hR, hB, fun ty => by simp [Builtin.clear_, run_underlying Tryz.underlying122]⟩
      rw [← hzt, h63, List.take_of_length_le (by omega)]
      simpa using hA
  clear h1 h2
  have hsl' : ∀ W : World, (Instr.sliceAt 272 (.pointer (some ⟨w.heap.size, 8, none⟩)) (some (.int .i64 ((n : Int) % 64 + 1))) none none).run Tryz.prog W = .ok (.slice (some ⟨w.heap.size, off, none⟩) ln ln) W := fun W => by simpa using hsl W
  have hby : Bytes (q.take (n % 64) ++ [128] ++ List.replicate (63 - n % 64) 0) := bytes_append (bytes_append (bytes_take hb _) (bytes_one 128 (by decide) (by decide))) (bytes_zeros _)
  have htk : (q.take (n % 64)).length = n % 64 := by simp [hq]; omega
  have hfin : fin s (q.take (n % 64)) n = if 56 < n % 64 + 1 then comp (comp s (q.take (n % 64) ++ [128] ++ List.replicate (63 - n % 64) 0)) (List.replicate 56 0 ++ lenB n) else comp s ((q.take (n % 64) ++ [128] ++ List.replicate (63 - n % 64) 0).take 56 ++ lenB n) := by
    unfold fin
    rw [htk]
    by_cases h56 : 56 < n % 64 + 1
    · rw [if_pos h56, if_pos h56]
    · rw [if_neg h56, if_neg h56]
      have := take56 (q.take (n % 64)) (by omega)
      rw [htk] at this
      rw [this]
  have hex : (hCells s q n)[8 + n % 64]? = some (.int .u8 (q.getD (n % 64) 0)) := by
    have h8 : (s.vals.map (Value.int .u32)).length = 8 := by simp [H8.vals]
    have hlt : n % 64 < q.length := by omega
    rw [hCells, List.append_assoc, List.getElem?_append_right (by omega), h8, Nat.add_sub_cancel_left, List.getElem?_append_left (by simpa using hlt)]
    simp [hlt]
  generalize q.take (n % 64) ++ [128] ++ List.replicate (63 - n % 64) 0 = q1 at *
  have hc72 : W1.cell? ⟨w.heap.size, 72, none⟩ = some (.int .i64 (n : Int)) := by simpa using hA1.2.2.get 0 (by simp)
  have HSZ := hide (World.block_lt_of_cell? W1 _ (hR1.get 0 (by simp)) : w.heap.size + 1 < W1.heap.size)
  have HK1 := hide (hK.below hB1 hK.1)
  have HA1 := hide hA1
  have HR1 := hide hR1
  have HB1 := hide hB1
  have HF := hide hfin
  have HY := hide hby
  have HK0 := hide hK
  clear hK hA1 hR1 hB1 hfin hby hsl htk hb
  by_cases h56 : 56 < n % 64 + 1
  · go_enter Tryz.func188, Tryz.ntmps188
    go_wp2_with (first
      | (refine wpList_load_mid rfl 243 (.tmp 19) rfl w.heap.size 0 rfl _ _ (unhide HA1).1.range Tryz.underlying243 rfl (by rw [size243]; simp [H8.vals]) ?_)
      | (refine wpList_load_mid rfl 272 (.tmp 21) rfl w.heap.size 8 rfl _ _ (unhide HA1).2.1.range Tryz.underlying272 rfl (by rw [size272]; simp [hq1]) ?_)
      | (go_at_call 186; refine (mixed_any s q1 hq1 (unhide HY) _ (unhide HK1)).mono ?_; rintro e w2 ⟨rfl, hb2⟩)
      | (refine wpList_store_to rfl 243 (.tmp 24) (.tmp 23) rfl w.heap.size 0 _ rfl rfl (by simpa [H8.vals] using ((unhide HA1).below hb2 (Nat.lt_of_succ_lt (unhide HSZ))).1.there) (by rw [size243]; simp [H8.vals]) (one_ints _ _) ?_; intro W2 hW2; have HA2 := hide ((unhide HA1).below hb2 (Nat.lt_of_succ_lt (unhide HSZ))); have HW2 := hide hW2; have HB2 := hide hb2; clear hW2 hb2)
      | (refine wpList_store_to rfl 272 (.tmp 26) (.tmp 25) rfl w.heap.size 8 ((List.replicate 64 (0 : Int)).map (Value.int .u8)).toArray rfl rfl (by rw [unhide HW2]; simpa [hq1] using ((unhide HA2).putWords (s' := comp s q1)).2.1.there) (by rw [size272]; simp) (one_ints _ _) ?_; intro W3 hW3; have HW3 := hide hW3; clear hW3; have hc73 := cell72 ((unhide HW3) ▸ ((unhide HW2) ▸ (unhide HA2).putWords (s' := comp s q1)).putPiece (q' := List.replicate 64 0) (by simp [hq1]) hq1)))
    have hfi : FInv w (comp s q1) n (List.replicate 64 0) W3 := fill_second w w2 W2 W3 s (comp s q1) q1 n hq1 (unhide HA2) ((unhide HR1).below (unhide HB2) (unhide HSZ)) ((unhide HB1).trans ((unhide HB2).mono (Nat.le_of_lt (Nat.lt_of_succ_lt (unhide HSZ))))) (unhide HW2) (unhide HW3)
    have HF2 : Hid (fin s (q.take (n % 64)) n = comp (comp s q1) ((List.replicate 64 0).take 56 ++ lenB n)) := by
      have := unhide HF
      rw [if_pos h56] at this
      simpa [Hid, List.take_replicate] using this
    have HY2 := hide (bytes_zeros 64)
    have hbl : (List.replicate 64 (0 : Int)).length = 64 := by simp
    have HI := hide hfi
    clear hfi HF HY HA2 HW2 HB2 HW3 HA1 HR1 HB1 HK1 HSZ
    generalize List.replicate 64 (0 : Int) = base at *
    generalize comp s q1 = s2 at *
    clear hc72 hc73
    go_loopw [31] (fun i wr => ∃ t : Nat, t ≤ 8 ∧ i = .int .i64 t ∧ FInv w s2 n (base.take (64 - t) ++ (lenB n).drop (8 - t)) wr) (fun i _ => 8 - (intOf i).toNat)
    case atStart => exact ⟨0, by omega, rfl, by
      have e : base.take (64 - 0) ++ (lenB n).drop (8 - 0) = base := by rw [List.take_of_length_le (by omega), List.drop_of_length_le (by rw [lenB_len]; omega), List.append_nil]
      rw [e]; exact unhide HI⟩
    case round =>
      clear HI
      obtain ⟨t, ht, rfl, hI⟩ := hrel
      have hll : (base.take (64 - t) ++ (lenB n).drop (8 - t)).length = 64 := by simp [lenB_len, hbl]; omega
      by_cases htl : t < 8
      · have c1 := hI.1.2.1.get (63 - t) (by omega)
        have f1 := hI.1.2.1.free (63 - t) (by omega)
        have HE := hide (len_set base n t hbl htl)
        have HI := hide hI
        obtain ⟨z, hz⟩ : ∃ z, z = (base.take (64 - t) ++ (lenB n).drop (8 - t)).getD (63 - t) 0 := ⟨_, rfl⟩
        rw [← hz] at c1
        have HL := hide hll
        clear hz hI hll
        go_wp2
        go_roundw
        case rel => exact ⟨t + 1, by omega, by go_num, (unhide HI).put (unhide HL) (63 - t) (by omega) _ (unhide HE)⟩
        case measure => simp [intOf]; omega
      · have e8 : t = 8 := by omega
        rw [e8] at hI hll
        simp only [show 64 - 8 = 56 by decide, Nat.sub_self, List.drop_zero] at hI hll
        have hbz : Bytes (base.take 56 ++ lenB n) := bytes_append (bytes_take (unhide HY2) _) (lenB_bytes n)
        generalize base.take 56 ++ lenB n = q2 at *
        have HI := hide hI
        have HSW := hide (World.block_lt_of_cell? wr _ (hI.2.1.get 0 (by simp)) : w.heap.size + 1 < wr.heap.size)
        have HKW := hide ((unhide HK0).below hI.2.2 (unhide HK0).1)
        have HQ := hide hbz
        clear hI e8 hbz
        go_wp2_with (first
          | (refine wpList_load_mid rfl 243 (.tmp 44) rfl w.heap.size 0 rfl _ _ (unhide HI).1.1.range Tryz.underlying243 rfl (by rw [size243]; simp [H8.vals]) ?_)
          | (refine wpList_load_mid rfl 272 (.tmp 46) rfl w.heap.size 8 rfl _ _ (unhide HI).1.2.1.range Tryz.underlying272 rfl (by rw [size272]; simp [hll]) ?_)
          | (go_at_call 186; refine (mixed_any s2 q2 hll (unhide HQ) _ (unhide HKW)).mono ?_; rintro e w4 ⟨rfl, hb4⟩)
          | (refine wpList_store_mid rfl 243 (.tmp 2) (.tmp 48) rfl (w.heap.size + 1) 0 _ rfl rfl (by simpa [H8.vals] using ((unhide HI).2.1.below hb4 (unhide HSW)).there) (by rw [size243]; simp [H8.vals]) (one_ints _ _) ?_))
        have hld := run_loadVar_mid (P := Tryz.prog) _ (w.heap.size + 1) 0 243 _ _ (World.rangeAt_setCells_same w4 (w.heap.size + 1) 0 ((comp s2 q2).vals.map (Value.int .u32)) (by simpa [H8.vals] using ((unhide HI).2.1.below hb4 (unhide HSW)).there)) Tryz.underlying243 rfl (by rw [size243]; simp [H8.vals])
        refine bodyPost_ret (v := .agg ((comp s2 q2).vals.map (Value.int .u32)).toArray) ?_ rfl ⟨by rw [unhide HF2], below_setCells (by omega) _ _ ((unhide HI).2.2.trans (hb4.mono (Nat.le_of_lt (Nat.lt_of_succ_lt (unhide HSW)))))⟩
        exact results_cell rfl _ _ _ ⟨w.heap.size + 1, 0, none⟩ rfl _ hld
  · have HF2 : Hid (fin s (q.take (n % 64)) n = comp s (q1.take 56 ++ lenB n)) := by
      have := unhide HF
      rw [if_neg h56] at this
      exact this
    have HY2 := HY
    have hbl := hq1
    have HI : Hid (FInv w s n q1 W1) := ⟨unhide HA1, unhide HR1, unhide HB1⟩
    clear HF HY HA1 HR1 HB1 HK1 HSZ
    go_enter Tryz.func188, Tryz.ntmps188
    go_wp2
    obtain ⟨s2, hs2⟩ : ∃ s2, s2 = s := ⟨_, rfl⟩
    obtain ⟨base, hbase⟩ : ∃ base, base = q1 := ⟨_, rfl⟩
    rw [← hbase] at HF2 HY2 hbl HI
    rw [← hs2] at HI
    have HF3 : Hid (fin s (q.take (n % 64)) n = comp s2 (base.take 56 ++ lenB n)) := by rw [hs2]; exact HF2
    clear hc72 HF2 hs2 hbase
    rename Hid (fin s (q.take (n % 64)) n = comp s2 (base.take 56 ++ lenB n)) => HF2
    go_loopw [31] (fun i wr => ∃ t : Nat, t ≤ 8 ∧ i = .int .i64 t ∧ FInv w s2 n (base.take (64 - t) ++ (lenB n).drop (8 - t)) wr) (fun i _ => 8 - (intOf i).toNat)
    case atStart => exact ⟨0, by omega, rfl, by
      have e : base.take (64 - 0) ++ (lenB n).drop (8 - 0) = base := by rw [List.take_of_length_le (by omega), List.drop_of_length_le (by rw [lenB_len]; omega), List.append_nil]
      rw [e]; exact unhide HI⟩
    case round =>
      clear HI
      obtain ⟨t, ht, rfl, hI⟩ := hrel
      have hll : (base.take (64 - t) ++ (lenB n).drop (8 - t)).length = 64 := by simp [lenB_len, hbl]; omega
      by_cases htl : t < 8
      · have c1 := hI.1.2.1.get (63 - t) (by omega)
        have f1 := hI.1.2.1.free (63 - t) (by omega)
        have HE := hide (len_set base n t hbl htl)
        have HI := hide hI
        obtain ⟨z, hz⟩ : ∃ z, z = (base.take (64 - t) ++ (lenB n).drop (8 - t)).getD (63 - t) 0 := ⟨_, rfl⟩
        rw [← hz] at c1
        have HL := hide hll
        clear hz hI hll
        go_wp2
        go_roundw
        case rel => exact ⟨t + 1, by omega, by go_num, (unhide HI).put (unhide HL) (63 - t) (by omega) _ (unhide HE)⟩
        case measure => simp [intOf]; omega
      · have e8 : t = 8 := by omega
        rw [e8] at hI hll
        simp only [show 64 - 8 = 56 by decide, Nat.sub_self, List.drop_zero] at hI hll
        have hbz : Bytes (base.take 56 ++ lenB n) := bytes_append (bytes_take (unhide HY2) _) (lenB_bytes n)
        generalize base.take 56 ++ lenB n = q2 at *
        have HI := hide hI
        have HSW := hide (World.block_lt_of_cell? wr _ (hI.2.1.get 0 (by simp)) : w.heap.size + 1 < wr.heap.size)
        have HKW := hide ((unhide HK0).below hI.2.2 (unhide HK0).1)
        have HQ := hide hbz
        clear hI e8 hbz
        go_wp2_with (first
          | (refine wpList_load_mid rfl 243 (.tmp 44) rfl w.heap.size 0 rfl _ _ (unhide HI).1.1.range Tryz.underlying243 rfl (by rw [size243]; simp [H8.vals]) ?_)
          | (refine wpList_load_mid rfl 272 (.tmp 46) rfl w.heap.size 8 rfl _ _ (unhide HI).1.2.1.range Tryz.underlying272 rfl (by rw [size272]; simp [hll]) ?_)
          | (go_at_call 186; refine (mixed_any s2 q2 hll (unhide HQ) _ (unhide HKW)).mono ?_; rintro e w4 ⟨rfl, hb4⟩)
          | (refine wpList_store_mid rfl 243 (.tmp 2) (.tmp 48) rfl (w.heap.size + 1) 0 _ rfl rfl (by simpa [H8.vals] using ((unhide HI).2.1.below hb4 (unhide HSW)).there) (by rw [size243]; simp [H8.vals]) (one_ints _ _) ?_))
        have hld := run_loadVar_mid (P := Tryz.prog) _ (w.heap.size + 1) 0 243 _ _ (World.rangeAt_setCells_same w4 (w.heap.size + 1) 0 ((comp s2 q2).vals.map (Value.int .u32)) (by simpa [H8.vals] using ((unhide HI).2.1.below hb4 (unhide HSW)).there)) Tryz.underlying243 rfl (by rw [size243]; simp [H8.vals])
        refine bodyPost_ret (v := .agg ((comp s2 q2).vals.map (Value.int .u32)).toArray) ?_ rfl ⟨by rw [unhide HF2], below_setCells (by omega) _ _ ((unhide HI).2.2.trans (hb4.mono (Nat.le_of_lt (Nat.lt_of_succ_lt (unhide HSW)))))⟩
        exact results_cell rfl _ _ _ ⟨w.heap.size + 1, 0, none⟩ rfl _ hld
end Go.Proofs.YtnfdedolgfcmfaaGreatDoor
