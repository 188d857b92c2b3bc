import Derived.Test.YtilhilglokblpaaDoorQpu
import Derived.Test.YtilhilglokblpaaDoorKey
import Derived.Test.YtilhilglokblpaaDoorHxg
import Derived.Test.YtilhilglokblpaaDoorBlk
import Derived.Deep.MidRow
import Derived.Deep.RegionHeld
import Derived.Deep.RegionHeld3
import Derived.Laws.ResultCell
namespace Go.Proofs.YtilhilglokblpaaDoor
open Go.RowKit
set_option maxRecDepth 100000
/-- the cells of a digest -/
def dC (d : ByteArray) : List Value := (nums d).map (Value.int .u8)
theorem dC_len (d : ByteArray) (hd : d.size = 32) : (dC d).length = 32 := by rw [dC, List.length_map, nums_len, hd]
theorem dC_one (d : ByteArray) : ∀ v ∈ dC d, v.oneCell' = true := fun v hv => by
  obtain ⟨x, _, rfl⟩ := List.mem_map.1 hv
  rfl
theorem dC_all (d : ByteArray) : (dC d).toArray.all (·.oneCell') = true := all_oneCell_toArray (dC_one d)
theorem dC_inj {a b : ByteArray} (h : dC a = dC b) : a = b := by
  have h1 : nums a = nums b := by
    have := congrArg (List.map (fun v => match v with | .int _ x => x | _ => 0)) h
    simpa [dC, List.map_map, Function.comp_def] using this
  rw [← strOfNums_nums a, ← strOfNums_nums b, h1]
theorem szD : (Tryd.prog.info? 46).map (·.size) = some 32 := by kernel_rfl
theorem zD_eq : (#[.int .u8 0, .int .u8 0, .int .u8 0, .int .u8 0, .int .u8 0, .int .u8 0, .int .u8 0, .int .u8 0, .int .u8 0, .int .u8 0, .int .u8 0, .int .u8 0, .int .u8 0, .int .u8 0, .int .u8 0, .int .u8 0, .int .u8 0, .int .u8 0, .int .u8 0, .int .u8 0, .int .u8 0, .int .u8 0, .int .u8 0, .int .u8 0, .int .u8 0, .int .u8 0, .int .u8 0, .int .u8 0, .int .u8 0, .int .u8 0, .int .u8 0, .int .u8 0] : Array Value) = ((List.replicate 32 (0 : Int)).map (Value.int .u8)).toArray := rfl
theorem zD_new (w : World) : Arr (w.alloc (.cells #[.int .u8 0, .int .u8 0, .int .u8 0, .int .u8 0, .int .u8 0, .int .u8 0, .int .u8 0, .int .u8 0, .int .u8 0, .int .u8 0, .int .u8 0, .int .u8 0, .int .u8 0, .int .u8 0, .int .u8 0, .int .u8 0, .int .u8 0, .int .u8 0, .int .u8 0, .int .u8 0, .int .u8 0, .int .u8 0, .int .u8 0, .int .u8 0, .int .u8 0, .int .u8 0, .int .u8 0, .int .u8 0, .int .u8 0, .int .u8 0, .int .u8 0, .int .u8 0] 46)) w.heap.size 0 .u8 (List.replicate 32 0) := arr_new w .u8 _ 46 _ zD_eq
theorem dC_new (w : World) (d : ByteArray) : Arr (w.alloc (.cells (dC d).toArray 46)) w.heap.size 0 .u8 (nums d) := arr_new w .u8 _ 46 _ rfl
theorem rangeAt_below {w w' : World} {B b o : Nat} {cs : List Value} (h : w.rangeAt b o cs) (hb : Below B w w') (hB : b < B) : w'.rangeAt b o cs := fun j v hv => (hb.cell (p := ⟨b, o + j, none⟩) hB).trans (h j v hv)
theorem rangeAt_drew {w : World} {b o : Nat} {cs : List Value} (h : w.rangeAt b o cs) : w.drew.rangeAt b o cs := h
/-- two blocks of noughts: a text is copied into the second, and laid into the first -/
structure Cpy (y1 : World) (g : Nat) (d : ByteArray) (y2 : World) : Prop where
  cp : ∀ ty, (Builtin.copy_ #[67, 9] ty #[.slice (some ⟨g + 1, 0, none⟩) 32 32, .string d]).run Tryd.prog y1 = .ok (.int .i64 32) y2
  rg : y2.rangeAt (g + 1) 0 (dC d)
  th : y2.there g 0 32
  ld : (loadVar 46 ⟨g, 0, none⟩).run Tryd.prog (y2.setCells g 0 (dC d)) = .ok (.agg (dC d).toArray) (y2.setCells g 0 (dC d))
  be : ∀ w, Below g w y1 → Below g w (y2.setCells g 0 (dC d))
theorem cpy (y1 : World) (g : Nat) (d : ByteArray) (hd : d.size = 32) (A0 : Arr y1 g 0 .u8 (List.replicate 32 0)) (A1 : Arr y1 (g + 1) 0 .u8 (List.replicate 32 0)) : ∃ y2, Cpy y1 g d y2 := by
  have hcp := run_copy_str y1 (g + 1) 0 32 32 32 d (by rw [hd]; rfl) (by simpa using A1.there)
  have hnd : (nums d).take 32 = nums d := List.take_of_length_le (by rw [nums_len, hd]; exact Nat.le_refl _)
  rw [hnd] at hcp
  have hnl : (nums d).length = 32 := by rw [nums_len, hd]
  have A2 := A1.setCells (nums d) (by simp [hnl])
  have A3 := A0.setCells_apart (g + 1) 0 ((nums d).map (Value.int .u8)) (.inl (by omega))
  obtain ⟨y2, hy2⟩ : ∃ q, y1.setCells (g + 1) 0 ((nums d).map (Value.int .u8)) = q := ⟨_, rfl⟩
  have HB2 : ∀ w, Below g w y1 → Below g w y2 := fun w h => by rw [← hy2]; exact below_setCells (by omega) _ _ h
  rw [hy2] at hcp A2 A3
  have A4 := A3.setCells (nums d) (by simp [hnl])
  exact ⟨y2, hcp, A2.range, by simpa using A3.there, run_loadVar_mid (P := Tryd.prog) _ g 0 46 (dC d) _ A4.range Tryd.underlying46 rfl (by rw [szD, dC_len d hd]), fun w h => below_setCells (Nat.le_refl _) _ _ (HB2 w h)⟩
/-- noughts stored over noughts -/
theorem zst (y : World) (g : Nat) (d : ByteArray) (hd : d.size = 32) (A0 : Arr y g 0 .u8 (List.replicate 32 0)) : y.there g 0 32 ∧ (loadVar 46 ⟨g, 0, none⟩).run Tryd.prog (y.setCells g 0 (dC d)) = .ok (.agg (dC d).toArray) (y.setCells g 0 (dC d)) ∧ ∀ w, Below g w y → Below g w (y.setCells g 0 (dC d)) := by
  have hnl : (nums d).length = 32 := by rw [nums_len, hd]
  have A4 := A0.setCells (nums d) (by simp [hnl])
  exact ⟨by simpa using A0.there, run_loadVar_mid (P := Tryd.prog) _ g 0 46 (dC d) _ A4.range Tryd.underlying46 rfl (by rw [szD, dC_len d hd]), fun w h => below_setCells (Nat.le_refl _) _ _ h⟩
theorem hsum_any (t : ByteArray) (ht : t.size < 2305843009213693952) (w : World) (hK : KTab w) (g : Nat) (hg : w.heap.size = g) : ∀ W, Below g w W → Calls Tryd.prog 37 #[.string t] W fun e w' => e = .returned (.string (dg t)) ∧ Below W.heap.size W w' := fun W h => sum_any t W (hK.below h (by rw [← hg]; exact hK.1)) ht
set_option maxHeartbeats 1000000 in
theorem sumOf_any (t : ByteArray) (w : World) (hK : KTab w) (ht : t.size < 2305843009213693952) : Calls Tryd.prog 20 #[.string t] w fun e w' => e = .returned (.agg (dC (dg t)).toArray) ∧ Below w.heap.size w w' := by
  obtain ⟨g, hg⟩ : ∃ g, w.heap.size = g := ⟨_, rfl⟩
  have HS := hide (hsum_any t ht w hK g hg)
  have hd := dg_size t
  generalize dg t = d at *
  obtain ⟨x1, hx1⟩ : ∃ q, (w.alloc (.cells #[.int .u8 0, .int .u8 0, .int .u8 0, .int .u8 0, .int .u8 0, .int .u8 0, .int .u8 0, .int .u8 0, .int .u8 0, .int .u8 0, .int .u8 0, .int .u8 0, .int .u8 0, .int .u8 0, .int .u8 0, .int .u8 0, .int .u8 0, .int .u8 0, .int .u8 0, .int .u8 0, .int .u8 0, .int .u8 0, .int .u8 0, .int .u8 0, .int .u8 0, .int .u8 0, .int .u8 0, .int .u8 0, .int .u8 0, .int .u8 0, .int .u8 0, .int .u8 0] 46)).alloc (.cells #[.int .u8 0, .int .u8 0, .int .u8 0, .int .u8 0, .int .u8 0, .int .u8 0, .int .u8 0, .int .u8 0, .int .u8 0, .int .u8 0, .int .u8 0, .int .u8 0, .int .u8 0, .int .u8 0, .int .u8 0, .int .u8 0, .int .u8 0, .int .u8 0, .int .u8 0, .int .u8 0, .int .u8 0, .int .u8 0, .int .u8 0, .int .u8 0, .int .u8 0, .int .u8 0, .int .u8 0, .int .u8 0, .int .u8 0, .int .u8 0, .int .u8 0, .int .u8 0] 46) = q := ⟨_, rfl⟩
  have HA0 := hide (show Arr x1 g 0 .u8 (List.replicate 32 0) from by rw [← hx1, ← hg]; exact (zD_new w).alloc (by simp) _)
  have HA1 := hide (show Arr x1 (g + 1) 0 .u8 (List.replicate 32 0) from by
    rw [← hx1]
    have := zD_new (w.alloc (.cells #[.int .u8 0, .int .u8 0, .int .u8 0, .int .u8 0, .int .u8 0, .int .u8 0, .int .u8 0, .int .u8 0, .int .u8 0, .int .u8 0, .int .u8 0, .int .u8 0, .int .u8 0, .int .u8 0, .int .u8 0, .int .u8 0, .int .u8 0, .int .u8 0, .int .u8 0, .int .u8 0, .int .u8 0, .int .u8 0, .int .u8 0, .int .u8 0, .int .u8 0, .int .u8 0, .int .u8 0, .int .u8 0, .int .u8 0, .int .u8 0, .int .u8 0, .int .u8 0] 46))
    rw [show (w.alloc (.cells #[.int .u8 0, .int .u8 0, .int .u8 0, .int .u8 0, .int .u8 0, .int .u8 0, .int .u8 0, .int .u8 0, .int .u8 0, .int .u8 0, .int .u8 0, .int .u8 0, .int .u8 0, .int .u8 0, .int .u8 0, .int .u8 0, .int .u8 0, .int .u8 0, .int .u8 0, .int .u8 0, .int .u8 0, .int .u8 0, .int .u8 0, .int .u8 0, .int .u8 0, .int .u8 0, .int .u8 0, .int .u8 0, .int .u8 0, .int .u8 0, .int .u8 0, .int .u8 0] 46)).heap.size = g + 1 by simp [hg]] at this
    exact this)
  have HB1 := hide (show Below g w x1 from by rw [← hx1, ← hg]; exact ((Below.refl _ w).alloc (Nat.le_refl _) _).alloc (by simp) _)
  have HX1 := hide (show x1.heap.size = g + 2 from by rw [← hx1]; simp [hg])
  have HKL := hide (dC_len d hd)
  have HK1 := hide (dC_all d)
  rw [hg]
  clear hK ht
  go_enter Tryd.func20, Tryd.ntmps20
  go_wp2_with fail
  refine wp_region_held_drew (S := fun _ => True) (by kernel_rfl) trivial ?_
  intro hS
  refine wpAnyH_takeD 0 (some 4) (.slice (some ⟨g + 1, 0, none⟩) 32 32) rfl rfl (by kernel_rfl) (by kernel_rfl) (by kernel_rfl) (fun _ _ _ h => h) (Or.inl ⟨by rfl, fun w hSw => by clear hSw; go_simp⟩) hS ?_
  simp only [Act.put, List.setIfInBounds_toArray, List.set_cons_zero, List.set_cons_succ]
  refine wpAnyH_takeD 1 (some 5) (.string t) rfl rfl (by kernel_rfl) (by kernel_rfl) (by kernel_rfl) (fun _ _ _ h => h) (Or.inl ⟨by rfl, fun w hSw => by clear hSw; go_simp⟩) hS ?_
  simp only [Act.put, List.setIfInBounds_toArray, List.set_cons_zero, List.set_cons_succ]
  refine wpAnyH_ready (rs := [2]) (by kernel_rfl) (by simp) ?_
  refine AllReadyH.cons rfl (fun K hK => ?_) AllReadyH.nil
  simp only [List.getElem_toArray, List.getElem_cons_succ, List.getElem_cons_zero]
  go_simp
  refine (unhide HS _ (unhide HB1).drew).mono ?_
  rintro e y1 ⟨rfl, hb1⟩
  have hb2 : Below (g + 2) x1.drew y1 := hb1.mono (by show g + 2 ≤ x1.heap.size; exact Nat.le_of_eq (unhide HX1).symm)
  obtain ⟨y2, hC⟩ := cpy y1 g d hd ((unhide HA0).drew.below hb2 (by omega)) ((unhide HA1).drew.below hb2 (by omega))
  have hcp := hC.cp
  have HC := hide hC
  have HBE := hide (hC.be w ((unhide HB1).drew.trans (hb2.mono (by omega))))
  clear hC hb1 hb2 HS
  refine hK.out _ _ trivial (fun hS => ?_)
  clear hK K
  refine wpAnyH_ready (rs := [3]) (by kernel_rfl) (by simp) ?_
  refine AllReadyH.cons rfl (fun K hK => ?_) AllReadyH.nil
  simp only [List.getElem_toArray, List.getElem_cons_succ, List.getElem_cons_zero]
  go_simp
  refine hK.out _ _ trivial (fun hS => ?_)
  clear hK K
  refine wpAnyH_done (by kernel_rfl) ?_ _
  clear hcp
  have HR := hide (unhide HC).rg
  have HTH := hide (unhide HC).th
  have HLD := hide (unhide HC).ld
  clear HC
  go_wp2_with (first | refine wpList_load_mid rfl 46 (.tmp 3) rfl (g + 1) 0 rfl _ _ (unhide HR) Tryd.underlying46 rfl (by rw [szD, unhide HKL]) ?_ | refine wpList_store_mid rfl 46 (.tmp 2) (.tmp 8) rfl g 0 (dC d).toArray rfl rfl (by simpa [unhide HKL] using unhide HTH) (by rw [szD]; simp [unhide HKL]) (unhide HK1) ?_)
  refine bodyPost_ret (v := .agg (dC d).toArray) (results_cell rfl _ _ _ ⟨g, 0, none⟩ rfl _ (unhide HLD)) rfl ⟨rfl, unhide HBE⟩
/-- noughts -/
def zB : ByteArray := strOfNums (List.replicate 32 0)
theorem zB_size : zB.size = 32 := rfl
theorem zB_cells : dC zB = [.int .u8 0, .int .u8 0, .int .u8 0, .int .u8 0, .int .u8 0, .int .u8 0, .int .u8 0, .int .u8 0, .int .u8 0, .int .u8 0, .int .u8 0, .int .u8 0, .int .u8 0, .int .u8 0, .int .u8 0, .int .u8 0, .int .u8 0, .int .u8 0, .int .u8 0, .int .u8 0, .int .u8 0, .int .u8 0, .int .u8 0, .int .u8 0, .int .u8 0, .int .u8 0, .int .u8 0, .int .u8 0, .int .u8 0, .int .u8 0, .int .u8 0, .int .u8 0] := by
  unfold dC zB
  rw [nums_strOfNums _ (fun j => by rw [List.getD_eq_getElem?_getD, List.getElem?_replicate]; split <;> simp)]
  rfl
/-- what readDigest reads -/
def rdB (t : ByteArray) : ByteArray := if t.size = 32 then t else zB
theorem rdB_size (t : ByteArray) : (rdB t).size = 32 := by
  unfold rdB
  split
  · assumption
  · exact zB_size
set_option maxHeartbeats 1000000 in
theorem readDigest_any (t : ByteArray) (w : World) : Calls Tryd.prog 28 #[.string t] w fun e w' => e = .returned (.tuple #[.agg (dC (rdB t)).toArray, .bool (decide (t.size = 32))]) ∧ Below w.heap.size w w' := by
  obtain ⟨g, hg⟩ : ∃ g, w.heap.size = g := ⟨_, rfl⟩
  obtain ⟨x1, hx1⟩ : ∃ q, (w.alloc (.cells #[.int .u8 0, .int .u8 0, .int .u8 0, .int .u8 0, .int .u8 0, .int .u8 0, .int .u8 0, .int .u8 0, .int .u8 0, .int .u8 0, .int .u8 0, .int .u8 0, .int .u8 0, .int .u8 0, .int .u8 0, .int .u8 0, .int .u8 0, .int .u8 0, .int .u8 0, .int .u8 0, .int .u8 0, .int .u8 0, .int .u8 0, .int .u8 0, .int .u8 0, .int .u8 0, .int .u8 0, .int .u8 0, .int .u8 0, .int .u8 0, .int .u8 0, .int .u8 0] 46)).alloc (.cells #[.int .u8 0, .int .u8 0, .int .u8 0, .int .u8 0, .int .u8 0, .int .u8 0, .int .u8 0, .int .u8 0, .int .u8 0, .int .u8 0, .int .u8 0, .int .u8 0, .int .u8 0, .int .u8 0, .int .u8 0, .int .u8 0, .int .u8 0, .int .u8 0, .int .u8 0, .int .u8 0, .int .u8 0, .int .u8 0, .int .u8 0, .int .u8 0, .int .u8 0, .int .u8 0, .int .u8 0, .int .u8 0, .int .u8 0, .int .u8 0, .int .u8 0, .int .u8 0] 46) = q := ⟨_, rfl⟩
  have A0 : Arr x1 g 0 .u8 (List.replicate 32 0) := by rw [← hx1, ← hg]; exact (zD_new w).alloc (by simp) _
  have A1 : Arr x1 (g + 1) 0 .u8 (List.replicate 32 0) := by
    rw [← hx1]
    have := zD_new (w.alloc (.cells #[.int .u8 0, .int .u8 0, .int .u8 0, .int .u8 0, .int .u8 0, .int .u8 0, .int .u8 0, .int .u8 0, .int .u8 0, .int .u8 0, .int .u8 0, .int .u8 0, .int .u8 0, .int .u8 0, .int .u8 0, .int .u8 0, .int .u8 0, .int .u8 0, .int .u8 0, .int .u8 0, .int .u8 0, .int .u8 0, .int .u8 0, .int .u8 0, .int .u8 0, .int .u8 0, .int .u8 0, .int .u8 0, .int .u8 0, .int .u8 0, .int .u8 0, .int .u8 0] 46))
    rw [show (w.alloc (.cells #[.int .u8 0, .int .u8 0, .int .u8 0, .int .u8 0, .int .u8 0, .int .u8 0, .int .u8 0, .int .u8 0, .int .u8 0, .int .u8 0, .int .u8 0, .int .u8 0, .int .u8 0, .int .u8 0, .int .u8 0, .int .u8 0, .int .u8 0, .int .u8 0, .int .u8 0, .int .u8 0, .int .u8 0, .int .u8 0, .int .u8 0, .int .u8 0, .int .u8 0, .int .u8 0, .int .u8 0, .int .u8 0, .int .u8 0, .int .u8 0, .int .u8 0, .int .u8 0] 46)).heap.size = g + 1 by simp [hg]] at this
    exact this
  have hB1 : Below g w x1 := by rw [← hx1, ← hg]; exact ((Below.refl _ w).alloc (Nat.le_refl _) _).alloc (by simp) _
  by_cases h : t.size = 32
  · have h1 : ((t.size : Int) != 32) = false := by rw [h]; rfl
    rw [show rdB t = t from if_pos h, show decide (t.size = 32) = true from decide_eq_true h]
    obtain ⟨y2, hC⟩ := cpy x1 g t h A0 A1
    have hcp := hC.cp
    have HR := hide hC.rg
    have HTH := hide hC.th
    have HLD := hide hC.ld
    have HBE := hide (hC.be w hB1)
    have HKL := hide (dC_len t h)
    have HK1 := hide (dC_all t)
    generalize dC t = cd at *
    rw [hg]
    clear hC A0 A1 hB1 h
    go_enter Tryd.func28, Tryd.ntmps28
    go_wp2_with (first | refine wpList_load_mid rfl 46 (.tmp 4) rfl (g + 1) 0 rfl _ _ (unhide HR) Tryd.underlying46 rfl (by rw [szD, unhide HKL]) ?_ | refine wpList_store_mid rfl 46 (.tmp 2) (.tmp 12) rfl g 0 cd.toArray rfl rfl (by simpa [unhide HKL] using unhide HTH) (by rw [szD]; simp [unhide HKL]) (unhide HK1) ?_)
    refine bodyPost_ret (v := .tuple #[.agg cd.toArray, .bool true]) ?_ rfl ⟨rfl, unhide HBE⟩
    rw [results_cell_tmp rfl]
    simp [asAddr, unhide HLD, Result.andThen]
  · have h1 : ((t.size : Int) != 32) = true := by simp; omega
    rw [show rdB t = zB from if_neg h, show decide (t.size = 32) = false from decide_eq_false h]
    obtain ⟨e1, e2, e3⟩ := zst x1 g zB zB_size A0
    have HTH := hide e1
    have HLD := hide e2
    have HBE := hide (e3 w hB1)
    have HR := hide (show x1.rangeAt (g + 1) 0 (dC zB) from by rw [show dC zB = (List.replicate 32 (0 : Int)).map (Value.int .u8) from zB_cells.trans rfl]; exact A1.range)
    have HKL := hide (dC_len zB zB_size)
    have HK1 := hide (dC_all zB)
    generalize dC zB = cd at *
    rw [hg]
    clear A0 A1 hB1 h e1 e2 e3
    go_enter Tryd.func28, Tryd.ntmps28
    go_wp2_with (first | refine wpList_load_mid rfl 46 (.tmp 4) rfl (g + 1) 0 rfl _ _ (unhide HR) Tryd.underlying46 rfl (by rw [szD, unhide HKL]) ?_ | refine wpList_store_mid rfl 46 (.tmp 2) (.tmp 8) rfl g 0 cd.toArray rfl rfl (by simpa [unhide HKL] using unhide HTH) (by rw [szD]; simp [unhide HKL]) (unhide HK1) ?_)
    refine bodyPost_ret (v := .tuple #[.agg cd.toArray, .bool false]) ?_ rfl ⟨rfl, unhide HBE⟩
    rw [results_cell_tmp rfl]
    simp [asAddr, unhide HLD, Result.andThen]
set_option maxHeartbeats 1000000 in
theorem text_any (d : ByteArray) (hd : d.size = 32) (w : World) : Calls Tryd.prog 21 #[.agg (dC d).toArray] w fun e w' => e = .returned (.string d) ∧ Below w.heap.size w w' := by
  have A := dC_new w d
  have hcv := run_convert_bytes_arg (P := Tryd.prog) (w.alloc (.cells (dC d).toArray 46)) 67 5 Tryd.underlying67 Tryd.underlying5 w.heap.size 0 32 32 (nums d) (by rw [nums_len, hd]) (fun i hi => A.get i (by rw [nums_len, hd]; exact hi)) 9 Tryd.underlying9
  rw [show strOfNums (nums d) = d from strOfNums_nums d] at hcv
  have hsz : (dC d).toArray.size = 32 := by simpa using dC_len d hd
  clear A hd
  generalize (dC d).toArray = cd at *
  go_enter Tryd.func21, Tryd.ntmps21
  go_wp2
  go_ret
  exact ⟨rfl, (Below.refl _ _).alloc (Nat.le_refl _) _⟩
theorem leafText_any (s : ByteArray) (hs : s.size ≤ 140737488355000) (w : World) : Calls Tryd.prog 25 #[.string s] w fun e w' => e = .returned (.string (mk0 ++ s)) ∧ w' = w := by
  have h1 : (⟨#[0]⟩ : ByteArray).size = 1 := rfl
  go_enter Tryd.func25, Tryd.ntmps25
  go_wp2
  go_ret
  exact ⟨rfl, rfl⟩
set_option maxHeartbeats 1000000 in
theorem nodeText_any (a b : ByteArray) (ha : a.size = 32) (hb : b.size = 32) (w : World) : Calls Tryd.prog 40 #[.agg (dC a).toArray, .agg (dC b).toArray] w fun e w' => e = .returned (.string (mk1 ++ a ++ b)) ∧ Below w.heap.size w w' := by
  obtain ⟨g, hg⟩ : ∃ g, w.heap.size = g := ⟨_, rfl⟩
  obtain ⟨x1, hx1⟩ : ∃ q, (w.alloc (.cells (dC a).toArray 46)).alloc (.cells (dC b).toArray 46) = q := ⟨_, rfl⟩
  have HS0 := hide (show (x1.drew.rangeAt g 0 (dC a) ∧ x1.drew.rangeAt (g + 1) 0 (dC b) ∧ Below g w x1.drew ∧ g + 2 ≤ x1.drew.heap.size) from by
    have e1 : (w.alloc (.cells (dC a).toArray 46)).heap.size = g + 1 := by simp [hg]
    refine ⟨?_, ?_, ?_, ?_⟩
    · rw [← hx1, ← hg]; exact ((dC_new w a).alloc (by simp) _).range
    · have := dC_new (w.alloc (.cells (dC a).toArray 46)) b
      rw [e1, hx1] at this
      exact this.range
    · rw [← hx1, ← hg]; exact (((Below.refl _ w).alloc (Nat.le_refl _) _).alloc (by simp) _).drew
    · rw [← hx1]; show g + 2 ≤ ((w.alloc _).alloc _).heap.size; simp [hg])
  have HTa := hide (fun W => text_any a ha W)
  have HTb := hide (fun W => text_any b hb W)
  have HLa := hide (dC_len a ha)
  have HLb := hide (dC_len b hb)
  have hu1 : (⟨#[1]⟩ : ByteArray).size = 1 := rfl
  obtain ⟨u1, hu⟩ : ∃ q, (⟨#[1]⟩ : ByteArray) ++ a = q := ⟨_, rfl⟩
  have hsu : u1.size = 33 := by rw [← hu, ByteArray.size_append, ha]; rfl
  obtain ⟨u2, hv⟩ : ∃ q, u1 ++ b = q := ⟨_, rfl⟩
  rw [show mk1 ++ a ++ b = u2 from by rw [← hv, ← hu]; rfl]
  generalize dC a = ca at *
  generalize dC b = cb at *
  rw [hg]
  go_enter Tryd.func40, Tryd.ntmps40
  go_wp2_with fail
  refine wp_region_held_drew (S := fun W => W.rangeAt g 0 ca ∧ W.rangeAt (g + 1) 0 cb ∧ Below g w W ∧ g + 2 ≤ W.heap.size) (by kernel_rfl) (unhide HS0) ?_
  intro hS
  refine wpAnyH_takeD 0 (some 5) (.agg ca.toArray) rfl rfl (by kernel_rfl) (by kernel_rfl) (by kernel_rfl) (fun _ _ _ h => h) (yieldsIf_load_mid (by rfl) 46 (.tmp 2) rfl g 0 rfl _ _ (fun w hSw => hSw.1) Tryd.underlying46 rfl (by rw [szD, unhide HLa])) hS ?_
  simp only [Act.put, List.setIfInBounds_toArray, List.set_cons_zero, List.set_cons_succ]
  refine wpAnyH_takeD 3 (some 8) (.agg cb.toArray) rfl rfl (by kernel_rfl) (by kernel_rfl) (by kernel_rfl) (fun _ _ _ h => h) (yieldsIf_load_mid (by rfl) 46 (.tmp 3) rfl (g + 1) 0 rfl _ _ (fun w hSw => hSw.2.1) Tryd.underlying46 rfl (by rw [szD, unhide HLb])) hS ?_
  simp only [Act.put, List.setIfInBounds_toArray, List.set_cons_zero, List.set_cons_succ]
  refine wpAnyH_ready (rs := [1]) (by kernel_rfl) (by simp) ?_
  refine AllReadyH.cons rfl (fun K hK => ?_) AllReadyH.nil
  simp only [List.getElem_toArray, List.getElem_cons_succ, List.getElem_cons_zero]
  go_simp
  refine (unhide HTa _).mono ?_
  rintro e y1 ⟨rfl, hb⟩
  have hS9 : ((fun W => W.rangeAt g 0 ca ∧ W.rangeAt (g + 1) 0 cb ∧ Below g w W ∧ g + 2 ≤ W.heap.size) y1) := ⟨rangeAt_below hS.1 hb (by have := hS.2.2.2; omega), rangeAt_below hS.2.1 hb (by have := hS.2.2.2; omega), hS.2.2.1.trans (hb.mono (by have := hS.2.2.1.size; have := hS.2.2.2; omega)), by have := hb.size; have := hS.2.2.2; omega⟩
  clear hb
  refine hK.out _ _ hS9 (fun hS => ?_)
  clear hK K
  refine wpAnyH_takeD 2 (some 7) (.string u1) rfl rfl (by kernel_rfl) (by kernel_rfl) (by kernel_rfl) (fun _ _ _ h => h) (Or.inl ⟨by rfl, fun w hSw => by clear hSw; go_simp⟩) hS ?_
  simp only [Act.put, List.setIfInBounds_toArray, List.set_cons_zero, List.set_cons_succ]
  refine wpAnyH_ready (rs := [4]) (by kernel_rfl) (by simp) ?_
  refine AllReadyH.cons rfl (fun K hK => ?_) AllReadyH.nil
  simp only [List.getElem_toArray, List.getElem_cons_succ, List.getElem_cons_zero]
  go_simp
  refine (unhide HTb _).mono ?_
  rintro e y2 ⟨rfl, hb⟩
  have hS9 : ((fun W => W.rangeAt g 0 ca ∧ W.rangeAt (g + 1) 0 cb ∧ Below g w W ∧ g + 2 ≤ W.heap.size) y2) := ⟨rangeAt_below hS.1 hb (by have := hS.2.2.2; omega), rangeAt_below hS.2.1 hb (by have := hS.2.2.2; omega), hS.2.2.1.trans (hb.mono (by have := hS.2.2.1.size; have := hS.2.2.2; omega)), by have := hb.size; have := hS.2.2.2; omega⟩
  clear hb
  refine hK.out _ _ hS9 (fun hS => ?_)
  clear hK K
  refine wpAnyH_takeD 5 (some 10) (.string u2) rfl rfl (by kernel_rfl) (by kernel_rfl) (by kernel_rfl) (fun _ _ _ h => h) (Or.inl ⟨by rfl, fun w hSw => by clear hSw; go_simp⟩) hS ?_
  simp only [Act.put, List.setIfInBounds_toArray, List.set_cons_zero, List.set_cons_succ]
  refine wpAnyH_takeD 6 (some 4) (.string u2) rfl rfl (by kernel_rfl) (by kernel_rfl) (by kernel_rfl) (fun _ _ _ h => h) (Or.inl ⟨by rfl, fun w hSw => by clear hSw; go_simp⟩) hS ?_
  simp only [Act.put, List.setIfInBounds_toArray, List.set_cons_zero, List.set_cons_succ]
  refine wpAnyH_done (by kernel_rfl) ?_ _
  go_wp2
  go_ret
  exact ⟨rfl, hS.2.2.1⟩
set_option maxHeartbeats 1000000 in
theorem over_any (a b : ByteArray) (ha : a.size = 32) (hb : b.size = 32) (w : World) (hK : KTab w) : Calls Tryd.prog 24 #[.agg (dC a).toArray, .agg (dC b).toArray] w fun e w' => e = .returned (.agg (dC (ndB a b)).toArray) ∧ Below w.heap.size w w' := by
  obtain ⟨g, hg⟩ : ∃ g, w.heap.size = g := ⟨_, rfl⟩
  obtain ⟨x0, hx0⟩ : ∃ q, (w.alloc (.cells (dC a).toArray 46)).alloc (.cells (dC b).toArray 46) = q := ⟨_, rfl⟩
  obtain ⟨x1, hx1⟩ : ∃ q, x0.alloc (.cells #[.int .u8 0, .int .u8 0, .int .u8 0, .int .u8 0, .int .u8 0, .int .u8 0, .int .u8 0, .int .u8 0, .int .u8 0, .int .u8 0, .int .u8 0, .int .u8 0, .int .u8 0, .int .u8 0, .int .u8 0, .int .u8 0, .int .u8 0, .int .u8 0, .int .u8 0, .int .u8 0, .int .u8 0, .int .u8 0, .int .u8 0, .int .u8 0, .int .u8 0, .int .u8 0, .int .u8 0, .int .u8 0, .int .u8 0, .int .u8 0, .int .u8 0, .int .u8 0] 46) = q := ⟨_, rfl⟩
  have e0 : x0.heap.size = g + 2 := by rw [← hx0]; simp [hg]
  have e1 : (w.alloc (.cells (dC a).toArray 46)).heap.size = g + 1 := by simp [hg]
  have e2 : x1.heap.size = g + 3 := by rw [← hx1]; simp [e0]
  have a1 := (dC_new w a).alloc (by simp) (.cells (dC b).toArray 46)
  rw [hx0, hg] at a1
  have a2 := dC_new (w.alloc (.cells (dC a).toArray 46)) b
  rw [e1, hx0] at a2
  have a3 := zD_new x0
  rw [e0, hx1] at a3
  have HR1 := hide (show x1.rangeAt g 0 (dC a) from by rw [← hx1]; exact (a1.alloc (by omega) _).range)
  have HR2 := hide (show x1.rangeAt (g + 1) 0 (dC b) from by rw [← hx1]; exact (a2.alloc (by omega) _).range)
  have HA3 := hide a3
  have HB1 := hide (show Below g w x1 from by rw [← hx1, ← hx0, ← hg]; exact (((Below.refl _ w).alloc (Nat.le_refl _) _).alloc (by simp) _).alloc (by simp; omega) _)
  have HN := hide (fun W => nodeText_any a b ha hb W)
  have hsz : (mk1 ++ a ++ b).size < 2305843009213693952 := by simp only [ByteArray.size_append, mk1_size, ha, hb]; omega
  have HSU := hide (fun W (h : Below g w W) => sumOf_any (mk1 ++ a ++ b) W (hK.below h (by rw [← hg]; exact hK.1)) hsz)
  have hnd : dg (mk1 ++ a ++ b) = ndB a b := rfl
  rw [hnd] at HSU
  have hns := ndB_size a b
  have HLa := hide (dC_len a ha)
  have HLb := hide (dC_len b hb)
  have HLn := hide (dC_len _ hns)
  have HK1 := hide (dC_all (ndB a b))
  have HZ := hide (fun y (h : Arr y (g + 2) 0 .u8 (List.replicate 32 0)) => zst y (g + 2) (ndB a b) hns h)
  generalize dC (ndB a b) = cn at *
  generalize dC a = ca at *
  generalize dC b = cb at *
  generalize mk1 ++ a ++ b = u at *
  rw [hg]
  have HE2 := hide e2
  clear a1 a2 a3 hK hnd hns hsz e1 e2
  go_enter Tryd.func24, Tryd.ntmps24
  go_wp2_with (first | refine wpList_load_mid rfl 46 (.tmp 2) rfl g 0 rfl _ _ (unhide HR1) Tryd.underlying46 rfl (by rw [szD, unhide HLa]) ?_ | refine wpList_load_mid rfl 46 (.tmp 3) rfl (g + 1) 0 rfl _ _ (unhide HR2) Tryd.underlying46 rfl (by rw [szD, unhide HLb]) ?_ | fail)
  refine (unhide HN _).mono ?_
  rintro e y1 ⟨rfl, hb1⟩
  have hb1' : Below g w y1 := (unhide HB1).trans (hb1.mono (by rw [unhide HE2]; omega))
  have HC1 := hide hb1'
  have HD1 := hide (show g + 3 ≤ y1.heap.size from by have := hb1.size; rw [unhide HE2] at this; omega)
  have HA4 := hide ((unhide HA3).below hb1 (by rw [unhide HE2]; omega))
  clear hb1 hb1' HA3
  go_wp2_with fail
  refine (unhide HSU _ (unhide HC1)).mono ?_
  rintro e y2 ⟨rfl, hb2⟩
  obtain ⟨q1, q2, q3⟩ := unhide HZ y2 ((unhide HA4).below hb2 (by have := unhide HD1; omega))
  have HTH := hide q1
  have HLD := hide q2
  have HBE := hide (show Below g w (y2.setCells (g + 2) 0 cn) from below_setCells (by omega) _ _ ((unhide HC1).trans (hb2.mono (by have := unhide HD1; omega))))
  clear q1 q2 q3 hb2
  go_wp2_with (refine wpList_store_mid rfl 46 (.tmp 4) (.tmp 8) rfl (g + 2) 0 cn.toArray rfl rfl (by simpa [unhide HLn] using unhide HTH) (by rw [szD]; simp [unhide HLn]) (unhide HK1) ?_)
  refine bodyPost_ret (v := .agg cn.toArray) (results_cell rfl _ _ _ ⟨g + 2, 0, none⟩ rfl _ (unhide HLD)) rfl ⟨rfl, unhide HBE⟩
end Go.Proofs.YtilhilglokblpaaDoor
