import Derived.Test.YtnfcnpolflfpfaaGreatDoorMr26
import Derived.Laws.Tables
import Derived.Maps.StringElems
import Derived.Maps.Ext
import Derived.Lib.SlKeysI
import Derived.Test.YtnfcnpolflfpfaaGreatDoorMr00
namespace Go.Proofs.YtnfcnpolflfpfaaGreatDoor
open Go.RowKit
theorem ent_all (e : En) : (enC e).toArray.all (·.oneCell') = true := all_oneCell_toArray (eC_one _ _)
theorem blk_there {W : World} {g : Nat} {cur : Array Value} {T : TypeId} (h : Blk W g cur T) (n : Nat) (hn : n = cur.size) : W.there g 0 n := fun j hj => ⟨by rw [h.cell, Nat.zero_add]; simp; omega, h.frozen _⟩
theorem setCells_blk : ∀ (vs pre post : List Value) {w : World} {b : Nat} {cur : Array Value} {T : TypeId} (_ : Blk w b cur T) (mid : List Value) (_ : mid.length = vs.length) (_ : cur = (pre ++ mid ++ post).toArray), Blk (w.setCells b pre.length vs) b (pre ++ vs ++ post).toArray T
  | [], pre, post, w, b, cur, T, h, mid, hm, hc => by
    have : mid = [] := List.length_eq_zero_iff.1 hm
    subst this
    rw [World.setCells, ← hc]
    exact h
  | v :: r, pre, post, w, b, cur, T, h, mid, hm, hc => by
    cases mid with
    | nil => simp at hm
    | cons x m =>
      rw [World.setCells]
      have h1 := h.set pre.length v
      have e1 : cur.setIfInBounds pre.length v = ((pre ++ [v]) ++ m ++ post).toArray := by
        rw [hc]
        apply Array.ext'
        simp
      have := setCells_blk r (pre ++ [v]) post h1 m (by simpa using hm) e1
      simpa using this
set_option maxRecDepth 100000 in
set_option maxHeartbeats 2000000 in
theorem entryOf_none (hRep : RepOk) (w : World) : Calls Tryz.prog 121 #[.string (slB none)] w fun ev w' => ev = .returned (.tuple #[.agg (enC none).toArray, .bool true]) ∧ Below w.heap.size w w' := by
  have HE := hide enC_none
  have HS := hide (fun W => slotOf_none hRep (enD none) (enD_size none (fun _ _ h => by cases h)) W)
  rw [show (eC (enD none) 0).toArray = (enC none).toArray from rfl, enC_none] at HS
  obtain ⟨g, hg⟩ : ∃ g, w.heap.size = g := ⟨_, rfl⟩
  obtain ⟨x1, hx1⟩ : ∃ q, w.alloc (.cells #[.int .u8 0, .int .u8 0, .int .u8 0, .int .u8 0, .int .u8 0, .int .u8 0, .int .u8 0, .int .u8 0, .int .u8 0, .int .u8 0, .int .u8 0, .int .u8 0, .int .u8 0, .int .u8 0, .int .u8 0, .int .u8 0, .int .u8 0, .int .u8 0, .int .u8 0, .int .u8 0, .int .u8 0, .int .u8 0, .int .u8 0, .int .u8 0, .int .u8 0, .int .u8 0, .int .u8 0, .int .u8 0, .int .u8 0, .int .u8 0, .int .u8 0, .int .u8 0, .int .i64 0] 157) = q := ⟨_, rfl⟩
  have B1 := hide (show Blk x1 g #[.int .u8 0, .int .u8 0, .int .u8 0, .int .u8 0, .int .u8 0, .int .u8 0, .int .u8 0, .int .u8 0, .int .u8 0, .int .u8 0, .int .u8 0, .int .u8 0, .int .u8 0, .int .u8 0, .int .u8 0, .int .u8 0, .int .u8 0, .int .u8 0, .int .u8 0, .int .u8 0, .int .u8 0, .int .u8 0, .int .u8 0, .int .u8 0, .int .u8 0, .int .u8 0, .int .u8 0, .int .u8 0, .int .u8 0, .int .u8 0, .int .u8 0, .int .u8 0, .int .i64 0] 157 ∧ Below g w x1 ∧ x1.heap.size = g + 1 from ⟨by rw [← hx1, ← hg]; exact Blk.new w _ _, by rw [← hx1, ← hg]; exact (Below.refl _ w).alloc (Nat.le_refl _) _, by rw [← hx1, ← hg]; simp⟩)
  generalize slB none = s at *
  rw [hg]
  go_enter Tryz.func121, Tryz.ntmps121
  go_wp2_with fail
  refine (unhide HS _).mono ?_
  rintro e x2 ⟨rfl, hb2⟩
  have hgl : g < x1.heap.size := by have := (unhide B1).2.2; omega
  have B2 : Blk x2 g (enC none).toArray 157 := by rw [unhide HE]; exact (unhide B1).1.below hb2 hgl
  have X2 := hide (show Blk x2 g (enC none).toArray 157 ∧ Below g w x2 from ⟨B2, (unhide B1).2.1.trans (hb2.mono (by omega))⟩)
  have HTH := hide (blk_there B2 (enC none).toArray.size rfl)
  have HL := hide (enC_len none (fun _ _ h => by cases h))
  clear hb2 B1 hgl B2 HS hx1
  go_wp2_with (refine wpList_store_mid rfl 157 (.tmp 2) (.tmp 13) rfl g 0 (enC none).toArray rfl (by rw [unhide HE]; rfl) (unhide HTH) (by rw [sizeEnt]; simp [unhide HL]) (ent_all none) ?_)
  have B3 := setCells_blk (enC none) [] [] (unhide X2).1 (enC none) rfl (by simp)
  rw [List.nil_append, List.append_nil] at B3
  have hld := iload_blk 157 _ B3 Tryz.underlying157 rfl (by rw [sizeEnt]; simp [unhide HL])
  refine bodyPost_ret (v := .tuple #[.agg (enC none).toArray, .bool true]) (results_cell2 (p := 2) (q := 3) (ty := 157) rfl _ _ _ ⟨g, 0, none⟩ rfl _ hld) rfl ⟨rfl, below_setCells (Nat.le_refl _) _ _ (unhide X2).2⟩
end Go.Proofs.YtnfcnpolflfpfaaGreatDoor

namespace Go.Proofs.YtnfcnpolflfpfaaGreatDoor
open Go.RowKit
theorem wpList_built2 {ops : Array Oper} {rest : List Oper} {op : Oper} {a : Act} {w : World} {Q : Exit → Act → World → Prop} (hg : op.guard = none) (t : TypeId) (x y : Operand) (ho : op.op = .build t #[(0, x), (1, y)]) (cells : Array Value) (vx vy : Value) (hx : a.eval x = vx) (hy : a.eval y = vy)
    (hb : Tryz.prog.built t [(0, vx), (1, vy)] = some cells) (h : wpList Tryz.prog ops Q rest (a.put op.dst (.agg cells)) w) : wpList Tryz.prog ops Q (op :: rest) a w :=
  wpList_plain hg fun _ hK => by
    have e : ((#[(0, x), (1, y)] : Array (Nat × Operand)).map fun (i, x) => (i, a.eval x)).toList = [(0, vx), (1, vy)] := by simp [hx, hy]
    exact wp_build t _ ho (by rw [e, hb]; rfl) (by rw [e, hb]; exact hK _ _ h)
theorem blk_cells_other : ∀ (vs : List Value) (o : Nat) {w : World} {b : Nat} {cur : Array Value} {T : TypeId} (_ : Blk w b cur T) (b' : Nat) (_ : b' ≠ b), Blk (w.setCells b' o vs) b cur T
  | [], _, _, _, _, _, h, _, _ => h
  | v :: r, o, w, b, cur, T, h, b', hb => by
    rw [World.setCells]
    exact blk_cells_other r (o + 1) (h.other _ v hb) b' hb
theorem raw_step (d : ByteArray) (hd : d.size = 32) (L : List Int) (hL : Bytes L) (t : Int) :
    rawE 32 (strOfNums (nums d ++ L)) = 0 ∧ rawV 32 (strOfNums (nums d ++ L)) = d ∧ stepR ⟨strOfNums (nums d ++ L), t, 0⟩ (rawE 32 (strOfNums (nums d ++ L))) ((32 : Int).toNat) = ⟨strOfNums L, t + 32, 0⟩ := by
  have hb : Bytes (nums d ++ L) := bytes_app (nums_bytes d) hL
  have hn : nums (strOfNums (nums d ++ L)) = nums d ++ L := nums_strOfNums _ hb
  have hl : (nums d).length = 32 := by rw [nums_len, hd]
  have hs : (strOfNums (nums d ++ L)).size = 32 + L.length := by rw [strOfNums_size, List.length_append, hl]
  have hE : rawE 32 (strOfNums (nums d ++ L)) = 0 := by rw [rawE, if_neg (by omega), if_neg (by omega)]
  refine ⟨hE, ?_, ?_⟩
  · rw [rawV, if_pos hE]
    apply nums_inj
    rw [nums_extract, hn, List.drop_zero]
    exact List.take_left' hl
  · unfold stepR
    rw [hE]
    simp only [if_true, rRest, rTak]
    congr 1
    apply nums_inj
    rw [nums_tail, hn, nums_strOfNums L hL]
    exact List.drop_left' hl
set_option maxRecDepth 100000 in
set_option maxHeartbeats 4000000 in
theorem entryOf_some (hRep : RepOk) (d : ByteArray) (hd : d.size = 32) (c : Nat) (h1 : 1 ≤ c) (h2 : c ≤ 65535) (w : World) (hE : ETy w) : Calls Tryz.prog 121 #[.string (slB (some (d, c)))] w fun ev w' => ev = .returned (.tuple #[.agg (eC d (c : Int)).toArray, .bool true]) ∧ Below w.heap.size w w' := by
  have HE := hide enC_none
  have HS := hide (fun W => slotOf_none hRep (enD none) (enD_size none (fun _ _ h => by cases h)) W)
  rw [show (eC (enD none) 0).toArray = (enC none).toArray from rfl, enC_none] at HS
  obtain ⟨g, hg⟩ : ∃ g, w.heap.size = g := ⟨_, rfl⟩
  obtain ⟨x1, hx1⟩ : ∃ q, w.alloc (.cells #[.int .u8 0, .int .u8 0, .int .u8 0, .int .u8 0, .int .u8 0, .int .u8 0, .int .u8 0, .int .u8 0, .int .u8 0, .int .u8 0, .int .u8 0, .int .u8 0, .int .u8 0, .int .u8 0, .int .u8 0, .int .u8 0, .int .u8 0, .int .u8 0, .int .u8 0, .int .u8 0, .int .u8 0, .int .u8 0, .int .u8 0, .int .u8 0, .int .u8 0, .int .u8 0, .int .u8 0, .int .u8 0, .int .u8 0, .int .u8 0, .int .u8 0, .int .u8 0, .int .i64 0] 157) = q := ⟨_, rfl⟩
  have B1 := hide (show Blk x1 g #[.int .u8 0, .int .u8 0, .int .u8 0, .int .u8 0, .int .u8 0, .int .u8 0, .int .u8 0, .int .u8 0, .int .u8 0, .int .u8 0, .int .u8 0, .int .u8 0, .int .u8 0, .int .u8 0, .int .u8 0, .int .u8 0, .int .u8 0, .int .u8 0, .int .u8 0, .int .u8 0, .int .u8 0, .int .u8 0, .int .u8 0, .int .u8 0, .int .u8 0, .int .u8 0, .int .u8 0, .int .u8 0, .int .u8 0, .int .u8 0, .int .u8 0, .int .u8 0, .int .i64 0] 157 ∧ Below g w x1 ∧ x1.heap.size = g + 1 from ⟨by rw [← hx1, ← hg]; exact Blk.new w _ _, by rw [← hx1, ← hg]; exact (Below.refl _ w).alloc (Nat.le_refl _) _, by rw [← hx1, ← hg]; simp⟩)
  have hsn := str_ne (slB_ne d c)
  have HSB := hide (show slB (some (d, c)) = strOfNums (numB 1 1 ++ (nums d ++ numB (c : Int) 4)) by rw [numB_1]; rfl)
  have HQ := hide (And.intro hd (And.intro h1 (And.intro h2 hE)))
  have HFG := hide hg
  clear hd h1 h2 hE
  generalize slB (some (d, c)) = s at *
  generalize slB none = s0 at *
  rw [hg]
  go_enter Tryz.func121, Tryz.ntmps121
  go_wp2_with fail
  refine (unhide HS _).mono ?_
  rintro e x2 ⟨rfl, hb2⟩
  have hgl : g < x1.heap.size := by have := (unhide B1).2.2; omega
  have B2 : Blk x2 g (enC none).toArray 157 := by rw [unhide HE]; exact (unhide B1).1.below hb2 hgl
  have X2 := hide (show Blk x2 g (enC none).toArray 157 ∧ Below g w x2 ∧ g < x2.heap.size from ⟨B2, (unhide B1).2.1.trans (hb2.mono (by omega)), Nat.lt_of_lt_of_le hgl hb2.size⟩)
  clear hb2 B1 hgl B2 HS hx1
  go_wp2_with fail
  refine (newReader_any s _).mono ?_
  rintro e x3 ⟨rfl, hR3, hb3, hs3⟩
  have hgx := (unhide X2).2.2
  obtain ⟨b, hb⟩ : ∃ b, x2.heap.size = b := ⟨_, rfl⟩
  have HB := hide hb
  have X3 := hide (show Blk x3 g (enC none).toArray 157 ∧ Below g w x3 ∧ g < b ∧ b < x3.heap.size from ⟨(unhide X2).1.below hb3 hgx, (unhide X2).2.1.trans (hb3.mono (by omega)), by omega, by omega⟩)
  have hty3 : ETy x3 := (unhide HQ).2.2.2.below (unhide X3).2.1 (by rw [← unhide HFG]; exact (unhide HQ).2.2.2.lt)
  have R3 : Rds x3 b ⟨strOfNums (numB 1 1 ++ (nums d ++ numB (c : Int) 4)), 0, 0⟩ := by rw [← unhide HSB, ← hb]; exact hR3
  have HN1 := hide (rnumK R3 hty3 (by decide) (by decide) ((fits1 1).2 (by omega)) (by omega) (bytes_app (nums_bytes d) (numB_bytes _ 4)) (by omega) (by simp [nums_len, (unhide HQ).1, numB_len]) 1 rfl 1 rfl)
  have HR3 := hide hty3
  rw [hb]
  clear hR3 hb3 hs3 X2 hb hgx R3 hty3
  go_wp2_with fail
  refine (unhide HN1).mono ?_
  rintro e x4 ⟨rfl, hR4, hO4⟩
  have B4 : Blk x4 g (enC none).toArray 157 := (unhide X3).1.only hO4 (by have := (unhide X3).2.2.1; omega)
  have hbl4 : Below g w x4 := (unhide X3).2.1.trans (hO4.below (by have := (unhide X3).2.2; omega) (fun k hk q => by have := (unhide X3).2.2; omega))
  have hty4 : ETy x4 := (unhide HQ).2.2.2.below hbl4 (by rw [← unhide HFG]; exact (unhide HQ).2.2.2.lt)
  obtain ⟨r1, r2, r3⟩ := raw_step d (unhide HQ).1 (numB (c : Int) 4) (numB_bytes _ 4) 1
  have hrw := rawS x4 b _ hR4 hty4 ⟨by show (0 : Int) ≤ 1; decide, by show (1 : Int) + (((strOfNums (nums d ++ numB (c : Int) 4)).size : Nat) : Int) ≤ _; rw [strOfNums_size, List.length_append, nums_len, (unhide HQ).1, numB_len]; decide⟩ 32
  rw [r3] at hrw
  simp only [if_true, r2] at hrw
  have HRW := hide hrw
  have X4 := hide (show Blk x4 g (enC none).toArray 157 ∧ Below g w x4 ∧ b < x4.heap.size from ⟨B4, hbl4, Nat.lt_of_lt_of_le (unhide X3).2.2.2 hO4.size⟩)
  have HGB := hide (unhide X3).2.2.1
  clear hR4 hO4 B4 hbl4 hty4 r1 r2 r3 hrw X3 HN1 HR3
  go_wp2_with fail
  refine (unhide HRW).mono ?_
  rintro e x5 ⟨rfl, hR5, hO5⟩
  have X5 := hide (show Blk x5 g (enC none).toArray 157 ∧ Below g w x5 ∧ b < x5.heap.size from ⟨(unhide X4).1.only hO5 (by have := unhide HGB; omega), (unhide X4).2.1.trans (hO5.below (by have := (unhide X4).2.2; have := unhide HGB; omega) (fun k hk q => by have := unhide HGB; omega)), Nat.lt_of_lt_of_le (unhide X4).2.2 hO5.size⟩)
  have HK := hide (fun W => keyOf_any d (unhide HQ).1 W)
  have HR5 := hide hR5
  clear hR5 hO5 X4 HRW
  go_wp2_with fail
  refine (unhide HK _).mono ?_
  rintro e x6 ⟨rfl, hb6⟩
  have hbx := (unhide X5).2.2
  have R6 : Rds x6 b ⟨strOfNums (numB (c : Int) 4 ++ []), 33, 0⟩ := by rw [List.append_nil]; exact (unhide HR5).only (Only.of_below (P := fun _ => False) hb6) (fun q => q)
  have X6 := hide (show Blk x6 g (enC none).toArray 157 ∧ Below g w x6 ∧ b < x6.heap.size from ⟨(unhide X5).1.below hb6 (by have := unhide HGB; omega), (unhide X5).2.1.trans (hb6.mono (by have := unhide HGB; omega)), Nat.lt_of_lt_of_le (unhide X5).2.2 hb6.size⟩)
  have hty6 : ETy x6 := (unhide HQ).2.2.2.below (unhide X6).2.1 (by rw [← unhide HFG]; exact (unhide HQ).2.2.2.lt)
  have HN2 := hide (rnumK R6 hty6 (by decide) (by decide) (fits4c c (unhide HQ).2.2.1) (by have := (unhide HQ).2.2.1; omega) (fun j => by simp) (by omega) (by simp) 4 rfl 37 rfl)
  clear hb6 hbx R6 hty6 X5 HR5 HK
  go_wp2_with fail
  refine (unhide HN2).mono ?_
  rintro e x7 ⟨rfl, hR7, hO7⟩
  have X7 := hide (show Blk x7 g (enC none).toArray 157 ∧ Below g w x7 ∧ b < x7.heap.size from ⟨(unhide X6).1.only hO7 (by have := unhide HGB; omega), (unhide X6).2.1.trans (hO7.below (by have := (unhide X6).2.2; have := unhide HGB; omega) (fun k hk q => by have := unhide HGB; omega)), Nat.lt_of_lt_of_le (unhide X6).2.2 hO7.size⟩)
  have HR7 := hide hR7
  have HEL := hide (eC_len d (unhide HQ).1 (c : Int))
  have HE1 := hide (all_oneCell_toArray (eC_one d (c : Int)))
  have HBU := hide (built_ent (kC d) (kC_len d (unhide HQ).1) (c : Int))
  obtain ⟨h, hh⟩ : ∃ q, x7.heap.size = q := ⟨_, rfl⟩
  have BZ : Blk (x7.alloc (.cells #[.int .u8 0, .int .u8 0, .int .u8 0, .int .u8 0, .int .u8 0, .int .u8 0, .int .u8 0, .int .u8 0, .int .u8 0, .int .u8 0, .int .u8 0, .int .u8 0, .int .u8 0, .int .u8 0, .int .u8 0, .int .u8 0, .int .u8 0, .int .u8 0, .int .u8 0, .int .u8 0, .int .u8 0, .int .u8 0, .int .u8 0, .int .u8 0, .int .u8 0, .int .u8 0, .int .u8 0, .int .u8 0, .int .u8 0, .int .u8 0, .int .u8 0, .int .u8 0, .int .i64 0] 157)) h #[.int .u8 0, .int .u8 0, .int .u8 0, .int .u8 0, .int .u8 0, .int .u8 0, .int .u8 0, .int .u8 0, .int .u8 0, .int .u8 0, .int .u8 0, .int .u8 0, .int .u8 0, .int .u8 0, .int .u8 0, .int .u8 0, .int .u8 0, .int .u8 0, .int .u8 0, .int .u8 0, .int .u8 0, .int .u8 0, .int .u8 0, .int .u8 0, .int .u8 0, .int .u8 0, .int .u8 0, .int .u8 0, .int .u8 0, .int .u8 0, .int .u8 0, .int .u8 0, .int .i64 0] 157 := by rw [← hh]; exact Blk.new x7 _ _
  have HTZ := hide (blk_there BZ 33 rfl)
  have HBZ := hide BZ
  have HH := hide hh
  clear hR7 hO7 X6 HN2 BZ
  go_wp2_with (first | refine wpList_built2 rfl 157 (.tmp 21) (.tmp 23) rfl (eC d (c : Int)).toArray _ _ rfl rfl (unhide HBU) ?_ | refine wpList_store_mid rfl 157 (.tmp 6) (.tmp 24) rfl h 0 (eC d (c : Int)).toArray rfl rfl (by rw [List.size_toArray, unhide HEL]; exact unhide HTZ) (by rw [sizeEnt, List.size_toArray, unhide HEL]) (unhide HE1) ?_)
  obtain ⟨x8, hx8⟩ : ∃ q, (x7.alloc (.cells #[.int .u8 0, .int .u8 0, .int .u8 0, .int .u8 0, .int .u8 0, .int .u8 0, .int .u8 0, .int .u8 0, .int .u8 0, .int .u8 0, .int .u8 0, .int .u8 0, .int .u8 0, .int .u8 0, .int .u8 0, .int .u8 0, .int .u8 0, .int .u8 0, .int .u8 0, .int .u8 0, .int .u8 0, .int .u8 0, .int .u8 0, .int .u8 0, .int .u8 0, .int .u8 0, .int .u8 0, .int .u8 0, .int .u8 0, .int .u8 0, .int .u8 0, .int .u8 0, .int .i64 0] 157)).setCells h 0 (eC d (c : Int)) = q := ⟨_, rfl⟩
  have hgb := unhide HGB
  have hbx7 := (unhide X7).2.2
  have hhb : b < h := by rw [← unhide HH]; exact hbx7
  have B8 : Blk x8 h (eC d (c : Int)).toArray 157 := by
    rw [← hx8]
    have := setCells_blk (eC d (c : Int)) [] [] (unhide HBZ) (#[.int .u8 0, .int .u8 0, .int .u8 0, .int .u8 0, .int .u8 0, .int .u8 0, .int .u8 0, .int .u8 0, .int .u8 0, .int .u8 0, .int .u8 0, .int .u8 0, .int .u8 0, .int .u8 0, .int .u8 0, .int .u8 0, .int .u8 0, .int .u8 0, .int .u8 0, .int .u8 0, .int .u8 0, .int .u8 0, .int .u8 0, .int .u8 0, .int .u8 0, .int .u8 0, .int .u8 0, .int .u8 0, .int .u8 0, .int .u8 0, .int .u8 0, .int .u8 0, .int .i64 0] : Array Value).toList (by rw [unhide HEL]; rfl) (by simp)
    simpa using this
  have G8 : Blk x8 g (enC none).toArray 157 := by rw [← hx8]; exact blk_cells_other _ _ ((unhide X7).1.alloc _) h (by omega)
  have R8 : Rdr x8 b (strOfNums []) 37 0 := by rw [← hx8]; exact blk_cells_other _ _ (Blk.alloc (unhide HR7) _) h (by omega)
  have L8 : Below g w x8 := by rw [← hx8]; exact below_setCells (by omega) _ _ ((unhide X7).2.1.alloc (by omega) _)
  have HDN := hide (rdone_any x8 b _ 37 0 R8)
  rw [show doneE (strOfNums []) 0 = 0 by rfl] at HDN
  have hgx8 := G8.lt
  have X8 := hide (And.intro B8 (And.intro G8 L8))
  have HLT := hide (And.intro B8.lt hgx8)
  clear hgb hbx7 B8 G8 R8 L8 hgx8 HR7 X7 HBZ HTZ HE1 HBU hhb
  refine Calls.mono (show Calls Tryz.prog 181 _ _ _ from by rw [← hx8] at HDN; exact unhide HDN) ?_
  rintro e x9 ⟨rfl, hb9⟩
  rw [hx8] at hb9
  have hl1 := (unhide HLT).1
  have hl2 := (unhide HLT).2
  have B9 : Blk x9 h (eC d (c : Int)).toArray 157 := (unhide X8).1.below hb9 hl1
  have G9 : Blk x9 g (enC none).toArray 157 := (unhide X8).2.1.below hb9 hl2
  have c9 := (blk_ent (unhide HQ).1 B9).2.2.1
  have HR9 := hide (blk_ent (unhide HQ).1 B9).2.1
  have HT9 := hide (blk_there G9 33 (by rw [List.size_toArray, enC_len none (fun _ _ h => by cases h)]))
  have X9 := hide (And.intro G9 ((unhide X8).2.2.trans (hb9.mono (by omega))))
  have HTI := hide (fun W => iisTimes_any (c : Int) W)
  rw [decide_eq_true (show (1 : Int) ≤ (c : Int) by have := (unhide HQ).2.1; omega), decide_eq_true (show (c : Int) ≤ 65535 by have := (unhide HQ).2.2.1; omega)] at HTI
  have HE1 := hide (all_oneCell_toArray (eC_one d (c : Int)))
  clear hb9 hl1 hl2 B9 G9 HLT X8 HDN hx8 hh
  go_wp2_with (first | (go_at_call 88; refine (unhide HTI _).mono ?_; rintro e w' ⟨rfl, hw'⟩; subst w') | refine wpList_load_mid rfl 157 (.tmp 6) rfl h 0 rfl _ _ (unhide HR9) Tryz.underlying157 rfl (by rw [sizeEnt, unhide HEL]) ?_ | refine wpList_store_mid rfl 157 (.tmp 2) (.tmp 43) rfl g 0 (eC d (c : Int)).toArray rfl rfl (by rw [List.size_toArray, unhide HEL]; exact unhide HT9) (by rw [sizeEnt, List.size_toArray, unhide HEL]) (unhide HE1) ?_)
  have B3 := setCells_blk (eC d (c : Int)) [] [] (unhide X9).1 (enC none) (by rw [unhide HEL, enC_len none (fun _ _ h => by cases h)]) (by simp)
  rw [List.nil_append, List.append_nil] at B3
  have hld := iload_blk 157 _ B3 Tryz.underlying157 rfl (by rw [sizeEnt]; simp [unhide HEL])
  refine bodyPost_ret (v := .tuple #[.agg (eC d (c : Int)).toArray, .bool true]) (results_cell2 (p := 2) (q := 3) (ty := 157) rfl _ _ _ ⟨g, 0, none⟩ rfl _ hld) rfl ⟨rfl, below_setCells (Nat.le_refl _) _ _ (unhide X9).2⟩
theorem entryOf_any (hRep : RepOk) (e : En) (he : EnOk e) (w : World) (hE : ETy w) : Calls Tryz.prog 121 #[.string (slB e)] w fun ev w' => ev = .returned (.tuple #[.agg (enC e).toArray, .bool true]) ∧ Below w.heap.size w w' := by
  cases e with
  | none => exact entryOf_none hRep w
  | some p =>
    obtain ⟨q1, q2, q3⟩ := he p.1 p.2 rfl
    exact entryOf_some hRep p.1 q1 p.2 q2 q3 w hE
theorem slotOf_any (hRep : RepOk) (e : En) (he : EnOk e) (w : World) : Calls Tryz.prog 151 #[.agg (enC e).toArray] w fun ev w' => ev = .returned (.string (slB e)) ∧ Below w.heap.size w w' := by
  cases e with
  | none => exact slotOf_none hRep _ (enD_size none he) w
  | some p =>
    obtain ⟨q1, q2, q3⟩ := he p.1 p.2 rfl
    exact slotOf_some p.1 q1 p.2 q2 q3 w
end Go.Proofs.YtnfcnpolflfpfaaGreatDoor

namespace Go.Proofs.YtnfcnpolflfpfaaGreatDoor
open Go.RowKit Go.Maps
/-- What a map from numbers to texts holds, by rising numbers. -/
abbrev Tx := List (Int × ByteArray)
def litS (s : ByteArray) : DataW Unit := .lit (.string s.data.toList)
def txE (l : Tx) : List (Lit × DataW Unit) := l.map fun p => (Lit.int .i64 p.1, litS p.2)
def txD (l : Tx) : DataW Unit := .map (txE l)
def txIns (k : Int) (s : ByteArray) : Tx → Tx
  | [] => [(k, s)]
  | p :: r => if k < p.1 then (k, s) :: p :: r else p :: txIns k s r
def txDel (k : Int) (l : Tx) : Tx := l.filter fun p => !(p.1 == k)
def txPut (k : Int) (s : ByteArray) (l : Tx) : Tx := txIns k s (txDel k l)
def txAt (l : Tx) (k : Int) : Option ByteArray := (l.find? fun p => p.1 == k).map (·.2)
def Srt (l : Tx) : Prop := l.Pairwise fun p q => p.1 < q.1
def txWf (l : Tx) : Prop := ∀ p ∈ l, -9223372036854775808 ≤ p.1 ∧ p.1 ≤ 9223372036854775807
theorem sameInt (a b : Int) : (Lit.int .i64 a).sameKey (.int .i64 b) = (a == b) := by
  by_cases h : a = b <;> simp [Lit.sameKey, h]
theorem txE_ins (k : Int) (s : ByteArray) (l : Tx) : DataW.insert (Lit.int .i64 k, litS s) (txE l) = txE (txIns k s l) := by
  induction l with
  | nil => rfl
  | cons p r ih =>
    show DataW.insert _ ((Lit.int .i64 p.1, litS p.2) :: txE r) = _
    by_cases h : k < p.1
    · simp [DataW.insert, txIns, Lit.before, h, txE]
    · simp [DataW.insert, txIns, Lit.before, h, ih]
      simp [txE]
theorem txE_del (k : Int) (l : Tx) : ((txE l).filter fun p => !p.1.sameKey (.int .i64 k)) = txE (txDel k l) := by
  unfold txE txDel
  rw [List.filter_map]
  congr 1
  exact List.filter_congr (fun p _ => by simp [sameInt])
theorem txD_del (k : Int) (l : Tx) : (txD l).del (.int .i64 k) = txD (txDel k l) := by
  show DataW.map _ = DataW.map _
  rw [txE_del]
theorem txD_put (k : Int) (s : ByteArray) (l : Tx) : (txD l).put (.int .i64 k) (litS s) = txD (txPut k s l) := by
  show DataW.map _ = DataW.map _
  rw [txE_del, txE_ins]
  rfl
theorem txD_find (k : Int) (l : Tx) : ((txE l).find? fun p => p.1.sameKey (.int .i64 k)) = (l.find? fun p => p.1 == k).map fun p => (Lit.int .i64 p.1, litS p.2) := by
  unfold txE
  rw [List.find?_map]
  congr 2
  funext p
  simp [sameInt]
theorem txD_at (k : Int) (l : Tx) (z : DataW Unit) : (txD l).atKey (.int .i64 k) z = match txAt l k with | some s => litS s | none => z := by
  unfold DataW.atKey txD
  simp only [txD_find]
  unfold txAt
  cases l.find? (fun p => p.1 == k) <;> rfl
theorem txD_has (k : Int) (l : Tx) : Maps.has (txD l) (.int .i64 k) = (txAt l k).isSome := by
  have h : ((txE l).find? fun p => p.1.sameKey (.int .i64 k)).isSome = (txE l).any fun p => p.1.sameKey (.int .i64 k) := by
    rw [Bool.eq_iff_iff]; simp [List.find?_isSome]
  show (txE l).any (fun p => p.1.sameKey (.int .i64 k)) = _
  rw [← h, txD_find, txAt]
  cases l.find? (fun p => p.1 == k) <;> rfl
theorem txD_size (l : Tx) : Maps.size (txD l) = l.length := by simp [txD, txE, size_eq]
theorem txD_keys (l : Tx) : intKeys (txD l) = l.map (·.1) := by
  show (txE l).map _ = _
  unfold txE
  rw [List.map_map]
  rfl
theorem mem_ins (k : Int) (s : ByteArray) (l : Tx) (p : Int × ByteArray) : p ∈ txIns k s l ↔ p = (k, s) ∨ p ∈ l := by
  induction l with
  | nil => simp [txIns]
  | cons q r ih =>
    unfold txIns
    split
    · simp
    · simp only [List.mem_cons, ih]
      constructor
      · rintro (h | h | h)
        · exact .inr (.inl h)
        · exact .inl h
        · exact .inr (.inr h)
      · rintro (h | h | h)
        · exact .inr (.inl h)
        · exact .inl h
        · exact .inr (.inr h)
theorem mem_del (k : Int) (l : Tx) (p : Int × ByteArray) : p ∈ txDel k l ↔ p ∈ l ∧ p.1 ≠ k := by
  simp [txDel, List.mem_filter]
theorem srt_del {l : Tx} (h : Srt l) (k : Int) : Srt (txDel k l) := List.Pairwise.filter _ h
theorem srt_ins {l : Tx} (h : Srt l) (k : Int) (s : ByteArray) (hk : ∀ p ∈ l, p.1 ≠ k) : Srt (txIns k s l) := by
  induction l with
  | nil => simp [txIns, Srt]
  | cons q r ih =>
    obtain ⟨h1, h2⟩ := List.pairwise_cons.1 h
    unfold txIns
    split
    · rename_i hq
      refine List.pairwise_cons.2 ⟨fun p hp => ?_, h⟩
      rcases List.mem_cons.1 hp with rfl | hp
      · exact hq
      · exact Int.lt_trans hq (h1 p hp)
    · rename_i hq
      have hne := hk q (by simp)
      refine List.pairwise_cons.2 ⟨fun p hp => ?_, ih h2 (fun p hp => hk p (by simp [hp]))⟩
      rcases (mem_ins k s r p).1 hp with rfl | hp
      · show q.1 < k; omega
      · exact h1 p hp
theorem srt_put {l : Tx} (h : Srt l) (k : Int) (s : ByteArray) : Srt (txPut k s l) := srt_ins (srt_del h k) k s (fun p hp => ((mem_del k l p).1 hp).2)
theorem ins_len (k : Int) (s : ByteArray) (l : Tx) : (txIns k s l).length = l.length + 1 := by
  induction l with
  | nil => rfl
  | cons q r ih =>
    unfold txIns
    split
    · rfl
    · simp [ih]
theorem at_none {l : Tx} {k : Int} : txAt l k = none ↔ ∀ p ∈ l, p.1 ≠ k := by
  unfold txAt
  rw [Option.map_eq_none_iff, List.find?_eq_none]
  constructor
  · intro h p hp e; exact h p hp (by simp [e])
  · intro h p hp e; exact h p hp (by simpa using e)
theorem at_some {l : Tx} (h : Srt l) {k : Int} {s : ByteArray} : txAt l k = some s ↔ (k, s) ∈ l := by
  induction l with
  | nil => simp [txAt]
  | cons q r ih =>
    obtain ⟨h1, h2⟩ := List.pairwise_cons.1 h
    have ih := ih h2
    unfold txAt at ih ⊢
    by_cases e : q.1 = k
    · have : (q.1 == k) = true := by simp [e]
      rw [List.find?_cons_of_pos (by simpa using this)]
      simp only [Option.map_some, Option.some.injEq, List.mem_cons]
      constructor
      · intro h; left; rw [← e, ← h]
      · rintro (h | h)
        · rw [← h]
        · have := h1 _ h; simp only at this; omega
    · have : ¬ ((q.1 == k) = true) := by simp [e]
      rw [List.find?_cons_of_neg (by simpa using this), ih]
      simp only [List.mem_cons]
      constructor
      · exact .inr
      · rintro (h | h)
        · rw [← h] at e; exact absurd rfl e
        · exact h
theorem del_skip {l : Tx} {k : Int} (h : txAt l k = none) : txDel k l = l := List.filter_eq_self.2 (fun p hp => by simpa using at_none.1 h p hp)
theorem del_len {l : Tx} (h : Srt l) {k : Int} {s : ByteArray} (hs : txAt l k = some s) : (txDel k l).length + 1 = l.length := by
  induction l with
  | nil => simp [txAt] at hs
  | cons q r ih =>
    obtain ⟨h1, h2⟩ := List.pairwise_cons.1 h
    by_cases e : q.1 = k
    · have hr : txDel k r = r := List.filter_eq_self.2 (fun p hp => by have := h1 p hp; simp; omega)
      have : txDel k (q :: r) = txDel k r := by unfold txDel; rw [List.filter_cons_of_neg (by simp [e])]
      rw [this, hr]; rfl
    · have e1 : txDel k (q :: r) = q :: txDel k r := by unfold txDel; rw [List.filter_cons_of_pos (by simp [e])]
      have e2 : txAt r k = some s := by
        unfold txAt at hs ⊢
        rwa [List.find?_cons_of_neg (by simp [e])] at hs
      rw [e1, List.length_cons, List.length_cons, ih h2 e2]
theorem put_len {l : Tx} (h : Srt l) (k : Int) (s : ByteArray) : (txPut k s l).length = if (txAt l k).isSome then l.length else l.length + 1 := by
  unfold txPut
  rw [ins_len]
  cases e : txAt l k with
  | none => rw [del_skip e]; rfl
  | some x => rw [del_len h e]; rfl
theorem at_put {l : Tx} (h : Srt l) (k : Int) (s : ByteArray) (i : Int) : txAt (txPut k s l) i = if i = k then some s else txAt l i := by
  have hs := srt_put h k s
  split
  · rename_i e
    subst e
    rw [at_some hs]
    exact (mem_ins _ _ _ _).2 (.inl rfl)
  · rename_i e
    have key : ∀ t, txAt (txPut k s l) i = some t ↔ txAt l i = some t := fun t => by
      rw [at_some hs, at_some h]
      unfold txPut
      rw [mem_ins, mem_del]
      constructor
      · rintro (q | q)
        · cases q; exact absurd rfl e
        · exact q.1
      · intro q; exact .inr ⟨q, e⟩
    cases q : txAt l i with
    | some t => exact (key t).2 q
    | none =>
      cases q' : txAt (txPut k s l) i with
      | none => rfl
      | some t => rw [(key t).1 q'] at q; cases q
/-- The numbers, sorted: they stand so already. -/
theorem keys_sorted {l : Tx} (h : Srt l) {ss : List Int} (hp : ss.Perm (intKeys (txD l))) : (ss.mergeSort fun x y => decide (x ≤ y)) = l.map (·.1) := by
  rw [txD_keys] at hp
  refine List.Perm.eq_of_pairwise (le := fun a b : Int => a ≤ b) (fun a b _ _ h1 h2 => Int.le_antisymm h1 h2) ?_ ?_ ((List.mergeSort_perm ss _).trans hp)
  · have := List.pairwise_mergeSort (le := fun x y : Int => decide (x ≤ y)) (fun a b c h1 h2 => by simp only [decide_eq_true_eq] at *; omega) (fun a b => by simp only [Bool.or_eq_true, decide_eq_true_eq]; omega) ss
    exact this.imp (fun q => by simpa using q)
  · exact List.pairwise_map.2 (h.imp (fun q => Int.le_of_lt q))
end Go.Proofs.YtnfcnpolflfpfaaGreatDoor

namespace Go.Proofs.YtnfcnpolflfpfaaGreatDoor
open Go.RowKit Go.Maps Go.ChangeMaps Go.MapKept
open Go.WideElems (Fit rd rg pl rd_val elemAt)
theorem ba_eq {c s : ByteArray} (h : c.data.toList = s.data.toList) : c = s := by
  cases c; cases s; simp at h; simp [h]
theorem litS_inj {c s : ByteArray} (h : (litS c) = litS s) : c = s := by
  unfold litS at h
  injection h with h
  injection h with h
  exact ba_eq h
theorem ownsMap_tight {H : Type} {P : Program} {k : TypeId} {R : Value → Option (DataW H × List MemPlace)} {w : World} {b n : Nat} {D : DataW H} (h : w.ownsMap P k R b n D) : w.ownsMap P k R b (Maps.size D) D := by
  obtain ⟨es, clock, hb, F, hs, hD⟩ := h
  refine ⟨es, clock, hb, F, ?_, hD⟩
  subst hD
  simp [Maps.size, length_sorted]
theorem wf_of {k : Int} (h1 : -9223372036854775808 ≤ k) (h2 : k ≤ 9223372036854775807) : (Lit.int .i64 k).wf = true := by
  simp [Lit.wf, IntKind.min, IntKind.max, IntKind.signed, IntKind.bits]; omega
/-- Block b is a map that holds l. -/
def Mp (w : World) (b : Nat) (l : Tx) : Prop := w.ownsMap Tryz.prog 3 (plainElem Tryz.prog 9) b l.length (txD l) ∧ Srt l
def I64k (k : Int) : Prop := -9223372036854775808 ≤ k ∧ k ≤ 9223372036854775807
theorem key3 {k : Int} (h : I64k k) : keyOf Tryz.prog 3 (.int .i64 k) = some (.int .i64 k) := keyOf_int_mk Tryz.underlying3 (wf_of h.1 h.2)
theorem law3 : Keyed Tryz.prog 3 := int_keyed Tryz.underlying3
theorem zero9 (w : World) : (zeroValue 9).run Tryz.prog w = .ok (.string ByteArray.empty) w := by kernel_rfl
theorem Mp.lt {w : World} {b : Nat} {l : Tx} (h : Mp w b l) : b < w.heap.size := h.1.lt
theorem Mp.only {w w' : World} {b : Nat} {l : Tx} {P : Nat → Prop} (h : Mp w b l) (ho : Only P w w') (hp : ¬ P b) : Mp w' b l := by
  refine ⟨?_, h.2⟩
  have hlt := h.1.lt
  obtain ⟨es, clock, hb, F, hs, hD⟩ := h.1
  exact ⟨es, clock, (ho.2 b hlt hp).trans hb, F, hs, hD⟩
theorem Mp.below {w w' : World} {b : Nat} {l : Tx} {B : Nat} (h : Mp w b l) (hb : Below B w w') (hB : b < B) : Mp w' b l := by
  refine ⟨?_, h.2⟩
  obtain ⟨es, clock, hb', F, hs, hD⟩ := h.1
  exact ⟨es, clock, (hb.block b hB).trans hb', F, hs, hD⟩
theorem Mp.alloc {w : World} {b : Nat} {l : Tx} (h : Mp w b l) (o : Obj) : Mp (w.alloc o) b l := ⟨h.1.alloc o, h.2⟩
theorem Mp.drew {w : World} {b : Nat} {l : Tx} (h : Mp w b l) : Mp w.drew b l := h
theorem Mp.setCell {w : World} {b : Nat} {l : Tx} (h : Mp w b l) {a : Addr} (ha : a.block ≠ b) (u : Value) : Mp (w.setCell a u) b l := ⟨h.1.setCell (fun e => ha e.symm) u, h.2⟩
theorem Mp.not_blk {w : World} {b : Nat} {l : Tx} (h : Mp w b l) {x : Nat} {cur : Array Value} {T : TypeId} (hx : Blk w x cur T) : x ≠ b := fun e => by
  subst e
  obtain ⟨es, clock, hb, _⟩ := h.1
  have := (show w.heap[x]? = _ from hx).symm.trans hb
  simp at this
theorem Mp.made (w : World) : Mp (w.alloc (.map #[] 0)) w.heap.size [] := ⟨World.ownsMap_made w _ _ _, List.Pairwise.nil⟩
theorem Mp.look {w : World} {b : Nat} {l : Tx} (h : Mp w b l) {k : Int} (hk : I64k k) :
    (Instr.lookup 99 (.map (some b)) (.int .i64 k) true).run Tryz.prog w = .ok (.tuple #[.string ((txAt l k).getD ByteArray.empty), .bool (txAt l k).isSome]) w ∧
    (Instr.lookup 99 (.map (some b)) (.int .i64 k) false).run Tryz.prog w = .ok (.string ((txAt l k).getD ByteArray.empty)) w := by
  have hz0 : plainElem (H := Unit) Tryz.prog 9 (.string ByteArray.empty) = some (litS ByteArray.empty, []) := plainElem_string Tryz.underlying9 (by decide)
  have key : ∀ (v : Value) (ps : List MemPlace), plainElem (H := Unit) Tryz.prog 9 v = some ((txD l).atKey (.int .i64 k) (litS ByteArray.empty), ps) → v = .string ((txAt l k).getD ByteArray.empty) := fun v ps hv => by
    obtain ⟨c, rfl, hc, _⟩ := plainElem_string_inv Tryz.underlying9 hv
    have h1 : (txD l).atKey (.int .i64 k) (litS ByteArray.empty) = litS c := congrArg Prod.fst hc
    rw [txD_at] at h1
    cases e : txAt l k with
    | none => rw [e] at h1; rw [litS_inj h1]; rfl
    | some s => rw [e] at h1; rw [litS_inj h1]; rfl
  constructor
  · obtain ⟨v, ps, hrun, hv⟩ := h.1.look_ok law3 Tryz.underlying99 (zero9 w) hz0 (key3 hk)
    rw [hrun, key v ps hv, txD_has]
  · obtain ⟨v, ps, hrun, hv⟩ := h.1.lookup law3 Tryz.underlying99 (zero9 w) hz0 (key3 hk)
    rw [hrun, key v ps hv]
theorem Mp.len {w : World} {b : Nat} {l : Tx} (h : Mp w b l) (ty : TypeId) : (Builtin.len_ #[99] ty #[.map (some b)]).run Tryz.prog w = .ok (.int .i64 (l.length : Int)) w := by
  rw [h.1.len Tryz.underlying99 ty, txD_size]
theorem Only.turned {w w' : World} {b : Nat} (h : w.mapTurned w' b) : Only (fun x => x = b) w w' := by
  have := h.grown
  exact ⟨⟨this.os, this.tape, this.output, this.size, fun k hk => absurd hk (Nat.not_lt_zero k)⟩, fun k hk hn => this.block k hk (fun e => hn (by cases e; rfl))⟩
theorem turned_size {w w' : World} {b : Nat} (h : w.mapTurned w' b) : w'.heap.size = w.heap.size := by
  obtain ⟨es, clock, es', clock', hb, rfl⟩ := h
  simp [setBlock]
theorem Mp.put {w : World} {b : Nat} {l : Tx} (h : Mp w b l) {k : Int} (hk : I64k k) (s : ByteArray) (hs : s.size ≤ maxLen) (hl : l.length ≤ 1000000) :
    ∃ w', (Instr.mapUpdate 99 (.map (some b)) (.int .i64 k) (.string s)).run Tryz.prog w = .ok () w' ∧ Mp w' b (txPut k s l) ∧ Only (fun x => x = b) w w' ∧ w'.heap.size = w.heap.size := by
  obtain ⟨w', hrun, hm, ht⟩ := h.1.store law3 Tryz.underlying99 (by unfold maxLen; omega) (key3 hk) (plainElem_string Tryz.underlying9 hs)
  refine ⟨w', hrun, ⟨?_, srt_put h.2 k s⟩, Only.turned ht, turned_size ht⟩
  have h1 : w'.ownsMap Tryz.prog 3 (plainElem Tryz.prog 9) b (l.length + 1) (txD (txPut k s l)) := by rw [← txD_put]; exact hm
  have h2 := ownsMap_tight h1
  rwa [txD_size] at h2
theorem Mp.del {w : World} {b : Nat} {l : Tx} (h : Mp w b l) {k : Int} (hk : I64k k) (ty : TypeId) :
    ∃ w', (Builtin.delete_ #[99, 3] ty #[.map (some b), .int .i64 k]).run Tryz.prog w = .ok (.tuple #[]) w' ∧ Mp w' b (txDel k l) ∧ Only (fun x => x = b) w w' ∧ w'.heap.size = w.heap.size := by
  obtain ⟨w', hrun, hm, ht⟩ := h.1.drop law3 Tryz.underlying99 (key3 hk) ty
  refine ⟨w', hrun, ⟨?_, srt_del h.2 k⟩, Only.turned ht, turned_size ht⟩
  have h1 : w'.ownsMap Tryz.prog 3 (plainElem Tryz.prog 9) b l.length (txD (txDel k l)) := by rw [← txD_del]; exact hm
  have h2 := ownsMap_tight h1
  rwa [txD_size] at h2
theorem Mp.clear {w : World} {b : Nat} {l : Tx} (h : Mp w b l) (ty : TypeId) :
    ∃ w', (Builtin.clear_ #[99] ty #[.map (some b)]).run Tryz.prog w = .ok (.tuple #[]) w' ∧ Mp w' b [] ∧ Only (fun x => x = b) w w' ∧ w'.heap.size = w.heap.size := by
  obtain ⟨es, clock, hb, F, hs, hD⟩ := h.1
  have ht : w.mapTurned (setBlock w b (.map #[] clock)) b := ⟨es, clock, #[], clock, hb, rfl⟩
  refine ⟨setBlock w b (.map #[] clock), ?_, ⟨⟨#[], clock, heap_setBlock_same hb _, ⟨by simp, stamped_empty clock, by simp⟩, Nat.le_refl _, rfl⟩, List.Pairwise.nil⟩, Only.turned ht, turned_size ht⟩
  simp [Builtin.clear_, run_underlying Tryz.underlying99, MapKept.run_getObj_map (P := Tryz.prog) hb, MapKept.run_setObj_map (P := Tryz.prog) _ hb, Result.andThen]
  rfl
end Go.Proofs.YtnfcnpolflfpfaaGreatDoor
