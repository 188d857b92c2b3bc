import Derived.Test.YtiellebdliifdaaGreatDoorMt11
import Derived.Test.YtiellebdliifdaaGreatDoorMt04
import Derived.Test.YtiellebdliifdaaGreatDoorMt07
import Derived.Test.YtiellebdliifdaaGreatDoorMt06
import Derived.Shelf.Sort.Plain
import Derived.Ground.Names2Prog
import Derived.Shelf.Slices.CompactI
import Derived.Shelf.Slices.In.SortNone
import Derived.Test.YtiellebdliifdaaGreatDoorProg
import Derived.Lib.RowBridge
import Derived.Lib.OwnBridge
import Derived.Lib.AppendIntMem
namespace Go.Proofs.YtiellebdliifdaaGreatDoor
open Go.RowKit
def headL (H : List Int) : List Int := if H.length = 0 then [0] else [1] ++ outN 4 H
def headB (n : Nat) (H : List Int) : ByteArray := strOfNums (makeL 2 (n : Int) (headL H))
theorem num1 (z : Int) (h0 : 0 ≤ z) (h1 : z < 256) : numB z 1 = [z] := by
 simp [numB]
 omega
theorem fits1j (z : Int) (h0 : 0 ≤ z) (h1 : z < 256) : fitsP z 1 := ⟨h0, by
 have e : (2 : Int) ^ (8 * 1) = 256 := by decide
 rw [e]
 omega⟩
theorem fits4j (z : Int) (h0 : 0 ≤ z) (h1 : z < 4294967296) : fitsP z 4 := ⟨h0, by
 have e : (2 : Int) ^ (8 * 4) = 4294967296 := by decide
 rw [e]
 omega⟩
theorem bytes_of {l : List Int} (h : ∀ x ∈ l, 0 ≤ x ∧ x < 256) : Bytes l := by
 intro j
 rw [List.getD_eq_getElem?_getD]
 cases e : l[j]? with
 | none => simp
 | some x => exact h x (List.mem_of_getElem? e)
theorem numB_memb (v : Int) (k : Nat) : ∀ x ∈ numB v k, 0 ≤ x ∧ x < 256 := fun x hx => by
 obtain ⟨j, hj, e⟩ := List.getElem_of_mem hx
 have := numB_bytes v k j
 rw [List.getD_eq_getElem?_getD, List.getElem?_eq_getElem hj, e] at this
 simpa using this
theorem headL_bytes (H : List Int) : Bytes (headL H) := bytes_of (fun x hx => by
 unfold headL at hx
 split at hx
 ·simp at hx; omega
 ·rcases List.mem_append.1 hx with hx | hx
  ·simp at hx; omega
  ·obtain ⟨n, _, h⟩ := List.mem_flatMap.1 hx
   exact numB_memb n 4 x h)
theorem headL_len (H : List Int) (h : H.length ≤ 60) : (headL H).length ≤ 244 := by
 unfold headL
 split
 ·simp
 ·rw [List.length_append, outN_len]
  simp
  omega
theorem headB_size (n : Nat) (H : List Int) (h : H.length ≤ 60) : (headB n H).size = 256 := by
 rw [headB, strOfNums_size, makeL_len _ _ _ (headL_len H h)]
theorem outN_one (z : Int) (h0 : 0 ≤ z) (h1 : z < 256) : [] ++ outN 1 [z] = [z] := by
 rw [List.nil_append]
 show numB z 1 ++ [] = [z]
 rw [List.append_nil, num1 z h0 h1]
theorem headL_nil : headL [] = [0] := by simp [headL]
theorem headB_eq (n : Nat) (H : List Int) (bd : ByteArray) (h : strOfNums (headL H) = bd) : strOfNums (makeL 2 (n : Int) (nums bd)) = headB n H := by
 subst h
 unfold headB
 rw [nums_strOfNums _ (headL_bytes H)]
set_option maxRecDepth 100000 in
set_option maxHeartbeats 400000 in
theorem isSet_any (n : Int) (p : Option Addr) (k c : Nat) (w : World) :
  Calls Tryz.prog 114 #[.agg #[.int .u32 n, .slice p k c]] w fun e w' => e = .returned (.bool (decide (0 < k))) ∧ Below w.heap.size w w' := by
 go_enter Tryz.func114, Tryz.ntmps114
 go_wp2
 go_ret
 exact ⟨rfl, (Below.refl _ _).alloc (Nat.le_refl _) _⟩
set_option maxRecDepth 100000 in
set_option maxHeartbeats 400000 in
theorem clearHead_any (n : Int) (w : World) :
  Calls Tryz.prog 64 #[.int .u32 n] w fun e w' => e = .returned (.agg #[.int .u32 n, .slice none 0 0]) ∧ Below w.heap.size w w' := by
 go_enter Tryz.func64, Tryz.ntmps64
 go_wp2
 have B := Blk.new w 114 #[.int .u32 n, .slice none 0 0]
 have hld := load_blk 114 _ B Tryz.underlying114 rfl (by kernel_rfl)
 refine bodyPost_ret (v := .agg #[.int .u32 n, .slice none 0 0]) (results_cell rfl _ _ _ ⟨w.heap.size, 0, none⟩ rfl _ hld) rfl ⟨rfl, ?_⟩
 exact (Below.refl _ w).alloc (Nat.le_refl _) _
set_option maxRecDepth 100000 in
set_option maxHeartbeats 400000 in
theorem setHead_any (n : Int) (w : World) (p : Option Addr) (c : Nat) (l : List Wr1) (m : Nat) (hm : m = l.length) (hl : Wls w p l) (hz : l.length ≤ 1000000) :
  Calls Tryz.prog 86 #[.int .u32 n, .slice p m c] w fun e w' => e = .returned (.agg #[.int .u32 n, .slice (some ⟨w.heap.size + 1, 0, none⟩) m m]) ∧ Blk w' (w.heap.size + 1) ((secs l).map (Value.int .i64)).toArray 3 ∧ Below w.heap.size w w' := by
 obtain ⟨x0, hx0⟩ : ∃ x, x = w.alloc (Obj.cells #[.int .u32 0, .slice none 0 0] 114) := ⟨_, rfl⟩
 have hs0 : x0.heap.size = w.heap.size + 1 := by rw [hx0]; simp
 have hb0 : Below w.heap.size w x0 := by rw [hx0]; exact (Below.refl _ w).alloc (Nat.le_refl _) _
 have B0 : Blk x0 w.heap.size #[.int .u32 0, .slice none 0 0] 114 := by rw [hx0]; exact Blk.new w _ _
 have HC := hide (sectorsOf_any x0 p c l m hm (hl.below hb0) hz)
 have HX := hide (And.intro hs0 (And.intro hb0 B0))
 clear hs0 hb0 B0 hl hz hm
 go_enter Tryz.func86, Tryz.ntmps86
 go_wp2_with fail
 rw [← hx0]
 replace hx0 := hide hx0
 refine (unhide HC).mono ?_
 rintro e x1 ⟨rfl, hB1, hb1⟩
 have hs1 := (unhide HX).1
 have hlt : w.heap.size < x0.heap.size := by omega
 have BH := (unhide HX).2.2.below hb1 hlt
 have q0 : x1.cell? ⟨w.heap.size, 0, none⟩ = some (.int .u32 0) := BH.cell 0
 have q1 : x1.cell? ⟨w.heap.size, 1, none⟩ = some (.slice none 0 0) := BH.cell 1
 have p0 := BH.frozen 0
 have p1 := BH.frozen 1
 have HB := hide (And.intro BH (And.intro hB1 hb1))
 have hg : x0.heap.size = w.heap.size + 1 := hs1
 have HG := hide hg
 rw [hg]
 clear BH hB1 hb1 hs1 hlt hg
 go_wp2
 have B := ((unhide HB).1.set 0 (.int .u32 n)).set 1 (.slice (some ⟨w.heap.size + 1, 0, none⟩) m m)
 have hld := load_blk 114 _ B Tryz.underlying114 rfl (by kernel_rfl)
 refine bodyPost_ret (v := .agg #[.int .u32 n, .slice (some ⟨w.heap.size + 1, 0, none⟩) m m]) (results_cell rfl _ _ _ ⟨w.heap.size, 0, none⟩ rfl _ hld) rfl ⟨rfl, ?_, ?_⟩
 ·have := (unhide HB).2.1
  rw [unhide HG] at this
  exact (this.other _ _ (by show w.heap.size ≠ w.heap.size + 1; omega)).other _ _ (by show w.heap.size ≠ w.heap.size + 1; omega)
 ·exact (((unhide HX).2.1.trans ((unhide HB).2.2.mono (unhide HX).2.1.size)).setCell (Nat.le_refl _) _).setCell (Nat.le_refl _) _
set_option maxRecDepth 100000 in
set_option maxHeartbeats 400000 in
theorem hwrite_clear (n : Nat) (hn : n < 4294967296) (p : Option Addr) (c : Nat) (w : World) :
  Calls Tryz.prog 65 #[.agg #[.int .u32 (n : Int), .slice p 0 c]] w fun e w' => e = .returned (.agg #[.int .i64 1, .string (headB n [])]) ∧ Below w.heap.size w w' := by
 obtain ⟨x0, hx0⟩ : ∃ x, x = (w.alloc (Obj.cells #[.int .u32 (n : Int), .slice p 0 c] 114)).alloc (Obj.cells #[.int .i64 0, .string ⟨#[]⟩] 76) := ⟨_, rfl⟩
 have hs0 : x0.heap.size = w.heap.size + 1 + 1 := by rw [hx0]; simp
 have hb0 : Below w.heap.size w x0 := by rw [hx0]; exact ((Below.refl _ w).alloc (Nat.le_refl _) _).alloc (by simp) _
 have BH0 : Blk x0 w.heap.size #[.int .u32 (n : Int), .slice p 0 c] 114 := by rw [hx0]; exact (Blk.new w _ _).alloc _
 have BW0 : Blk x0 (w.heap.size + 1) #[.int .i64 0, .string ⟨#[]⟩] 76 := by
  rw [hx0]
  have := Blk.new (w.alloc (Obj.cells #[.int .u32 (n : Int), .slice p 0 c] 114)) 76 #[.int .i64 0, .string ⟨#[]⟩]
  simpa using this
 have HX := hide (And.intro hs0 (And.intro hb0 (And.intro BH0 BW0)))
 have HNW := hide (newWriter_any x0)
 have HIS := hide (fun W => isSet_any (n : Int) p 0 c W)
 have HMK := hide (fun (W : World) => make_ok rep_ok 2 (n : Int) (strOfNums (headL [])) (fits1j 2 (by decide) (by decide)) (fits4j _ (by omega) (by omega)) (by rw [strOfNums_size]; exact headL_len [] (by simp)) W)
 obtain ⟨bd, hbd⟩ : ∃ bd, strOfNums (headL []) = bd := ⟨_, rfl⟩
 have hhb := headB_eq n [] bd hbd
 rw [hbd, hhb] at HMK
 have HBD := hide hbd
 generalize headB n [] = hb at *
 clear hs0 hb0 BH0 BW0 hbd hhb
 go_enter Tryz.func65, Tryz.ntmps65
 go_wp2_with fail
 rw [← hx0]
 replace hx0 := hide hx0
 refine (unhide HNW).mono ?_
 rintro e x1 ⟨rfl, hR1, hB1, hz1⟩
 have X1 := hide (TWr.start hR1 hB1)
 clear hR1 hB1 HNW hz1
 have hl0 : w.heap.size < x0.heap.size ∧ w.heap.size + 1 < x0.heap.size := by have := (unhide HX).1; omega
 have HL0 := hide hl0
 have BH1 := (unhide HX).2.2.1.below (unhide X1).bel hl0.1
 have c0 : x1.cell? ⟨w.heap.size, 0, none⟩ = some (.int .u32 (n : Int)) := BH1.cell 0
 have c1 : x1.cell? ⟨w.heap.size, 1, none⟩ = some (.slice p 0 c) := BH1.cell 1
 clear BH1 hl0
 go_wp2_with fail
 refine (unhide HIS _).mono ?_
 rintro e x2 ⟨rfl, hB2⟩
 have X2 := hide ((unhide X1).below hB2)
 clear hB2 X1 c0 c1
 go_wp2_with fail
 refine ((unhide X2).num ((Below.refl _ x2).alloc (Nat.le_refl _) _) 1 (by decide) (by decide) [0] (fun z hz => by simp at hz; subst hz; exact fits1j 0 (by decide) (by decide)) _ 1 1 rfl (inl_new x2 0) (fun k o q => by cases q; exact .inl (Nat.le_refl _)) (by decide) 1 rfl).mono ?_
 rintro e x4 ⟨rfl, h4⟩
 rw [outN_one 0 (by decide) (by decide), ← headL_nil] at h4
 have X4 := hide h4
 clear h4 X2
 go_wp2_with fail
 refine ((unhide X4).done).mono ?_
 rintro e x5 ⟨rfl, hB5⟩
 rw [unhide HBD]
 have X5 := hide ((unhide X4).below hB5)
 clear hB5 X4
 have BH5 := (unhide HX).2.2.1.below (unhide X5).bel (unhide HL0).1
 have c0 : x5.cell? ⟨w.heap.size, 0, none⟩ = some (.int .u32 (n : Int)) := BH5.cell 0
 have hcv : IntKind.i64.wrap (n : Int) = (n : Int) := wrapI_eq _ (by omega) (by omega)
 clear BH5
 go_wp2_with fail
 refine (unhide HMK _).mono ?_
 rintro e x6 ⟨rfl, hB6⟩
 have X6 := hide ((unhide X5).below hB6)
 clear hB6 X5 c0
 have BW6 := (unhide HX).2.2.2.below (unhide X6).bel (unhide HL0).2
 have q0 : x6.cell? ⟨w.heap.size + 1, 0, none⟩ = some (.int .i64 0) := BW6.cell 0
 have q1 : x6.cell? ⟨w.heap.size + 1, 1, none⟩ = some (.string ⟨#[]⟩) := BW6.cell 1
 have p0 := BW6.frozen 0
 have p1 := BW6.frozen 1
 have HB := hide BW6
 clear BW6
 go_wp2
 have B := ((unhide HB).set 0 (.int .i64 1)).set 1 (.string hb)
 have hld := load_blk 76 _ B Tryz.underlying76 rfl (by kernel_rfl)
 refine bodyPost_ret (v := .agg #[.int .i64 1, .string hb]) (results_cell rfl _ _ _ ⟨w.heap.size + 1, 0, none⟩ rfl _ hld) rfl ⟨rfl, ?_⟩
 exact (((unhide HX).2.1.trans ((unhide X6).bel.mono (unhide HX).2.1.size)).setCell (by show w.heap.size ≤ w.heap.size + 1; omega) _).setCell (by show w.heap.size ≤ w.heap.size + 1; omega) _
set_option maxRecDepth 100000 in
set_option maxHeartbeats 400000 in
theorem hwrite_set (n : Nat) (hn : n < 4294967296) (p : Option Addr) (c : Nat) (w : World) (H : List Int) (m : Nat) (hm : m = H.length) (h0 : 0 < m) (hH : Inl w p H) (hlt : ∀ k o, p = some ⟨k, o, none⟩ → k < w.heap.size) (hf : ∀ z ∈ H, fitsP z 4) (hl : H.length ≤ 60) :
  Calls Tryz.prog 65 #[.agg #[.int .u32 (n : Int), .slice p m c]] w fun e w' => e = .returned (.agg #[.int .i64 1, .string (headB n H)]) ∧ Below w.heap.size w w' := by
 obtain ⟨x0, hx0⟩ : ∃ x, x = (w.alloc (Obj.cells #[.int .u32 (n : Int), .slice p m c] 114)).alloc (Obj.cells #[.int .i64 0, .string ⟨#[]⟩] 76) := ⟨_, rfl⟩
 have hs0 : x0.heap.size = w.heap.size + 1 + 1 := by rw [hx0]; simp
 have hb0 : Below w.heap.size w x0 := by rw [hx0]; exact ((Below.refl _ w).alloc (Nat.le_refl _) _).alloc (by simp) _
 have BH0 : Blk x0 w.heap.size #[.int .u32 (n : Int), .slice p m c] 114 := by rw [hx0]; exact (Blk.new w _ _).alloc _
 have BW0 : Blk x0 (w.heap.size + 1) #[.int .i64 0, .string ⟨#[]⟩] 76 := by
  rw [hx0]
  have := Blk.new (w.alloc (Obj.cells #[.int .u32 (n : Int), .slice p m c] 114)) 76 #[.int .i64 0, .string ⟨#[]⟩]
  simpa using this
 have HX := hide (And.intro hs0 (And.intro hb0 (And.intro BH0 BW0)))
 have HNW := hide (newWriter_any x0)
 have HIS := hide (fun W => isSet_any (n : Int) p m c W)
 have HMK := hide (fun (W : World) => make_ok rep_ok 2 (n : Int) (strOfNums (headL H)) (fits1j 2 (by decide) (by decide)) (fits4j _ (by omega) (by omega)) (by rw [strOfNums_size]; exact headL_len H hl) W)
 obtain ⟨bd, hbd⟩ : ∃ bd, strOfNums (headL H) = bd := ⟨_, rfl⟩
 have hhb := headB_eq n H bd hbd
 rw [hbd, hhb] at HMK
 have HBD := hide hbd
 generalize headB n H = hb at *
 clear hs0 hb0 BH0 BW0 hbd hhb
 have hm0 : (decide (0 < m)) = true := by simp; omega
 rw [hm0] at HIS
 have HHH := hide (And.intro hH (And.intro hlt (And.intro hf (And.intro hl hm))))
 clear hH hlt hf hl hm0 hm
 go_enter Tryz.func65, Tryz.ntmps65
 go_wp2_with fail
 rw [← hx0]
 replace hx0 := hide hx0
 refine (unhide HNW).mono ?_
 rintro e x1 ⟨rfl, hR1, hB1, hz1⟩
 have X1 := hide (TWr.start hR1 hB1)
 clear hR1 hB1 HNW hz1
 have hl0 : w.heap.size < x0.heap.size ∧ w.heap.size + 1 < x0.heap.size := by have := (unhide HX).1; omega
 have HL0 := hide hl0
 have BH1 := (unhide HX).2.2.1.below (unhide X1).bel hl0.1
 have c0 : x1.cell? ⟨w.heap.size, 0, none⟩ = some (.int .u32 (n : Int)) := BH1.cell 0
 have c1 : x1.cell? ⟨w.heap.size, 1, none⟩ = some (.slice p m c) := BH1.cell 1
 clear BH1 hl0
 go_wp2_with fail
 refine (unhide HIS _).mono ?_
 rintro e x2 ⟨rfl, hB2⟩
 have X2 := hide ((unhide X1).below hB2)
 clear hB2 X1 c0 c1
 go_wp2_with fail
 refine ((unhide X2).num ((Below.refl _ x2).alloc (Nat.le_refl _) _) 1 (by decide) (by decide) [1] (fun z hz => by simp at hz; subst hz; exact fits1j 1 (by decide) (by decide)) _ 1 1 rfl (inl_new x2 1) (fun k o q => by cases q; exact .inl (Nat.le_refl _)) (by decide) 1 rfl).mono ?_
 rintro e x3 ⟨rfl, h3⟩
 rw [outN_one 1 (by decide) (by decide)] at h3
 have X3 := hide h3
 clear h3 X2
 have BH3 := (unhide HX).2.2.1.below (unhide X3).bel (unhide HL0).1
 have c1 : x3.cell? ⟨w.heap.size, 1, none⟩ = some (.slice p m c) := BH3.cell 1
 have hI3 : Inl x3 p H := (unhide HHH).1.below ((unhide HX).2.1.trans ((unhide X3).bel.mono (unhide HX).2.1.size)) (fun _ => (unhide HHH).2.1)
 have HI3 := hide hI3
 clear BH3 hI3
 go_wp2_with fail
 refine ((unhide X3).num (Below.refl _ x3) 4 (by decide) (by decide) H (unhide HHH).2.2.1 p m c (unhide HHH).2.2.2.2 (unhide HI3) (fun k o q => .inr (by have := (unhide HHH).2.1 k o q; have := (unhide HL0).1; omega)) (by have := (unhide HHH).2.2.2.1; show 1 + 8 * H.length ≤ _; omega) 4 rfl).mono ?_
 rintro e x4 ⟨rfl, h4⟩
 have X4 := hide (show TWr x0 (headL H) x4 from by
  rw [headL, if_neg (by have := (unhide HHH).2.2.2.2; omega)]
  exact h4)
 clear h4 X3 c1 HI3
 go_wp2_with fail
 refine ((unhide X4).done).mono ?_
 rintro e x5 ⟨rfl, hB5⟩
 rw [unhide HBD]
 have X5 := hide ((unhide X4).below hB5)
 clear hB5 X4
 have BH5 := (unhide HX).2.2.1.below (unhide X5).bel (unhide HL0).1
 have c0 : x5.cell? ⟨w.heap.size, 0, none⟩ = some (.int .u32 (n : Int)) := BH5.cell 0
 have hcv : IntKind.i64.wrap (n : Int) = (n : Int) := wrapI_eq _ (by omega) (by omega)
 clear BH5
 go_wp2_with fail
 refine (unhide HMK _).mono ?_
 rintro e x6 ⟨rfl, hB6⟩
 have X6 := hide ((unhide X5).below hB6)
 clear hB6 X5 c0
 have BW6 := (unhide HX).2.2.2.below (unhide X6).bel (unhide HL0).2
 have q0 : x6.cell? ⟨w.heap.size + 1, 0, none⟩ = some (.int .i64 0) := BW6.cell 0
 have q1 : x6.cell? ⟨w.heap.size + 1, 1, none⟩ = some (.string ⟨#[]⟩) := BW6.cell 1
 have p0 := BW6.frozen 0
 have p1 := BW6.frozen 1
 have HB := hide BW6
 clear BW6
 go_wp2
 have B := ((unhide HB).set 0 (.int .i64 1)).set 1 (.string hb)
 have hld := load_blk 76 _ B Tryz.underlying76 rfl (by kernel_rfl)
 refine bodyPost_ret (v := .agg #[.int .i64 1, .string hb]) (results_cell rfl _ _ _ ⟨w.heap.size + 1, 0, none⟩ rfl _ hld) rfl ⟨rfl, ?_⟩
 exact (((unhide HX).2.1.trans ((unhide X6).bel.mono (unhide HX).2.1.size)).setCell (by show w.heap.size ≤ w.heap.size + 1; omega) _).setCell (by show w.heap.size ≤ w.heap.size + 1; omega) _
end Go.Proofs.YtiellebdliifdaaGreatDoor
/-
 DERIVED: THE SHELF's CONTRACTS AT THIS DUMP, IN PLAIN WORDS (tools/lay-plain.mjs out of 'TryzShelf.lean', which tools/lay-shelf.mjs wrote): THE SAME DECLARATIONS UNDER THE SAME NAMES: 'import', 'namespace', 'open', 'def', 'theorem' AND NOTHING ELSE: no command of the shelf's: FOR A HAND-IN. Each laying: the table of numbers ('.._ren') and one theorem, a field a fact of the dump's own or the kernel's comparison; each contract: ONE APPLICATION.
-/
namespace Go.Proofs.YtiellebdliifdaaGreatDoor
open Go.Shelf
def Tryz.lays189_ren : Go.Shelf.Ren := ⟨fun | 189 => 133 | 125 => 174 | 257 => 173 | 128 => 200 | 129 => 201 | 294 => 191 | 295 => 192 | 296 => 193 | 297 => 194 | 298 => 195 | 299 => 196 | 216 => 197 | 300 => 198 | 301 => 199 | 328 => 204 | 329 => 205 | 330 => 206 | 331 => 207 | 332 => 208 | 215 => 209 | 343 => 214 | n => n, fun | 28 => 22 | 3 => 3 | 46 => 157 | 0 => 0 | 51 => 112 | 53 => 206 | 4 => 4 | 183 => 235 | 182 => 234 | 131 => 238 | 5 => 5 | 9 => 9 | 218 => 245 | 222 => 249 | 228 => 262 | 229 => 263 | n => n, fun | n => n⟩
theorem Tryz.lays189 : Go.Proofs.Lays.n189 Tryz.prog Tryz.lays189_ren := {
 mixed := by kernel_rfl
 f125 := Tryz.func174.trans (congrArg some (by kernel_rfl))
 f128 := Tryz.func200.trans (congrArg some (by kernel_rfl))
 f129 := Tryz.func201.trans (congrArg some (by kernel_rfl))
 f189 := Tryz.func133.trans (congrArg some (by kernel_rfl))
 f215 := Tryz.func209.trans (congrArg some (by kernel_rfl))
 f216 := Tryz.func197.trans (congrArg some (by kernel_rfl))
 f257 := Tryz.func173.trans (congrArg some (by kernel_rfl))
 f294 := Tryz.func191.trans (congrArg some (by kernel_rfl))
 f295 := Tryz.func192.trans (congrArg some (by kernel_rfl))
 f296 := Tryz.func193.trans (congrArg some (by kernel_rfl))
 f297 := Tryz.func194.trans (congrArg some (by kernel_rfl))
 f298 := Tryz.func195.trans (congrArg some (by kernel_rfl))
 f299 := Tryz.func196.trans (congrArg some (by kernel_rfl))
 f300 := Tryz.func198.trans (congrArg some (by kernel_rfl))
 f301 := Tryz.func199.trans (congrArg some (by kernel_rfl))
 f328 := Tryz.func204.trans (congrArg some (by kernel_rfl))
 f329 := Tryz.func205.trans (congrArg some (by kernel_rfl))
 f330 := Tryz.func206.trans (congrArg some (by kernel_rfl))
 f331 := Tryz.func207.trans (congrArg some (by kernel_rfl))
 f332 := Tryz.func208.trans (congrArg some (by kernel_rfl))
 f343 := Tryz.func214.trans (congrArg some (by kernel_rfl))
 t0 := Tryz.underlying0
 a0 := Tryz.isAgg0
 z0 := Tryz.sizeOf0
 v0 := Tryz.zeroValue0
 t3 := Tryz.underlying3
 a3 := Tryz.isAgg3
 z3 := Tryz.sizeOf3
 v3 := Tryz.zeroValue3
 t4 := Tryz.underlying4
 a4 := Tryz.isAgg4
 z4 := Tryz.sizeOf4
 v4 := Tryz.zeroValue4
 t5 := Tryz.underlying5
 a5 := Tryz.isAgg5
 z5 := Tryz.sizeOf5
 v5 := Tryz.zeroValue5
 t9 := Tryz.underlying9
 a9 := Tryz.isAgg9
 z9 := Tryz.sizeOf9
 v9 := Tryz.zeroValue9
 t28 := Tryz.underlying22
 a28 := Tryz.isAgg22
 z28 := Tryz.sizeOf22
 v28 := Tryz.zeroValue22
 t46 := Tryz.underlying157
 a46 := Tryz.isAgg157
 z46 := Tryz.sizeOf157
 v46 := Tryz.zeroValue157
 t51 := Tryz.underlying112
 a51 := Tryz.isAgg112
 z51 := Tryz.sizeOf112
 v51 := Tryz.zeroValue112
 t53 := Tryz.underlying206
 a53 := Tryz.isAgg206
 z53 := Tryz.sizeOf206
 v53 := Tryz.zeroValue206
 t131 := Tryz.underlying238
 a131 := Tryz.isAgg238
 z131 := Tryz.sizeOf238
 v131 := Tryz.zeroValue238
 t182 := Tryz.underlying234
 a182 := Tryz.isAgg234
 z182 := Tryz.sizeOf234
 v182 := Tryz.zeroValue234
 t183 := Tryz.underlying235
 a183 := Tryz.isAgg235
 z183 := Tryz.sizeOf235
 v183 := Tryz.zeroValue235
 t218 := Tryz.underlying245
 a218 := Tryz.isAgg245
 z218 := Tryz.sizeOf245
 v218 := Tryz.zeroValue245
 t222 := Tryz.underlying249
 a222 := Tryz.isAgg249
 z222 := Tryz.sizeOf249
 v222 := Tryz.zeroValue249
 t228 := Tryz.underlying262
 a228 := Tryz.isAgg262
 z228 := Tryz.sizeOf262
 v228 := Tryz.zeroValue262
 t229 := Tryz.underlying263
 a229 := Tryz.isAgg263
 z229 := Tryz.sizeOf263
 v229 := Tryz.zeroValue263 }
open Go.Sort Go.RowKit in
theorem Tryz.slices_Sort_int (blk off cap : Nat) (zs : List Int) (w : World) (hH : Holds (Value.int .i64) w blk off zs.toArray) (hblk : blk < w.heap.size) (hsz : zs.length < 4611686018427387904) :
  Calls Tryz.prog 133 #[.slice (some ⟨blk, off, none⟩) zs.length cap] w fun e w' =>
   e = .returned (.tuple #[]) ∧ ∃ n os, w' = grow (putRow (Value.int .i64) (Sort.ahead w n) blk off (zs.mergeSort fun x y => decide (x ≤ y)).toArray) os := Any.slices_Sort_int Tryz.lays189 blk off cap zs w hH hblk hsz
def Tryz.laysNm220_ren : Go.Shelf.Ren := ⟨fun | 20 => 134 | n => n, fun | 22 => 22 | 3 => 3 | 4 => 4 | 0 => 0 | n => n, fun | n => n⟩
theorem Tryz.laysNm220 : Go.Proofs.Lays2.n20 Tryz.prog Tryz.laysNm220_ren := {
 mixed := by kernel_rfl
 f20 := Tryz.func134.trans (congrArg some (by kernel_rfl))
 t0 := Tryz.underlying0
 a0 := Tryz.isAgg0
 z0 := Tryz.sizeOf0
 v0 := Tryz.zeroValue0
 t3 := Tryz.underlying3
 a3 := Tryz.isAgg3
 z3 := Tryz.sizeOf3
 v3 := Tryz.zeroValue3
 t4 := Tryz.underlying4
 a4 := Tryz.isAgg4
 z4 := Tryz.sizeOf4
 v4 := Tryz.zeroValue4
 t22 := Tryz.underlying22
 a22 := Tryz.isAgg22
 z22 := Tryz.sizeOf22
 v22 := Tryz.zeroValue22
 i3 := by kernel_rfl }
open Go.RowKit Go.Lib Go.Sort in
theorem Tryz.slices_Compact_int_arr (blk off cap : Nat) (d : Array Int) (w : World) (hH : Holds encI w blk off d) (hsz : d.size ≤ 9223372036854775807) (hcap : d.size ≤ cap) :
  Calls Tryz.prog 134 #[.slice (some ⟨blk, off, none⟩) d.size cap] w fun e w' => e = .returned (.slice (some ⟨blk, off, none⟩) (compactUpTo d d.size).length cap) ∧ ∃ q, w' = putRow encI (Sort.ahead w q) blk off (compactUpTo d d.size ++ List.replicate (d.size - (compactUpTo d d.size).length) 0).toArray := Any.slices_Compact_int_arr Tryz.laysNm220 blk off cap d w hH hsz hcap
open Go.RowKit Go.Lib Go.Sort in
theorem Tryz.slices_Compact_int (blk off cap : Nat) (zs : List Int) (w : World) (hH : Holds (Value.int .i64) w blk off zs.toArray) (hsz : zs.length ≤ 9223372036854775807) (hcap : zs.length ≤ cap) :
  Calls Tryz.prog 134 #[.slice (some ⟨blk, off, none⟩) zs.length cap] w fun e w' => e = .returned (.slice (some ⟨blk, off, none⟩) (Lib.compact zs).length cap) ∧ ∃ q, w' = putRow (Value.int .i64) (Sort.ahead w q) blk off (Lib.compact zs ++ List.replicate (zs.length - (Lib.compact zs).length) 0).toArray := Any.slices_Compact_int Tryz.laysNm220 blk off cap zs w hH hsz hcap
open Go.RowKit Go.Lib Go.Sort in
theorem Tryz.slices_Compact_int_empty (a : Option Addr) (cap : Nat) (w : World) :
  Calls Tryz.prog 134 #[.slice a 0 cap] w fun e w' => e = .returned (.slice a 0 cap) ∧ w' = w := Any.slices_Compact_int_empty Tryz.laysNm220 a cap w
open Go.RowKit Go.Sort in
theorem Tryz.slices_Sort_int_none (p : Option Addr) (cap : Nat) (w : World) :
  Calls Tryz.prog 133 #[.slice p 0 cap] w fun e w' => e = .returned (.tuple #[]) ∧ w' = w := Any.slices_Sort_int_none Tryz.lays189 p cap w
end Go.Proofs.YtiellebdliifdaaGreatDoor
namespace Go.Proofs.YtiellebdliifdaaGreatDoor
open Go.RowKit
theorem compact_nodup (zs : List Int) : (Lib.compact (zs.mergeSort fun x y => decide (x ≤ y))).length < zs.length ↔ ¬ zs.Nodup := by
 have hp := List.mergeSort_perm zs (fun x y => decide (x ≤ y))
 have hs : (zs.mergeSort fun x y => decide (x ≤ y)).Pairwise (fun x y => decide (x ≤ y) = true) := List.pairwise_mergeSort (fun a b c h1 h2 => by simp at *; omega) (fun a b => by simp; omega) zs
 rw [← hp.nodup_iff, ← hp.length_eq]
 generalize (zs.mergeSort fun x y => decide (x ≤ y)) = S at *
 have hle := Lib.compact_length_le S
 constructor
 ·intro h hn
  have : Lib.compact S = S := Lib.compact_all S (fun j hj => by
   by_cases h0 : j = 0
   ·exact Lib.keeps_lt_one _ j (by omega)
   ·refine Lib.keeps_pos ?_
    intro e
    have e1 : S.toArray[j]! = S[j] := by simp [hj]
    have e2 : S.toArray[j - 1]! = S[j - 1]'(by omega) := by simp [show j - 1 < S.length by omega]
    rw [e1, e2] at e
    exact (List.pairwise_iff_getElem.1 (show S.Pairwise (· ≠ ·) from hn)) (j - 1) j (by omega) hj (by omega) e.symm)
  rw [this] at h
  omega
 ·intro h
  refine Nat.lt_of_le_of_ne hle (fun e => h ?_)
  have hk : ∀ j, j < S.length → Lib.keeps S.toArray j = true := by
   unfold Lib.compact Lib.compactUpTo at e
   rw [List.length_map] at e
   have e' : ((List.range S.length).filter (Lib.keeps S.toArray)).length = (List.range S.length).length := by rw [e, List.length_range]
   have := List.length_filter_eq_length_iff.1 e'
   exact fun j hj => this j (List.mem_range.2 hj)
  rw [List.nodup_iff_pairwise_ne, List.pairwise_iff_getElem]
  intro i j hi hj hij e
  have h1 := hk j hj
  have e1 : S.toArray[j]! = S[j] := by simp [hj]
  have e2 : S.toArray[j - 1]! = S[j - 1]'(by omega) := by simp [show j - 1 < S.length by omega]
  have hne : S[j] ≠ S[j - 1]'(by omega) := fun q => by
   have := Lib.keeps_neg (d := S.toArray) (m := j) (by omega) (by rw [e1, e2]; exact q)
   rw [this] at h1
   cases h1
  rw [List.pairwise_iff_getElem] at hs
  have a1 := hs (j - 1) j (by omega) hj (by omega)
  simp at a1
  by_cases hq : i = j - 1
  ·subst hq
   exact hne e.symm
  ·have a2 := hs i (j - 1) hi (by omega) (by omega)
   simp at a2
   omega
def freeP (size : Int) (x : Wr1) : Bool := !decide (19 ≤ x.1 ∧ x.1 < size)
def longP (x : Wr1) : Bool := decide (x.2.size ≠ 256)
def refE (l : List Wr1) (size : Int) : Int := if 16 < l.length then 50 else if l.any (freeP size) then 52 else if ¬ (secs l).Nodup then 51 else if l.any longP then 42 else 0
set_option maxRecDepth 100000 in
set_option maxHeartbeats 400000 in
theorem isFree_any (z size : Int) (w : World) : Calls Tryz.prog 131 #[.int .i64 z, .int .i64 size] w fun e w' => e = .returned (.bool (decide (19 ≤ z ∧ z < size))) ∧ w' = w := by
 by_cases h : 19 ≤ z
 ·go_enter Tryz.func131, Tryz.ntmps131
  go_wp2
  go_ret
  exact ⟨by simp [h], rfl⟩
 ·go_enter Tryz.func131, Tryz.ntmps131
  go_wp2
  go_ret
  exact ⟨by simp; omega, rfl⟩
def PredW (g : Nat) (lb : Array Value) (q : Wr1 → Bool) (w : World) : Prop := ∀ (W : World) (x : Wr1), Below w.heap.size w W → Calls Tryz.prog g (#[.agg #[.int .i64 x.1, .string x.2]] ++ lb) W fun e w' => e = .returned (.bool (q x)) ∧ Below w.heap.size w w'
set_option maxRecDepth 100000 in
set_option maxHeartbeats 400000 in
theorem pred1_any (size : Int) (B : Nat) (w : World) (hB : B < w.heap.size) (hc : w.cell? ⟨B, 0, none⟩ = some (.int .i64 size)) : PredW 130 #[.pointer (some ⟨B, 0, none⟩)] (freeP size) w := fun W x hb => by
 have hc2 : W.cell? ⟨B, 0, none⟩ = some (.int .i64 size) := (hb.cell (p := ⟨B, 0, none⟩) hB).trans hc
 have hlt : B < W.heap.size := Nat.lt_of_lt_of_le hB hb.size
 obtain ⟨z, t⟩ := x
 show Calls Tryz.prog 130 #[.agg #[.int .i64 z, .string t], .pointer (some ⟨B, 0, none⟩)] W fun e w' => e = .returned (.bool (!decide (19 ≤ z ∧ z < size))) ∧ Below w.heap.size w w'
 have HF := hide (fun W => isFree_any z size W)
 obtain ⟨x1, hx1⟩ : ∃ x, x = W.alloc (Obj.cells #[.int .i64 z, .string t] 76) := ⟨_, rfl⟩
 have hb1 : Below w.heap.size w x1 := by rw [hx1]; exact hb.alloc hb.size _
 have HB := hide hb1
 have hne : B ≠ W.heap.size := by omega
 generalize decide (19 ≤ z ∧ z < size) = r at *
 clear hb hb1
 go_enter Tryz.func130, Tryz.ntmps130
 go_wp2_with fail
 rw [← hx1]
 refine (unhide HF _).mono ?_
 rintro e x2 ⟨rfl, rfl⟩
 replace hx1 := hide hx1
 go_wp2
 go_ret
 exact ⟨rfl, unhide HB⟩
set_option maxRecDepth 100000 in
set_option maxHeartbeats 400000 in
theorem pred2_any (w : World) : PredW 135 #[] longP w := fun W x hb => by
 obtain ⟨z, t⟩ := x
 show Calls Tryz.prog 135 #[.agg #[.int .i64 z, .string t]] W fun e w' => e = .returned (.bool (decide (t.size ≠ 256))) ∧ Below w.heap.size w w'
 have e : decide (t.size ≠ 256) = ((t.size : Int) != 256) := by
  by_cases h : t.size = 256
  ·simp [h]
  ·have : ¬ ((t.size : Int) = 256) := by omega
   simp [h, this]
 rw [e]
 clear e
 go_enter Tryz.func135, Tryz.ntmps135
 go_wp2
 go_ret
 exact ⟨rfl, hb.alloc hb.size _⟩
theorem any_drop (l : List Wr1) (q : Wr1 → Bool) (k : Nat) (hk : k < l.length) : (l.drop k).any q = (q (l.getD k wr0) || (l.drop (k + 1)).any q) := by
 rw [List.drop_eq_getElem_cons hk, List.any_cons, getD_of hk]
set_option maxRecDepth 100000 in
set_option maxHeartbeats 2000000 in
theorem idxf_any (w : World) (p : Option Addr) (c : Nat) (l : List Wr1) (n : Nat) (hn : n = l.length) (hl : Wls w p l) (hz : l.length ≤ 1000000) (g : Nat) (lb : Array Value) (q : Wr1 → Bool) (eg : ∀ args w, (callFunc g args).run Tryz.prog w = .ok (.enter g args) w) (hq : PredW g lb q w) :
  Calls Tryz.prog 172 #[.slice p n c, .func (.func g) #[] lb] w fun e w' => ∃ r : Int, e = .returned (.int .i64 r) ∧ (decide (0 ≤ r) = l.any q) ∧ Below w.heap.size w w' := by
 have HL := hide hl
 have HN := hide hn
 have HQ := hide hq
 have hzn : n ≤ 1000000 := by omega
 clear hl hn hq hz
 go_enter Tryz.func172, Tryz.ntmps172
 go_wp2
 go_loopw [8] (fun i wr => ∃ k : Nat, k ≤ n ∧ i = .int .i64 (k : Int) ∧ Hid (l.any q = (l.drop k).any q) ∧ Hid (Below w.heap.size w wr)) (fun i _ => n - (intOf i).toNat)
 case atStart => exact ⟨0, by omega, rfl, hide rfl, hide (Below.refl _ _)⟩
 case round =>
  obtain ⟨k, hk, rfl, hA, hB⟩ := hrel
  obtain ⟨wo, rfl⟩ : ∃ wo, wo = wr := ⟨_, rfl⟩
  by_cases hkl : k < n
  ·have hkl2 : k < l.length := by rw [← unhide HN]; exact hkl
   obtain ⟨gb, o, rfl, hg, c0, c1⟩ := (unhide HL).below (unhide hB) k hkl2
   have hst := any_drop l q k hkl2
   obtain ⟨z, hz⟩ : ∃ z, (l.getD k wr0).1 = z := ⟨_, rfl⟩
   obtain ⟨t, ht⟩ : ∃ t, (l.getD k wr0).2 = t := ⟨_, rfl⟩
   have hx : l.getD k wr0 = (z, t) := by rw [← hz, ← ht]
   rw [hz] at c0
   rw [ht] at c1
   rw [hx] at hst
   have hld := load_wr wo gb (o + k * 2) z t c0 c1
   have hcall := unhide HQ wo (z, t) (unhide hB)
   have HS := hide hst
   clear hst hz ht hx hkl2
   cases hqv : q (z, t) with
   | true =>
    rw [hqv] at hcall
    have HA := hide (show l.any q = true from by rw [unhide hA, unhide HS, hqv]; rfl)
    clear hA HS hB hqv
    go_wp2_with (go_at_fn g; refine hcall.mono ?_; rintro e w' ⟨rfl, hb'⟩)
    go_ret
    exact ⟨(k : Int), rfl, by rw [unhide HA]; simp, hb'⟩
   | false =>
    rw [hqv] at hcall
    have HA := hide (show l.any q = (l.drop (k + 1)).any q from by rw [unhide hA, unhide HS, hqv]; rfl)
    clear hA HS hB hqv
    go_wp2_with (go_at_fn g; refine hcall.mono ?_; rintro e w' ⟨rfl, hb'⟩)
    have HB' := hide hb'
    clear hb'
    go_roundw
    case rel => exact ⟨k + 1, by omega, by go_num, HA, HB'⟩
    case measure => simp [intOf]; omega
  ·have hk' : k = n := by omega
   subst hk'
   have HA := hide (show l.any q = false from by rw [unhide hA, unhide HN, List.drop_length]; rfl)
   clear hA hkl
   go_wp2
   go_ret
   exact ⟨-1, rfl, by rw [unhide HA]; rfl, unhide hB⟩
set_option maxRecDepth 100000 in
set_option maxHeartbeats 400000 in
theorem contf_any (w : World) (p : Option Addr) (c : Nat) (l : List Wr1) (n : Nat) (hn : n = l.length) (hl : Wls w p l) (hz : l.length ≤ 1000000) (g : Nat) (lb : Array Value) (q : Wr1 → Bool) (eg : ∀ args w, (callFunc g args).run Tryz.prog w = .ok (.enter g args) w) (hq : PredW g lb q w) :
  Calls Tryz.prog 129 #[.slice p n c, .func (.func g) #[] lb] w fun e w' => e = .returned (.bool (l.any q)) ∧ Below w.heap.size w w' := by
 have HC := hide (idxf_any w p c l n hn hl hz g lb q eg hq)
 clear hl hn hq hz
 go_enter Tryz.func129, Tryz.ntmps129
 go_wp2_with fail
 refine (unhide HC).mono ?_
 rintro e x1 ⟨r, rfl, hr, hb⟩
 have HB := hide hb
 have HR := hide hr
 clear hr hb
 go_wp2
 go_ret
 refine ⟨?_, unhide HB⟩
 show Ending.returned (.bool (decide (0 ≤ r))) = _
 rw [unhide HR]
end Go.Proofs.YtiellebdliifdaaGreatDoor
namespace Go.Proofs.YtiellebdliifdaaGreatDoor
open Go.RowKit
theorem below_growJ {B : Nat} {w0 w : World} (h : Below B w0 w) (hB : B ≤ w.heap.size) (os : Array Obj) : Below B w0 (Go.Sort.grow w os) :=
 ⟨h.os, h.tape, h.output, by have := h.size; simp [Go.Sort.grow]; omega, fun k hk => by
  have : (Go.Sort.grow w os).heap[k]? = w.heap[k]? := by
   show (w.heap ++ os)[k]? = _
   rw [Array.getElem?_append_left (by omega)]
  rw [this]
  exact h.block k hk⟩
theorem holds_blk {w : World} {g : Nat} {L : List Int} (h : Blk w g (L.map (Value.int .i64)).toArray 3) : Go.Sort.Holds (Value.int .i64) w g 0 L.toArray := fun j hj => by
 have hj' : j < L.length := by simpa using hj
 refine ⟨?_, h.frozen _⟩
 rw [Nat.zero_add, h.cell]
 simp [hj']
set_option maxRecDepth 100000 in
set_option maxHeartbeats 2000000 in
theorem refusal_any (w : World) (p : Option Addr) (c : Nat) (l : List Wr1) (n : Nat) (hn : n = l.length) (hl : Wls w p l) (size : Int) :
  Calls Tryz.prog 80 #[.slice p n c, .int .i64 size] w fun e w' => e = .returned (.int .i64 (refE l size)) ∧ Below w.heap.size w w' := by
 have HB0 := hide ((Below.refl w.heap.size w).alloc (Nat.le_refl _) (Obj.cells #[.int .i64 size] 3))
 by_cases h16 : 16 < n
 ·have hr : refE l size = 50 := by rw [refE, if_pos (by omega)]
  rw [hr]
  have h16' : (16 : Int) < (n : Int) := by omega
  clear hr hl hn
  go_enter Tryz.func80, Tryz.ntmps80
  go_wp2
  go_ret
  exact ⟨rfl, unhide HB0⟩
 ·have HR := hide (show refE l size = if l.any (freeP size) then 52 else if ¬ (secs l).Nodup then 51 else if l.any longP then 42 else 0 from by rw [refE, if_neg (by omega)])
  have eg1 : ∀ args w, (callFunc 130 args).run Tryz.prog w = .ok (.enter 130 args) w := enters_of Tryz.func130 (by kernel_rfl) rfl
  have eg2 : ∀ args w, (callFunc 135 args).run Tryz.prog w = .ok (.enter 135 args) w := enters_of Tryz.func135 (by kernel_rfl) rfl
  obtain ⟨x0, hx0⟩ : ∃ x, x = w.alloc (Obj.cells #[.int .i64 size] 3) := ⟨_, rfl⟩
  have hs0 : x0.heap.size = w.heap.size + 1 := by rw [hx0]; simp
  rw [← hx0] at HB0
  have hc0 : x0.cell? ⟨w.heap.size, 0, none⟩ = some (.int .i64 size) := by rw [hx0, (Blk.new w 3 #[.int .i64 size]).cell 0]; rfl
  have hl0 : Wls x0 p l := hl.below (unhide HB0)
  have HC1 := hide (contf_any x0 p c l n hn hl0 (by omega) _ _ (freeP size) eg1 (pred1_any size w.heap.size x0 (by omega) hc0))
  have HL := hide hl
  have HN := hide hn
  have HZ := hide hs0
  have hln : l.length ≤ 1000000 := by omega
  have HLN := hide hln
  have h16' : ¬ (16 : Int) < (n : Int) := by omega
  clear hl hn hs0 hc0 hl0 hln eg1
  have E2 := hide eg2
  clear eg2
  go_enter Tryz.func80, Tryz.ntmps80
  go_wp2_with fail
  rw [← hx0]
  replace hx0 := hide hx0
  refine (unhide HC1).mono ?_
  rintro e x1 ⟨rfl, hb1⟩
  have HB1 := hide ((unhide HB0).trans (hb1.mono (by have := unhide HZ; omega)))
  clear hb1 HC1
  cases h1 : l.any (freeP size) with
  | true =>
   have hr : refE l size = 52 := by rw [unhide HR, h1]; rfl
   have HRR := hide hr
   clear hr h1
   go_wp2
   go_ret
   exact ⟨(congrArg (fun z => Ending.returned (.int .i64 z)) (unhide HRR)).symm, unhide HB1⟩
  | false =>
   have HR2 := hide (show refE l size = if ¬ (secs l).Nodup then 51 else if l.any longP then 42 else 0 from by rw [unhide HR, h1]; rfl)
   have HC2 := hide (sectorsOf_any x1 p c l n (unhide HN) ((unhide HL).below (unhide HB1)) (unhide HLN))
   clear HR h1
   go_wp2_with fail
   refine (unhide HC2).mono ?_
   rintro e x2 ⟨rfl, hB2, hb2⟩
   have HB2 := hide ((unhide HB1).trans (hb2.mono (unhide HB1).size))
   have hH2 := holds_blk hB2
   have hlt2 : x1.heap.size < x2.heap.size := hB2.lt
   have hsl : (secs l).length = n := by rw [unhide HN]; simp [secs]
   have hcS := Tryz.slices_Sort_int x1.heap.size 0 n (secs l) x2 hH2 hlt2 (by omega)
   rw [hsl] at hcS
   have HCS := hide hcS
   have HH2 := hide (And.intro hH2 hlt2)
   have HSL := hide hsl
   have hge : w.heap.size ≤ x1.heap.size := (unhide HB1).size
   have HGE := hide hge
   clear hB2 hb2 hH2 hlt2 hcS HC2 hsl hge
   go_wp2_with fail
   refine (unhide HCS).mono ?_
   rintro e x3 ⟨rfl, k3, os3, hx3⟩
   have hms : ((secs l).mergeSort fun x y => decide (x ≤ y)).length = n := by rw [(List.mergeSort_perm _ _).length_eq, unhide HSL]
   have hH3 : Go.Sort.Holds (Value.int .i64) x3 x1.heap.size 0 ((secs l).mergeSort fun x y => decide (x ≤ y)).toArray := by
    rw [hx3]
    refine Go.Sort.holds_grow _ _ _ _ _ _ ?_ (Go.Sort.holds_putRow _ _ _ _ (secs l).toArray _ (unhide HH2).1 (by simp [hms, unhide HSL]))
    have : (Go.Sort.putRow (Value.int .i64) (Go.Sort.ahead x2 k3) x1.heap.size 0 ((secs l).mergeSort fun x y => decide (x ≤ y)).toArray).heap.size = x2.heap.size := by simp [Go.Sort.putRow, Go.Sort.mapBlock, Go.Sort.ahead]
    rw [this]
    exact (unhide HH2).2
   have hb3 : Below w.heap.size w x3 := by
    rw [hx3]
    refine below_growJ (Go.Lib.below_putRow (unhide HB2) (unhide HGE)) ?_ _
    have : (Go.Sort.putRow (Value.int .i64) (Go.Sort.ahead x2 k3) x1.heap.size 0 ((secs l).mergeSort fun x y => decide (x ≤ y)).toArray).heap.size = x2.heap.size := by simp [Go.Sort.putRow, Go.Sort.mapBlock, Go.Sort.ahead]
    rw [this]
    exact (unhide HB2).size
   have hcm := compact_nodup (secs l)
   have hcC := Tryz.slices_Compact_int x1.heap.size 0 n ((secs l).mergeSort fun x y => decide (x ≤ y)) x3 hH3 (by omega) (by omega)
   rw [hms] at hcC
   rw [unhide HSL] at hcm
   generalize ((secs l).mergeSort fun x y => decide (x ≤ y)) = S at *
   have HCC := hide hcC
   have HCM := hide hcm
   have HB3 := hide hb3
   clear hx3 hms hH3 hb3 hcC hcm HCS
   go_wp2_with fail
   refine (unhide HCC).mono ?_
   rintro e x4 ⟨rfl, q4, hx4⟩
   have HB4 := hide (show Below w.heap.size w x4 from by rw [hx4]; exact Go.Lib.below_putRow (unhide HB3) (unhide HGE))
   have hcm := unhide HCM
   generalize (Lib.compact S).length = m at *
   clear hx4 HCC HCM
   by_cases hd : m < n
   ·have hr : refE l size = 51 := by rw [unhide HR2, if_pos (hcm.1 hd)]
    have HRR := hide hr
    have hd' : (m : Int) < (n : Int) := by omega
    clear hr hcm
    go_wp2
    go_ret
    exact ⟨(congrArg (fun z => Ending.returned (.int .i64 z)) (unhide HRR)).symm, unhide HB4⟩
   ·have HR3 := hide (show refE l size = if l.any longP then 42 else 0 from by rw [unhide HR2, if_neg (fun q => hd (hcm.2 q))])
    have HC3 := hide (contf_any x4 p c l n (unhide HN) ((unhide HL).below (unhide HB4)) (unhide HLN) _ _ longP (unhide E2) (pred2_any x4))
    have hd' : ¬ (m : Int) < (n : Int) := by omega
    clear hcm HR2
    go_wp2_with fail
    refine (unhide HC3).mono ?_
    rintro e x5 ⟨rfl, hb5⟩
    have HB5 := hide ((unhide HB4).trans (hb5.mono (unhide HB4).size))
    clear hb5 HC3
    cases h5 : l.any longP with
    | true =>
     have hr : refE l size = 42 := by rw [unhide HR3, h5]; rfl
     have HRR := hide hr
     clear hr h5
     go_wp2
     go_ret
     exact ⟨(congrArg (fun z => Ending.returned (.int .i64 z)) (unhide HRR)).symm, unhide HB5⟩
    | false =>
     have hr : refE l size = 0 := by rw [unhide HR3, h5]; rfl
     have HRR := hide hr
     clear hr h5
     go_wp2
     go_ret
     exact ⟨(congrArg (fun z => Ending.returned (.int .i64 z)) (unhide HRR)).symm, unhide HB5⟩
end Go.Proofs.YtiellebdliifdaaGreatDoor
