import Derived.Test.YtkkndlkelpdehaaGreatDoorMr08
import Derived.Test.YtkkndlkelpdehaaGreatDoorMr02
import Derived.Test.YtkkndlkelpdehaaGreatDoorMr06
import Derived.Test.YtkkndlkelpdehaaGreatDoorMr07
import Derived.Test.YtkkndlkelpdehaaGreatDoorMr04
import Derived.Shelf.Sort.Plain
import Derived.Ground.Names2Prog
import Derived.Shelf.Slices.CompactI
import Derived.Shelf.Slices.In.SortNone
import Derived.Test.YtkkndlkelpdehaaGreatDoorProg
namespace Go.Proofs.YtkkndlkelpdehaaGreatDoor
open Go.RowKit
set_option maxRecDepth 100000 in
set_option maxHeartbeats 2000000 in
/-- MakePage of any page. -/
theorem make_any (hRep : RepOk) (kind number : Int) (body : ByteArray) (w : World) :
    Calls Tryz.prog 72 #[.agg #[.int .i64 kind, .int .i64 number, .string body]] w fun e w' => e = .returned (.tuple #[.string (makeB kind number body), .int .i64 (errM kind number body.size)]) ∧ Below w.heap.size w w' := by
  by_cases hk : fitsP kind 1
  · by_cases hn : fitsP number 4
    · by_cases hb : body.size ≤ 244
      · have hE : errM kind number body.size = 0 := by rw [errM, if_neg (by simp [hk, hn]), if_neg (by omega)]
        rw [makeB, if_pos hE, hE]
        exact make_ok hRep kind number body hk hn hb w
      · have hE : errM kind number body.size = 32 := by rw [errM, if_neg (by simp [hk, hn]), if_pos (by omega)]
        rw [makeB, if_neg (by rw [hE]; decide), hE]
        have HF1 := hide (fun W => fits_any kind 1 (by decide) W)
        rw [decide_eq_true hk] at HF1
        have HF4 := hide (fun W => fits_any number 4 (by decide) W)
        rw [decide_eq_true hn] at HF4
        have hb' : 244 < body.size := by omega
        clear hk hn hRep hE
        go_enter Tryz.func72, Tryz.ntmps72
        go_wp2_with fail
        refine (unhide HF1 _).mono ?_
        rintro ev wa ⟨rfl, rfl⟩
        go_wp2_with fail
        refine (unhide HF4 _).mono ?_
        rintro ev wb ⟨rfl, rfl⟩
        go_wp2
        go_ret2
        exact ⟨rfl, (Below.refl _ w).alloc (Nat.le_refl _) _⟩
    · have hE : errM kind number body.size = 1 := by rw [errM, if_pos (.inr hn)]
      rw [makeB, if_neg (by rw [hE]; decide), hE]
      have HF1 := hide (fun W => fits_any kind 1 (by decide) W)
      rw [decide_eq_true hk] at HF1
      have HF4 := hide (fun W => fits_any number 4 (by decide) W)
      rw [decide_eq_false hn] at HF4
      clear hk hn hRep hE
      go_enter Tryz.func72, Tryz.ntmps72
      go_wp2_with fail
      refine (unhide HF1 _).mono ?_
      rintro ev wa ⟨rfl, rfl⟩
      go_wp2_with fail
      refine (unhide HF4 _).mono ?_
      rintro ev wb ⟨rfl, rfl⟩
      go_wp2
      go_ret2
      exact ⟨rfl, (Below.refl _ w).alloc (Nat.le_refl _) _⟩
  · have hE : errM kind number body.size = 1 := by rw [errM, if_pos (.inl hk)]
    rw [makeB, if_neg (by rw [hE]; decide), hE]
    have HF1 := hide (fun W => fits_any kind 1 (by decide) W)
    rw [decide_eq_false hk] at HF1
    clear hk hRep hE
    go_enter Tryz.func72, Tryz.ntmps72
    go_wp2_with fail
    refine (unhide HF1 _).mono ?_
    rintro ev wa ⟨rfl, rfl⟩
    go_wp2
    go_ret2
    exact ⟨rfl, (Below.refl _ w).alloc (Nat.le_refl _) _⟩
end Go.Proofs.YtkkndlkelpdehaaGreatDoor

namespace Go.Proofs.YtkkndlkelpdehaaGreatDoor
open Go.RowKit
theorem rep_zero (c : Nat) : (⟨(Lib.repeatL (ByteArray.mk #[0]).data.toList c).toArray⟩ : ByteArray) = strOfNums (List.replicate c 0) := by
  have h : Lib.repeatL (ByteArray.mk #[0]).data.toList c = List.replicate c 0 := by
    have := Lib.repeatL_replicate 0 1 c
    rw [Nat.mul_one] at this
    exact this
  rw [h, strOfNums]
  simp
theorem rep_ok : RepOk := by
  intro c W hc
  have h := Tryz.strings_Repeat ⟨#[0]⟩ c W (by omega) (by show 1 * c ≤ _; omega)
  rw [rep_zero] at h
  exact h
end Go.Proofs.YtkkndlkelpdehaaGreatDoor

namespace Go.Proofs.YtkkndlkelpdehaaGreatDoor
open Go.RowKit
/-- The bytes of a head with a number, and where its records belong. -/
def headL (H : List Int) : List Int := if H.length = 0 then [0] else [1] ++ outN 4 H
def headB (n : Nat) (H : List Int) : ByteArray := strOfNums (makeL 2 (n : Int) (headL H))
theorem num1 (z : Int) (h0 : 0 ≤ z) (h1 : z < 256) : numB z 1 = [z] := by
  simp [numB]
  omega
theorem fits1j (z : Int) (h0 : 0 ≤ z) (h1 : z < 256) : fitsP z 1 := ⟨h0, by
  have e : (2 : Int) ^ (8 * 1) = 256 := by decide
  rw [e]
  omega⟩
theorem fits4j (z : Int) (h0 : 0 ≤ z) (h1 : z < 4294967296) : fitsP z 4 := ⟨h0, by
  have e : (2 : Int) ^ (8 * 4) = 4294967296 := by decide
  rw [e]
  omega⟩
theorem bytes_of {l : List Int} (h : ∀ x ∈ l, 0 ≤ x ∧ x < 256) : Bytes l := by
  intro j
  rw [List.getD_eq_getElem?_getD]
  cases e : l[j]? with
  | none => simp
  | some x => exact h x (List.mem_of_getElem? e)
theorem numB_memb (v : Int) (k : Nat) : ∀ x ∈ numB v k, 0 ≤ x ∧ x < 256 := fun x hx => by
  obtain ⟨j, hj, e⟩ := List.getElem_of_mem hx
  have := numB_bytes v k j
  rw [List.getD_eq_getElem?_getD, List.getElem?_eq_getElem hj, e] at this
  simpa using this
theorem headL_bytes (H : List Int) : Bytes (headL H) := bytes_of (fun x hx => by
  unfold headL at hx
  split at hx
  · simp at hx; omega
  · rcases List.mem_append.1 hx with hx | hx
    · simp at hx; omega
    · obtain ⟨n, _, h⟩ := List.mem_flatMap.1 hx
      exact numB_memb n 4 x h)
theorem headL_len (H : List Int) (h : H.length ≤ 60) : (headL H).length ≤ 244 := by
  unfold headL
  split
  · simp
  · rw [List.length_append, outN_len]
    simp
    omega
theorem headB_size (n : Nat) (H : List Int) (h : H.length ≤ 60) : (headB n H).size = 256 := by
  rw [headB, strOfNums_size, makeL_len _ _ _ (headL_len H h)]
theorem outN_one (z : Int) (h0 : 0 ≤ z) (h1 : z < 256) : [] ++ outN 1 [z] = [z] := by
  rw [List.nil_append]
  show numB z 1 ++ [] = [z]
  rw [List.append_nil, num1 z h0 h1]
theorem headL_nil : headL [] = [0] := by simp [headL]
theorem headB_eq (n : Nat) (H : List Int) (bd : ByteArray) (h : strOfNums (headL H) = bd) : strOfNums (makeL 2 (n : Int) (nums bd)) = headB n H := by
  subst h
  unfold headB
  rw [nums_strOfNums _ (headL_bytes H)]
set_option maxRecDepth 100000 in
set_option maxHeartbeats 400000 in
theorem isSet_any (n : Int) (p : Option Addr) (k c : Nat) (w : World) :
    Calls Tryz.prog 69 #[.agg #[.int .u32 n, .slice p k c]] w fun e w' => e = .returned (.bool (decide (0 < k))) ∧ Below w.heap.size w w' := by
  go_enter Tryz.func69, Tryz.ntmps69
  go_wp2
  go_ret
  exact ⟨rfl, (Below.refl _ _).alloc (Nat.le_refl _) _⟩
set_option maxRecDepth 100000 in
set_option maxHeartbeats 400000 in
theorem clearHead_any (n : Int) (w : World) :
    Calls Tryz.prog 39 #[.int .u32 n] w fun e w' => e = .returned (.agg #[.int .u32 n, .slice none 0 0]) ∧ Below w.heap.size w w' := by
  go_enter Tryz.func39, Tryz.ntmps39
  go_wp2
  have B := Blk.new w 91 #[.int .u32 n, .slice none 0 0]
  have hld := load_blk 91 _ B Tryz.underlying91 rfl (by kernel_rfl)
  refine bodyPost_ret (v := .agg #[.int .u32 n, .slice none 0 0]) (results_cell rfl _ _ _ ⟨w.heap.size, 0, none⟩ rfl _ hld) rfl ⟨rfl, ?_⟩
  exact (Below.refl _ w).alloc (Nat.le_refl _) _
set_option maxRecDepth 100000 in
set_option maxHeartbeats 400000 in
theorem setHead_any (n : Int) (w : World) (p : Option Addr) (c : Nat) (l : List Wr1) (m : Nat) (hm : m = l.length) (hl : Wls w p l) (hz : l.length ≤ 1000000) :
    Calls Tryz.prog 54 #[.int .u32 n, .slice p m c] w fun e w' => e = .returned (.agg #[.int .u32 n, .slice (some ⟨w.heap.size + 1, 0, none⟩) m m]) ∧ Blk w' (w.heap.size + 1) ((secs l).map (Value.int .i64)).toArray 3 ∧ Below w.heap.size w w' := by
  obtain ⟨x0, hx0⟩ : ∃ x, x = w.alloc (Obj.cells #[.int .u32 0, .slice none 0 0] 91) := ⟨_, rfl⟩
  have hs0 : x0.heap.size = w.heap.size + 1 := by rw [hx0]; simp
  have hb0 : Below w.heap.size w x0 := by rw [hx0]; exact (Below.refl _ w).alloc (Nat.le_refl _) _
  have B0 : Blk x0 w.heap.size #[.int .u32 0, .slice none 0 0] 91 := by rw [hx0]; exact Blk.new w _ _
  have HC := hide (sectorsOf_any x0 p c l m hm (hl.below hb0) hz)
  have HX := hide (And.intro hs0 (And.intro hb0 B0))
  clear hs0 hb0 B0 hl hz hm
  go_enter Tryz.func54, Tryz.ntmps54
  go_wp2_with fail
  rw [← hx0]
  replace hx0 := hide hx0
  refine (unhide HC).mono ?_
  rintro e x1 ⟨rfl, hB1, hb1⟩
  have hs1 := (unhide HX).1
  have hlt : w.heap.size < x0.heap.size := by omega
  have BH := (unhide HX).2.2.below hb1 hlt
  have q0 : x1.cell? ⟨w.heap.size, 0, none⟩ = some (.int .u32 0) := BH.cell 0
  have q1 : x1.cell? ⟨w.heap.size, 1, none⟩ = some (.slice none 0 0) := BH.cell 1
  have p0 := BH.frozen 0
  have p1 := BH.frozen 1
  have HB := hide (And.intro BH (And.intro hB1 hb1))
  have hg : x0.heap.size = w.heap.size + 1 := hs1
  have HG := hide hg
  rw [hg]
  clear BH hB1 hb1 hs1 hlt hg
  go_wp2
  have B := ((unhide HB).1.set 0 (.int .u32 n)).set 1 (.slice (some ⟨w.heap.size + 1, 0, none⟩) m m)
  have hld := load_blk 91 _ B Tryz.underlying91 rfl (by kernel_rfl)
  refine bodyPost_ret (v := .agg #[.int .u32 n, .slice (some ⟨w.heap.size + 1, 0, none⟩) m m]) (results_cell rfl _ _ _ ⟨w.heap.size, 0, none⟩ rfl _ hld) rfl ⟨rfl, ?_, ?_⟩
  · have := (unhide HB).2.1
    rw [unhide HG] at this
    exact (this.other _ _ (by show w.heap.size ≠ w.heap.size + 1; omega)).other _ _ (by show w.heap.size ≠ w.heap.size + 1; omega)
  · exact (((unhide HX).2.1.trans ((unhide HB).2.2.mono (unhide HX).2.1.size)).setCell (Nat.le_refl _) _).setCell (Nat.le_refl _) _
set_option maxRecDepth 100000 in
set_option maxHeartbeats 400000 in
theorem hwrite_clear (n : Nat) (hn : n < 4294967296) (p : Option Addr) (c : Nat) (w : World) :
    Calls Tryz.prog 40 #[.agg #[.int .u32 (n : Int), .slice p 0 c]] w fun e w' => e = .returned (.agg #[.int .i64 1, .string (headB n [])]) ∧ Below w.heap.size w w' := by
  obtain ⟨x0, hx0⟩ : ∃ x, x = (w.alloc (Obj.cells #[.int .u32 (n : Int), .slice p 0 c] 91)).alloc (Obj.cells #[.int .i64 0, .string ⟨#[]⟩] 68) := ⟨_, rfl⟩
  have hs0 : x0.heap.size = w.heap.size + 1 + 1 := by rw [hx0]; simp
  have hb0 : Below w.heap.size w x0 := by rw [hx0]; exact ((Below.refl _ w).alloc (Nat.le_refl _) _).alloc (by simp) _
  have BH0 : Blk x0 w.heap.size #[.int .u32 (n : Int), .slice p 0 c] 91 := by rw [hx0]; exact (Blk.new w _ _).alloc _
  have BW0 : Blk x0 (w.heap.size + 1) #[.int .i64 0, .string ⟨#[]⟩] 68 := by
    rw [hx0]
    have := Blk.new (w.alloc (Obj.cells #[.int .u32 (n : Int), .slice p 0 c] 91)) 68 #[.int .i64 0, .string ⟨#[]⟩]
    simpa using this
  have HX := hide (And.intro hs0 (And.intro hb0 (And.intro BH0 BW0)))
  have HNW := hide (newWriter_any x0)
  have HIS := hide (fun W => isSet_any (n : Int) p 0 c W)
  have HMK := hide (fun (W : World) => make_ok rep_ok 2 (n : Int) (strOfNums (headL [])) (fits1j 2 (by decide) (by decide)) (fits4j _ (by omega) (by omega)) (by rw [strOfNums_size]; exact headL_len [] (by simp)) W)
  obtain ⟨bd, hbd⟩ : ∃ bd, strOfNums (headL []) = bd := ⟨_, rfl⟩
  have hhb := headB_eq n [] bd hbd
  rw [hbd, hhb] at HMK
  have HBD := hide hbd
  generalize headB n [] = hb at *
  clear hs0 hb0 BH0 BW0 hbd hhb
  go_enter Tryz.func40, Tryz.ntmps40
  go_wp2_with fail
  rw [← hx0]
  replace hx0 := hide hx0
  refine (unhide HNW).mono ?_
  rintro e x1 ⟨rfl, hR1, hB1, hz1⟩
  have X1 := hide (TWr.start hR1 hB1)
  clear hR1 hB1 HNW hz1
  have hl0 : w.heap.size < x0.heap.size ∧ w.heap.size + 1 < x0.heap.size := by have := (unhide HX).1; omega
  have HL0 := hide hl0
  have BH1 := (unhide HX).2.2.1.below (unhide X1).bel hl0.1
  have c0 : x1.cell? ⟨w.heap.size, 0, none⟩ = some (.int .u32 (n : Int)) := BH1.cell 0
  have c1 : x1.cell? ⟨w.heap.size, 1, none⟩ = some (.slice p 0 c) := BH1.cell 1
  clear BH1 hl0
  go_wp2_with fail
  refine (unhide HIS _).mono ?_
  rintro e x2 ⟨rfl, hB2⟩
  have X2 := hide ((unhide X1).below hB2)
  clear hB2 X1 c0 c1
  go_wp2_with fail
  refine ((unhide X2).num ((Below.refl _ x2).alloc (Nat.le_refl _) _) 1 (by decide) (by decide) [0] (fun z hz => by simp at hz; subst hz; exact fits1j 0 (by decide) (by decide)) _ 1 1 rfl (inl_new x2 0) (fun k o q => by cases q; exact .inl (Nat.le_refl _)) (by decide) 1 rfl).mono ?_
  rintro e x4 ⟨rfl, h4⟩
  rw [outN_one 0 (by decide) (by decide), ← headL_nil] at h4
  have X4 := hide h4
  clear h4 X2
  go_wp2_with fail
  refine ((unhide X4).done).mono ?_
  rintro e x5 ⟨rfl, hB5⟩
  rw [unhide HBD]
  have X5 := hide ((unhide X4).below hB5)
  clear hB5 X4
  have BH5 := (unhide HX).2.2.1.below (unhide X5).bel (unhide HL0).1
  have c0 : x5.cell? ⟨w.heap.size, 0, none⟩ = some (.int .u32 (n : Int)) := BH5.cell 0
  have hcv : IntKind.i64.wrap (n : Int) = (n : Int) := wrapI_eq _ (by omega) (by omega)
  clear BH5
  go_wp2_with fail
  refine (unhide HMK _).mono ?_
  rintro e x6 ⟨rfl, hB6⟩
  have X6 := hide ((unhide X5).below hB6)
  clear hB6 X5 c0
  have BW6 := (unhide HX).2.2.2.below (unhide X6).bel (unhide HL0).2
  have q0 : x6.cell? ⟨w.heap.size + 1, 0, none⟩ = some (.int .i64 0) := BW6.cell 0
  have q1 : x6.cell? ⟨w.heap.size + 1, 1, none⟩ = some (.string ⟨#[]⟩) := BW6.cell 1
  have p0 := BW6.frozen 0
  have p1 := BW6.frozen 1
  have HB := hide BW6
  clear BW6
  go_wp2
  have B := ((unhide HB).set 0 (.int .i64 1)).set 1 (.string hb)
  have hld := load_blk 68 _ B Tryz.underlying68 rfl (by kernel_rfl)
  refine bodyPost_ret (v := .agg #[.int .i64 1, .string hb]) (results_cell rfl _ _ _ ⟨w.heap.size + 1, 0, none⟩ rfl _ hld) rfl ⟨rfl, ?_⟩
  exact (((unhide HX).2.1.trans ((unhide X6).bel.mono (unhide HX).2.1.size)).setCell (by show w.heap.size ≤ w.heap.size + 1; omega) _).setCell (by show w.heap.size ≤ w.heap.size + 1; omega) _
set_option maxRecDepth 100000 in
set_option maxHeartbeats 400000 in
theorem hwrite_set (n : Nat) (hn : n < 4294967296) (p : Option Addr) (c : Nat) (w : World) (H : List Int) (m : Nat) (hm : m = H.length) (h0 : 0 < m) (hH : Inl w p H) (hlt : ∀ k o, p = some ⟨k, o, none⟩ → k < w.heap.size) (hf : ∀ z ∈ H, fitsP z 4) (hl : H.length ≤ 60) :
    Calls Tryz.prog 40 #[.agg #[.int .u32 (n : Int), .slice p m c]] w fun e w' => e = .returned (.agg #[.int .i64 1, .string (headB n H)]) ∧ Below w.heap.size w w' := by
  obtain ⟨x0, hx0⟩ : ∃ x, x = (w.alloc (Obj.cells #[.int .u32 (n : Int), .slice p m c] 91)).alloc (Obj.cells #[.int .i64 0, .string ⟨#[]⟩] 68) := ⟨_, rfl⟩
  have hs0 : x0.heap.size = w.heap.size + 1 + 1 := by rw [hx0]; simp
  have hb0 : Below w.heap.size w x0 := by rw [hx0]; exact ((Below.refl _ w).alloc (Nat.le_refl _) _).alloc (by simp) _
  have BH0 : Blk x0 w.heap.size #[.int .u32 (n : Int), .slice p m c] 91 := by rw [hx0]; exact (Blk.new w _ _).alloc _
  have BW0 : Blk x0 (w.heap.size + 1) #[.int .i64 0, .string ⟨#[]⟩] 68 := by
    rw [hx0]
    have := Blk.new (w.alloc (Obj.cells #[.int .u32 (n : Int), .slice p m c] 91)) 68 #[.int .i64 0, .string ⟨#[]⟩]
    simpa using this
  have HX := hide (And.intro hs0 (And.intro hb0 (And.intro BH0 BW0)))
  have HNW := hide (newWriter_any x0)
  have HIS := hide (fun W => isSet_any (n : Int) p m c W)
  have HMK := hide (fun (W : World) => make_ok rep_ok 2 (n : Int) (strOfNums (headL H)) (fits1j 2 (by decide) (by decide)) (fits4j _ (by omega) (by omega)) (by rw [strOfNums_size]; exact headL_len H hl) W)
  obtain ⟨bd, hbd⟩ : ∃ bd, strOfNums (headL H) = bd := ⟨_, rfl⟩
  have hhb := headB_eq n H bd hbd
  rw [hbd, hhb] at HMK
  have HBD := hide hbd
  generalize headB n H = hb at *
  clear hs0 hb0 BH0 BW0 hbd hhb
  have hm0 : (decide (0 < m)) = true := by simp; omega
  rw [hm0] at HIS
  have HHH := hide (And.intro hH (And.intro hlt (And.intro hf (And.intro hl hm))))
  clear hH hlt hf hl hm0 hm
  go_enter Tryz.func40, Tryz.ntmps40
  go_wp2_with fail
  rw [← hx0]
  replace hx0 := hide hx0
  refine (unhide HNW).mono ?_
  rintro e x1 ⟨rfl, hR1, hB1, hz1⟩
  have X1 := hide (TWr.start hR1 hB1)
  clear hR1 hB1 HNW hz1
  have hl0 : w.heap.size < x0.heap.size ∧ w.heap.size + 1 < x0.heap.size := by have := (unhide HX).1; omega
  have HL0 := hide hl0
  have BH1 := (unhide HX).2.2.1.below (unhide X1).bel hl0.1
  have c0 : x1.cell? ⟨w.heap.size, 0, none⟩ = some (.int .u32 (n : Int)) := BH1.cell 0
  have c1 : x1.cell? ⟨w.heap.size, 1, none⟩ = some (.slice p m c) := BH1.cell 1
  clear BH1 hl0
  go_wp2_with fail
  refine (unhide HIS _).mono ?_
  rintro e x2 ⟨rfl, hB2⟩
  have X2 := hide ((unhide X1).below hB2)
  clear hB2 X1 c0 c1
  go_wp2_with fail
  refine ((unhide X2).num ((Below.refl _ x2).alloc (Nat.le_refl _) _) 1 (by decide) (by decide) [1] (fun z hz => by simp at hz; subst hz; exact fits1j 1 (by decide) (by decide)) _ 1 1 rfl (inl_new x2 1) (fun k o q => by cases q; exact .inl (Nat.le_refl _)) (by decide) 1 rfl).mono ?_
  rintro e x3 ⟨rfl, h3⟩
  rw [outN_one 1 (by decide) (by decide)] at h3
  have X3 := hide h3
  clear h3 X2
  have BH3 := (unhide HX).2.2.1.below (unhide X3).bel (unhide HL0).1
  have c1 : x3.cell? ⟨w.heap.size, 1, none⟩ = some (.slice p m c) := BH3.cell 1
  have hI3 : Inl x3 p H := (unhide HHH).1.below ((unhide HX).2.1.trans ((unhide X3).bel.mono (unhide HX).2.1.size)) (fun _ => (unhide HHH).2.1)
  have HI3 := hide hI3
  clear BH3 hI3
  go_wp2_with fail
  refine ((unhide X3).num (Below.refl _ x3) 4 (by decide) (by decide) H (unhide HHH).2.2.1 p m c (unhide HHH).2.2.2.2 (unhide HI3) (fun k o q => .inr (by have := (unhide HHH).2.1 k o q; have := (unhide HL0).1; omega)) (by have := (unhide HHH).2.2.2.1; show 1 + 8 * H.length ≤ _; omega) 4 rfl).mono ?_
  rintro e x4 ⟨rfl, h4⟩
  have X4 := hide (show TWr x0 (headL H) x4 from by
    rw [headL, if_neg (by have := (unhide HHH).2.2.2.2; omega)]
    exact h4)
  clear h4 X3 c1 HI3
  go_wp2_with fail
  refine ((unhide X4).done).mono ?_
  rintro e x5 ⟨rfl, hB5⟩
  rw [unhide HBD]
  have X5 := hide ((unhide X4).below hB5)
  clear hB5 X4
  have BH5 := (unhide HX).2.2.1.below (unhide X5).bel (unhide HL0).1
  have c0 : x5.cell? ⟨w.heap.size, 0, none⟩ = some (.int .u32 (n : Int)) := BH5.cell 0
  have hcv : IntKind.i64.wrap (n : Int) = (n : Int) := wrapI_eq _ (by omega) (by omega)
  clear BH5
  go_wp2_with fail
  refine (unhide HMK _).mono ?_
  rintro e x6 ⟨rfl, hB6⟩
  have X6 := hide ((unhide X5).below hB6)
  clear hB6 X5 c0
  have BW6 := (unhide HX).2.2.2.below (unhide X6).bel (unhide HL0).2
  have q0 : x6.cell? ⟨w.heap.size + 1, 0, none⟩ = some (.int .i64 0) := BW6.cell 0
  have q1 : x6.cell? ⟨w.heap.size + 1, 1, none⟩ = some (.string ⟨#[]⟩) := BW6.cell 1
  have p0 := BW6.frozen 0
  have p1 := BW6.frozen 1
  have HB := hide BW6
  clear BW6
  go_wp2
  have B := ((unhide HB).set 0 (.int .i64 1)).set 1 (.string hb)
  have hld := load_blk 68 _ B Tryz.underlying68 rfl (by kernel_rfl)
  refine bodyPost_ret (v := .agg #[.int .i64 1, .string hb]) (results_cell rfl _ _ _ ⟨w.heap.size + 1, 0, none⟩ rfl _ hld) rfl ⟨rfl, ?_⟩
  exact (((unhide HX).2.1.trans ((unhide X6).bel.mono (unhide HX).2.1.size)).setCell (by show w.heap.size ≤ w.heap.size + 1; omega) _).setCell (by show w.heap.size ≤ w.heap.size + 1; omega) _
end Go.Proofs.YtkkndlkelpdehaaGreatDoor

/-
  DERIVED: THE SHELF's CONTRACTS AT THIS DUMP, IN PLAIN WORDS (tools/lay-plain.mjs out of 'TryzShelf.lean', which tools/lay-shelf.mjs wrote): THE SAME DECLARATIONS UNDER THE SAME NAMES: 'import', 'namespace', 'open', 'def', 'theorem' AND NOTHING ELSE: no command of the shelf's: FOR A HAND-IN. Each laying: the table of numbers ('.._ren') and one theorem, a field a fact of the dump's own or the kernel's comparison; each contract: ONE APPLICATION.
-/
namespace Go.Proofs.YtkkndlkelpdehaaGreatDoor
open Go.Shelf
def Tryz.lays189_ren : Go.Shelf.Ren := ⟨fun | 189 => 46 | 125 => 77 | 257 => 76 | 128 => 122 | 129 => 123 | 294 => 113 | 295 => 114 | 296 => 115 | 297 => 116 | 298 => 117 | 299 => 118 | 216 => 119 | 300 => 120 | 301 => 121 | 328 => 133 | 329 => 134 | 330 => 135 | 331 => 136 | 332 => 137 | 215 => 138 | 343 => 143 | n => n, fun | 28 => 28 | 3 => 3 | 46 => 108 | 0 => 0 | 51 => 89 | 53 => 147 | 4 => 4 | 183 => 167 | 182 => 166 | 131 => 171 | 5 => 5 | 9 => 9 | 218 => 186 | 222 => 190 | 228 => 195 | 229 => 196 | n => n, fun | n => n⟩
theorem Tryz.lays189 : Go.Proofs.Lays.n189 Tryz.prog Tryz.lays189_ren := {
  mixed := by kernel_rfl
  f125 := Tryz.func77.trans (congrArg some (by kernel_rfl))
  f128 := Tryz.func122.trans (congrArg some (by kernel_rfl))
  f129 := Tryz.func123.trans (congrArg some (by kernel_rfl))
  f189 := Tryz.func46.trans (congrArg some (by kernel_rfl))
  f215 := Tryz.func138.trans (congrArg some (by kernel_rfl))
  f216 := Tryz.func119.trans (congrArg some (by kernel_rfl))
  f257 := Tryz.func76.trans (congrArg some (by kernel_rfl))
  f294 := Tryz.func113.trans (congrArg some (by kernel_rfl))
  f295 := Tryz.func114.trans (congrArg some (by kernel_rfl))
  f296 := Tryz.func115.trans (congrArg some (by kernel_rfl))
  f297 := Tryz.func116.trans (congrArg some (by kernel_rfl))
  f298 := Tryz.func117.trans (congrArg some (by kernel_rfl))
  f299 := Tryz.func118.trans (congrArg some (by kernel_rfl))
  f300 := Tryz.func120.trans (congrArg some (by kernel_rfl))
  f301 := Tryz.func121.trans (congrArg some (by kernel_rfl))
  f328 := Tryz.func133.trans (congrArg some (by kernel_rfl))
  f329 := Tryz.func134.trans (congrArg some (by kernel_rfl))
  f330 := Tryz.func135.trans (congrArg some (by kernel_rfl))
  f331 := Tryz.func136.trans (congrArg some (by kernel_rfl))
  f332 := Tryz.func137.trans (congrArg some (by kernel_rfl))
  f343 := Tryz.func143.trans (congrArg some (by kernel_rfl))
  t0 := Tryz.underlying0
  a0 := Tryz.isAgg0
  z0 := Tryz.sizeOf0
  v0 := Tryz.zeroValue0
  t3 := Tryz.underlying3
  a3 := Tryz.isAgg3
  z3 := Tryz.sizeOf3
  v3 := Tryz.zeroValue3
  t4 := Tryz.underlying4
  a4 := Tryz.isAgg4
  z4 := Tryz.sizeOf4
  v4 := Tryz.zeroValue4
  t5 := Tryz.underlying5
  a5 := Tryz.isAgg5
  z5 := Tryz.sizeOf5
  v5 := Tryz.zeroValue5
  t9 := Tryz.underlying9
  a9 := Tryz.isAgg9
  z9 := Tryz.sizeOf9
  v9 := Tryz.zeroValue9
  t28 := Tryz.underlying28
  a28 := Tryz.isAgg28
  z28 := Tryz.sizeOf28
  v28 := Tryz.zeroValue28
  t46 := Tryz.underlying108
  a46 := Tryz.isAgg108
  z46 := Tryz.sizeOf108
  v46 := Tryz.zeroValue108
  t51 := Tryz.underlying89
  a51 := Tryz.isAgg89
  z51 := Tryz.sizeOf89
  v51 := Tryz.zeroValue89
  t53 := Tryz.underlying147
  a53 := Tryz.isAgg147
  z53 := Tryz.sizeOf147
  v53 := Tryz.zeroValue147
  t131 := Tryz.underlying171
  a131 := Tryz.isAgg171
  z131 := Tryz.sizeOf171
  v131 := Tryz.zeroValue171
  t182 := Tryz.underlying166
  a182 := Tryz.isAgg166
  z182 := Tryz.sizeOf166
  v182 := Tryz.zeroValue166
  t183 := Tryz.underlying167
  a183 := Tryz.isAgg167
  z183 := Tryz.sizeOf167
  v183 := Tryz.zeroValue167
  t218 := Tryz.underlying186
  a218 := Tryz.isAgg186
  z218 := Tryz.sizeOf186
  v218 := Tryz.zeroValue186
  t222 := Tryz.underlying190
  a222 := Tryz.isAgg190
  z222 := Tryz.sizeOf190
  v222 := Tryz.zeroValue190
  t228 := Tryz.underlying195
  a228 := Tryz.isAgg195
  z228 := Tryz.sizeOf195
  v228 := Tryz.zeroValue195
  t229 := Tryz.underlying196
  a229 := Tryz.isAgg196
  z229 := Tryz.sizeOf196
  v229 := Tryz.zeroValue196 }
open Go.Sort Go.RowKit in
theorem Tryz.slices_Sort_int (blk off cap : Nat) (zs : List Int) (w : World) (hH : Holds (Value.int .i64) w blk off zs.toArray) (hblk : blk < w.heap.size) (hsz : zs.length < 4611686018427387904) :
    Calls Tryz.prog 46 #[.slice (some ⟨blk, off, none⟩) zs.length cap] w fun e w' =>
      e = .returned (.tuple #[]) ∧ ∃ n os, w' = grow (putRow (Value.int .i64) (Sort.ahead w n) blk off (zs.mergeSort fun x y => decide (x ≤ y)).toArray) os := Any.slices_Sort_int Tryz.lays189 blk off cap zs w hH hblk hsz
def Tryz.laysNm220_ren : Go.Shelf.Ren := ⟨fun | 20 => 82 | n => n, fun | 22 => 28 | 3 => 3 | 4 => 4 | 0 => 0 | n => n, fun | n => n⟩
theorem Tryz.laysNm220 : Go.Proofs.Lays2.n20 Tryz.prog Tryz.laysNm220_ren := {
  mixed := by kernel_rfl
  f20 := Tryz.func82.trans (congrArg some (by kernel_rfl))
  t0 := Tryz.underlying0
  a0 := Tryz.isAgg0
  z0 := Tryz.sizeOf0
  v0 := Tryz.zeroValue0
  t3 := Tryz.underlying3
  a3 := Tryz.isAgg3
  z3 := Tryz.sizeOf3
  v3 := Tryz.zeroValue3
  t4 := Tryz.underlying4
  a4 := Tryz.isAgg4
  z4 := Tryz.sizeOf4
  v4 := Tryz.zeroValue4
  t22 := Tryz.underlying28
  a22 := Tryz.isAgg28
  z22 := Tryz.sizeOf28
  v22 := Tryz.zeroValue28
  i3 := by kernel_rfl }
open Go.RowKit Go.Lib Go.Sort in
/-- slices.Compact at []int, over an array: the library's two loops are walked. (LAID: no walk: one application.) -/
theorem Tryz.slices_Compact_int_arr (blk off cap : Nat) (d : Array Int) (w : World) (hH : Holds encI w blk off d) (hsz : d.size ≤ 9223372036854775807) (hcap : d.size ≤ cap) :
    Calls Tryz.prog 82 #[.slice (some ⟨blk, off, none⟩) d.size cap] w fun e w' => e = .returned (.slice (some ⟨blk, off, none⟩) (compactUpTo d d.size).length cap) ∧ ∃ q, w' = putRow encI (Sort.ahead w q) blk off (compactUpTo d d.size ++ List.replicate (d.size - (compactUpTo d d.size).length) 0).toArray := Any.slices_Compact_int_arr Tryz.laysNm220 blk off cap d w hH hsz hcap
open Go.RowKit Go.Lib Go.Sort in
/-- slices.Compact at []int: "Compact replaces consecutive runs of equal elements with a single copy. This is like the uniq command found on Unix. Compact modifies the contents of the slice s and returns the modified slice, which may have a smaller length. Compact zeroes the elements between the new length and the original length. The result preserves the nilness of s.": IT RETURNS THE SLICE CUT TO 'Lib.compact zs'; ITS CELLS HOLD 'Lib.compact zs', THEN ZERO VALUES up to the old length; all else is as it was, but for the count of draws. IN THE WORDS OF slices.Sort's CONTRACT ('Holds', 'putRow'): so the everyday 'slices.Sort(xs); xs = slices.Compact(xs)' goes from the one contract to the other. It asks 'zs.length ≤ cap' (every slice's: the reslicing 's[:k]' looks at it). Length 0, nil: '.._empty'. (LAID: no walk: one application.) -/
theorem Tryz.slices_Compact_int (blk off cap : Nat) (zs : List Int) (w : World) (hH : Holds (Value.int .i64) w blk off zs.toArray) (hsz : zs.length ≤ 9223372036854775807) (hcap : zs.length ≤ cap) :
    Calls Tryz.prog 82 #[.slice (some ⟨blk, off, none⟩) zs.length cap] w fun e w' => e = .returned (.slice (some ⟨blk, off, none⟩) (Lib.compact zs).length cap) ∧ ∃ q, w' = putRow (Value.int .i64) (Sort.ahead w q) blk off (Lib.compact zs ++ List.replicate (zs.length - (Lib.compact zs).length) 0).toArray := Any.slices_Compact_int Tryz.laysNm220 blk off cap zs w hH hsz hcap
open Go.RowKit Go.Lib Go.Sort in
/-- The same at a slice of length 0, a nil one too: it comes back as it is. (LAID: no walk: one application.) -/
theorem Tryz.slices_Compact_int_empty (a : Option Addr) (cap : Nat) (w : World) :
    Calls Tryz.prog 82 #[.slice a 0 cap] w fun e w' => e = .returned (.slice a 0 cap) ∧ w' = w := Any.slices_Compact_int_empty Tryz.laysNm220 a cap w
open Go.RowKit Go.Sort in
/-- .. and plain. (LAID: no walk: one application.) -/
theorem Tryz.slices_Sort_int_none (p : Option Addr) (cap : Nat) (w : World) :
    Calls Tryz.prog 46 #[.slice p 0 cap] w fun e w' => e = .returned (.tuple #[]) ∧ w' = w := Any.slices_Sort_int_none Tryz.lays189 p cap w
end Go.Proofs.YtkkndlkelpdehaaGreatDoor
