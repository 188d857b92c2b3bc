import Derived.Test.YtnfdedolgfcmfaaGreatDoorMrc11
import Derived.Laws.CopyOwn
import Derived.Laws.CopyRow
import Derived.Laws.Tables
namespace Go.Proofs.YtnfdedolgfcmfaaGreatDoor
open Go.RowKit
set_option maxRecDepth 100000
theorem yload_wr (w : World) (g o : Nat) (z : Int) (t : ByteArray) (h0 : w.cell? ⟨g, o, none⟩ = some (.int .i64 z)) (h1 : w.cell? ⟨g, o + 1, none⟩ = some (.string t)) : (loadVar 149 ⟨g, o, none⟩).run Tryz.prog w = .ok (.agg #[.int .i64 z, .string t]) w := by
  have := run_loadVar_mid (P := Tryz.prog) w g o 149 [.int .i64 z, .string t] _ (fun j v hv => by
    match j with
    | 0 => simpa using h0.trans (by simpa using hv)
    | 1 => exact h1.trans (by simpa using hv)
    | j + 2 => simp at hv) Tryz.underlying149 rfl (by kernel_rfl)
  simpa using this
/-- a list of sectors with their numbers lies in memory, below block B -/
def SWr (w : World) (B : Nat) (p : Option Addr) (L : List (Nat × ByteArray)) : Prop := ∀ j, j < L.length → ∃ g o, p = some ⟨g, o, none⟩ ∧ g < B ∧ w.cell? ⟨g, o + j * 2, none⟩ = some (.int .i64 ((L.getD j (0, ⟨#[]⟩)).1 : Int)) ∧ w.cell? ⟨g, o + j * 2 + 1, none⟩ = some (.string (L.getD j (0, ⟨#[]⟩)).2)
theorem SWr.below {w w' : World} {B : Nat} {p : Option Addr} {L : List (Nat × ByteArray)} (h : SWr w B p L) (hb : Below B w w') : SWr w' B p L := fun j hj => by
  obtain ⟨g, o, e, hg, h1, h2⟩ := h j hj
  exact ⟨g, o, e, hg, (hb.cell (p := ⟨g, o + j * 2, none⟩) hg).trans h1, (hb.cell (p := ⟨g, o + j * 2 + 1, none⟩) hg).trans h2⟩
/-- a frame's bytes ahead of its sectors; the bytes of its first k sectors; a frame -/
def fmL (k z f t : Nat) (r : ByteArray) (n : Nat) : List Int := [82, 70] ++ numB (k : Int) 1 ++ numB (z : Int) 2 ++ (numB (f : Int) 4 ++ numB (t : Int) 4) ++ nums r ++ numB (n : Int) 2
def scL (L : List (Nat × ByteArray)) : Nat → List Int
  | 0 => []
  | j + 1 => scL L j ++ (numB ((L.getD j (0, ⟨#[]⟩)).1 : Int) 2 ++ nums (L.getD j (0, ⟨#[]⟩)).2)
def fmB (k z f t : Nat) (r : ByteArray) (L : List (Nat × ByteArray)) : ByteArray := cdR (strOfNums (fmL k z f t r L.length ++ scL L L.length))
theorem fmL_len (k z f t : Nat) (r : ByteArray) (n : Nat) : (fmL k z f t r n).length = 15 + r.size := by simp [fmL, numB_len, nums_len]; omega
theorem scL_len (L : List (Nat × ByteArray)) (h : ∀ j, j < L.length → (L.getD j (0, ⟨#[]⟩)).2.size ≤ 1000) : ∀ j, j ≤ L.length → (scL L j).length ≤ j * 1002
  | 0, _ => Nat.le_refl _
  | j + 1, hj => by
    have h1 := scL_len L h j (by omega)
    have h2 := h j (by omega)
    rw [scL, List.length_append, List.length_append, numB_len, nums_len]
    omega
theorem errN_two (f t : Nat) (hf : f < 4294967296) (ht : t < 4294967296) : errN (4 : Int) [(f : Int), (t : Int)] = 0 := by
  rw [errN, if_neg (by omega), if_pos]
  intro m hm
  rcases List.mem_cons.1 hm with rfl | hm
  · exact ⟨by omega, Int.ediv_eq_zero_of_lt (by omega) (by simp; omega)⟩
  · rw [List.mem_singleton.1 hm]
    exact ⟨by omega, Int.ediv_eq_zero_of_lt (by omega) (by simp; omega)⟩
theorem outN_two (f t : Int) : outN (4 : Int).toNat [f, t] = numB f 4 ++ numB t 4 := by simp [outN]
set_option maxHeartbeats 4000000 in
theorem yframeText_any (k z f t n : Nat) (r : ByteArray) (L : List (Nat × ByteArray)) (hn : L.length = n) (hk : k < 256) (hz : z < 65536) (hf : f < 4294967296) (ht : t < 4294967296) (hr : r.size ≤ 1000) (hn9 : n < 65536) (hL1 : ∀ j, j < L.length → (L.getD j (0, ⟨#[]⟩)).1 < 65536) (hL2 : ∀ j, j < L.length → (L.getD j (0, ⟨#[]⟩)).2.size ≤ 1000) (w : World) (B c : Nat) (p : Option Addr) (hS : SWr w B p L) (hB : B ≤ w.heap.size) : Calls Tryz.prog 38 #[.agg #[.int .i64 (k : Int), .int .i64 (z : Int), .int .i64 (f : Int), .int .i64 (t : Int), .string r, .slice p n c]] w fun e w' => e = .returned (.string (fmB k z f t r L)) ∧ Below w.heap.size w w' := by
  obtain ⟨h, hh⟩ : ∃ h, w.heap.size = h := ⟨_, rfl⟩
  have HNW := hide (fun W => newWriter_any W)
  have e1 : errN (1 : Int) [(k : Int)] = 0 := errN_fit 1 k (by omega) (by omega) (by omega)
  have e2 : errN (2 : Int) [(z : Int)] = 0 := errN_fit 2 z (by omega) (by omega) (by omega)
  have e3 : errN (2 : Int) [(n : Int)] = 0 := errN_fit 2 n (by omega) (by omega) (by omega)
  have e4 := errN_two f t hf ht
  have o1 : outN (1 : Int).toNat [(k : Int)] = numB (k : Int) 1 := outN_one 1 (k : Int)
  have o2 : outN (2 : Int).toNat [(z : Int)] = numB (z : Int) 2 := outN_one 2 (z : Int)
  have o3 : outN (2 : Int).toNat [(n : Int)] = numB (n : Int) 2 := outN_one 2 (n : Int)
  have o4 := outN_two (f : Int) (t : Int)
  have HL1 := hide hL1
  have HL2 := hide hL2
  have HSC := hide (scL_len L hL2)
  have HLN := hide hn
  have hB0 := Blk.new w 97 #[.int .i64 (k : Int), .int .i64 (z : Int), .int .i64 (f : Int), .int .i64 (t : Int), .string r, .slice p n c]
  have HB0 := hide (show Below h w (w.alloc (Obj.cells #[.int .i64 (k : Int), .int .i64 (z : Int), .int .i64 (f : Int), .int .i64 (t : Int), .string r, .slice p n c] 97)) from by rw [← hh]; exact (Below.refl _ _).alloc (Nat.le_refl _) _)
  rw [hh] at hB0
  have HB1 := hide hB0
  have HSZ := hide hh
  have hSm : SWr w w.heap.size p L := fun j hj => by
    obtain ⟨g, o, e, hg, q1, q2⟩ := hS j hj
    exact ⟨g, o, e, by omega, q1, q2⟩
  have hSn := hSm.below ((Below.refl w.heap.size w).alloc (Nat.le_refl _) (Obj.cells #[.int .i64 (k : Int), .int .i64 (z : Int), .int .i64 (f : Int), .int .i64 (t : Int), .string r, .slice p n c] 97))
  rw [hh] at hSn
  have HS := hide hSn
  clear hSm hSn
  clear hB0 hL1 hL2 hn hS hB
  rw [hh]
  obtain ⟨Z, hZ⟩ : ∃ q, fmB k z f t r L = q := ⟨_, rfl⟩
  rw [hZ]
  have HZ := hide hZ
  clear hZ
  go_enter Tryz.func38, Tryz.ntmps38
  go_wp2_with fail
  refine (unhide HNW _).mono ?_
  rintro e y1 ⟨rfl, hw1, hb1, hs1⟩
  obtain ⟨g, hg⟩ : ∃ g, (w.alloc (Obj.cells #[.int .i64 (k : Int), .int .i64 (z : Int), .int .i64 (f : Int), .int .i64 (t : Int), .string r, .slice p n c] 97)).heap.size = g := ⟨_, rfl⟩
  have hgh : g = h + 1 := by rw [← hg]; simp [unhide HSZ]
  rw [hg] at hw1 hb1 hs1 ⊢
  have HW := hide (show WPost g g (.slice none 0 0) [] 0 y1 y1 from ⟨_, hw1, Only.refl _ _, fun k hk => .inl hk⟩)
  have HBK := hide ((unhide HB1).below hb1 (by omega))
  have HBB := hide ((unhide HB0).trans (hb1.mono (by omega)))
  have HSY := hide ((unhide HS).below (hb1.mono (by omega)))
  have HG := hide hgh
  have HS1 := hide hs1
  have HR := hide (rawK (unhide HW) (by omega) ⟨#[82, 70]⟩ (by decide))
  rw [wl_good, List.nil_append, show nums ⟨#[82, 70]⟩ = [82, 70] from by decide] at HR
  clear hw1 hb1 hs1 hg hgh HNW HB0 HB1 HW HS
  have HNF := hide (show ¬ Fp g (.slice none 0 0) h from by
    have := unhide HG
    rintro (q | q)
    · omega
    · simp [Value.ownBlock] at q)
  go_wp2_with fail
  refine (unhide HR).mono ?_
  rintro e y2 ⟨rfl, hp⟩
  have hbk := hp.blk (unhide HBK) (unhide HNF)
  have c0 : y2.cell? ⟨h, 0, none⟩ = some (.int .i64 (k : Int)) := by rw [hbk.cell 0]; rfl
  have HN := hide (numK hp (by have := unhide HS1; omega) 1 [(k : Int)] _ rfl (by simp) 1 rfl)
  rw [e1, o1, wl_good, we_good] at HN
  clear HR hp hbk e1 o1
  go_wp2_with fail
  refine (unhide HN).mono ?_
  rintro e y3 ⟨rfl, hp⟩
  have hbk := hp.blk (unhide HBK) (unhide HNF)
  have c1 : y3.cell? ⟨h, 1, none⟩ = some (.int .i64 (z : Int)) := by rw [hbk.cell 1]; rfl
  have HN2 := hide (numK hp (by have := unhide HS1; omega) 2 [(z : Int)] _ rfl (by simp [numB_len]) 1 rfl)
  rw [e2, o2, wl_good, we_good] at HN2
  clear HN hp hbk e2 o2 c0
  go_wp2_with fail
  refine (unhide HN2).mono ?_
  rintro e y4 ⟨rfl, hp⟩
  have hbk := hp.blk (unhide HBK) (unhide HNF)
  have c2 : y4.cell? ⟨h, 2, none⟩ = some (.int .i64 (f : Int)) := by rw [hbk.cell 2]; rfl
  have c3 : y4.cell? ⟨h, 3, none⟩ = some (.int .i64 (t : Int)) := by rw [hbk.cell 3]; rfl
  have HN3 := hide (numK hp (by have := unhide HS1; omega) 4 [(f : Int), (t : Int)] _ rfl (by simp [numB_len]) 2 rfl)
  rw [e4, o4, wl_good, we_good] at HN3
  clear HN2 hp hbk e4 o4 c1
  go_wp2_with fail
  refine (unhide HN3).mono ?_
  rintro e y5 ⟨rfl, hp⟩
  have hbk := hp.blk (unhide HBK) (unhide HNF)
  have c4 : y5.cell? ⟨h, 4, none⟩ = some (.string r) := by rw [hbk.cell 4]; rfl
  have HR := hide (rawK hp (by have := unhide HS1; omega) r (by simp [numB_len]; omega))
  rw [wl_good] at HR
  clear HN3 hp hbk c2 c3
  go_wp2_with fail
  refine (unhide HR).mono ?_
  rintro e y6 ⟨rfl, hp⟩
  have hbk := hp.blk (unhide HBK) (unhide HNF)
  have c5 : y6.cell? ⟨h, 5, none⟩ = some (.slice p n c) := by rw [hbk.cell 5]; rfl
  have HN4 := hide (numK hp (by have := unhide HS1; omega) 2 [(n : Int)] _ rfl (by simp [numB_len, nums_len]; omega) 1 rfl)
  rw [e3, o3, wl_good, we_good] at HN4
  clear HR hp hbk e3 o3 c4
  go_wp2_with fail
  refine (unhide HN4).mono ?_
  rintro e y7 ⟨rfl, hp⟩
  have hbk := hp.blk (unhide HBK) (unhide HNF)
  have c5' : y7.cell? ⟨h, 5, none⟩ = some (.slice p n c) := by rw [hbk.cell 5]; rfl
  have HP := hide (show WPost g g (.slice none 0 0) (fmL k z f t r n ++ scL L 0) 0 y1 y7 from by
    rw [scL, List.append_nil]
    exact hp)
  have HY7 := hide hbk
  clear HN4 hp hbk c5
  have HFZ := hide (fmL_len k z f t r n)
  clear c5'
  have c5 : y7.cell? ⟨h, 5, none⟩ = some (.slice p n c) := by rw [(unhide HY7).cell 5]; rfl
  go_wp2
  clear c5
  go_loopw [39] (fun i wr => ∃ j : Nat, j ≤ n ∧ i = .int .i64 (j : Int) ∧ WPost g g (.slice none 0 0) (fmL k z f t r n ++ scL L j) 0 y1 wr) (fun i _ => n - (intOf i).toNat)
  case atStart => exact ⟨0, by omega, rfl, unhide HP⟩
  case round =>
  obtain ⟨j, hj, rfl, hp⟩ := hrel
  obtain ⟨wr, rfl⟩ : ∃ q, q = wr := ⟨_, rfl⟩
  have HSCj := hide (unhide HSC j (by rw [unhide HLN]; exact hj))
  by_cases hjn : j < n
  · have e1 : (j : Int) < (n : Int) := by omega
    have hbw : Below h y1 wr := by
      obtain ⟨v1, _, h2, _⟩ := hp
      refine h2.below (by have := unhide HS1; have := unhide HG; omega) (fun k hk hq => ?_)
      have := unhide HG
      rcases hq with rfl | hq
      · omega
      · simp [Value.ownBlock] at hq
    obtain ⟨g2, o2, rfl, _, d0, d1⟩ := ((unhide HSY).below hbw) j (by rw [unhide HLN]; exact hjn)
    have hs1 := unhide HL2 j (by rw [unhide HLN]; exact hjn)
    have ha1 := unhide HL1 j (by rw [unhide HLN]; exact hjn)
    have HSL := hide (show scL L (j + 1) = scL L j ++ (numB ((L.getD j (0, ⟨#[]⟩)).1 : Int) 2 ++ nums (L.getD j (0, ⟨#[]⟩)).2) from rfl)
    obtain ⟨a, hae⟩ : ∃ q, (L.getD j (0, ⟨#[]⟩)).1 = q := ⟨_, rfl⟩
    obtain ⟨s, hse⟩ : ∃ q, (L.getD j (0, ⟨#[]⟩)).2 = q := ⟨_, rfl⟩
    rw [hae] at ha1 d0 HSL
    rw [hse] at hs1 d1 HSL
    have hld := yload_wr wr g2 (o2 + j * 2) (a : Int) s d0 d1
    obtain ⟨l, hl⟩ : ∃ q, fmL k z f t r n ++ scL L j = q := ⟨_, rfl⟩
    have HLE := hide hl
    have HLZ := hide (show l.length ≤ 70000000 from by rw [← hl, List.length_append, unhide HFZ]; have := unhide HSCj; omega)
    rw [hl] at hp
    have hwz : g < wr.heap.size := by
      have := hp.size
      have := unhide HS1
      omega
    have hB9 := Blk.new wr 149 #[.int .i64 (a : Int), .string s]
    have hpa := hp.alloc (Obj.cells #[.int .i64 (a : Int), .string s] 149)
    obtain ⟨v1, q1, q2, q3⟩ := hpa
    have HF9 := hide (show ¬ Fp g v1 wr.heap.size from by
      rintro (q | q)
      · omega
      · exact hB9.not_row (by decide) q1.2.1 q)
    have HB9 := hide hB9
    have HQ := hide (And.intro q2 q3)
    have e2 : errN (2 : Int) [(a : Int)] = 0 := errN_fit 2 a (by omega) (by omega) (by omega)
    have o2' : outN (2 : Int).toNat [(a : Int)] = numB (a : Int) 2 := outN_one 2 (a : Int)
    have HN := hide (numK (WPost.refl q1) (by simp; omega) 2 [(a : Int)] _ rfl (by have := unhide HLZ; simp; omega) 1 rfl)
    rw [e2, o2', wl_good, we_good] at HN
    have HWZ := hide (And.intro hwz hs1)
    clear e2 o2' q1 q2 q3 hB9 hp hl hae hse hbw HP HSCj ha1 hwz hs1
    rw [show (wr.alloc (Obj.cells #[.int .i64 (a : Int), .string s] 149)).heap.size = wr.heap.size + 1 from by simp, show (List.map (Value.int .i64) [(a : Int)]).toArray = #[.int .i64 (a : Int)] from rfl] at HN
    go_wp2_with fail
    refine (unhide HN).mono ?_
    rintro e y8 ⟨rfl, hp8⟩
    have c1 : y8.cell? ⟨wr.heap.size, 1, none⟩ = some (.string s) := by rw [(hp8.blk (unhide HB9) (unhide HF9)).cell 1]; rfl
    have HR := hide (rawK hp8 (by have := (unhide HWZ).1; simp; omega) s (by have := unhide HLZ; have := (unhide HWZ).2; rw [List.length_append, numB_len]; omega))
    rw [wl_good] at HR
    clear HN hp8 hld HB9 HF9 d0 d1
    go_wp2_with fail
    refine (unhide HR).mono ?_
    rintro e y9 ⟨rfl, hp9⟩
    have HPN := hide (show WPost g g (.slice none 0 0) (fmL k z f t r n ++ scL L (j + 1)) 0 y1 y9 from by
      rw [unhide HSL, ← List.append_assoc, ← List.append_assoc, unhide HLE]
      exact WPost.trans (unhide HQ).1 (unhide HQ).2 hp9)
    clear hp9 HR c1 HQ HLE HSL
    go_wp2
    go_roundw
    case rel => exact ⟨j + 1, by omega, by go_num, unhide HPN⟩
    case measure => simp [intOf] <;> omega
  · obtain rfl : j = n := by omega
    have e1 : ¬ (j : Int) < (j : Int) := by omega
    have HC := hide (ychecked_any hp (by rw [List.length_append, unhide HFZ]; have := unhide HSCj; omega))
    rw [show cdR (strOfNums (fmL k z f t r j ++ scL L j)) = Z from by rw [← unhide HZ, fmB, unhide HLN]] at HC
    clear hp HSCj HP
    go_wp2_with fail
    refine (unhide HC).mono ?_
    rintro e y8 ⟨rfl, hp⟩
    have HE := hide (show Below h w y8 from by
      obtain ⟨v1, _, h2, _⟩ := hp
      refine (unhide HBB).trans (h2.below (by have := unhide HS1; have := unhide HG; omega) (fun k hk hq => ?_))
      have := unhide HG
      rcases hq with rfl | hq
      · omega
      · simp [Value.ownBlock] at hq)
    clear hp HC
    go_wp2
    go_ret
    exact ⟨rfl, unhide HE⟩
end Go.Proofs.YtnfdedolgfcmfaaGreatDoor

namespace Go.Proofs.YtnfdedolgfcmfaaGreatDoor
open Go.RowKit
set_option maxRecDepth 100000
/-- may a frame of that kind lead from the one image to the other -/
def leadB (k f t : Int) : Bool := decide (f ≠ 0 ∧ t ≤ 65535 ∧ ((k = 1 ∧ f = t) ∨ (k = 2 ∧ f < t)))
set_option maxHeartbeats 1000000 in
theorem ymayLead_any (k z f t : Int) (r : ByteArray) (n c : Nat) (p : Option Addr) (w : World) : Calls Tryz.prog 114 #[.agg #[.int .i64 k, .int .i64 z, .int .i64 f, .int .i64 t, .string r, .slice p n c]] w fun e w' => e = .returned (.bool (leadB k f t)) ∧ Below w.heap.size w w' := by
  have hB0 := Blk.new w 97 #[.int .i64 k, .int .i64 z, .int .i64 f, .int .i64 t, .string r, .slice p n c]
  have c0 : (w.alloc (Obj.cells #[.int .i64 k, .int .i64 z, .int .i64 f, .int .i64 t, .string r, .slice p n c] 97)).cell? ⟨w.heap.size, 0, none⟩ = some (.int .i64 k) := by rw [hB0.cell 0]; rfl
  have c2 : (w.alloc (Obj.cells #[.int .i64 k, .int .i64 z, .int .i64 f, .int .i64 t, .string r, .slice p n c] 97)).cell? ⟨w.heap.size, 2, none⟩ = some (.int .i64 f) := by rw [hB0.cell 2]; rfl
  have c3 : (w.alloc (Obj.cells #[.int .i64 k, .int .i64 z, .int .i64 f, .int .i64 t, .string r, .slice p n c] 97)).cell? ⟨w.heap.size, 3, none⟩ = some (.int .i64 t) := by rw [hB0.cell 3]; rfl
  have HB := hide (show Below w.heap.size w (w.alloc (Obj.cells #[.int .i64 k, .int .i64 z, .int .i64 f, .int .i64 t, .string r, .slice p n c] 97)) from (Below.refl _ _).alloc (Nat.le_refl _) _)
  clear hB0
  obtain ⟨Z, hZ⟩ : ∃ q, leadB k f t = q := ⟨_, rfl⟩
  rw [hZ]
  have HZ := hide hZ
  clear hZ
  by_cases hf : f = 0
  · subst hf
    have hf' : ((0 : Int) == 0) = true := by decide
    have HE := hide (show Z = false from by rw [← unhide HZ]; exact decide_eq_false (fun q => q.1 rfl))
    clear HZ
    go_enter Tryz.func114, Tryz.ntmps114
    go_wp2
    go_ret
    exact ⟨congrArg (fun b => Ending.returned (.bool b)) (unhide HE).symm, unhide HB⟩
  have hf' : (f == 0) = false := by simp [hf]
  by_cases ht : 65535 < t
  · have HE := hide (show Z = false from by rw [← unhide HZ]; exact decide_eq_false (fun q => by omega))
    clear HZ
    go_enter Tryz.func114, Tryz.ntmps114
    go_wp2
    go_ret
    exact ⟨congrArg (fun b => Ending.returned (.bool b)) (unhide HE).symm, unhide HB⟩
  by_cases hk : k = 1
  · subst hk
    have hk' : ((1 : Int) == 1) = true := by decide
    have HE := hide (show Z = (f == t) from by
      rw [← unhide HZ]
      by_cases e : f = t
      · rw [show (f == t) = true from by simp [e]]
        exact decide_eq_true ⟨hf, by omega, .inl ⟨rfl, e⟩⟩
      · rw [show (f == t) = false from by simp [e]]
        exact decide_eq_false (fun q => by omega))
    clear HZ
    go_enter Tryz.func114, Tryz.ntmps114
    go_wp2
    go_ret
    exact ⟨congrArg (fun b => Ending.returned (.bool b)) (unhide HE).symm, unhide HB⟩
  have hk' : (k == 1) = false := by simp [hk]
  by_cases hk2 : k = 2
  · subst hk2
    have hk3 : ((2 : Int) == 2) = true := by decide
    have HE := hide (show Z = decide (f < t) from by
      rw [← unhide HZ]
      by_cases e : f < t
      · rw [decide_eq_true e]
        exact decide_eq_true ⟨hf, by omega, .inr ⟨rfl, e⟩⟩
      · rw [decide_eq_false e]
        exact decide_eq_false (fun q => by omega))
    clear HZ
    go_enter Tryz.func114, Tryz.ntmps114
    go_wp2
    go_ret
    exact ⟨congrArg (fun b => Ending.returned (.bool b)) (unhide HE).symm, unhide HB⟩
  have hk3 : (k == 2) = false := by simp [hk2]
  have HE := hide (show Z = false from by rw [← unhide HZ]; exact decide_eq_false (fun q => by omega))
  clear HZ
  go_enter Tryz.func114, Tryz.ntmps114
  go_wp2
  go_ret
  exact ⟨congrArg (fun b => Ending.returned (.bool b)) (unhide HE).symm, unhide HB⟩
/-- the least number that the next sector may have -/
def tlN (L : List (Nat × ByteArray)) : Nat → Nat
  | 0 => 0
  | j + 1 => (L.getD j (0, ⟨#[]⟩)).1 + 1
/-- do the first sectors rise, and is none told that need not be -/
def tlB (k z : Int) (L : List (Nat × ByteArray)) : Nat → Bool
  | 0 => true
  | j + 1 => tlB k z L j && decide (tlN L j ≤ (L.getD j (0, ⟨#[]⟩)).1 ∧ ((L.getD j (0, ⟨#[]⟩)).1 : Int) < z ∧ ¬ (k = 1 ∧ (L.getD j (0, ⟨#[]⟩)).2 = zR 256))
theorem tlB_no {k z : Int} {L : List (Nat × ByteArray)} {j : Nat} (h : tlB k z L j = false) : ∀ d, tlB k z L (j + d) = false
  | 0 => h
  | d + 1 => by
    show (tlB k z L (j + d) && _) = false
    rw [tlB_no h d, Bool.false_and]
set_option maxHeartbeats 2000000 in
theorem ymayTell_any (k z f t : Int) (r : ByteArray) (n c B : Nat) (p : Option Addr) (L : List (Nat × ByteArray)) (hn : L.length = n) (hn9 : n ≤ 100000) (hL1 : ∀ j, j < L.length → (L.getD j (0, ⟨#[]⟩)).1 < 65536) (w : World) (hS : SWr w B p L) (hB : B ≤ w.heap.size) : Calls Tryz.prog 115 #[.agg #[.int .i64 k, .int .i64 z, .int .i64 f, .int .i64 t, .string r, .slice p n c]] w fun e w' => e = .returned (.bool (tlB k z L n)) ∧ Below w.heap.size w w' := by
  have hB0 := Blk.new w 97 #[.int .i64 k, .int .i64 z, .int .i64 f, .int .i64 t, .string r, .slice p n c]
  have HB0 := hide hB0
  have hb0 : Below w.heap.size w (w.alloc (Obj.cells #[.int .i64 k, .int .i64 z, .int .i64 f, .int .i64 t, .string r, .slice p n c] 97)) := (Below.refl _ _).alloc (Nat.le_refl _) _
  have HB := hide hb0
  have HBL := hide (fun W => yblank_any W)
  have HS := hide (show SWr (w.alloc (Obj.cells #[.int .i64 k, .int .i64 z, .int .i64 f, .int .i64 t, .string r, .slice p n c] 97)) B p L from hS.below (hb0.mono hB))
  have HLN := hide hn
  have HL1 := hide hL1
  have hal : (w.alloc (Obj.cells #[.int .i64 k, .int .i64 z, .int .i64 f, .int .i64 t, .string r, .slice p n c] 97)).heap.size = w.heap.size + 1 := by simp
  clear hS hn hL1 hB0 hb0
  go_enter Tryz.func115, Tryz.ntmps115
  go_wp2_with fail
  refine (unhide HBL _).mono ?_
  rintro e y1 ⟨rfl, hb1⟩
  rw [hal] at hb1
  have HB1 := hide (show Blk y1 w.heap.size #[.int .i64 k, .int .i64 z, .int .i64 f, .int .i64 t, .string r, .slice p n c] 97 ∧ Below w.heap.size w y1 ∧ SWr y1 B p L from ⟨(unhide HB0).below hb1 (by omega), (unhide HB).trans (hb1.mono (by omega)), (unhide HS).below (hb1.mono (by omega))⟩)
  have hy1 := hb1.size
  rw [hal] at hy1
  have c5 : y1.cell? ⟨w.heap.size, 5, none⟩ = some (.slice p n c) := by rw [(unhide HB1).1.cell 5]; rfl
  obtain ⟨Z, hZ⟩ : ∃ q, zR 256 = q := ⟨_, rfl⟩
  rw [hZ]
  have HZ := hide hZ
  clear hb1 HBL HB HB0 HS hal hZ
  go_wp2
  clear c5
  go_loopw [4, 11] (fun u i wr => ∃ j : Nat, j ≤ n ∧ i = .int .i64 (j : Int) ∧ u = .int .i64 (tlN L j : Int) ∧ tlB k z L j = true ∧ Below y1.heap.size y1 wr) (fun _ i _ => n - (intOf i).toNat)
  case atStart => exact ⟨0, by omega, rfl, rfl, rfl, Below.refl _ _⟩
  case round =>
  obtain ⟨j, hj, rfl, rfl, htl, hb⟩ := hrel
  obtain ⟨wr, rfl⟩ : ∃ q, q = wr := ⟨_, rfl⟩
  have HTL := hide htl
  have hys := hb.size
  have HW := hide (show Below w.heap.size w wr from (unhide HB1).2.1.trans (hb.mono (by omega)))
  have HBJ := hide hb
  by_cases hjn : j < n
  case neg =>
    obtain rfl : j = n := by omega
    have e1 : ¬ (j : Int) < (j : Int) := by omega
    clear htl hb
    go_wp2
    go_ret
    exact ⟨congrArg (fun b => Ending.returned (.bool b)) (unhide HTL).symm, unhide HW⟩
  have e1 : (j : Int) < (n : Int) := by omega
  obtain ⟨g2, o2, rfl, hg2, d0, d1⟩ := ((unhide HB1).2.2.below (hb.mono (by omega))) j (by rw [unhide HLN]; exact hjn)
  have ha1 := unhide HL1 j (by rw [unhide HLN]; exact hjn)
  have HSU := hide (show tlB k z L (j + 1) = (tlB k z L j && decide (tlN L j ≤ (L.getD j (0, ⟨#[]⟩)).1 ∧ ((L.getD j (0, ⟨#[]⟩)).1 : Int) < z ∧ ¬ (k = 1 ∧ (L.getD j (0, ⟨#[]⟩)).2 = zR 256))) from rfl)
  have HSN := hide (show tlN L (j + 1) = (L.getD j (0, ⟨#[]⟩)).1 + 1 from rfl)
  obtain ⟨a, hae⟩ : ∃ q, (L.getD j (0, ⟨#[]⟩)).1 = q := ⟨_, rfl⟩
  obtain ⟨s, hse⟩ : ∃ q, (L.getD j (0, ⟨#[]⟩)).2 = q := ⟨_, rfl⟩
  rw [hae] at ha1 d0 HSU HSN
  rw [hse] at d1 HSU
  rw [unhide HTL, Bool.true_and, unhide HZ] at HSU
  obtain ⟨nx, hnx⟩ : ∃ q, tlN L j = q := ⟨_, rfl⟩
  rw [hnx] at HSU ⊢
  have hld := yload_wr wr g2 (o2 + j * 2) (a : Int) s d0 d1
  have hbx : Below wr.heap.size wr (wr.alloc (Obj.cells #[.int .i64 (a : Int), .string s] 149)) := (Below.refl _ _).alloc (Nat.le_refl _) _
  have hB9 := Blk.new wr 149 #[.int .i64 (a : Int), .string s]
  have hBx := ((unhide HB1).1.below hb (by omega)).below hbx (by omega)
  have x0 : (wr.alloc (Obj.cells #[.int .i64 (a : Int), .string s] 149)).cell? ⟨wr.heap.size, 0, none⟩ = some (.int .i64 (a : Int)) := by rw [hB9.cell 0]; rfl
  have x1 : (wr.alloc (Obj.cells #[.int .i64 (a : Int), .string s] 149)).cell? ⟨wr.heap.size, 1, none⟩ = some (.string s) := by rw [hB9.cell 1]; rfl
  have y0 : (wr.alloc (Obj.cells #[.int .i64 (a : Int), .string s] 149)).cell? ⟨w.heap.size, 0, none⟩ = some (.int .i64 k) := by rw [hBx.cell 0]; rfl
  have y1' : (wr.alloc (Obj.cells #[.int .i64 (a : Int), .string s] 149)).cell? ⟨w.heap.size, 1, none⟩ = some (.int .i64 z) := by rw [hBx.cell 1]; rfl
  have HWX := hide ((unhide HW).trans (hbx.mono (unhide HW).size))
  have HBX := hide (hb.trans (hbx.mono hb.size))
  have HNO := hide (fun (h : ¬ (nx ≤ a ∧ (a : Int) < z ∧ ¬ (k = 1 ∧ s = Z))) => show tlB k z L n = false from by
    have h1 : tlB k z L (j + 1) = false := by rw [unhide HSU]; exact decide_eq_false h
    have h2 := tlB_no h1 (n - (j + 1))
    rw [show j + 1 + (n - (j + 1)) = n by omega] at h2
    exact h2)
  clear hae hse hnx hb htl hbx hB9 hBx HZ
  by_cases b1 : a < nx
  · have b1' : (a : Int) < (nx : Int) := by omega
    have HE := hide (unhide HNO (fun q => by omega))
    clear HNO HSU
    go_wp2
    go_ret
    exact ⟨congrArg (fun b => Ending.returned (.bool b)) (unhide HE).symm, unhide HWX⟩
  have b1' : ¬ (a : Int) < (nx : Int) := by omega
  by_cases b2 : z ≤ (a : Int)
  · have HE := hide (unhide HNO (fun q => by omega))
    clear HNO HSU
    go_wp2
    go_ret
    exact ⟨congrArg (fun b => Ending.returned (.bool b)) (unhide HE).symm, unhide HWX⟩
  have HLE := hide (show nx ≤ a ∧ (a : Int) < z from ⟨by omega, by omega⟩)
  have HSN2 := hide (show (((a : Int) + 1)) = (tlN L (j + 1) : Int) from by rw [unhide HSN]; omega)
  have HWA := hide (show wrap64 ((a : Int) + 1) = (tlN L (j + 1) : Int) from by rw [wrap64_eq _ (by omega) (by omega)]; exact unhide HSN2)
  by_cases b3 : k = 1
  · subst b3
    have b3' : ((1 : Int) == 1) = true := by decide
    by_cases b4 : s = Z
    · have b4' : (s.toList == Z.toList) = true := by rw [b4]; simp
      have HE := hide (unhide HNO (fun q => q.2.2 ⟨rfl, b4⟩))
      clear HNO HSU b4
      go_wp2
      go_ret
      exact ⟨congrArg (fun b => Ending.returned (.bool b)) (unhide HE).symm, unhide HWX⟩
    have b4' : (s.toList == Z.toList) = false := str_ne b4
    have HE := hide (show tlB 1 z L (j + 1) = true from by rw [unhide HSU]; exact decide_eq_true ⟨(unhide HLE).1, (unhide HLE).2, fun q => b4 q.2⟩)
    clear HNO HSU
    go_wp2
    go_roundw
    case rel => exact ⟨j + 1, by omega, by go_num, by first | rw [unhide HWA] | rw [unhide HSN2], unhide HE, unhide HBX⟩
    case measure => simp [intOf] <;> omega
  have b3' : (k == 1) = false := by simp [b3]
  have HE := hide (show tlB k z L (j + 1) = true from by rw [unhide HSU]; exact decide_eq_true ⟨(unhide HLE).1, (unhide HLE).2, fun q => b3 q.1⟩)
  clear HNO HSU
  go_wp2
  go_roundw
  case rel => exact ⟨j + 1, by omega, by go_num, by first | rw [unhide HWA] | rw [unhide HSN2], unhide HE, unhide HBX⟩
  case measure => simp [intOf] <;> omega
end Go.Proofs.YtnfdedolgfcmfaaGreatDoor

namespace Go.Proofs.YtnfdedolgfcmfaaGreatDoor
open Go.RowKit
def strs (l : List ByteArray) : List Value := l.map Value.string
theorem infoS : (Tryz.prog.info? 9).map (fun i => (i.zero, i.size, i.bytes)) = some (some (.string ⟨#[]⟩), 1, 16) := by kernel_rfl
set_option maxRecDepth 100000 in
theorem run_make_s (l : Nat) (hc : l ≤ 17592186044416) (w : World) : (Instr.makeSlice 24 (.int .i64 (l : Int)) (.int .i64 (l : Int))).run Tryz.prog w = .ok (.slice (some ⟨w.heap.size, 0, none⟩) l l) (w.alloc (.cells (strs (List.replicate l ⟨#[]⟩)).toArray 9)) := by
  obtain ⟨i0, hi, hz0, hz1, hz2⟩ := info_parts infoS
  have := run_make (P := Tryz.prog) w 24 9 i0 (.string ⟨#[]⟩) Tryz.underlying24 hi hz0 .i64 .i64 (l : Int) (l : Int) (by omega) (by omega) (by rw [hz2]; omega) (by omega)
  rw [this, hz1]
  simp only [Int.toNat_natCast, Nat.mul_one]
  congr 3
  apply Array.ext
  · simp [size_madeCells, strs]
  · intro j h1 h2
    simp [madeCells, Value.cells, Nat.mod_one, strs]
def halfR (t : ByteArray) (n m : Nat) : List Value := strs (List.replicate n t ++ List.replicate (m - n) ⟨#[]⟩)
def RpI (w : World) (t : ByteArray) (n m : Nat) (wr : World) : Prop := Blk wr w.heap.size (halfR t n m).toArray 9 ∧ Below w.heap.size w wr
theorem halfR_len (t : ByteArray) (n m : Nat) (h : n ≤ m) : (halfR t n m).length = m := by simp [halfR, strs]; omega
theorem halfR_step (t : ByteArray) (n k m : Nat) : (halfR t n m).take n ++ (strs (List.replicate k t) ++ (halfR t n m).drop (n + k)) = halfR t (n + k) m := by
  have e1 : (halfR t n m).take n = strs (List.replicate n t) := by
    simp [halfR, strs]
  have e2 : (halfR t n m).drop (n + k) = strs (List.replicate (m - (n + k)) ⟨#[]⟩) := by
    simp only [halfR, strs, List.map_append, List.map_replicate]
    rw [List.drop_append, List.drop_of_length_le (by simp), List.nil_append, List.drop_replicate]
    congr 1
    simp
    omega
  rw [e1, e2]
  simp only [halfR, strs, ← List.map_append]
  rw [← List.append_assoc, List.replicate_append_replicate]
theorem halfR_at (t : ByteArray) (n m j : Nat) (h : j < n) : (halfR t n m)[j]? = some (.string t) := by
  simp [halfR, strs, List.getElem?_append, h]
theorem wp_copy_rp {o : Oper} {a : Act} {K : Act → World → Prop} {Q : Exit → Act → World → Prop} (d x : Operand) (hop : o.op = .call { callee := .builtin .copy, args := #[d, x], argTypes := #[24, 24] })
    {w wr : World} {t : ByteArray} {n m : Nat} (hI : RpI w t n m wr) (k : Nat) (hnk : n + k ≤ m) (dLen dCap sLen sCap : Nat) (ad : Addr) (hd : a.eval d = .slice (some ⟨w.heap.size, n, none⟩) dLen dCap) (hs : a.eval x = .slice (some ad) sLen sCap) (hk : k = Nat.min sLen dLen)
    (hsrc : ∀ j, j < k → wr.cell? (ad.add j) = some (.string t)) (h : ∀ W', RpI w t (n + k) m W' → K (a.put o.dst (.int .i64 (k : Int))) W') : o.wp Tryz.prog a wr K Q := by
  have hl : (strs (List.replicate k t)).length = k := by simp [strs]
  have hrun := run_copy_row (P := Tryz.prog) wr 24 24 o.type 9 w.heap.size n dLen dCap ad sLen sCap (halfR t n m).toArray 9 (strs (List.replicate k t)) Tryz.underlying24 (by kernel_rfl) hI.1 (by rw [hl]; exact hk) (fun j u hu => by
    have hj : j < k := by
      have := (List.getElem?_eq_some_iff.1 hu).1
      rwa [hl] at this
    simp [strs, hj] at hu
    rw [hsrc j hj, hu]) (by rw [hl]; simp [halfR_len t n m (by omega)]; exact hnk) (by simp [strs, Value.oneCell'])
  rw [hl] at hrun
  have e := setRow_heap wr w.heap.size (halfR t n m).toArray ((halfR t n m).toArray.toList.take n ++ strs (List.replicate k t) ++ (halfR t n m).toArray.toList.drop (n + k)).toArray 9 (0, 0) hI.1
  have hW := h _ ⟨by rw [← halfR_step t n k m, ← List.append_assoc]; exact e, below_setRow hI.2 (Nat.le_refl _) _⟩
  unfold Oper.wp
  simp only [execOp, hop]
  simp only [resolve, invoke, builtin, Sem.run_bind, Sem.run_pure, Result.andThen_ok, List.map_toArray, List.map_cons, List.map_nil, hd, hs, hrun]
  exact hW
theorem wpList_copy_rp {ops : Array Oper} {rest : List Oper} {o : Oper} {a : Act} {Q : Exit → Act → World → Prop} (hgd : o.guard = none) (d x : Operand) (hop : o.op = .call { callee := .builtin .copy, args := #[d, x], argTypes := #[24, 24] })
    {w wr : World} {t : ByteArray} {n m : Nat} (hI : RpI w t n m wr) (k : Nat) (hnk : n + k ≤ m) (dLen dCap sLen sCap : Nat) (ad : Addr) (hd : a.eval d = .slice (some ⟨w.heap.size, n, none⟩) dLen dCap) (hs : a.eval x = .slice (some ad) sLen sCap) (hk : k = Nat.min sLen dLen)
    (hsrc : ∀ j, j < k → wr.cell? (ad.add j) = some (.string t)) (h : ∀ W', RpI w t (n + k) m W' → wpList Tryz.prog ops Q rest (a.put o.dst (.int .i64 (k : Int))) W') : wpList Tryz.prog ops Q (o :: rest) a wr :=
  wpList_plain hgd fun _ hK => wp_copy_rp d x hop hI k hnk dLen dCap sLen sCap ad hd hs hk hsrc fun W' hI' => hK _ _ (h W' hI')
set_option maxRecDepth 100000 in
set_option maxHeartbeats 2000000 in
theorem srepeat_any (t : ByteArray) (m : Nat) (h1 : 1 ≤ m) (h2 : m ≤ 1024) (w : World) (g0 : Nat) (hg0 : g0 < w.heap.size) (hc : w.cell? ⟨g0, 0, none⟩ = some (.string t)) :
    Calls Tryz.prog 117 #[.slice (some ⟨g0, 0, none⟩) 1 1, .int .i64 (m : Int)] w fun e w' => e = .returned (.slice (some ⟨w.heap.size, 0, none⟩) m m) ∧ Blk w' w.heap.size (strs (List.replicate m t)).toArray 9 ∧ Below w.heap.size w w' := by
  have hmk := run_make_s m (by omega) w
  have X0 := hide (show RpI w t 0 m (w.alloc (.cells (strs (List.replicate m ⟨#[]⟩)).toArray 9)) from ⟨by simpa [halfR] using Blk.new w 9 (strs (List.replicate m ⟨#[]⟩)).toArray, (Below.refl _ _).alloc (Nat.le_refl _) _⟩)
  generalize hx2 : w.alloc (.cells (strs (List.replicate m ⟨#[]⟩)).toArray 9) = x2 at *
  clear hx2
  have HC := hide hc
  have HM := hide hmk
  clear hc hmk
  go_enter Tryz.func117, Tryz.ntmps117
  go_wp2_with fail
  refine (Tryz.bits_Mul 1 m (by omega) (by omega) w).mono ?_
  rintro ev x1 ⟨rfl, rfl⟩
  rw [show (1 * m / 18446744073709551616 : Nat) = 0 by omega, show (1 * m % 18446744073709551616 : Nat) = m by omega]
  have hmk := unhide HM
  have wv : IntKind.i64.wrap (m : Int) = (m : Int) := wrapI_eq _ (by omega) (by omega)
  have HX := hide (show x2.cell? ⟨g0, 0, none⟩ = some (.string t) by rw [(unhide X0).2.cell (p := ⟨g0, 0, none⟩) hg0]; exact unhide HC)
  go_wp2_with (refine wpList_copy_rp rfl (.tmp 31) (.tmp 32) rfl (unhide X0) 1 (by omega) m m 1 1 ⟨g0, 0, none⟩ rfl rfl (by show 1 = min 1 m; omega) (fun j hj => by have hj0 : j = 0 := (by omega); subst hj0; rw [Addr.add_mid]; exact unhide HX) ?_; intro W1 hI1; have X1 := hide hI1; clear hI1)
  clear X0 HX HC HM hmk
  go_loopw [8] (fun i wr => ∃ n : Nat, 1 ≤ n ∧ n ≤ m ∧ i = .int .i64 (n : Int) ∧ RpI x1 t n m wr) (fun i _ => m - (intOf i).toNat)
  case atStart => exact ⟨1, by omega, by omega, rfl, by simpa using unhide X1⟩
  case round =>
    obtain ⟨n, hn1, hn, rfl, hI⟩ := hrel
    have XI := hide hI
    clear hI X1
    by_cases hnm : n < m
    · obtain ⟨k, hk⟩ : ∃ k, k = Nat.min n (m - n) := ⟨_, rfl⟩
      have hk1 : 1 ≤ k := by rw [hk]; simp only [Nat.min_def]; split <;> omega
      have hk2 : k ≤ n := by rw [hk]; exact Nat.min_le_left _ _
      have hk3 : n + k ≤ m := by have : k ≤ m - n := by rw [hk]; exact Nat.min_le_right _ _
                                 omega
      have HK := hide hk
      clear hk
      have i0 : 0 ≤ (n : Int) := by omega
      have i1 : (n : Int) ≤ (m : Int) := by omega
      have i2 : ¬ m = n := by omega
      have hw1 : IntKind.i64.wrap ((n : Int) + (k : Int)) = (n : Int) + (k : Int) := wrapI_eq _ (by omega) (by omega)
      go_wp2_with fail
      refine wp_region_held_drew (S := fun _ => True) (by kernel_rfl) trivial ?_
      intro hS
      refine wpAnyH_takeD 0 (some 38) (.int .i64 (n : Int)) rfl rfl (by kernel_rfl) (by kernel_rfl) (by kernel_rfl) (fun _ _ _ h => h) (Or.inl ⟨by rfl, fun w hSw => by go_simp⟩) hS ?_
      simp only [Act.put, List.setIfInBounds_toArray, List.set_cons_zero, List.set_cons_succ]
      refine wpAnyH_takeD 1 (some 39) (.slice (some ⟨x1.heap.size, 0, none⟩) m m) rfl rfl (by kernel_rfl) (by kernel_rfl) (by kernel_rfl) (fun _ _ _ h => h) (Or.inl ⟨by rfl, fun w hSw => by go_simp⟩) hS ?_
      simp only [Act.put, List.setIfInBounds_toArray, List.set_cons_zero, List.set_cons_succ]
      refine wpAnyH_takeD 2 (some 40) (.int .i64 (n : Int)) rfl rfl (by kernel_rfl) (by kernel_rfl) (by kernel_rfl) (fun _ _ _ h => h) (Or.inl ⟨by rfl, fun w hSw => by go_simp⟩) hS ?_
      simp only [Act.put, List.setIfInBounds_toArray, List.set_cons_zero, List.set_cons_succ]
      refine wpAnyH_takeD 3 (some 41) (.slice (some ⟨x1.heap.size, n, none⟩) (m - n) (m - n)) rfl rfl (by kernel_rfl) (by kernel_rfl) (by kernel_rfl) (fun _ _ _ h => h) (Or.inl ⟨by rfl, fun w hSw => by go_simp⟩) hS ?_
      simp only [Act.put, List.setIfInBounds_toArray, List.set_cons_zero, List.set_cons_succ]
      refine wpAnyH_takeD 4 (some 42) (.slice (some ⟨x1.heap.size, 0, none⟩) m m) rfl rfl (by kernel_rfl) (by kernel_rfl) (by kernel_rfl) (fun _ _ _ h => h) (Or.inl ⟨by rfl, fun w hSw => by go_simp⟩) hS ?_
      simp only [Act.put, List.setIfInBounds_toArray, List.set_cons_zero, List.set_cons_succ]
      refine wpAnyH_takeD 5 (some 43) (.int .i64 (n : Int)) rfl rfl (by kernel_rfl) (by kernel_rfl) (by kernel_rfl) (fun _ _ _ h => h) (Or.inl ⟨by rfl, fun w hSw => by go_simp⟩) hS ?_
      simp only [Act.put, List.setIfInBounds_toArray, List.set_cons_zero, List.set_cons_succ]
      refine wpAnyH_takeD 6 (some 44) (.slice (some ⟨x1.heap.size, 0, none⟩) n m) rfl rfl (by kernel_rfl) (by kernel_rfl) (by kernel_rfl) (fun _ _ _ h => h) (Or.inl ⟨by rfl, fun w hSw => by go_simp⟩) hS ?_
      simp only [Act.put, List.setIfInBounds_toArray, List.set_cons_zero, List.set_cons_succ]
      refine wpAnyH_ready (rs := [7]) (by kernel_rfl) (by simp) ?_
      refine AllReadyH.cons rfl (fun K hK => ?_) AllReadyH.nil
      simp only [List.getElem_toArray, List.getElem_cons_succ, List.getElem_cons_zero]
      refine wp_copy_rp (.tmp 41) (.tmp 44) rfl (show RpI x1 t n m wr.drew from ⟨(unhide XI).1, (unhide XI).2.drew⟩) k hk3 (m - n) (m - n) n m ⟨x1.heap.size, 0, none⟩ rfl rfl (unhide HK) (fun j hj => by rw [Addr.add_mid, Nat.zero_add]; exact ((unhide XI).1.cell j).trans (by have := halfR_at t n m j (by omega); simpa using this)) ?_
      intro W2 hI2
      have X2 := hide hI2
      clear hI2
      refine hK.out _ _ trivial (fun hS => ?_)
      clear hK K
      simp only [Act.put, List.setIfInBounds_toArray, List.set_cons_zero, List.set_cons_succ]
      refine wpAnyH_takeD 8 (some 46) (.int .i64 ((n : Int) + (k : Int))) rfl rfl (by kernel_rfl) (by kernel_rfl) (by kernel_rfl) (fun _ _ _ h => h) (Or.inl ⟨by rfl, fun w hSw => by go_simp⟩) hS ?_
      simp only [Act.put, List.setIfInBounds_toArray, List.set_cons_zero, List.set_cons_succ]
      refine wpAnyH_takeD 9 (some 8) (.int .i64 ((n : Int) + (k : Int))) rfl rfl (by kernel_rfl) (by kernel_rfl) (by kernel_rfl) (fun _ _ _ h => h) (Or.inl ⟨by rfl, fun w hSw => by go_simp⟩) hS ?_
      simp only [Act.put, List.setIfInBounds_toArray, List.set_cons_zero, List.set_cons_succ]
      refine wpAnyH_done (by kernel_rfl) ?_ _
      clear hS
      go_wp2
      go_roundw
      case rel => exact ⟨n + k, by omega, by omega, by go_num, unhide X2⟩
      case measure => simp [intOf]; omega
    · obtain rfl : n = m := by omega
      clear hnm
      go_wp2
      go_ret
      refine ⟨rfl, ?_, (unhide XI).2⟩
      have := (unhide XI).1
      simpa [halfR] using this
end Go.Proofs.YtnfdedolgfcmfaaGreatDoor
