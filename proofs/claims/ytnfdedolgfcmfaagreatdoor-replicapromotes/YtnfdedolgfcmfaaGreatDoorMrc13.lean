import Derived.Test.YtnfdedolgfcmfaaGreatDoorMrc12
import Derived.BigQuiet
namespace Go.Proofs.YtnfdedolgfcmfaaGreatDoor
open Go.RowKit
set_option maxRecDepth 100000
theorem yblankImage_any (m : Nat) (h1 : 1 ≤ m) (h2 : m ≤ 1024) (w : World) : Calls Tryz.prog 85 #[.int .i64 (m : Int)] w fun e w' => ∃ g, e = .returned (.slice (some ⟨g, 0, none⟩) m m) ∧ w.heap.size ≤ g ∧ Blk w' g (strs (List.replicate m (zR 256))).toArray 9 ∧ Below w.heap.size w w' := by
  have HBL := hide (yblank_any w)
  obtain ⟨Z, hZ⟩ : ∃ q, zR 256 = q := ⟨_, rfl⟩
  rw [hZ] at HBL ⊢
  clear hZ
  go_enter Tryz.func85, Tryz.ntmps85
  go_wp2_with fail
  refine (unhide HBL).mono ?_
  rintro e y1 ⟨rfl, hb1⟩
  have hB1 := Blk.new y1 9 #[.string Z]
  have hbx : Below w.heap.size w (y1.alloc (Obj.cells #[.string Z] 9)) := hb1.alloc hb1.size _
  have HRP := hide (srepeat_any Z m h1 h2 (y1.alloc (Obj.cells #[.string Z] 9)) y1.heap.size (by simp) (by rw [hB1.cell 0]; rfl))
  have HBX := hide hbx
  clear HBL hb1 hB1 hbx
  go_wp2_with fail
  refine (unhide HRP).mono ?_
  rintro e y2 ⟨rfl, hB2, hb2⟩
  have HE := hide (show w.heap.size ≤ (y1.alloc (Obj.cells #[.string Z] 9)).heap.size ∧ Blk y2 (y1.alloc (Obj.cells #[.string Z] 9)).heap.size (strs (List.replicate m Z)).toArray 9 ∧ Below w.heap.size w y2 from ⟨(unhide HBX).size, hB2, (unhide HBX).trans (hb2.mono (unhide HBX).size)⟩)
  clear hB2 hb2 HRP HBX
  go_wp2
  go_ret
  exact ⟨_, by simp, (unhide HE).1, (unhide HE).2.1, (unhide HE).2.2⟩
/-- may a frame be so -/
def mbB (k z : Nat) (f t : Int) (L : List (Nat × ByteArray)) : Bool := decide (128 ≤ z ∧ z ≤ 1024) && (leadB k f t && tlB k z L L.length)
set_option maxHeartbeats 1000000 in
theorem ymayBe_any (k z : Nat) (f t : Int) (r : ByteArray) (n c B : Nat) (p : Option Addr) (L : List (Nat × ByteArray)) (hn : L.length = n) (hn9 : n ≤ 100000) (hL1 : ∀ j, j < L.length → (L.getD j (0, ⟨#[]⟩)).1 < 65536) (w : World) (hS : SWr w B p L) (hB : B ≤ w.heap.size) : Calls Tryz.prog 83 #[.agg #[.int .i64 (k : Int), .int .i64 (z : Int), .int .i64 f, .int .i64 t, .string r, .slice p n c]] w fun e w' => e = .returned (.bool (mbB k z f t L)) ∧ Below w.heap.size w w' := by
  have hB0 := Blk.new w 97 #[.int .i64 (k : Int), .int .i64 (z : Int), .int .i64 f, .int .i64 t, .string r, .slice p n c]
  have hb0 : Below w.heap.size w (w.alloc (Obj.cells #[.int .i64 (k : Int), .int .i64 (z : Int), .int .i64 f, .int .i64 t, .string r, .slice p n c] 97)) := (Below.refl _ _).alloc (Nat.le_refl _) _
  obtain ⟨y0, hy0⟩ : ∃ q, (w.alloc (Obj.cells #[.int .i64 (k : Int), .int .i64 (z : Int), .int .i64 f, .int .i64 t, .string r, .slice p n c] 97)) = q := ⟨_, rfl⟩
  have HY := hide hy0
  rw [hy0] at hB0 hb0
  have HSZ := hide (yisSize_any z y0)
  have HLD := hide (ymayLead_any (k : Int) (z : Int) f t r n c p y0)
  have HTL := hide (fun (y1 : World) (hb : Below y0.heap.size y0 y1) => ymayTell_any (k : Int) (z : Int) f t r n c B p L hn hn9 hL1 y1 ((hS.below (hb0.mono hB)).below (hb.mono (Nat.le_trans hB hb0.size))) (Nat.le_trans (Nat.le_trans hB hb0.size) hb.size))
  have HBK := hide (show ∀ y1, Below y0.heap.size y0 y1 → Blk y1 w.heap.size #[.int .i64 (k : Int), .int .i64 (z : Int), .int .i64 f, .int .i64 t, .string r, .slice p n c] 97 from fun y1 hb => hB0.below hb hB0.lt)
  have HB0 := hide hb0
  have c0 : y0.cell? ⟨w.heap.size, 0, none⟩ = some (.int .i64 (k : Int)) := by rw [(hB0).cell 0]; rfl
  have c1 : y0.cell? ⟨w.heap.size, 1, none⟩ = some (.int .i64 (z : Int)) := by rw [(hB0).cell 1]; rfl
  have c2 : y0.cell? ⟨w.heap.size, 2, none⟩ = some (.int .i64 f) := by rw [(hB0).cell 2]; rfl
  have c3 : y0.cell? ⟨w.heap.size, 3, none⟩ = some (.int .i64 t) := by rw [(hB0).cell 3]; rfl
  have c4 : y0.cell? ⟨w.heap.size, 4, none⟩ = some (.string r) := by rw [(hB0).cell 4]; rfl
  have c5 : y0.cell? ⟨w.heap.size, 5, none⟩ = some (.slice p n c) := by rw [(hB0).cell 5]; rfl
  obtain ⟨Z, hZ⟩ : ∃ q, mbB k z f t L = q := ⟨_, rfl⟩
  rw [hZ]
  have HZ := hide (show (decide (128 ≤ z ∧ z ≤ 1024) && (leadB k f t && tlB k z L n)) = Z from by rw [← hZ, ← hn]; rfl)
  obtain ⟨b1, hb1⟩ : ∃ q, decide (128 ≤ z ∧ z ≤ 1024) = q := ⟨_, rfl⟩
  obtain ⟨b2, hb2⟩ : ∃ q, leadB k f t = q := ⟨_, rfl⟩
  obtain ⟨b3, hb3⟩ : ∃ q, tlB k z L n = q := ⟨_, rfl⟩
  rw [hb1] at HSZ HZ
  rw [hb2] at HLD HZ
  rw [hb3] at HTL HZ
  clear hZ hb1 hb2 hb3 hn hL1 hS hB hB0 hb0 hy0 hn9
  go_enter Tryz.func83, Tryz.ntmps83
  go_wp2_with (rw [unhide HY])
  refine (unhide HSZ).mono ?_
  rintro e y' ⟨rfl, hy'⟩
  subst y'
  clear HSZ
  cases b1 with
  | false =>
    have HE := hide (show Z = false from by rw [← unhide HZ]; rfl)
    clear HZ
    go_wp2
    go_ret
    exact ⟨congrArg (fun b => Ending.returned (.bool b)) (unhide HE).symm, unhide HB0⟩
  | true =>
  go_wp2_with fail
  refine (unhide HLD).mono ?_
  rintro e y1 ⟨rfl, hb1⟩
  have HB1 := hide (show Below w.heap.size w y1 from (unhide HB0).trans (hb1.mono (unhide HB0).size))
  have d0 : y1.cell? ⟨w.heap.size, 0, none⟩ = some (.int .i64 (k : Int)) := by rw [(unhide HBK y1 hb1).cell 0]; rfl
  have d1 : y1.cell? ⟨w.heap.size, 1, none⟩ = some (.int .i64 (z : Int)) := by rw [(unhide HBK y1 hb1).cell 1]; rfl
  have d2 : y1.cell? ⟨w.heap.size, 2, none⟩ = some (.int .i64 f) := by rw [(unhide HBK y1 hb1).cell 2]; rfl
  have d3 : y1.cell? ⟨w.heap.size, 3, none⟩ = some (.int .i64 t) := by rw [(unhide HBK y1 hb1).cell 3]; rfl
  have d4 : y1.cell? ⟨w.heap.size, 4, none⟩ = some (.string r) := by rw [(unhide HBK y1 hb1).cell 4]; rfl
  have d5 : y1.cell? ⟨w.heap.size, 5, none⟩ = some (.slice p n c) := by rw [(unhide HBK y1 hb1).cell 5]; rfl
  have HT := hide (unhide HTL y1 hb1)
  clear HLD c0 c1 c2 c3 c4 c5 hb1 HTL
  cases b2 with
  | false =>
    have HE := hide (show Z = false from by rw [← unhide HZ]; rfl)
    clear HZ
    go_wp2
    go_ret
    exact ⟨congrArg (fun b => Ending.returned (.bool b)) (unhide HE).symm, unhide HB1⟩
  | true =>
  go_wp2_with fail
  refine (unhide HT).mono ?_
  rintro e y2 ⟨rfl, hb2⟩
  have HE := hide (show Z = b3 ∧ Below w.heap.size w y2 from ⟨by rw [← unhide HZ]; simp, (unhide HB1).trans (hb2.mono (unhide HB1).size)⟩)
  clear HZ hb2 HT d0 d1 d2 d3 d4 d5
  go_wp2
  go_ret
  exact ⟨congrArg (fun b => Ending.returned (.bool b)) (unhide HE).1.symm, (unhide HE).2⟩
/-- sectors laid on others -/
def lyL (M : List ByteArray) (L : List (Nat × ByteArray)) : Nat → List ByteArray
  | 0 => M
  | j + 1 => (lyL M L j).set (L.getD j (0, ⟨#[]⟩)).1 (L.getD j (0, ⟨#[]⟩)).2
theorem lyL_len (M : List ByteArray) (L : List (Nat × ByteArray)) : ∀ j, (lyL M L j).length = M.length
  | 0 => rfl
  | j + 1 => by rw [lyL, List.length_set, lyL_len M L j]
theorem strs_set (M : List ByteArray) (i : Nat) (t : ByteArray) : ((strs M).toArray).setIfInBounds i (.string t) = (strs (M.set i t)).toArray := by
  apply Array.ext'
  simp [strs, List.map_set]
set_option maxHeartbeats 4000000 in
theorem ylaidOn_any (k z : Nat) (f t : Int) (r : ByteArray) (n c B B2 nb cb : Nat) (p pb : Option Addr) (L : List (Nat × ByteArray)) (lb : List ByteArray) (hn : L.length = n) (hn9 : n ≤ 100000) (hz1 : 1 ≤ z) (hz2 : z ≤ 1024) (hL1 : ∀ j, j < L.length → (L.getD j (0, ⟨#[]⟩)).1 < z) (hL2 : ∀ j, j < L.length → (L.getD j (0, ⟨#[]⟩)).2.size ≤ 1000) (hk : k = 2 → nb = z) (hnb : lb.length = nb) (w : World) (hS : SWr w B p L) (hB : B ≤ w.heap.size) (hSb : SB w B2 pb lb) (hB2 : B2 ≤ w.heap.size) :
    Calls Tryz.prog 43 #[.agg #[.int .i64 (k : Int), .int .i64 (z : Int), .int .i64 f, .int .i64 t, .string r, .slice p n c], .slice pb nb cb] w fun e w' => ∃ g, e = .returned (.slice (some ⟨g, 0, none⟩) z z) ∧ w.heap.size ≤ g ∧ Blk w' g (strs (lyL (if k = 2 then lb else List.replicate z (zR 256)) L n)).toArray 9 ∧ Below w.heap.size w w' := by
  have hB0 := Blk.new w 97 #[.int .i64 (k : Int), .int .i64 (z : Int), .int .i64 f, .int .i64 t, .string r, .slice p n c]
  have hb0 : Below w.heap.size w (w.alloc (Obj.cells #[.int .i64 (k : Int), .int .i64 (z : Int), .int .i64 f, .int .i64 t, .string r, .slice p n c] 97)) := (Below.refl _ _).alloc (Nat.le_refl _) _
  obtain ⟨y0, hy0⟩ : ∃ q, (w.alloc (Obj.cells #[.int .i64 (k : Int), .int .i64 (z : Int), .int .i64 f, .int .i64 t, .string r, .slice p n c] 97)) = q := ⟨_, rfl⟩
  have HY := hide hy0
  rw [hy0] at hB0 hb0
  have HBI := hide (yblankImage_any z hz1 hz2 y0)
  have HBK := hide hB0
  have HB0 := hide hb0
  have hlt0 := hB0.lt
  have c1 : y0.cell? ⟨w.heap.size, 1, none⟩ = some (.int .i64 (z : Int)) := by rw [hB0.cell 1]; rfl
  have HSS := hide (And.intro hS (And.intro hB (And.intro hSb hB2)))
  have HL1 := hide hL1
  have HL2 := hide hL2
  have HN := hide (And.intro hn (And.intro hk hnb))
  obtain ⟨M, hM⟩ : ∃ q, (if k = 2 then lb else List.replicate z (zR 256)) = q := ⟨_, rfl⟩
  rw [hM]
  have HMz := hide (show M.length = z from by
    rw [← hM]
    by_cases e : k = 2
    · rw [if_pos e, (unhide HN).2.2, (unhide HN).2.1 e]
    · rw [if_neg e]; simp)
  have HM := hide hM
  clear hM hn hL1 hL2 hS hB hSb hB2 hB0 hb0 hy0 hk hnb
  go_enter Tryz.func43, Tryz.ntmps43
  go_wp2_with (rw [unhide HY])
  refine (unhide HBI).mono ?_
  rintro e y1 ⟨g, rfl, hg, hBg, hb1⟩
  have hBK1 := (unhide HBK).below hb1 hlt0
  have c0 : y1.cell? ⟨w.heap.size, 0, none⟩ = some (.int .i64 (k : Int)) := by rw [hBK1.cell 0]; rfl
  have c5 : y1.cell? ⟨w.heap.size, 5, none⟩ = some (.slice p n c) := by rw [hBK1.cell 5]; rfl
  have hgw : w.heap.size < g := by omega
  have HW1 := hide (show Below w.heap.size w y1 from (unhide HB0).trans (hb1.mono (unhide HB0).size))
  have HG1 := hide hBg
  have HBK1 := hide hBK1
  clear hBg hBK1 hb1 HBI c1 HY hlt0 HBK HB0 hg
  by_cases hk2 : k = 2
  case pos =>
    obtain rfl : M = lb := by rw [← unhide HM, if_pos hk2]
    have hke : ((k : Int) == 2) = true := by simp; omega
    obtain rfl : nb = z := (unhide HN).2.1 hk2
    obtain ⟨gb, ob, rfl, hgb, _⟩ := (unhide HSS).2.2.1 0 (by rw [(unhide HN).2.2]; omega)
    have HSRC := hide (show ∀ (j : Nat) v, (strs M)[j]? = some v → y1.cell? ((⟨gb, ob, none⟩ : Addr).add j) = some v from fun j v hv => by
      have hj : j < M.length := by
        have := (List.getElem?_eq_some_iff.1 hv).1
        simpa [strs] using this
      obtain ⟨g3, o3, e3, hg3, hc3⟩ := (unhide HSS).2.2.1 j hj
      obtain ⟨rfl, rfl⟩ : gb = g3 ∧ ob = o3 := by injection e3 with e3; injection e3 with e4 e5; exact ⟨e4, e5⟩
      rw [Addr.add_mid]
      refine ((unhide HW1).cell (p := ⟨gb, ob + j, none⟩) (Nat.lt_of_lt_of_le hg3 (unhide HSS).2.2.2)).trans (hc3.trans ?_)
      rw [← hv]
      simp [strs, List.getD_eq_getElem?_getD, List.getElem?_eq_getElem hj])
    have hst : (strs M).length = nb := by simp [strs, (unhide HMz)]
    clear HM
    go_wp2_with (refine wpList_copy_splice rfl (.tmp 14) (.tmp 15) 24 24 rfl 9 Tryz.underlying24 (by kernel_rfl) (some ⟨g, 0, none⟩) (some ⟨gb, ob, none⟩) nb nb nb cb rfl rfl g 0 (strs (List.replicate nb (zR 256))) 9 (unhide HG1) (strs M) (by rw [hst]; exact (Nat.min_self nb).symm) (fun _ => ⟨rfl, _, rfl, unhide HSRC⟩) (by rw [hst]; simp [strs]) (by simp [strs, Value.oneCell']) g y1 (Below.refl _ _) (Nat.le_refl _) ?_)
    intro y2 hy2 hby
    have HG2 := hide (show Blk y2 g (strs M).toArray 9 ∧ Below w.heap.size w y2 from ⟨by
      have e := unhide hy2
      have e2 : splice (strs (List.replicate nb (zR 256))) 0 (strs M) = strs M := by
        unfold splice
        rw [List.take_zero, List.nil_append, hst, List.drop_of_length_le (by simp [strs]), List.append_nil]
      rw [e2] at e
      exact e, (unhide HW1).trans (hby.mono (by omega))⟩)
    have c5' : y2.cell? ⟨w.heap.size, 5, none⟩ = some (.slice p n c) := (hby.cell (p := ⟨w.heap.size, 5, none⟩) hgw).trans c5
    clear hy2 hby c5 HG1 HSRC c0 hke hst
    go_wp2
    go_loopw [20] (fun i wr => ∃ j : Nat, j ≤ n ∧ i = .int .i64 (j : Int) ∧ Hid (Blk wr g (strs (lyL M L j)).toArray 9 ∧ Below w.heap.size w wr)) (fun i _ => n - (intOf i).toNat)
    case atStart => exact ⟨0, by omega, rfl, HG2⟩
    case round =>
    obtain ⟨j, hj, rfl, HR⟩ := hrel
    obtain ⟨wr, rfl⟩ : ∃ q, q = wr := ⟨_, rfl⟩
    clear HG2
    by_cases hjn : j < n
    case neg =>
      obtain rfl : j = n := by omega
      have e1 : ¬ (j : Int) < (j : Int) := by omega
      go_wp2
      go_ret
      exact ⟨g, rfl, by omega, (unhide HR).1, (unhide HR).2⟩
    have e1 : (j : Int) < (n : Int) := by omega
    obtain ⟨g2, o2, rfl, hg2, d0, d1⟩ := ((unhide HSS).1.below ((unhide HR).2.mono (unhide HSS).2.1)) j (by rw [(unhide HN).1]; exact hjn)
    have ha1 := unhide HL1 j (by rw [(unhide HN).1]; exact hjn)
    have ha2 := unhide HL2 j (by rw [(unhide HN).1]; exact hjn)
    have HLS := hide (show lyL M L (j + 1) = (lyL M L j).set (L.getD j (0, ⟨#[]⟩)).1 (L.getD j (0, ⟨#[]⟩)).2 from rfl)
    obtain ⟨a, hae⟩ : ∃ q, (L.getD j (0, ⟨#[]⟩)).1 = q := ⟨_, rfl⟩
    obtain ⟨s, hse⟩ : ∃ q, (L.getD j (0, ⟨#[]⟩)).2 = q := ⟨_, rfl⟩
    rw [hae] at ha1 d0 HLS
    rw [hse] at ha2 d1 HLS
    have hws := (unhide HR).2.size
    have hgwr : g < wr.heap.size := (unhide HR).1.lt
    have hB9 := Blk.new wr 149 #[.int .i64 (a : Int), .string s]
    have hbx : Below w.heap.size w (wr.alloc (Obj.cells #[.int .i64 (a : Int), .string s] 149)) := (unhide HR).2.alloc hws _
    have hBg := (unhide HR).1.alloc (Obj.cells #[.int .i64 (a : Int), .string s] 149)
    have HCL := hide (fun W => yclone_any s (by omega) W)
    obtain ⟨hx, hhx⟩ : ∃ q, wr.heap.size = q := ⟨_, rfl⟩
    obtain ⟨wx, hwx⟩ : ∃ q, wr.alloc (Obj.cells #[.int .i64 (a : Int), .string s] 149) = q := ⟨_, rfl⟩
    rw [hwx] at hB9 hbx hBg
    rw [hhx] at hB9 hws hgwr
    obtain ⟨sa, hsa⟩ : ∃ q, (lyL M L j).getD a ⟨#[]⟩ = q := ⟨_, rfl⟩
    have HSA := hide (show (strs (lyL M L j)).toArray[a]? = some (.string sa) from by
      have h9 : a < (lyL M L j).length := by rw [lyL_len, unhide HMz]; exact ha1
      rw [← hsa]
      simp [strs, List.getD_eq_getElem?_getD, List.getElem?_eq_getElem h9])
    have HNX := hide (show ∀ w9, Below wx.drew.heap.size wx.drew w9 → w9.cell? ⟨hx, 0, none⟩ = some (.int .i64 (a : Int)) ∧ w9.cell? ⟨hx, 1, none⟩ = some (.string s) ∧ Blk w9 g (strs (lyL M L j)).toArray 9 ∧ Below w.heap.size w w9 from fun w9 hb9 => by
      have h1 : Blk w9 hx #[.int .i64 (a : Int), .string s] 149 := Blk.below (w := wx.drew) hB9 hb9 hB9.lt
      refine ⟨by rw [h1.cell 0]; rfl, by rw [h1.cell 1]; rfl, Blk.below (w := wx.drew) hBg hb9 hBg.lt, (hbx.drew).trans (hb9.mono hbx.size)⟩)
    have x0 : wx.cell? ⟨hx, 0, none⟩ = some (.int .i64 (a : Int)) := by rw [hB9.cell 0]; rfl
    have x1 : wx.cell? ⟨hx, 1, none⟩ = some (.string s) := by rw [hB9.cell 1]; rfl
    have hne1 : (⟨g, a, none⟩ : Addr).block ≠ (⟨hx, 0, none⟩ : Addr).block := by show g ≠ hx; omega
    have hne2 : (⟨g, a, none⟩ : Addr).block ≠ (⟨hx, 1, none⟩ : Addr).block := by show g ≠ hx; omega
    have i0 : (0 : Int) ≤ (a : Int) := by omega
    have i1 : (a : Int) < (nb : Int) := by omega
    have HWX := hide (And.intro hwx hhx)
    clear hwx hhx hB9 hbx hBg hae hse hsa HR
    go_wp2_with fail
    rw [(unhide HWX).1, (unhide HWX).2]
    refine wp_region_held_drew (S := fun W => W.cell? ⟨hx, 0, none⟩ = some (.int .i64 (a : Int)) ∧ W.cell? ⟨hx, 1, none⟩ = some (.string s)) (by kernel_rfl) ⟨x0, x1⟩ ?_
    intro hS
    refine wpAnyH_takeD 0 (some 24) (.slice (some ⟨g, 0, none⟩) nb nb) rfl rfl (by kernel_rfl) (by kernel_rfl) (by kernel_rfl) (fun _ _ _ h => h) (Or.inl ⟨by rfl, fun w hSw => by obtain ⟨q1, q2⟩ := hSw; go_simp; try (intro hbad; omega)⟩) hS ?_
    simp only [Act.put, List.setIfInBounds_toArray, List.set_cons_zero, List.set_cons_succ]
    refine wpAnyH_takeD 1 (some 25) (.pointer (some ⟨hx, 0, none⟩)) rfl rfl (by kernel_rfl) (by kernel_rfl) (by kernel_rfl) (fun _ _ _ h => h) (Or.inl ⟨by rfl, fun w hSw => by obtain ⟨q1, q2⟩ := hSw; go_simp; try (intro hbad; omega)⟩) hS ?_
    simp only [Act.put, List.setIfInBounds_toArray, List.set_cons_zero, List.set_cons_succ]
    refine wpAnyH_takeD 2 (some 26) (.int .i64 (a : Int)) rfl rfl (by kernel_rfl) (by kernel_rfl) (by kernel_rfl) (fun _ _ _ h => h) (Or.inl ⟨by rfl, fun w hSw => by obtain ⟨q1, q2⟩ := hSw; go_simp; try (intro hbad; omega)⟩) hS ?_
    simp only [Act.put, List.setIfInBounds_toArray, List.set_cons_zero, List.set_cons_succ]
    refine wpAnyH_takeD 3 (some 27) (.pointer (some ⟨hx, 1, none⟩)) rfl rfl (by kernel_rfl) (by kernel_rfl) (by kernel_rfl) (fun _ _ _ h => h) (Or.inl ⟨by rfl, fun w hSw => by obtain ⟨q1, q2⟩ := hSw; go_simp; try (intro hbad; omega)⟩) hS ?_
    simp only [Act.put, List.setIfInBounds_toArray, List.set_cons_zero, List.set_cons_succ]
    refine wpAnyH_takeD 4 (some 28) (.string s) rfl rfl (by kernel_rfl) (by kernel_rfl) (by kernel_rfl) (fun _ _ _ h => h) (Or.inl ⟨by rfl, fun w hSw => by obtain ⟨q1, q2⟩ := hSw; go_simp; try (intro hbad; omega)⟩) hS ?_
    simp only [Act.put, List.setIfInBounds_toArray, List.set_cons_zero, List.set_cons_succ]
    refine wpAnyH_ready (rs := [5]) (by kernel_rfl) (by simp) ?_
    refine AllReadyH.cons rfl (fun K hK => ?_) AllReadyH.nil
    simp only [List.getElem_toArray, List.getElem_cons_succ, List.getElem_cons_zero]
    go_simp
    refine (unhide HCL _).mono ?_
    rintro e w9 ⟨rfl, hb9⟩
    obtain ⟨m1, m2, m3, m4⟩ := unhide HNX w9 hb9
    have hfz : w9.frozen? ⟨g, a, none⟩ = false := m3.frozen a
    have hcz : w9.cell? ⟨g, a, none⟩ = some (.string sa) := by rw [m3.cell a]; exact unhide HSA
    have HM := hide (And.intro m3 m4)
    clear hb9 m3 m4
    refine hK.out _ _ ⟨m1, m2⟩ (fun hS => ?_)
    clear hK K
    refine wpAnyH_takeD 6 (some 30) (.pointer (some ⟨g, a, none⟩)) rfl rfl (by kernel_rfl) (by kernel_rfl) (by kernel_rfl) (fun _ _ _ h => h) (Or.inl ⟨by rfl, fun w hSw => by obtain ⟨q1, q2⟩ := hSw; go_simp; try (intro hbad; omega)⟩) hS ?_
    simp only [Act.put, List.setIfInBounds_toArray, List.set_cons_zero, List.set_cons_succ]
    refine wpAnyH_ready (rs := [7]) (by kernel_rfl) (by simp) ?_
    refine AllReadyH.cons rfl (fun K hK => ?_) AllReadyH.nil
    simp only [List.getElem_toArray, List.getElem_cons_succ, List.getElem_cons_zero]
    go_simp
    refine hK.out _ _ ⟨(World.cell?_setCell_far _ _ _ _ hne1).trans m1, (World.cell?_setCell_far _ _ _ _ hne2).trans m2⟩ (fun hS => ?_)
    clear hK K
    refine wpAnyH_done (by kernel_rfl) ?_ _
    have HF := hide (show Blk (w9.setCell ⟨g, a, none⟩ (.string s)) g (strs (lyL M L (j + 1))).toArray 9 ∧ Below w.heap.size w (w9.setCell ⟨g, a, none⟩ (.string s)) from ⟨by
      have h9 := (unhide HM).1.set a (.string s)
      rw [strs_set, ← unhide HLS] at h9
      exact h9, (unhide HM).2.setCell (p := ⟨g, a, none⟩) (by show w.heap.size ≤ g; omega) _⟩)
    clear hS m1 m2 hfz hcz
    go_wp2
    go_roundw
    case rel => exact ⟨j + 1, by omega, by go_num, HF⟩
    case measure => simp [intOf] <;> omega
  have hke : ((k : Int) == 2) = false := by simp; omega
  obtain rfl : M = List.replicate z (zR 256) := by rw [← unhide HM, if_neg hk2]
  obtain ⟨M, hMe⟩ : ∃ q, List.replicate z (zR 256) = q := ⟨_, rfl⟩
  rw [hMe] at HG1 HMz
  have HG2 := hide (And.intro (unhide HG1) (unhide HW1))
  clear HG1 HM
  go_wp2
  go_loopw [20] (fun i wr => ∃ j : Nat, j ≤ n ∧ i = .int .i64 (j : Int) ∧ Hid (Blk wr g (strs (lyL M L j)).toArray 9 ∧ Below w.heap.size w wr)) (fun i _ => n - (intOf i).toNat)
  case atStart => exact ⟨0, by omega, rfl, HG2⟩
  case round =>
  obtain ⟨j, hj, rfl, HR⟩ := hrel
  obtain ⟨wr, rfl⟩ : ∃ q, q = wr := ⟨_, rfl⟩
  clear HG2
  by_cases hjn : j < n
  case neg =>
    obtain rfl : j = n := by omega
    have e1 : ¬ (j : Int) < (j : Int) := by omega
    go_wp2
    go_ret
    exact ⟨g, rfl, by omega, (unhide HR).1, (unhide HR).2⟩
  have e1 : (j : Int) < (n : Int) := by omega
  obtain ⟨g2, o2, rfl, hg2, d0, d1⟩ := ((unhide HSS).1.below ((unhide HR).2.mono (unhide HSS).2.1)) j (by rw [(unhide HN).1]; exact hjn)
  have ha1 := unhide HL1 j (by rw [(unhide HN).1]; exact hjn)
  have ha2 := unhide HL2 j (by rw [(unhide HN).1]; exact hjn)
  have HLS := hide (show lyL M L (j + 1) = (lyL M L j).set (L.getD j (0, ⟨#[]⟩)).1 (L.getD j (0, ⟨#[]⟩)).2 from rfl)
  obtain ⟨a, hae⟩ : ∃ q, (L.getD j (0, ⟨#[]⟩)).1 = q := ⟨_, rfl⟩
  obtain ⟨s, hse⟩ : ∃ q, (L.getD j (0, ⟨#[]⟩)).2 = q := ⟨_, rfl⟩
  rw [hae] at ha1 d0 HLS
  rw [hse] at ha2 d1 HLS
  have hws := (unhide HR).2.size
  have hgwr : g < wr.heap.size := (unhide HR).1.lt
  have hB9 := Blk.new wr 149 #[.int .i64 (a : Int), .string s]
  have hbx : Below w.heap.size w (wr.alloc (Obj.cells #[.int .i64 (a : Int), .string s] 149)) := (unhide HR).2.alloc hws _
  have hBg := (unhide HR).1.alloc (Obj.cells #[.int .i64 (a : Int), .string s] 149)
  have HCL := hide (fun W => yclone_any s (by omega) W)
  obtain ⟨hx, hhx⟩ : ∃ q, wr.heap.size = q := ⟨_, rfl⟩
  obtain ⟨wx, hwx⟩ : ∃ q, wr.alloc (Obj.cells #[.int .i64 (a : Int), .string s] 149) = q := ⟨_, rfl⟩
  rw [hwx] at hB9 hbx hBg
  rw [hhx] at hB9 hws hgwr
  obtain ⟨sa, hsa⟩ : ∃ q, (lyL M L j).getD a ⟨#[]⟩ = q := ⟨_, rfl⟩
  have HSA := hide (show (strs (lyL M L j)).toArray[a]? = some (.string sa) from by
    have h9 : a < (lyL M L j).length := by rw [lyL_len, unhide HMz]; exact ha1
    rw [← hsa]
    simp [strs, List.getD_eq_getElem?_getD, List.getElem?_eq_getElem h9])
  have HNX := hide (show ∀ w9, Below wx.drew.heap.size wx.drew w9 → w9.cell? ⟨hx, 0, none⟩ = some (.int .i64 (a : Int)) ∧ w9.cell? ⟨hx, 1, none⟩ = some (.string s) ∧ Blk w9 g (strs (lyL M L j)).toArray 9 ∧ Below w.heap.size w w9 from fun w9 hb9 => by
    have h1 : Blk w9 hx #[.int .i64 (a : Int), .string s] 149 := Blk.below (w := wx.drew) hB9 hb9 hB9.lt
    refine ⟨by rw [h1.cell 0]; rfl, by rw [h1.cell 1]; rfl, Blk.below (w := wx.drew) hBg hb9 hBg.lt, (hbx.drew).trans (hb9.mono hbx.size)⟩)
  have x0 : wx.cell? ⟨hx, 0, none⟩ = some (.int .i64 (a : Int)) := by rw [hB9.cell 0]; rfl
  have x1 : wx.cell? ⟨hx, 1, none⟩ = some (.string s) := by rw [hB9.cell 1]; rfl
  have hne1 : (⟨g, a, none⟩ : Addr).block ≠ (⟨hx, 0, none⟩ : Addr).block := by show g ≠ hx; omega
  have hne2 : (⟨g, a, none⟩ : Addr).block ≠ (⟨hx, 1, none⟩ : Addr).block := by show g ≠ hx; omega
  have i0 : (0 : Int) ≤ (a : Int) := by omega
  have i1 : (a : Int) < (z : Int) := by omega
  have HWX := hide (And.intro hwx hhx)
  clear hwx hhx hB9 hbx hBg hae hse hsa HR
  go_wp2_with fail
  rw [(unhide HWX).1, (unhide HWX).2]
  refine wp_region_held_drew (S := fun W => W.cell? ⟨hx, 0, none⟩ = some (.int .i64 (a : Int)) ∧ W.cell? ⟨hx, 1, none⟩ = some (.string s)) (by kernel_rfl) ⟨x0, x1⟩ ?_
  intro hS
  refine wpAnyH_takeD 0 (some 24) (.slice (some ⟨g, 0, none⟩) z z) rfl rfl (by kernel_rfl) (by kernel_rfl) (by kernel_rfl) (fun _ _ _ h => h) (Or.inl ⟨by rfl, fun w hSw => by obtain ⟨q1, q2⟩ := hSw; go_simp; try (intro hbad; omega)⟩) hS ?_
  simp only [Act.put, List.setIfInBounds_toArray, List.set_cons_zero, List.set_cons_succ]
  refine wpAnyH_takeD 1 (some 25) (.pointer (some ⟨hx, 0, none⟩)) rfl rfl (by kernel_rfl) (by kernel_rfl) (by kernel_rfl) (fun _ _ _ h => h) (Or.inl ⟨by rfl, fun w hSw => by obtain ⟨q1, q2⟩ := hSw; go_simp; try (intro hbad; omega)⟩) hS ?_
  simp only [Act.put, List.setIfInBounds_toArray, List.set_cons_zero, List.set_cons_succ]
  refine wpAnyH_takeD 2 (some 26) (.int .i64 (a : Int)) rfl rfl (by kernel_rfl) (by kernel_rfl) (by kernel_rfl) (fun _ _ _ h => h) (Or.inl ⟨by rfl, fun w hSw => by obtain ⟨q1, q2⟩ := hSw; go_simp; try (intro hbad; omega)⟩) hS ?_
  simp only [Act.put, List.setIfInBounds_toArray, List.set_cons_zero, List.set_cons_succ]
  refine wpAnyH_takeD 3 (some 27) (.pointer (some ⟨hx, 1, none⟩)) rfl rfl (by kernel_rfl) (by kernel_rfl) (by kernel_rfl) (fun _ _ _ h => h) (Or.inl ⟨by rfl, fun w hSw => by obtain ⟨q1, q2⟩ := hSw; go_simp; try (intro hbad; omega)⟩) hS ?_
  simp only [Act.put, List.setIfInBounds_toArray, List.set_cons_zero, List.set_cons_succ]
  refine wpAnyH_takeD 4 (some 28) (.string s) rfl rfl (by kernel_rfl) (by kernel_rfl) (by kernel_rfl) (fun _ _ _ h => h) (Or.inl ⟨by rfl, fun w hSw => by obtain ⟨q1, q2⟩ := hSw; go_simp; try (intro hbad; omega)⟩) hS ?_
  simp only [Act.put, List.setIfInBounds_toArray, List.set_cons_zero, List.set_cons_succ]
  refine wpAnyH_ready (rs := [5]) (by kernel_rfl) (by simp) ?_
  refine AllReadyH.cons rfl (fun K hK => ?_) AllReadyH.nil
  simp only [List.getElem_toArray, List.getElem_cons_succ, List.getElem_cons_zero]
  go_simp
  refine (unhide HCL _).mono ?_
  rintro e w9 ⟨rfl, hb9⟩
  obtain ⟨m1, m2, m3, m4⟩ := unhide HNX w9 hb9
  have hfz : w9.frozen? ⟨g, a, none⟩ = false := m3.frozen a
  have hcz : w9.cell? ⟨g, a, none⟩ = some (.string sa) := by rw [m3.cell a]; exact unhide HSA
  have HM := hide (And.intro m3 m4)
  clear hb9 m3 m4
  refine hK.out _ _ ⟨m1, m2⟩ (fun hS => ?_)
  clear hK K
  refine wpAnyH_takeD 6 (some 30) (.pointer (some ⟨g, a, none⟩)) rfl rfl (by kernel_rfl) (by kernel_rfl) (by kernel_rfl) (fun _ _ _ h => h) (Or.inl ⟨by rfl, fun w hSw => by obtain ⟨q1, q2⟩ := hSw; go_simp; try (intro hbad; omega)⟩) hS ?_
  simp only [Act.put, List.setIfInBounds_toArray, List.set_cons_zero, List.set_cons_succ]
  refine wpAnyH_ready (rs := [7]) (by kernel_rfl) (by simp) ?_
  refine AllReadyH.cons rfl (fun K hK => ?_) AllReadyH.nil
  simp only [List.getElem_toArray, List.getElem_cons_succ, List.getElem_cons_zero]
  go_simp
  refine hK.out _ _ ⟨(World.cell?_setCell_far _ _ _ _ hne1).trans m1, (World.cell?_setCell_far _ _ _ _ hne2).trans m2⟩ (fun hS => ?_)
  clear hK K
  refine wpAnyH_done (by kernel_rfl) ?_ _
  have HF := hide (show Blk (w9.setCell ⟨g, a, none⟩ (.string s)) g (strs (lyL M L (j + 1))).toArray 9 ∧ Below w.heap.size w (w9.setCell ⟨g, a, none⟩ (.string s)) from ⟨by
    have h9 := (unhide HM).1.set a (.string s)
    rw [strs_set, ← unhide HLS] at h9
    exact h9, (unhide HM).2.setCell (p := ⟨g, a, none⟩) (by show w.heap.size ≤ g; omega) _⟩)
  clear hS m1 m2 hfz hcz
  go_wp2
  go_roundw
  case rel => exact ⟨j + 1, by omega, by go_num, HF⟩
  case measure => simp [intOf] <;> omega
end Go.Proofs.YtnfdedolgfcmfaaGreatDoor
