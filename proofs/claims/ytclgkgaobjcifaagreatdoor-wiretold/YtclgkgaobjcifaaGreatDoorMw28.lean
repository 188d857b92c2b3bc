import Derived.Test.YtclgkgaobjcifaaGreatDoorMw27
import Derived.Test.YtclgkgaobjcifaaGreatDoorMw17
import Derived.Test.YtclgkgaobjcifaaGreatDoorMw25
import Derived.Laws.CopyOwn
import Derived.Deep.DeepCutAuto
namespace Go.Proofs.YtclgkgaobjcifaaGreatDoor
open Go.RowKit
set_option maxRecDepth 100000
/-- a row of numbers with two marks behind them -/
def mkR (V : List Int) (x y : Int) : List Value := V.map (Value.int .i64) ++ [.int .i64 x, .int .i64 y]
theorem spl_mk (V : List Int) : splice ((List.replicate (V.length + 2) (0 : Int)).map (Value.int .i64)) 0 (V.map (Value.int .i64)) = mkR V 0 0 := by
  unfold splice mkR
  rw [List.take_zero, List.nil_append, ← List.map_drop, Nat.zero_add, List.length_map, List.drop_replicate, Nat.add_sub_cancel_left]
  rfl
theorem mkR_1 (V : List Int) (u y x : Int) (j : Nat) (h : j = V.length) : (mkR V u y).toArray.setIfInBounds j (.int .i64 x) = (mkR V x y).toArray := by
  subst h
  unfold mkR
  simp
theorem mkR_2 (V : List Int) (x v y : Int) (j : Nat) (h : j = V.length + 1) : (mkR V x v).toArray.setIfInBounds j (.int .i64 y) = (mkR V x y).toArray := by
  subst h
  unfold mkR
  simp
theorem mkR_at (V : List Int) (x y : Int) (k : Nat) : (mkR V x y).toArray[k]? = if k < V.length then some (.int .i64 (V.getD k 0)) else if k = V.length then some (.int .i64 x) else if k = V.length + 1 then some (.int .i64 y) else none := by
  unfold mkR
  rw [List.getElem?_toArray, List.getElem?_append, List.length_map]
  by_cases h : k < V.length
  · rw [if_pos h, if_pos h, List.getElem?_map, List.getElem?_eq_getElem h, List.getD_eq_getElem?_getD, List.getElem?_eq_getElem h]
    rfl
  · rw [if_neg h, if_neg h]
    by_cases h1 : k = V.length
    · subst h1
      simp
    · rw [if_neg h1]
      by_cases h2 : k = V.length + 1
      · subst h2
        simp
      · rw [if_neg h2]
        obtain ⟨d, rfl⟩ : ∃ d, k = V.length + 2 + d := ⟨k - (V.length + 2), by omega⟩
        rw [show V.length + 2 + d - V.length = 2 + d by omega]
        simp
theorem mkR_lst {W : World} {gv : Nat} {V : List Int} {x y : Int} (h : Blk W gv (mkR V x y).toArray 3) : Lst W W.heap.size (some ⟨gv, 0, none⟩) V := fun j hj => ⟨gv, 0, rfl, h.lt, by rw [Nat.zero_add, h.cell, mkR_at, if_pos hj]⟩
set_option maxHeartbeats 16000000 in
theorem told12 (kd : Int) (r : Rep) (V Pl : List Int) (hvm : V.length = r.vm) (hpm : Pl.length = r.pm) (hm : r.vm ≤ 17592186044416 ∧ r.pm ≤ 17592186044416) (ot : Int) (s : ByteArray) (hs : s.size ≤ 150000000000000) (w : World) (hLV : Lst w w.heap.size r.vp V) (hLP : Lst w w.heap.size r.pp Pl) (hE : ETy w) :
    Calls Tryz.prog 5 #[.int .i64 kd, .agg r.cs, .int .i64 ot, .string s] w fun e w' => e = .returned (.bool true) ∧ Below w.heap.size w w' := by
  obtain ⟨st, qu, ch, vp, n, vc, no, pp, m, pc, wr, da⟩ := r
  simp only at hvm hpm hm hLV hLP
  obtain ⟨nd, hnd⟩ : ∃ q, n + 2 = q := ⟨_, rfl⟩
  obtain ⟨ne, hne⟩ : ∃ q, n + 1 = q := ⟨_, rfl⟩
  obtain ⟨md, hmd⟩ : ∃ q, m + 2 = q := ⟨_, rfl⟩
  obtain ⟨me, hme⟩ : ∃ q, m + 1 = q := ⟨_, rfl⟩
  have HD := hide (And.intro hnd (And.intro hne (And.intro hmd (And.intro hme hm))))
  clear hnd hne hmd hme hm
  obtain ⟨g, hg⟩ : ∃ g, w.heap.size = g := ⟨_, rfl⟩
  rw [hg] at hLV hLP ⊢
  have HEW := hide (fun W (q : Below g w W) => hE.below q (by rw [← hg]; exact hE.lt))
  obtain ⟨x0, hx0⟩ : ∃ Z, w.alloc (.cells (⟨st, qu, ch, vp, n, vc, no, pp, m, pc, wr, da⟩ : Rep).cs 34) = Z := ⟨_, rfl⟩
  have B0 : Blk x0 g (⟨st, qu, ch, vp, n, vc, no, pp, m, pc, wr, da⟩ : Rep).cs 34 := by rw [← hx0, ← hg]; exact Blk.new w _ _
  have hb0 : Below g w x0 := by rw [← hx0, ← hg]; exact (Below.refl _ w).alloc (Nat.le_refl _) _
  have HX0 := hide (And.intro B0 hb0)
  have HK := hide (known12_any x0)
  have HLL := hide (And.intro hLV hLP)
  have HVM := hide (And.intro hvm hpm)
  clear B0 hb0 hLV hLP hE hvm hpm
  go_enter Tryz.func5, Tryz.ntmps5
  go_wp2_with fail
  (try rw [hx0])
  clear hx0
  refine (unhide HK).mono ?_
  rintro e x1 ⟨rfl, hx1⟩
  have H1 := hide (show Blk x1 g (⟨st, qu, ch, vp, n, vc, no, pp, m, pc, wr, da⟩ : Rep).cs 34 ∧ Below g w x1 ∧ g < x1.heap.size from ⟨(unhide HX0).1.below hx1 (unhide HX0).1.lt, (unhide HX0).2.trans (hx1.mono (Nat.le_of_lt (unhide HX0).1.lt)), Nat.lt_of_lt_of_le (unhide HX0).1.lt hx1.size⟩)
  clear hx1 HX0 HK
  have c3 : x1.cell? ⟨g, 3, none⟩ = some (.slice vp n vc) := (unhide H1).1.cell 3
  have w2 : IntKind.i64.wrap ((n : Int) + 2) = (nd : Int) := by have hD := unhide HD; rw [wrapI_eq _ (by omega) (by omega)]; omega
  have hmk := run_make_i12 nd (by have hD := unhide HD; omega)
  obtain ⟨Zs, hZs⟩ : ∃ Z, ((List.replicate nd (0 : Int)).map (Value.int .i64)) = Z := ⟨_, rfl⟩
  rw [hZs] at hmk
  obtain ⟨gv, hgv⟩ : ∃ q, x1.heap.size = q := ⟨_, rfl⟩
  obtain ⟨y1, hy1⟩ : ∃ Z, x1.alloc (.cells Zs.toArray 3) = Z := ⟨_, rfl⟩
  have N1 : Blk y1 gv Zs.toArray 3 := by rw [← hy1, ← hgv]; exact Blk.new x1 _ _
  have hb1 : Below gv x1 y1 := by rw [← hy1, ← hgv]; exact (Below.refl _ x1).alloc (Nat.le_refl _) _
  have c3' : y1.cell? ⟨g, 3, none⟩ = some (.slice vp n vc) := ((unhide H1).1.below hb1 (by rw [← hgv]; exact (unhide H1).2.2)).cell 3
  obtain ⟨CS, hCS⟩ : ∃ Z, V.map (Value.int .i64) = Z := ⟨_, rfl⟩
  have HZS := hide (show splice Zs 0 CS = mkR V 0 0 from by
    have e : nd = V.length + 2 := by have hD := unhide HD; rw [(unhide HVM).1]; omega
    rw [← hZs, ← hCS, e]
    exact spl_mk V)
  have HCL := hide (show CS.length = n from by rw [← hCS, List.length_map]; exact (unhide HVM).1)
  have HZL := hide (show Zs.length = nd from by rw [← hZs, List.length_map, List.length_replicate])
  have HC1 := hide (show ∀ v ∈ CS, v.oneCell' = true from by rw [← hCS]; simp [Value.oneCell'])
  have HSR := hide (show 0 < CS.length → ∃ ad, vp = some ad ∧ ∀ j v, CS[j]? = some v → y1.cell? (ad.add j) = some v from fun h0 => by
    have hl := (((unhide HLL).1).below (unhide H1).2.1).below (hb1.mono (show g ≤ gv by rw [← hgv]; exact Nat.le_of_lt (unhide H1).2.2))
    have hcl := unhide HCL
    have hvl := (unhide HVM).1
    obtain ⟨gl, ol, e, _, _⟩ := hl 0 (by omega)
    refine ⟨_, e, fun j v hj => ?_⟩
    have hjl : j < CS.length := (List.getElem?_eq_some_iff.1 hj).1
    obtain ⟨gl', ol', e', _, hc⟩ := hl j (by omega)
    rw [e] at e'
    cases e'
    rw [Addr.add_mid, hc]
    rw [← hCS, List.getElem?_map, List.getElem?_eq_getElem (by omega)] at hj
    rw [List.getD_eq_getElem?_getD, List.getElem?_eq_getElem (by omega)]
    simpa using hj)
  have HN1 := hide (And.intro N1 hb1)
  clear N1 hb1 hZs hCS
  go_wp2_with (first | (refine wpList_copy_splice rfl (.tmp 36) (.tmp 38) 22 22 rfl 3 Tryz.underlying22 (by kernel_rfl) (some ⟨gv, 0, none⟩) vp nd nd n vc rfl rfl gv 0 Zs 3 (unhide HN1).1 CS (by have hD := unhide HD; rw [unhide HCL]; show n = min n nd; omega) (fun h0 => ⟨rfl, unhide HSR h0⟩) (by have hD := unhide HD; rw [unhide HCL, unhide HZL]; omega) (unhide HC1) gv x1 (unhide HN1).2 (Nat.le_refl _) ?_))
  intro y2 HG2 hb2
  have N2 : Blk y2 gv (mkR V 0 0).toArray 3 := by rw [← unhide HZS]; exact HG2.out
  have hlt2 : gv < y2.heap.size := N2.lt
  have hgc : g < gv := by rw [← hgv]; exact (unhide H1).2.2
  have Hg2 := (unhide H1).1.below hb2 hgc
  have c3 : y2.cell? ⟨g, 3, none⟩ = some (.slice vp n vc) := Hg2.cell 3
  have f1 : y2.frozen? ⟨gv, n, none⟩ = false := N2.frozen n
  have f2 : y2.frozen? ⟨gv, ne, none⟩ = false := N2.frozen ne
  have k1 : y2.cell? ⟨gv, n, none⟩ = some (.int .i64 0) := by rw [N2.cell, mkR_at, if_neg (by rw [(unhide HVM).1]; omega), if_pos (unhide HVM).1.symm]
  have k2 : y2.cell? ⟨gv, ne, none⟩ = some (.int .i64 0) := by have hD := unhide HD; rw [N2.cell, mkR_at, if_neg (by rw [(unhide HVM).1]; omega), if_neg (by rw [(unhide HVM).1]; omega), if_pos (by rw [(unhide HVM).1]; omega)]
  have hne : ¬ gv = g := by omega
  have w1 : IntKind.i64.wrap ((n : Int) + 1) = (ne : Int) := by have hD := unhide HD; rw [wrapI_eq _ (by omega) (by omega)]; omega
  have i1 : (n : Int) < (nd : Int) := by have hD := unhide HD; omega
  have i2 : (ne : Int) < (nd : Int) := by have hD := unhide HD; omega
  have i3 : ¬ n = ne := by have hD := unhide HD; omega
  obtain ⟨y3, hy3⟩ : ∃ Z, (y2.setCell ⟨gv, n, none⟩ (.int .i64 71)).setCell ⟨gv, ne, none⟩ (.int .i64 72) = Z := ⟨_, rfl⟩
  have Hy3 := hide (show Blk y3 g (⟨st, qu, ch, vp, n, vc, no, pp, m, pc, wr, da⟩ : Rep).cs 34 ∧ Below g w y3 ∧ g < y3.heap.size ∧ Blk y3 gv (mkR V 71 72).toArray 3 ∧ gv < y3.heap.size from by
    rw [← hy3]
    have hz : ((y2.setCell ⟨gv, n, none⟩ (.int .i64 71)).setCell ⟨gv, ne, none⟩ (.int .i64 72)).heap.size = y2.heap.size := by simp
    have q2 := (N2.set n (.int .i64 71)).set ne (.int .i64 72)
    rw [mkR_1 V 0 0 71 n (unhide HVM).1.symm, mkR_2 V 71 0 72 ne (by have hD := unhide HD; rw [(unhide HVM).1]; omega)] at q2
    refine ⟨(Hg2.other _ _ (by exact hne)).other _ _ (by exact hne), (((unhide H1).2.1.trans (hb2.mono (Nat.le_of_lt hgc))).setCell (Nat.le_of_lt hgc) _).setCell (Nat.le_of_lt hgc) _, by rw [hz]; omega, q2, by rw [hz]; exact hlt2⟩)
  clear HG2 hb2 N2 hlt2 Hg2 HN1 HSR HC1 HZL HCL HZS hmk c3' hgv hy1
  go_upto_region 6 with fail
  (try rw [hy3])
  clear hy3 c3 f1 f2 k1 k2 w1 w2 i1 i2 i3 H1
  have c3 : y3.cell? ⟨g, 5, none⟩ = some (.slice pp m pc) := (unhide Hy3).1.cell 5
  have w2 : IntKind.i64.wrap ((m : Int) + 2) = (md : Int) := by have hD := unhide HD; rw [wrapI_eq _ (by omega) (by omega)]; omega
  have hmk := run_make_i12 md (by have hD := unhide HD; omega)
  obtain ⟨Zs, hZs⟩ : ∃ Z, ((List.replicate md (0 : Int)).map (Value.int .i64)) = Z := ⟨_, rfl⟩
  rw [hZs] at hmk
  obtain ⟨gp, hgp⟩ : ∃ q, y3.heap.size = q := ⟨_, rfl⟩
  obtain ⟨y4, hy4⟩ : ∃ Z, y3.alloc (.cells Zs.toArray 3) = Z := ⟨_, rfl⟩
  have N1 : Blk y4 gp Zs.toArray 3 := by rw [← hy4, ← hgp]; exact Blk.new y3 _ _
  have hb1 : Below gp y3 y4 := by rw [← hy4, ← hgp]; exact (Below.refl _ y3).alloc (Nat.le_refl _) _
  have c3' : y4.cell? ⟨g, 5, none⟩ = some (.slice pp m pc) := ((unhide Hy3).1.below hb1 (by rw [← hgp]; exact (unhide Hy3).2.2.1)).cell 5
  obtain ⟨CS, hCS⟩ : ∃ Z, Pl.map (Value.int .i64) = Z := ⟨_, rfl⟩
  have HZS := hide (show splice Zs 0 CS = mkR Pl 0 0 from by
    have e : md = Pl.length + 2 := by have hD := unhide HD; rw [(unhide HVM).2]; omega
    rw [← hZs, ← hCS, e]
    exact spl_mk Pl)
  have HCL := hide (show CS.length = m from by rw [← hCS, List.length_map]; exact (unhide HVM).2)
  have HZL := hide (show Zs.length = md from by rw [← hZs, List.length_map, List.length_replicate])
  have HC1 := hide (show ∀ v ∈ CS, v.oneCell' = true from by rw [← hCS]; simp [Value.oneCell'])
  have HSR := hide (show 0 < CS.length → ∃ ad, pp = some ad ∧ ∀ j v, CS[j]? = some v → y4.cell? (ad.add j) = some v from fun h0 => by
    have hl := (((unhide HLL).2).below (unhide Hy3).2.1).below (hb1.mono (show g ≤ gp by rw [← hgp]; exact Nat.le_of_lt (unhide Hy3).2.2.1))
    have hcl := unhide HCL
    have hvl := (unhide HVM).2
    obtain ⟨gl, ol, e, _, _⟩ := hl 0 (by omega)
    refine ⟨_, e, fun j v hj => ?_⟩
    have hjl : j < CS.length := (List.getElem?_eq_some_iff.1 hj).1
    obtain ⟨gl', ol', e', _, hc⟩ := hl j (by omega)
    rw [e] at e'
    cases e'
    rw [Addr.add_mid, hc]
    rw [← hCS, List.getElem?_map, List.getElem?_eq_getElem (by omega)] at hj
    rw [List.getD_eq_getElem?_getD, List.getElem?_eq_getElem (by omega)]
    simpa using hj)
  have HN1 := hide (And.intro N1 hb1)
  clear N1 hb1 hZs hCS
  go_wp2_with (first | (refine wpList_copy_splice rfl (.tmp 56) (.tmp 58) 22 22 rfl 3 Tryz.underlying22 (by kernel_rfl) (some ⟨gp, 0, none⟩) pp md md m pc rfl rfl gp 0 Zs 3 (unhide HN1).1 CS (by have hD := unhide HD; rw [unhide HCL]; show m = min m md; omega) (fun h0 => ⟨rfl, unhide HSR h0⟩) (by have hD := unhide HD; rw [unhide HCL, unhide HZL]; omega) (unhide HC1) gp y3 (unhide HN1).2 (Nat.le_refl _) ?_))
  intro y5 HG2 hb2
  have N2 : Blk y5 gp (mkR Pl 0 0).toArray 3 := by rw [← unhide HZS]; exact HG2.out
  have hlt2 : gp < y5.heap.size := N2.lt
  have hgc : g < gp := by rw [← hgp]; exact (unhide Hy3).2.2.1
  have Hg2 := (unhide Hy3).1.below hb2 hgc
  have c3 : y5.cell? ⟨g, 5, none⟩ = some (.slice pp m pc) := Hg2.cell 5
  have f1 : y5.frozen? ⟨gp, m, none⟩ = false := N2.frozen m
  have f2 : y5.frozen? ⟨gp, me, none⟩ = false := N2.frozen me
  have k1 : y5.cell? ⟨gp, m, none⟩ = some (.int .i64 0) := by rw [N2.cell, mkR_at, if_neg (by rw [(unhide HVM).2]; omega), if_pos (unhide HVM).2.symm]
  have k2 : y5.cell? ⟨gp, me, none⟩ = some (.int .i64 0) := by have hD := unhide HD; rw [N2.cell, mkR_at, if_neg (by rw [(unhide HVM).2]; omega), if_neg (by rw [(unhide HVM).2]; omega), if_pos (by rw [(unhide HVM).2]; omega)]
  have hne : ¬ gp = g := by omega
  have w1 : IntKind.i64.wrap ((m : Int) + 1) = (me : Int) := by have hD := unhide HD; rw [wrapI_eq _ (by omega) (by omega)]; omega
  have i1 : (m : Int) < (md : Int) := by have hD := unhide HD; omega
  have i2 : (me : Int) < (md : Int) := by have hD := unhide HD; omega
  have i3 : ¬ m = me := by have hD := unhide HD; omega
  obtain ⟨y6, hy6⟩ : ∃ Z, (y5.setCell ⟨gp, m, none⟩ (.int .i64 73)).setCell ⟨gp, me, none⟩ (.int .i64 74) = Z := ⟨_, rfl⟩
  have Hy6 := hide (show Blk y6 g (⟨st, qu, ch, vp, n, vc, no, pp, m, pc, wr, da⟩ : Rep).cs 34 ∧ Below g w y6 ∧ g < y6.heap.size ∧ Blk y6 gp (mkR Pl 73 74).toArray 3 ∧ gp < y6.heap.size ∧ Blk y6 gv (mkR V 71 72).toArray 3 ∧ gv < gp from by
    rw [← hy6]
    have hz : ((y5.setCell ⟨gp, m, none⟩ (.int .i64 73)).setCell ⟨gp, me, none⟩ (.int .i64 74)).heap.size = y5.heap.size := by simp
    have q2 := (N2.set m (.int .i64 73)).set me (.int .i64 74)
    rw [mkR_1 Pl 0 0 73 m (unhide HVM).2.symm, mkR_2 Pl 73 0 74 me (by have hD := unhide HD; rw [(unhide HVM).2]; omega)] at q2
    refine ⟨(Hg2.other _ _ (by exact hne)).other _ _ (by exact hne), (((unhide Hy3).2.1.trans (hb2.mono (Nat.le_of_lt hgc))).setCell (Nat.le_of_lt hgc) _).setCell (Nat.le_of_lt hgc) _, by rw [hz]; omega, q2, by rw [hz]; exact hlt2, ?_, ?_⟩
    · have q3 := (unhide Hy3).2.2.2.1.below hb2 (by rw [← hgp]; exact (unhide Hy3).2.2.2.2)
      have hn2 : ¬ gp = gv := by have := (unhide Hy3).2.2.2.2; omega
      exact (q3.other _ _ (by exact hn2)).other _ _ (by exact hn2)
    · rw [← hgp]; exact (unhide Hy3).2.2.2.2)
  clear HG2 hb2 N2 hlt2 Hg2 HN1 HSR HC1 HZL HCL HZS hmk c3' hgp hy4
  go_upto_region 10 with fail
  (try rw [hy6])
  clear hy6 c3 f1 f2 k1 k2 w1 w2 i1 i2 i3 Hy3
  have Hy6s := hide (show Below g w y6 ∧ g ≤ y6.heap.size ∧ Blk y6 g (⟨st, qu, ch, vp, n, vc, no, pp, m, pc, wr, da⟩ : Rep).cs 34 ∧ Blk y6 gv (mkR V 71 72).toArray 3 ∧ Blk y6 gp (mkR Pl 73 74).toArray 3 from ⟨(unhide Hy6).2.1, Nat.le_of_lt (unhide Hy6).2.2.1, (unhide Hy6).1, (unhide Hy6).2.2.2.2.2.1, (unhide Hy6).2.2.2.1⟩)
  have hgvp : gv < gp := (unhide Hy6).2.2.2.2.2.2
  obtain ⟨N1, N2, N3, N4⟩ := boxv y6 34 #[.int .i64 0, .int .i64 0, .int .i64 0, .slice none 0 0, .int .i64 0, .slice none 0 0, .string ⟨#[]⟩, .string ⟨#[]⟩] ((⟨st, qu, ch, vp, n, vc, no, pp, m, pc, wr, da⟩ : Rep).cs) g w (unhide Hy6s).1 (unhide Hy6s).2.1
  obtain ⟨h0, hh0⟩ : ∃ h, y6.heap.size = h := ⟨_, rfl⟩
  obtain ⟨z0, hz0⟩ : ∃ Z, y6.alloc (.cells #[.int .i64 0, .int .i64 0, .int .i64 0, .slice none 0 0, .int .i64 0, .slice none 0 0, .string ⟨#[]⟩, .string ⟨#[]⟩] 34) = Z := ⟨_, rfl⟩
  rw [hz0, hh0] at N1 N2 N4
  rw [hz0] at N3
  have N3' : Below y6.heap.size y6 (z0.setRow h0 ((⟨st, qu, ch, vp, n, vc, no, pp, m, pc, wr, da⟩ : Rep).cs)) := by rw [← hh0]; exact N3
  have HZ0 := hide N1
  obtain ⟨q0, hq0⟩ : ∃ Z, z0.setRow h0 ((⟨st, qu, ch, vp, n, vc, no, pp, m, pc, wr, da⟩ : Rep).cs) = Z := ⟨_, rfl⟩
  rw [hq0] at N2 N3' N4
  have Hq0 := hide (show Below g w q0 ∧ g ≤ q0.heap.size ∧ Blk q0 g (⟨st, qu, ch, vp, n, vc, no, pp, m, pc, wr, da⟩ : Rep).cs 34 ∧ Blk q0 gv (mkR V 71 72).toArray 3 ∧ Blk q0 gp (mkR Pl 73 74).toArray 3 ∧ Blk q0 h0 ((⟨st, qu, ch, vp, n, vc, no, pp, m, pc, wr, da⟩ : Rep).cs) 34 from ⟨(unhide Hy6s).1.trans (N3'.mono (unhide Hy6s).2.1), Nat.le_trans (unhide Hy6s).2.1 N3'.size, (unhide Hy6s).2.2.1.below N3' (unhide Hy6s).2.2.1.lt, (unhide Hy6s).2.2.2.1.below N3' (unhide Hy6s).2.2.2.1.lt, (unhide Hy6s).2.2.2.2.below N3' (unhide Hy6s).2.2.2.2.lt, N2⟩)
  have HR5 := hide (show q0.rangeAt g 0 ((⟨st, qu, ch, vp, n, vc, no, pp, m, pc, wr, da⟩ : Rep).cl) from blk_range ((unhide Hq0).2.2.1))
  have hRt := hide (show y6.rangeAt g 0 (⟨st, qu, ch, vp, n, vc, no, pp, m, pc, wr, da⟩ : Rep).cl from blk_range (unhide Hy6s).2.2.1)
  have HO0 := hide (Rep.one (⟨st, qu, ch, vp, n, vc, no, pp, m, pc, wr, da⟩ : Rep))
  have hg0 : g < h0 := by rw [← hh0]; exact (unhide Hy6s).2.2.1.lt
  have hgv0 : gv < h0 := by rw [← hh0]; exact (unhide Hy6s).2.2.2.1.lt
  have hgp0 : gp < h0 := by rw [← hh0]; exact (unhide Hy6s).2.2.2.2.lt
  have p3 : q0.cell? ⟨h0, 3, none⟩ = some (.slice vp n vc) := N2.cell 3
  have p5 : q0.cell? ⟨h0, 5, none⟩ = some (.slice pp m pc) := N2.cell 5
  have r3 : q0.cell? ⟨g, 3, none⟩ = some (.slice vp n vc) := (unhide Hq0).2.2.1.cell 3
  have r5 : q0.cell? ⟨g, 5, none⟩ = some (.slice pp m pc) := (unhide Hq0).2.2.1.cell 5
  have t3 : q0.frozen? ⟨h0, 3, none⟩ = false := N2.frozen 3
  have t5 : q0.frozen? ⟨h0, 5, none⟩ = false := N2.frozen 5
  have hne0 : ¬ h0 = g := by omega
  have hne1 : ¬ h0 = gv := by omega
  have hne2 : ¬ h0 = gp := by omega
  obtain ⟨u0, hu0⟩ : ∃ Z, (q0.setCell ⟨h0, 3, none⟩ (.slice (some ⟨gv, 0, none⟩) n nd)).setCell ⟨h0, 5, none⟩ (.slice (some ⟨gp, 0, none⟩) m md) = Z := ⟨_, rfl⟩
  have Hu0 := hide (show Below g w u0 ∧ g ≤ u0.heap.size ∧ Blk u0 g (⟨st, qu, ch, vp, n, vc, no, pp, m, pc, wr, da⟩ : Rep).cs 34 ∧ Blk u0 gv (mkR V 71 72).toArray 3 ∧ Blk u0 gp (mkR Pl 73 74).toArray 3 ∧ Blk u0 h0 (⟨st, qu, ch, some ⟨gv, 0, none⟩, n, nd, no, some ⟨gp, 0, none⟩, m, md, wr, da⟩ : Rep).cs 34 from by
    rw [← hu0]
    obtain ⟨a1, a2, a3, a4, a5, a6⟩ := unhide Hq0
    exact ⟨(a1.setCell (by show g ≤ h0; omega) _).setCell (by show g ≤ h0; omega) _, by simpa using a2, (a3.other _ _ (by exact hne0)).other _ _ (by exact hne0), (a4.other _ _ (by exact hne1)).other _ _ (by exact hne1), (a5.other _ _ (by exact hne2)).other _ _ (by exact hne2), (a6.set 3 _).set 5 _⟩)
  obtain ⟨lr, hlr⟩ : ∃ q, (⟨st, qu, ch, some ⟨gv, 0, none⟩, n, nd, no, some ⟨gp, 0, none⟩, m, md, wr, da⟩ : Rep) = q := ⟨_, rfl⟩
  have HSM := hide (show SameR lr (⟨st, qu, ch, vp, n, vc, no, pp, m, pc, wr, da⟩ : Rep) from by rw [← hlr]; exact ⟨rfl, rfl, rfl, rfl, rfl, rfl, rfl, rfl⟩)
  have HLQ := hide (show lr.vp = some ⟨gv, 0, none⟩ ∧ lr.pp = some ⟨gp, 0, none⟩ ∧ lr.vm = n ∧ lr.pm = m from by rw [← hlr]; exact ⟨rfl, rfl, rfl, rfl⟩)
  have HLC := hide (show ∀ W, Blk W h0 lr.cs 34 → W.cell? ⟨h0, 3, none⟩ = some (.slice (some ⟨gv, 0, none⟩) n nd) ∧ W.cell? ⟨h0, 5, none⟩ = some (.slice (some ⟨gp, 0, none⟩) m md) from fun W q => by rw [← hlr] at q; exact ⟨q.cell 3, q.cell 5⟩)
  rw [hlr] at Hu0
  obtain ⟨rr, hrr⟩ : ∃ q, (⟨st, qu, ch, vp, n, vc, no, pp, m, pc, wr, da⟩ : Rep) = q := ⟨_, rfl⟩
  have HRC := hide (show ∀ W, Blk W g rr.cs 34 → W.cell? ⟨g, 3, none⟩ = some (.slice vp n vc) ∧ W.cell? ⟨g, 5, none⟩ = some (.slice pp m pc) from fun W q => by rw [← hrr] at q; exact ⟨q.cell 3, q.cell 5⟩)
  have HRV := hide (show V.length = rr.vm ∧ Pl.length = rr.pm ∧ rr.vp = vp ∧ rr.pp = pp ∧ rr.vm = n ∧ rr.pm = m from by rw [← hrr]; exact ⟨(unhide HVM).1, (unhide HVM).2, rfl, rfl, rfl, rfl⟩)
  have HES := hide (enc_same kd (unhide HSM) V Pl)
  have HRL := hide (show Tryz.prog = Tryz.prog from rfl)
  have HSTR := hide (show (⟨st, qu, ch, vp, n, vc, no, pp, m, pc, wr, da⟩ : Rep).cs = rr.cs ∧ (⟨st, qu, ch, vp, n, vc, no, pp, m, pc, wr, da⟩ : Rep).cl = rr.cl from by rw [hrr]; exact ⟨rfl, rfl⟩)
  rw [hrr] at Hu0 HES
  have HRG := hide (show u0.rangeAt h0 0 lr.cl from blk_range (unhide Hu0).2.2.2.2.2)
  have HEN := hide (encP_any kd lr V Pl (by rw [(unhide HLQ).2.2.1]; exact (unhide HVM).1) (by rw [(unhide HLQ).2.2.2]; exact (unhide HVM).2) (by rw [(unhide HLQ).2.2.1, (unhide HLQ).2.2.2]; have hD := unhide HD; omega) u0 (by rw [(unhide HLQ).1]; exact mkR_lst ((unhide Hu0).2.2.2.1)) (by rw [(unhide HLQ).2.1]; exact mkR_lst ((unhide Hu0).2.2.2.2.1)))
  rw [(unhide HES).1, (unhide HES).2] at HEN
  have HLW := hide (show ∀ W, Below g w W → Lst W W.heap.size vp V ∧ Lst W W.heap.size pp Pl from fun W q => ⟨((unhide HLL).1.below q).mono (by rw [← hg]; exact q.size), ((unhide HLL).2.below q).mono (by rw [← hg]; exact q.size)⟩)
  have HER := hide (fun W (q : Below g w W) => encR_any kd rr V Pl (unhide HRV).1 (unhide HRV).2.1 (by rw [(unhide HRV).2.2.2.2.1, (unhide HRV).2.2.2.2.2]; have hD := unhide HD; omega) W (by rw [(unhide HRV).2.2.1]; exact (unhide HLW W q).1) (by rw [(unhide HRV).2.2.2.1]; exact (unhide HLW W q).2))
  have hsS := encS_size kd rr V Pl
  generalize encS kd rr V Pl = S at *
  generalize encE kd rr V Pl = EE at *
  have HDP := hide (fun W (q : Below g w W) => decP_any kd S (by omega) W (unhide HEW W q))
  have HDR := hide (fun W => decR_any kd S (by omega) W)
  have HDP2 := hide (fun W (q : Below g w W) => decP_any ot s hs W (unhide HEW W q))
  have HDR2 := hide (fun W => decR_any ot s hs W)
  have HSV := hide (fun W (q : Below g w W) (q1 : Lst W W.heap.size (some ⟨gv, 0, none⟩) V) => same12_eq W (some ⟨gv, 0, none⟩) vp nd vc V n n (unhide HVM).1.symm (unhide HVM).1.symm (by have hD := unhide HD; omega) q1 (unhide HLW W q).1)
  have HSP := hide (fun W (q : Below g w W) (q1 : Lst W W.heap.size (some ⟨gp, 0, none⟩) Pl) => same12_eq W (some ⟨gp, 0, none⟩) pp md pc Pl m m (unhide HVM).2.symm (unhide HVM).2.symm (by have hD := unhide HD; omega) q1 (unhide HLW W q).2)
  have j1 : (n : Int) ≤ (nd : Int) := by have hD := unhide HD; omega
  have j2 : (m : Int) ≤ (md : Int) := by have hD := unhide HD; omega
  have j3 : n ≤ nd := by have hD := unhide HD; omega
  have j4 : m ≤ md := by have hD := unhide HD; omega
  clear N1 N2 N3 N3' N4 hsS HRL hs hrr hlr HSTR
  go_upto_region 13 with (first | refine wpList_load_mid rfl 34 (.tmp 5) rfl g 0 rfl (⟨st, qu, ch, vp, n, vc, no, pp, m, pc, wr, da⟩ : Rep).cl _ (unhide hRt) Tryz.underlying34 rfl size_rep ?_ | refine wpList_store_row rfl 34 (.tmp 12) (.tmp 71) rfl h0 (⟨st, qu, ch, vp, n, vc, no, pp, m, pc, wr, da⟩ : Rep).cs rfl rfl 34 #[.int .i64 0, .int .i64 0, .int .i64 0, .slice none 0 0, .int .i64 0, .slice none 0 0, .string ⟨#[]⟩, .string ⟨#[]⟩] (unhide HZ0) size_rep rfl (unhide HO0) ?_)
  (try rw [hu0])
  clear hu0 p3 p5 r3 r5 t3 t5 hRt HO0 HZ0 hz0 hq0 Hq0 Hy6s Hy6 HR5
  go_wp2_with (first | refine wpList_load_mid rfl 34 (.tmp 12) rfl h0 0 rfl (lr.cl) _ (unhide HRG) Tryz.underlying34 rfl size_rep ?_)
  refine (unhide HEN).mono ?_
  rintro e v1 ⟨rfl, hv1⟩
  have Hv1 := hide (show Below g w v1 ∧ g ≤ v1.heap.size ∧ Blk v1 g rr.cs 34 ∧ Blk v1 gv (mkR V 71 72).toArray 3 ∧ Blk v1 gp (mkR Pl 73 74).toArray 3 ∧ Blk v1 h0 lr.cs 34 from ⟨(unhide Hu0).1.trans (hv1.mono (unhide Hu0).2.1), Nat.le_trans (unhide Hu0).2.1 hv1.size, (unhide Hu0).2.2.1.below hv1 (unhide Hu0).2.2.1.lt, (unhide Hu0).2.2.2.1.below hv1 (unhide Hu0).2.2.2.1.lt, (unhide Hu0).2.2.2.2.1.below hv1 (unhide Hu0).2.2.2.2.1.lt, (unhide Hu0).2.2.2.2.2.below hv1 (unhide Hu0).2.2.2.2.2.lt⟩)
  have HRH := hide (show v1.rangeAt g 0 (rr.cl) from blk_range ((unhide Hv1).2.2.1))
  have HE1 := hide (unhide HER v1 ((unhide Hv1).1))
  clear hv1 Hu0 HEN HRG HER
  go_wp2_with (first | refine wpList_load_mid rfl 34 (.tmp 5) rfl g 0 rfl (rr.cl) _ (unhide HRH) Tryz.underlying34 rfl size_rep ?_)
  refine (unhide HE1).mono ?_
  rintro e v2 ⟨rfl, hv2⟩
  have Hv2 := hide (show Below g w v2 ∧ g ≤ v2.heap.size ∧ Blk v2 g rr.cs 34 ∧ Blk v2 gv (mkR V 71 72).toArray 3 ∧ Blk v2 gp (mkR Pl 73 74).toArray 3 ∧ Blk v2 h0 lr.cs 34 from ⟨(unhide Hv1).1.trans (hv2.mono (unhide Hv1).2.1), Nat.le_trans (unhide Hv1).2.1 hv2.size, (unhide Hv1).2.2.1.below hv2 (unhide Hv1).2.2.1.lt, (unhide Hv1).2.2.2.1.below hv2 (unhide Hv1).2.2.2.1.lt, (unhide Hv1).2.2.2.2.1.below hv2 (unhide Hv1).2.2.2.2.1.lt, (unhide Hv1).2.2.2.2.2.below hv2 (unhide Hv1).2.2.2.2.2.lt⟩)
  have a3 := (unhide HLC v2 ((unhide Hv2).2.2.2.2.2)).1
  have b3 := (unhide HRC v2 ((unhide Hv2).2.2.1)).1
  have HS1 := hide (unhide HSV v2 ((unhide Hv2).1) (mkR_lst ((unhide Hv2).2.2.2.1)))
  clear hv2 Hv1 HE1 HRH
  go_wp2_with fail
  refine (unhide HS1).mono ?_
  rintro e v3 ⟨rfl, hv3⟩
  have Hv3 := hide (show Below g w v3 ∧ g ≤ v3.heap.size ∧ Blk v3 g rr.cs 34 ∧ Blk v3 gv (mkR V 71 72).toArray 3 ∧ Blk v3 gp (mkR Pl 73 74).toArray 3 ∧ Blk v3 h0 lr.cs 34 from ⟨(unhide Hv2).1.trans (hv3.mono (unhide Hv2).2.1), Nat.le_trans (unhide Hv2).2.1 hv3.size, (unhide Hv2).2.2.1.below hv3 (unhide Hv2).2.2.1.lt, (unhide Hv2).2.2.2.1.below hv3 (unhide Hv2).2.2.2.1.lt, (unhide Hv2).2.2.2.2.1.below hv3 (unhide Hv2).2.2.2.2.1.lt, (unhide Hv2).2.2.2.2.2.below hv3 (unhide Hv2).2.2.2.2.2.lt⟩)
  have a5 := (unhide HLC v3 ((unhide Hv3).2.2.2.2.2)).2
  have b5 := (unhide HRC v3 ((unhide Hv3).2.2.1)).2
  have HS2 := hide (unhide HSP v3 ((unhide Hv3).1) (mkR_lst ((unhide Hv3).2.2.2.2.1)))
  clear hv3 Hv2 HS1 a3 b3
  go_wp2_with fail
  refine (unhide HS2).mono ?_
  rintro e v4 ⟨rfl, hv4⟩
  have Hv4 := hide (show Below g w v4 ∧ g ≤ v4.heap.size ∧ Blk v4 g rr.cs 34 ∧ Blk v4 gv (mkR V 71 72).toArray 3 ∧ Blk v4 gp (mkR Pl 73 74).toArray 3 ∧ Blk v4 h0 lr.cs 34 from ⟨(unhide Hv3).1.trans (hv4.mono (unhide Hv3).2.1), Nat.le_trans (unhide Hv3).2.1 hv4.size, (unhide Hv3).2.2.1.below hv4 (unhide Hv3).2.2.1.lt, (unhide Hv3).2.2.2.1.below hv4 (unhide Hv3).2.2.2.1.lt, (unhide Hv3).2.2.2.2.1.below hv4 (unhide Hv3).2.2.2.2.1.lt, (unhide Hv3).2.2.2.2.2.below hv4 (unhide Hv3).2.2.2.2.2.lt⟩)
  have b3 := (unhide HRC v4 ((unhide Hv4).2.2.1)).1
  have b5 := (unhide HRC v4 ((unhide Hv4).2.2.1)).2
  have hD := unhide HD
  have hV := unhide HVM
  have k1 : v4.cell? ⟨gv, n, none⟩ = some (.int .i64 71) := by rw [((unhide Hv4).2.2.2.1).cell, mkR_at, if_neg (by omega), if_pos (by omega)]
  have k2 : v4.cell? ⟨gv, ne, none⟩ = some (.int .i64 72) := by rw [((unhide Hv4).2.2.2.1).cell, mkR_at, if_neg (by omega), if_neg (by omega), if_pos (by omega)]
  have k3 : v4.cell? ⟨gp, m, none⟩ = some (.int .i64 73) := by rw [((unhide Hv4).2.2.2.2.1).cell, mkR_at, if_neg (by omega), if_pos (by omega)]
  have k4 : v4.cell? ⟨gp, me, none⟩ = some (.int .i64 74) := by rw [((unhide Hv4).2.2.2.2.1).cell, mkR_at, if_neg (by omega), if_neg (by omega), if_pos (by omega)]
  have w1 : IntKind.i64.wrap ((n : Int) + 1) = (ne : Int) := by rw [wrapI_eq _ (by omega) (by omega)]; omega
  have w2 : IntKind.i64.wrap ((m : Int) + 1) = (me : Int) := by rw [wrapI_eq _ (by omega) (by omega)]; omega
  have i1 : (n : Int) < (nd : Int) := by omega
  have i2 : (ne : Int) < (nd : Int) := by omega
  have i3 : (m : Int) < (md : Int) := by omega
  have i4 : (me : Int) < (md : Int) := by omega
  have HD1 := hide (unhide HDP v4 ((unhide Hv4).1))
  have HS8 := hide (outO_sm kd S)
  have HS9 := hide (outO_sm ot s)
  clear hD hV hv4 Hv3 HS2 a5
  go_wp2_with fail
  refine (unhide HD1).mono ?_
  rintro e v5 ⟨r1, rfl, hv5, oz1⟩
  clear k1 k2 k3 k4 w1 w2 i1 i2 i3 i4 b3 b5 HD1
  have Hv5 := hide (show Below g w v5 ∧ g ≤ v5.heap.size ∧ Blk v5 g rr.cs 34 ∧ Blk v5 gv (mkR V 71 72).toArray 3 ∧ Blk v5 gp (mkR Pl 73 74).toArray 3 ∧ Blk v5 h0 lr.cs 34 from ⟨(unhide Hv4).1.trans (hv5.mono (unhide Hv4).2.1), Nat.le_trans (unhide Hv4).2.1 hv5.size, (unhide Hv4).2.2.1.below hv5 (unhide Hv4).2.2.1.lt, (unhide Hv4).2.2.2.1.below hv5 (unhide Hv4).2.2.2.1.lt, (unhide Hv4).2.2.2.2.1.below hv5 (unhide Hv4).2.2.2.2.1.lt, (unhide Hv4).2.2.2.2.2.below hv5 (unhide Hv4).2.2.2.2.2.lt⟩)
  have Hw5 := hide (show Below g w v5 ∧ g ≤ v5.heap.size from ⟨(unhide Hv5).1, (unhide Hv5).2.1⟩)
  clear Hv5 Hv4
  obtain ⟨Na, hN1⟩ : ∃ q, v4.heap.size = q := ⟨_, rfl⟩
  rw [hN1] at oz1 hv5
  obtain ⟨N1, N2, N3, N4⟩ := boxv v5 34 #[.int .i64 0, .int .i64 0, .int .i64 0, .slice none 0 0, .int .i64 0, .slice none 0 0, .string ⟨#[]⟩, .string ⟨#[]⟩] (r1.cs) g w (unhide Hw5).1 (unhide Hw5).2
  obtain ⟨h1, hh1⟩ : ∃ h, v5.heap.size = h := ⟨_, rfl⟩
  obtain ⟨z1, hz1⟩ : ∃ Z, v5.alloc (.cells #[.int .i64 0, .int .i64 0, .int .i64 0, .slice none 0 0, .int .i64 0, .slice none 0 0, .string ⟨#[]⟩, .string ⟨#[]⟩] 34) = Z := ⟨_, rfl⟩
  rw [hz1, hh1] at N1 N2 N4
  rw [hz1] at N3
  have N3' : Below v5.heap.size v5 (z1.setRow h1 (r1.cs)) := by rw [← hh1]; exact N3
  have HZ1 := hide N1
  obtain ⟨q1, hq1⟩ : ∃ Z, z1.setRow h1 (r1.cs) = Z := ⟨_, rfl⟩
  rw [hq1] at N2 N3' N4
  have Hq1 := hide (show Below g w q1 ∧ g ≤ q1.heap.size ∧ Blk q1 h1 (r1.cs) 34 from ⟨(unhide Hw5).1.trans (N3'.mono (unhide Hw5).2), Nat.le_trans (unhide Hw5).2 N3'.size, N2⟩)
  have Hu1 := hide (show Below g w q1 ∧ g ≤ q1.heap.size ∧ Blk q1 h1 (r1.cs) 34 ∧ Oz (outO kd S).2 ((nums S).getD 0 0) Na r1 q1 from ⟨(unhide Hq1).1, (unhide Hq1).2.1, (unhide Hq1).2.2, (show Oz (outO kd S).2 ((nums S).getD 0 0) Na r1 v5 from oz1).below N3' (Nat.le_refl _)⟩)
  have HO1 := hide (Rep.one r1)
  clear N1 N2 N3 N3' N4 oz1 hv5 Hw5 Hq1 hN1
  have HD2 := hide (unhide HDR q1)
  go_wp2_with (first | refine wpList_store_row rfl 34 (.tmp 20) (.tmp 152) rfl h1 (r1.cs) rfl rfl 34 #[.int .i64 0, .int .i64 0, .int .i64 0, .slice none 0 0, .int .i64 0, .slice none 0 0, .string ⟨#[]⟩, .string ⟨#[]⟩] (unhide HZ1) size_rep rfl (unhide HO1) ?_)
  refine (unhide HD2).mono ?_
  rintro e v6 ⟨r2, rfl, hv6, oz2⟩
  obtain ⟨Nb, hNb⟩ : ∃ q, q1.heap.size = q := ⟨_, rfl⟩
  rw [hNb] at oz2
  have Hv6 := hide (show Below g w v6 ∧ g ≤ v6.heap.size ∧ Blk v6 h1 (r1.cs) 34 ∧ Oz (outO kd S).2 ((nums S).getD 0 0) Na r1 v6 from ⟨(unhide Hu1).1.trans (hv6.mono (unhide Hu1).2.1), Nat.le_trans (unhide Hu1).2.1 hv6.size, (unhide Hu1).2.2.1.below hv6 (unhide Hu1).2.2.1.lt, (unhide Hu1).2.2.2.below hv6 (Nat.le_refl _)⟩)
  obtain ⟨N1, N2, N3, N4⟩ := boxv v6 34 #[.int .i64 0, .int .i64 0, .int .i64 0, .slice none 0 0, .int .i64 0, .slice none 0 0, .string ⟨#[]⟩, .string ⟨#[]⟩] (r2.cs) g w (unhide Hv6).1 (unhide Hv6).2.1
  obtain ⟨h2, hh2⟩ : ∃ h, v6.heap.size = h := ⟨_, rfl⟩
  obtain ⟨z2, hz2⟩ : ∃ Z, v6.alloc (.cells #[.int .i64 0, .int .i64 0, .int .i64 0, .slice none 0 0, .int .i64 0, .slice none 0 0, .string ⟨#[]⟩, .string ⟨#[]⟩] 34) = Z := ⟨_, rfl⟩
  rw [hz2, hh2] at N1 N2 N4
  rw [hz2] at N3
  have N3' : Below v6.heap.size v6 (z2.setRow h2 (r2.cs)) := by rw [← hh2]; exact N3
  have HZ2 := hide N1
  obtain ⟨q2, hq2⟩ : ∃ Z, z2.setRow h2 (r2.cs) = Z := ⟨_, rfl⟩
  rw [hq2] at N2 N3' N4
  have Hq2 := hide (show Below g w q2 ∧ g ≤ q2.heap.size ∧ Blk q2 h1 (r1.cs) 34 ∧ Oz (outO kd S).2 ((nums S).getD 0 0) Na r1 q2 ∧ Blk q2 h2 (r2.cs) 34 from ⟨(unhide Hv6).1.trans (N3'.mono (unhide Hv6).2.1), Nat.le_trans (unhide Hv6).2.1 N3'.size, (unhide Hv6).2.2.1.below N3' (unhide Hv6).2.2.1.lt, (unhide Hv6).2.2.2.below N3' (Nat.le_refl _), N2⟩)
  have Hu2 := hide (show Below g w q2 ∧ g ≤ q2.heap.size ∧ Blk q2 h1 (r1.cs) 34 ∧ Oz (outO kd S).2 ((nums S).getD 0 0) Na r1 q2 ∧ Blk q2 h2 (r2.cs) 34 ∧ Oz (outO kd S).2 ((nums S).getD 0 0) Nb r2 q2 from ⟨(unhide Hq2).1, (unhide Hq2).2.1, (unhide Hq2).2.2.1, (unhide Hq2).2.2.2.1, (unhide Hq2).2.2.2.2, (show Oz (outO kd S).2 ((nums S).getD 0 0) Nb r2 v6 from oz2).below N3' (Nat.le_refl _)⟩)
  have HO2 := hide (Rep.one r2)
  clear N1 N2 N3 N3' N4 oz2 hv6 Hq2 Hu1 Hv6 HD2 hNb HZ1 HO1
  have HD3 := hide (unhide HDP2 q2 ((unhide Hu2).1))
  go_wp2_with (first | refine wpList_store_row rfl 34 (.tmp 22) (.tmp 158) rfl h2 (r2.cs) rfl rfl 34 #[.int .i64 0, .int .i64 0, .int .i64 0, .slice none 0 0, .int .i64 0, .slice none 0 0, .string ⟨#[]⟩, .string ⟨#[]⟩] (unhide HZ2) size_rep rfl (unhide HO2) ?_)
  refine (unhide HD3).mono ?_
  rintro e v7 ⟨r3, rfl, hv7, oz3⟩
  obtain ⟨Nc, hNc⟩ : ∃ q, q2.heap.size = q := ⟨_, rfl⟩
  rw [hNc] at oz3
  have Hv7 := hide (show Below g w v7 ∧ g ≤ v7.heap.size ∧ Blk v7 h1 (r1.cs) 34 ∧ Oz (outO kd S).2 ((nums S).getD 0 0) Na r1 v7 ∧ Blk v7 h2 (r2.cs) 34 ∧ Oz (outO kd S).2 ((nums S).getD 0 0) Nb r2 v7 from ⟨(unhide Hu2).1.trans (hv7.mono (unhide Hu2).2.1), Nat.le_trans (unhide Hu2).2.1 hv7.size, (unhide Hu2).2.2.1.below hv7 (unhide Hu2).2.2.1.lt, (unhide Hu2).2.2.2.1.below hv7 (Nat.le_refl _), (unhide Hu2).2.2.2.2.1.below hv7 (unhide Hu2).2.2.2.2.1.lt, (unhide Hu2).2.2.2.2.2.below hv7 (Nat.le_refl _)⟩)
  obtain ⟨N1, N2, N3, N4⟩ := boxv v7 34 #[.int .i64 0, .int .i64 0, .int .i64 0, .slice none 0 0, .int .i64 0, .slice none 0 0, .string ⟨#[]⟩, .string ⟨#[]⟩] (r3.cs) g w (unhide Hv7).1 (unhide Hv7).2.1
  obtain ⟨h3, hh3⟩ : ∃ h, v7.heap.size = h := ⟨_, rfl⟩
  obtain ⟨z3, hz3⟩ : ∃ Z, v7.alloc (.cells #[.int .i64 0, .int .i64 0, .int .i64 0, .slice none 0 0, .int .i64 0, .slice none 0 0, .string ⟨#[]⟩, .string ⟨#[]⟩] 34) = Z := ⟨_, rfl⟩
  rw [hz3, hh3] at N1 N2 N4
  rw [hz3] at N3
  have N3' : Below v7.heap.size v7 (z3.setRow h3 (r3.cs)) := by rw [← hh3]; exact N3
  have HZ3 := hide N1
  obtain ⟨q3, hq3⟩ : ∃ Z, z3.setRow h3 (r3.cs) = Z := ⟨_, rfl⟩
  rw [hq3] at N2 N3' N4
  have Hq3 := hide (show Below g w q3 ∧ g ≤ q3.heap.size ∧ Blk q3 h1 (r1.cs) 34 ∧ Oz (outO kd S).2 ((nums S).getD 0 0) Na r1 q3 ∧ Blk q3 h2 (r2.cs) 34 ∧ Oz (outO kd S).2 ((nums S).getD 0 0) Nb r2 q3 ∧ Blk q3 h3 (r3.cs) 34 from ⟨(unhide Hv7).1.trans (N3'.mono (unhide Hv7).2.1), Nat.le_trans (unhide Hv7).2.1 N3'.size, (unhide Hv7).2.2.1.below N3' (unhide Hv7).2.2.1.lt, (unhide Hv7).2.2.2.1.below N3' (Nat.le_refl _), (unhide Hv7).2.2.2.2.1.below N3' (unhide Hv7).2.2.2.2.1.lt, (unhide Hv7).2.2.2.2.2.below N3' (Nat.le_refl _), N2⟩)
  have Hu3 := hide (show Below g w q3 ∧ g ≤ q3.heap.size ∧ Blk q3 h1 (r1.cs) 34 ∧ Oz (outO kd S).2 ((nums S).getD 0 0) Na r1 q3 ∧ Blk q3 h2 (r2.cs) 34 ∧ Oz (outO kd S).2 ((nums S).getD 0 0) Nb r2 q3 ∧ Blk q3 h3 (r3.cs) 34 ∧ Oz (outO ot s).2 ((nums s).getD 0 0) Nc r3 q3 from ⟨(unhide Hq3).1, (unhide Hq3).2.1, (unhide Hq3).2.2.1, (unhide Hq3).2.2.2.1, (unhide Hq3).2.2.2.2.1, (unhide Hq3).2.2.2.2.2.1, (unhide Hq3).2.2.2.2.2.2, (show Oz (outO ot s).2 ((nums s).getD 0 0) Nc r3 v7 from oz3).below N3' (Nat.le_refl _)⟩)
  have HO3 := hide (Rep.one r3)
  clear N1 N2 N3 N3' N4 oz3 hv7 Hq3 Hu2 Hv7 HD3 hNc HZ2 HO2
  have HD4 := hide (unhide HDR2 q3)
  go_wp2_with (first | refine wpList_store_row rfl 34 (.tmp 24) (.tmp 164) rfl h3 (r3.cs) rfl rfl 34 #[.int .i64 0, .int .i64 0, .int .i64 0, .slice none 0 0, .int .i64 0, .slice none 0 0, .string ⟨#[]⟩, .string ⟨#[]⟩] (unhide HZ3) size_rep rfl (unhide HO3) ?_)
  refine (unhide HD4).mono ?_
  rintro e v8 ⟨r4, rfl, hv8, oz4⟩
  obtain ⟨Nd, hNd⟩ : ∃ q, q3.heap.size = q := ⟨_, rfl⟩
  rw [hNd] at oz4
  have Hv8 := hide (show Below g w v8 ∧ g ≤ v8.heap.size ∧ Blk v8 h1 (r1.cs) 34 ∧ Oz (outO kd S).2 ((nums S).getD 0 0) Na r1 v8 ∧ Blk v8 h2 (r2.cs) 34 ∧ Oz (outO kd S).2 ((nums S).getD 0 0) Nb r2 v8 ∧ Blk v8 h3 (r3.cs) 34 ∧ Oz (outO ot s).2 ((nums s).getD 0 0) Nc r3 v8 from ⟨(unhide Hu3).1.trans (hv8.mono (unhide Hu3).2.1), Nat.le_trans (unhide Hu3).2.1 hv8.size, (unhide Hu3).2.2.1.below hv8 (unhide Hu3).2.2.1.lt, (unhide Hu3).2.2.2.1.below hv8 (Nat.le_refl _), (unhide Hu3).2.2.2.2.1.below hv8 (unhide Hu3).2.2.2.2.1.lt, (unhide Hu3).2.2.2.2.2.1.below hv8 (Nat.le_refl _), (unhide Hu3).2.2.2.2.2.2.1.below hv8 (unhide Hu3).2.2.2.2.2.2.1.lt, (unhide Hu3).2.2.2.2.2.2.2.below hv8 (Nat.le_refl _)⟩)
  obtain ⟨N1, N2, N3, N4⟩ := boxv v8 34 #[.int .i64 0, .int .i64 0, .int .i64 0, .slice none 0 0, .int .i64 0, .slice none 0 0, .string ⟨#[]⟩, .string ⟨#[]⟩] (r4.cs) g w (unhide Hv8).1 (unhide Hv8).2.1
  obtain ⟨h4, hh4⟩ : ∃ h, v8.heap.size = h := ⟨_, rfl⟩
  obtain ⟨z4, hz4⟩ : ∃ Z, v8.alloc (.cells #[.int .i64 0, .int .i64 0, .int .i64 0, .slice none 0 0, .int .i64 0, .slice none 0 0, .string ⟨#[]⟩, .string ⟨#[]⟩] 34) = Z := ⟨_, rfl⟩
  rw [hz4, hh4] at N1 N2 N4
  rw [hz4] at N3
  have N3' : Below v8.heap.size v8 (z4.setRow h4 (r4.cs)) := by rw [← hh4]; exact N3
  have HZ4 := hide N1
  obtain ⟨q4, hq4⟩ : ∃ Z, z4.setRow h4 (r4.cs) = Z := ⟨_, rfl⟩
  rw [hq4] at N2 N3' N4
  have Hq4 := hide (show Below g w q4 ∧ g ≤ q4.heap.size ∧ Blk q4 h1 (r1.cs) 34 ∧ Oz (outO kd S).2 ((nums S).getD 0 0) Na r1 q4 ∧ Blk q4 h2 (r2.cs) 34 ∧ Oz (outO kd S).2 ((nums S).getD 0 0) Nb r2 q4 ∧ Blk q4 h3 (r3.cs) 34 ∧ Oz (outO ot s).2 ((nums s).getD 0 0) Nc r3 q4 ∧ Blk q4 h4 (r4.cs) 34 from ⟨(unhide Hv8).1.trans (N3'.mono (unhide Hv8).2.1), Nat.le_trans (unhide Hv8).2.1 N3'.size, (unhide Hv8).2.2.1.below N3' (unhide Hv8).2.2.1.lt, (unhide Hv8).2.2.2.1.below N3' (Nat.le_refl _), (unhide Hv8).2.2.2.2.1.below N3' (unhide Hv8).2.2.2.2.1.lt, (unhide Hv8).2.2.2.2.2.1.below N3' (Nat.le_refl _), (unhide Hv8).2.2.2.2.2.2.1.below N3' (unhide Hv8).2.2.2.2.2.2.1.lt, (unhide Hv8).2.2.2.2.2.2.2.below N3' (Nat.le_refl _), N2⟩)
  have Hu4 := hide (show Below g w q4 ∧ g ≤ q4.heap.size ∧ Blk q4 h1 (r1.cs) 34 ∧ Oz (outO kd S).2 ((nums S).getD 0 0) Na r1 q4 ∧ Blk q4 h2 (r2.cs) 34 ∧ Oz (outO kd S).2 ((nums S).getD 0 0) Nb r2 q4 ∧ Blk q4 h3 (r3.cs) 34 ∧ Oz (outO ot s).2 ((nums s).getD 0 0) Nc r3 q4 ∧ Blk q4 h4 (r4.cs) 34 ∧ Oz (outO ot s).2 ((nums s).getD 0 0) Nd r4 q4 from ⟨(unhide Hq4).1, (unhide Hq4).2.1, (unhide Hq4).2.2.1, (unhide Hq4).2.2.2.1, (unhide Hq4).2.2.2.2.1, (unhide Hq4).2.2.2.2.2.1, (unhide Hq4).2.2.2.2.2.2.1, (unhide Hq4).2.2.2.2.2.2.2.1, (unhide Hq4).2.2.2.2.2.2.2.2, (show Oz (outO ot s).2 ((nums s).getD 0 0) Nd r4 v8 from oz4).below N3' (Nat.le_refl _)⟩)
  have HO4 := hide (Rep.one r4)
  have HR1 := hide (show q4.rangeAt h1 0 (r1.cl) from blk_range ((unhide Hu4).2.2.1))
  have HR2 := hide (show q4.rangeAt h2 0 (r2.cl) from blk_range ((unhide Hu4).2.2.2.2.1))
  have HR1v := hide (show (z4.setRow h4 (r4.cs)).rangeAt h1 0 (r1.cl) from by rw [hq4]; exact unhide HR1)
  have HR2v := hide (show (z4.setRow h4 (r4.cs)).rangeAt h2 0 (r2.cl) from by rw [hq4]; exact unhide HR2)
  obtain ⟨V1, P1, hal⟩ := Oz.ali (unhide HS8) ((unhide Hu4).2.2.2.1) ((unhide Hu4).2.2.2.2.2.1)
  have HA1 := hide (alike12_eq r1 r2 q4 V1 P1 hal)
  clear N1 N2 N3 N3' N4 oz4 hv8 Hq4 Hu3 Hv8 HD4 hNd HZ3 HO3 hal
  go_wp2_with (first | refine wpList_store_row rfl 34 (.tmp 26) (.tmp 170) rfl h4 (r4.cs) rfl rfl 34 #[.int .i64 0, .int .i64 0, .int .i64 0, .slice none 0 0, .int .i64 0, .slice none 0 0, .string ⟨#[]⟩, .string ⟨#[]⟩] (unhide HZ4) size_rep rfl (unhide HO4) ?_ | refine wpList_load_mid rfl 34 (.tmp 20) rfl h1 0 rfl (r1.cl) _ (unhide HR1) Tryz.underlying34 rfl size_rep ?_ | refine wpList_load_mid rfl 34 (.tmp 22) rfl h2 0 rfl (r2.cl) _ (unhide HR2) Tryz.underlying34 rfl size_rep ?_ | refine wpList_load_mid rfl 34 (.tmp 20) rfl h1 0 rfl (r1.cl) _ (unhide HR1v) Tryz.underlying34 rfl size_rep ?_ | refine wpList_load_mid rfl 34 (.tmp 22) rfl h2 0 rfl (r2.cl) _ (unhide HR2v) Tryz.underlying34 rfl size_rep ?_)
  (try rw [hq4])
  refine (unhide HA1).mono ?_
  rintro e v9 ⟨rfl, hv9⟩
  have Hv9 := hide (show Below g w v9 ∧ g ≤ v9.heap.size ∧ Blk v9 h1 (r1.cs) 34 ∧ Oz (outO kd S).2 ((nums S).getD 0 0) Na r1 v9 ∧ Blk v9 h2 (r2.cs) 34 ∧ Oz (outO kd S).2 ((nums S).getD 0 0) Nb r2 v9 ∧ Blk v9 h3 (r3.cs) 34 ∧ Oz (outO ot s).2 ((nums s).getD 0 0) Nc r3 v9 ∧ Blk v9 h4 (r4.cs) 34 ∧ Oz (outO ot s).2 ((nums s).getD 0 0) Nd r4 v9 from ⟨(unhide Hu4).1.trans (hv9.mono (unhide Hu4).2.1), Nat.le_trans (unhide Hu4).2.1 hv9.size, (unhide Hu4).2.2.1.below hv9 (unhide Hu4).2.2.1.lt, (unhide Hu4).2.2.2.1.below hv9 (Nat.le_refl _), (unhide Hu4).2.2.2.2.1.below hv9 (unhide Hu4).2.2.2.2.1.lt, (unhide Hu4).2.2.2.2.2.1.below hv9 (Nat.le_refl _), (unhide Hu4).2.2.2.2.2.2.1.below hv9 (unhide Hu4).2.2.2.2.2.2.1.lt, (unhide Hu4).2.2.2.2.2.2.2.1.below hv9 (Nat.le_refl _), (unhide Hu4).2.2.2.2.2.2.2.2.1.below hv9 (unhide Hu4).2.2.2.2.2.2.2.2.1.lt, (unhide Hu4).2.2.2.2.2.2.2.2.2.below hv9 (Nat.le_refl _)⟩)
  have HR3 := hide (show v9.rangeAt h3 0 (r3.cl) from blk_range ((unhide Hv9).2.2.2.2.2.2.1))
  have HR4 := hide (show v9.rangeAt h4 0 (r4.cl) from blk_range ((unhide Hv9).2.2.2.2.2.2.2.2.1))
  obtain ⟨V2, P2, hal⟩ := Oz.ali (unhide HS9) ((unhide Hv9).2.2.2.2.2.2.2.1) ((unhide Hv9).2.2.2.2.2.2.2.2.2)
  have HA2 := hide (alike12_eq r3 r4 v9 V2 P2 hal)
  clear hal hv9 Hu4 HA1 HR1 HR2 HR1v HR2v HZ4 HO4
  generalize (outO kd S).1 = E1 at *
  generalize (outO ot s).1 = E2 at *
  go_wp2_with (first | refine wpList_load_mid rfl 34 (.tmp 24) rfl h3 0 rfl (r3.cl) _ (unhide HR3) Tryz.underlying34 rfl size_rep ?_ | refine wpList_load_mid rfl 34 (.tmp 26) rfl h4 0 rfl (r4.cl) _ (unhide HR4) Tryz.underlying34 rfl size_rep ?_)
  refine (unhide HA2).mono ?_
  rintro e v10 ⟨rfl, hv10⟩
  have HFI := hide (show Below g w v10 from (unhide Hv9).1.trans (hv10.mono (unhide Hv9).2.1))
  clear hv10 Hv9 HA2 HR3 HR4
  go_wp2_with fail
  go_ret
  exact ⟨rfl, unhide HFI⟩
end Go.Proofs.YtclgkgaobjcifaaGreatDoor
