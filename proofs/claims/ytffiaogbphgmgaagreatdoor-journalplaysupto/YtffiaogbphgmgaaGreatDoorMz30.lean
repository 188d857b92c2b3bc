import Derived.Test.YtffiaogbphgmgaaGreatDoorMz23
import Derived.Test.YtffiaogbphgmgaaGreatDoorMz29
namespace Go.Proofs.YtffiaogbphgmgaaGreatDoor
open Go.RowKit
set_option maxRecDepth 100000
theorem infoS9 : (Tryz.prog.info? 9).map (fun i => (i.zero, i.size, i.bytes)) = some (some (.string ⟨#[]⟩), 1, 16) := by kernel_rfl
set_option maxHeartbeats 8000000 in
/-- All 38 acts of a commit, as far as the disk lives. -/
theorem racts_any (w : World) (base b jb n : Nat) (lost : Bool) (v : RV) (s : DSt) (h : Rk w base b v s) (hb : base ≤ w.heap.size) (hS : Sane s) (hC : Coh s) (hp : s.pend.length ≤ 40000000) (ha : s.acts.length ≤ 40000000) (hJ : Rj w jb b n lost) (hn : n < 4294967296) (hfj : ¬ Fr4 b v jb) (p : Option Addr) (c m : Nat) (l : List Wr1) (hm : m = l.length) (hl : Wls w p l) (hfp : ∀ g o, p = some ⟨g, o, none⟩ → 0 < l.length → ¬ Fr4 b v g) (hr : refE l (s.last.length : Int) = 0) (nx : Nat) (hnx : (n + 1) % 4294967296 = nx) :
    Calls Tryz.prog 79 #[.pointer (some ⟨jb, 0, none⟩), .slice p m c] w fun e w' => e = .returned (.int .i64 (runsR s (runsOf nx l)).1) ∧ RPst base b v (runsR s (runsOf nx l)).2 w w' := by
  have hl16 := (ref0 hr).1
  have hF16 := filled_len l hl16
  have HMEM := hide (fill_mem hr (by have := hS.cap; omega))
  obtain ⟨F, hF0⟩ : ∃ z, filled l = z := ⟨_, rfl⟩
  rw [hF0] at hF16 HMEM
  obtain ⟨e0, s0, hres⟩ : ∃ e0 s0, runsR s (runsOf nx l) = (e0, s0) := ⟨_, _, rfl⟩
  rw [hres]
  have HRES := hide hres
  have HF16 := hide hF16
  obtain ⟨N, hN⟩ : ∃ z, w.heap.size = z := ⟨_, rfl⟩
  have HN := hide hN
  have hnx2 : nx < 4294967296 := by rw [← hnx]; exact Nat.mod_lt _ (by decide)
  have X0 := hide (show AcI w base b v s (recL F) F 0 (.slice none 0 0) (.slice none 0 0) w from ⟨v, s, h, hS, hC, rfl, Only.refl _ _, fun _ q => .inl q, Nat.le_refl _, Nat.le_refl _, rfl, none, 0, none, 0, rfl, rfl, World.ownsRow_nil _ _ _ _, World.ownsRow_nil _ _ _ _, fun g e => by cases e⟩)
  have HLS := hide (And.intro hm (And.intro hl (And.intro hfp (And.intro hb (And.intro hp (And.intro ha (And.intro hS.cap hC)))))))
  have HJ := hide (show jb < w.heap.size ∧ ¬ Fr4 b v jb ∧ w.cell? ⟨jb, 0, none⟩ = some (.pointer (some ⟨b, 0, none⟩)) from ⟨Blk.lt hJ, hfj, by rw [Blk.cell hJ 0]; rfl⟩)
  have HRJ := hide (And.intro hJ (And.intro hn (And.intro hnx hnx2)))
  obtain ⟨ii3, hi0, hz0, hz1, hz2⟩ := info_parts infoI3t
  have HI3 := hide (And.intro hi0 (And.intro hz0 (And.intro hz1 hz2)))
  clear hi0 hz0 hz1 hz2
  obtain ⟨ii9, hi0, hz0, hz1, hz2⟩ := info_parts infoS9
  have HI9 := hide (And.intro hi0 (And.intro hz0 (And.intro hz1 hz2)))
  clear hi0 hz0 hz1 hz2 h hb hS hC hp ha hJ hn hfj hm hl hfp hr hnx hl16 hF16 hres hN hnx2
  go_enter Tryz.func79, Tryz.ntmps79
  go_wp2
  go_loopw [5, 6, 7, 8, 9, 10] (fun vp vd i _ _ _ wr => ∃ k : Nat, k ≤ 16 ∧ i = .int .i64 (k : Int) ∧ AcI w base b v s (recL F) F k vp vd wr) (fun _ _ i _ _ _ _ => 16 - (intOf i).toNat)
  case atStart => exact ⟨0, by omega, rfl, unhide X0⟩
  case round =>
    obtain ⟨k, hk, rfl, v', sk, a1, a2, a3, a4, a5, a6, a7, a8, a9, p1, c1, q1, d1q, rfl, rfl, hvp, hvd, hnd⟩ := hrel
    obtain ⟨wo, rfl⟩ : ∃ wo, wo = wr := ⟨_, rfl⟩
    have HNW := hide (show N ≤ wo.heap.size from by rw [← unhide HN]; exact a5.size)
    rw [unhide HN] at hvp hvd
    have XA := hide (And.intro a1 (And.intro a2 (And.intro a3 (And.intro a4 (And.intro a5 (And.intro a6 (And.intro a7 (And.intro a8 a9))))))))
    have XV := hide (And.intro hvp (And.intro hvd hnd))
    clear a1 a2 a3 a4 a5 a6 a7 a8 a9 hvp hvd hnd X0
    by_cases hk16 : k < 16
    · have hk' : (k : Int) < 16 := by omega
      obtain ⟨zc, hzc⟩ : ∃ zc : Array Value, zc = ((List.replicate 256 (0 : Int)).map (Value.int .u8)).toArray := ⟨_, rfl⟩
      have hmk := run_make_u8 256 256 (by omega) (by omega) wo
      rw [← hzc] at hmk
      simp only [Int.cast_ofNat_Int] at hmk
      have hA := arr_new wo .u8 (List.replicate 256 0) 5 zc hzc
      have hcv := run_convert_bytes_arg (P := Tryz.prog) (wo.alloc (Obj.cells zc 5)) 67 5 Tryz.underlying67 Tryz.underlying5 wo.heap.size 0 256 256 (List.replicate 256 0) (by simp) (fun i hi => hA.get i (by simpa using hi)) 9 Tryz.underlying9
      rw [← zero_nums] at hcv
      clear hA hzc
      obtain ⟨wa, hwa⟩ : ∃ q, wo.alloc (.cells zc 5) = q := ⟨_, rfl⟩
      rw [hwa] at hmk hcv
      by_cases hkm0 : k < m
      · as_aux_lemma =>
          have hkm : (k : Int) < (m : Int) := by omega
          obtain ⟨g, o, rfl, hg, cz, ct⟩ := (unhide HLS).2.1 k (by have := (unhide HLS).1; omega)
          have ng := (unhide HLS).2.2.1 g o rfl (by have := (unhide HLS).1; omega)
          have ez : F.getD k wr0 = l.getD k wr0 := by rw [← hF0, filled, List.getD_eq_getElem?_getD, List.getD_eq_getElem?_getD, List.getElem?_append_left (by have := (unhide HLS).1; omega)]
          have d1 : (wo.alloc (.cells zc 5)).cell? ⟨g, o + k * 2, none⟩ = some (.int .i64 (F.getD k wr0).1) := by
            rw [ez]
            have hO := (unhide XA).2.2.2.2.1
            exact (World.cell?_of_block (a := ⟨g, o + k * 2, none⟩) ((hO.alloc (.cells zc 5)).2 g hg ng)).trans cz
          have d2 : (wo.alloc (.cells zc 5)).cell? ⟨g, o + k * 2 + 1, none⟩ = some (.string (F.getD k wr0).2) := by
            rw [ez]
            have hO := (unhide XA).2.2.2.2.1
            exact (World.cell?_of_block (a := ⟨g, o + k * 2 + 1, none⟩) ((hO.alloc (.cells zc 5)).2 g hg ng)).trans ct
          clear cz ct ng ez
          have i0 : (0 : Int) ≤ (k : Int) := by omega
          have HF0 := hide hF0
          clear hF0
          rw [hwa] at d1 d2
          have hzt : F.getD k wr0 = ((F.getD k wr0).1, (F.getD k wr0).2) := rfl
          have HDR := hide (layR_drop sk (recL F) k (by rw [recL_len, unhide HF16]; exact hk16))
          rw [recL_at F k (by rw [unhide HF16]; exact hk16)] at HDR
          obtain ⟨z, hz⟩ : ∃ q, (F.getD k wr0).1 = q := ⟨_, rfl⟩
          obtain ⟨t, ht⟩ : ∃ q, (F.getD k wr0).2 = q := ⟨_, rfl⟩
          rw [hz, ht] at hzt
          rw [ht] at HDR
          rw [hz] at d1
          rw [ht] at d2
          have HZT := hide hzt
          obtain ⟨ii, hii⟩ : ∃ q : Int, ((2 + k : Nat) : Int) = q := ⟨_, rfl⟩
          rw [hii] at HDR
          have w1 : IntKind.i64.wrap (2 + (k : Int)) = ii := by rw [wrapI_eq _ (by omega) (by omega), ← hii]; omega
          clear hzt hz ht hii
          have b1 : Below wo.heap.size wo (wa.alloc (.cells #[.int .i64 z] 3)) := by rw [← hwa]; exact ((Below.refl _ _).alloc (Nat.le_refl _) _).alloc (by simp) _
          have HRWP := hide (show (wa.alloc (.cells #[.int .i64 z] 3)).ownsRow N 3 1 (.slice p1 k c1) k ((secs (F.take k)).map (Value.int .i64)) from owns_only (unhide XV).1 (Only.of_below (P := fun _ => False) b1) (fun _ _ q => q))
          have HBS := hide (show N ≤ (wa.alloc (.cells #[.int .i64 z] 3)).heap.size from Nat.le_trans (unhide HNW) b1.size)
          have HML := hide (show k + 1 ≤ maxLen ∧ (k + 1) * 16 ≤ 140737488355328 ∧ (k + 1) * 8 ≤ 140737488355328 from ⟨by unfold maxLen; omega, by omega, by omega⟩)
          have HB1 := hide b1
          have HWA := hide hwa
          clear b1
          go_wp2_with (refine wpList_append_lies _ rfl (.tmp 33) (.tmp 35) 39 rfl N 3 ii3 (.int .i64 0) 1 8 Tryz.underlying39 (unhide HI3).1 (unhide HI3).2.1 (unhide HI3).2.2.1 (unhide HI3).2.2.2 rfl (by decide) (.slice p1 k c1) k ((secs (F.take k)).map (Value.int .i64)) rfl (unhide HRWP) ⟨wa.heap.size, 0, none⟩ 1 1 [.int .i64 z] rfl rfl (fun q u hu => news_one wa 3 _ q u hu) (by simp [Value.oneCell']) (by decide) (unhide HML).1 (unhide HML).2.2 (unhide HBS) _ rfl ?_)
          intro g1 e1 y1 ho1 hg1 hor1 hlt1
          obtain ⟨hR1, hvd1, oo1⟩ := ac_one (unhide XA).1 (unhide XV).1 (unhide XV).2.1 (unhide HB1) (grown_only hg1)
          have b2 : Below y1.heap.size y1 (y1.alloc (.cells #[.string t] 9)) := (Below.refl _ _).alloc (Nat.le_refl _) _
          have HRWD := hide (show (y1.alloc (.cells #[.string t] 9)).ownsRow N 9 1 (.slice q1 k d1q) k (strs ((F.take k).map (·.2))) from owns_only hvd1 (Only.of_below (P := fun _ => False) b2) (fun _ _ q => q))
          have HBT := hide (show N ≤ (y1.alloc (.cells #[.string t] 9)).heap.size from Nat.le_trans (Nat.le_trans (unhide HNW) oo1.size) b2.size)
          have HO1 := hide (And.intro ho1 (And.intro hR1 (And.intro hvd1 oo1)))
          have HB2 := hide b2
          clear ho1 hg1 hor1 hlt1 hR1 hvd1 oo1 b2 HRWP HBS hcv hmk d1 d2
          go_wp2_with (refine wpList_append_lies _ rfl (.tmp 37) (.tmp 39) 56 rfl N 9 ii9 (.string ⟨#[]⟩) 1 16 Tryz.underlying56 (unhide HI9).1 (unhide HI9).2.1 (unhide HI9).2.2.1 (unhide HI9).2.2.2 rfl (by decide) (.slice q1 k d1q) k (strs ((F.take k).map (·.2))) rfl (unhide HRWD) ⟨y1.heap.size, 0, none⟩ 1 1 [.string t] rfl rfl (fun q u hu => news_one y1 9 _ q u hu) (by simp [Value.oneCell']) (by decide) (unhide HML).1 (unhide HML).2.1 (unhide HBT) _ rfl ?_)
          intro g2 e2 y3 ho2 hg2 hor2 hlt2
          obtain ⟨hR3, hvp3, hn2, oo2⟩ := ac_two (unhide HO1).2.1 (unhide HO1).1 (unhide HO1).2.2.1 (unhide XV).2.2 (unhide HB2) (grown_only hg2) (hor2.imp_right (fun e => by rw [e]; simp))
          have hO3 : Only (Fr4 b v) w y3 := ac_only (unhide XA).2.2.2.2.1 (by rw [unhide HN]; exact (unhide XV).1) (by rw [unhide HN]; exact (unhide HO1).2.2.1) (unhide HO1).2.2.2 oo2
          have HWR := hide (rwrite_any y3 base b v' sk hR3 (Nat.le_trans (unhide HLS).2.2.2.1 hO3.size) (unhide XA).2.1 (unhide XA).2.2.1 (by have := (unhide XA).2.2.2.2.2.2.1; have := (unhide HLS).2.2.2.2.1; omega) (by have := (unhide XA).2.2.2.2.2.2.2.1; have := (unhide HLS).2.2.2.2.2.1; omega) ii t)
          have j0 : y3.cell? ⟨jb, 0, none⟩ = some (.pointer (some ⟨b, 0, none⟩)) := (World.cell?_of_block (a := ⟨jb, 0, none⟩) (hO3.2 jb (unhide HJ).1 (unhide HJ).2.1)).trans (unhide HJ).2.2
          have HO3 := hide (And.intro hR3 (And.intro hvp3 (And.intro ho2 (And.intro hn2 hO3))))
          obtain ⟨er, her⟩ : ∃ q, writeE sk ii t = q := ⟨_, rfl⟩
          rw [her] at HWR HDR
          clear ho2 hg2 hor2 hlt2 hR3 hvp3 hn2 oo2 hO3 HRWD HBT HB2 HB1 HML her
          go_wp2_with fail
          refine (unhide HWR).mono ?_
          rintro e y4 ⟨rfl, hP⟩
          have HP := hide hP
          clear hP HWR w1 j0
          by_cases he : er = 0
          · subst he
            have HN4 := hide (show AcI w base b v s (recL F) F (k + 1) (.slice (some ⟨g1, 0, none⟩) (k + 1) e1) (.slice (some ⟨g2, 0, none⟩) (k + 1) e2) y4 from by
              obtain ⟨a1, a2, a3, a4, a5, a6, a7, a8, a9⟩ := unhide XA
              obtain ⟨c1, c2, c3, c4, c5⟩ := unhide HO3
              exact AcI.next a2 a3 a4 c5 a6 a7 a8 a9 c1 (by rw [unhide HN]; exact c2) (by rw [unhide HN, List.map_take]; exact c3) c4 (unhide HP) (by rw [unhide HDR, if_pos rfl]) (by rw [unhide HF16]; exact hk16) (unhide HZT))
            clear HP HO3 HO1 XA XV HDR HZT
            go_wp2
            go_roundw
            case rel => exact ⟨k + 1, by omega, by go_num, unhide HN4⟩
            case measure => simp [intOf]; omega
          · have he' : (er == 0) = false := by simpa using he
            have HE := hide (show e0 = er ∧ RPst base b v s0 w y4 from by
              obtain ⟨a1, a2, a3, a4, a5, a6, a7, a8, a9⟩ := unhide XA
              have e1 : layR s (recL F) = (er, writeS sk ii t) := by rw [a4, unhide HDR, if_neg he]
              have e2 : runsR s (runsOf nx l) = (er, writeS sk ii t) := by rw [runsOf, unhide HF0, runsR, e1, if_neg he]
              have e3 : (er, writeS sk ii t) = (e0, s0) := e2.symm.trans (unhide HRES)
              injection e3 with q1 q2
              rw [← q1, ← q2]
              exact ⟨rfl, RPst.trans (unhide HO3).2.2.2.2 a6 (unhide HP)⟩)
            obtain ⟨rfl, hfin⟩ := unhide HE
            have HFIN := hide hfin
            clear HP HO3 HO1 XA XV HDR HZT he HE hfin
            go_wp2
            go_ret
            exact ⟨rfl, unhide HFIN⟩
      · as_aux_lemma =>
          have hkm : ¬ (k : Int) < (m : Int) := by omega
          have ez : F.getD k wr0 = fillW := by
            have hkl : l.length ≤ k := by have := (unhide HLS).1; omega
            rw [← hF0, filled, List.getD_eq_getElem?_getD, List.getElem?_append_right hkl, List.getElem?_replicate, if_pos (by omega)]
            rfl
          have HF0 := hide hF0
          have ez1 : (F.getD k wr0).1 = 18 := by rw [ez]; rfl
          have ez2 : (F.getD k wr0).2 = zero256 := by rw [ez]; rfl
          clear ez hF0
          have hzt : F.getD k wr0 = ((F.getD k wr0).1, (F.getD k wr0).2) := rfl
          have HDR := hide (layR_drop sk (recL F) k (by rw [recL_len, unhide HF16]; exact hk16))
          rw [recL_at F k (by rw [unhide HF16]; exact hk16)] at HDR
          obtain ⟨z, hz⟩ : ∃ q, (F.getD k wr0).1 = q := ⟨_, rfl⟩
          obtain ⟨t, ht⟩ : ∃ q, (F.getD k wr0).2 = q := ⟨_, rfl⟩
          rw [hz, ht] at hzt
          rw [ht] at HDR
          rw [hz] at ez1
          rw [ht] at ez2
          rw [← ez2] at hcv
          subst ez1
          have HZT := hide hzt
          obtain ⟨ii, hii⟩ : ∃ q : Int, ((2 + k : Nat) : Int) = q := ⟨_, rfl⟩
          rw [hii] at HDR
          have w1 : IntKind.i64.wrap (2 + (k : Int)) = ii := by rw [wrapI_eq _ (by omega) (by omega), ← hii]; omega
          clear hzt hz ht hii ez2
          have b1 : Below wo.heap.size wo (wa.alloc (.cells #[.int .i64 18] 3)) := by rw [← hwa]; exact ((Below.refl _ _).alloc (Nat.le_refl _) _).alloc (by simp) _
          have HRWP := hide (show (wa.alloc (.cells #[.int .i64 18] 3)).ownsRow N 3 1 (.slice p1 k c1) k ((secs (F.take k)).map (Value.int .i64)) from owns_only (unhide XV).1 (Only.of_below (P := fun _ => False) b1) (fun _ _ q => q))
          have HBS := hide (show N ≤ (wa.alloc (.cells #[.int .i64 18] 3)).heap.size from Nat.le_trans (unhide HNW) b1.size)
          have HML := hide (show k + 1 ≤ maxLen ∧ (k + 1) * 16 ≤ 140737488355328 ∧ (k + 1) * 8 ≤ 140737488355328 from ⟨by unfold maxLen; omega, by omega, by omega⟩)
          have HB1 := hide b1
          have HWA := hide hwa
          clear b1
          go_wp2_with (refine wpList_append_lies _ rfl (.tmp 33) (.tmp 35) 39 rfl N 3 ii3 (.int .i64 0) 1 8 Tryz.underlying39 (unhide HI3).1 (unhide HI3).2.1 (unhide HI3).2.2.1 (unhide HI3).2.2.2 rfl (by decide) (.slice p1 k c1) k ((secs (F.take k)).map (Value.int .i64)) rfl (unhide HRWP) ⟨wa.heap.size, 0, none⟩ 1 1 [.int .i64 18] rfl rfl (fun q u hu => news_one wa 3 _ q u hu) (by simp [Value.oneCell']) (by decide) (unhide HML).1 (unhide HML).2.2 (unhide HBS) _ rfl ?_)
          intro g1 e1 y1 ho1 hg1 hor1 hlt1
          obtain ⟨hR1, hvd1, oo1⟩ := ac_one (unhide XA).1 (unhide XV).1 (unhide XV).2.1 (unhide HB1) (grown_only hg1)
          have b2 : Below y1.heap.size y1 (y1.alloc (.cells #[.string t] 9)) := (Below.refl _ _).alloc (Nat.le_refl _) _
          have HRWD := hide (show (y1.alloc (.cells #[.string t] 9)).ownsRow N 9 1 (.slice q1 k d1q) k (strs ((F.take k).map (·.2))) from owns_only hvd1 (Only.of_below (P := fun _ => False) b2) (fun _ _ q => q))
          have HBT := hide (show N ≤ (y1.alloc (.cells #[.string t] 9)).heap.size from Nat.le_trans (Nat.le_trans (unhide HNW) oo1.size) b2.size)
          have HO1 := hide (And.intro ho1 (And.intro hR1 (And.intro hvd1 oo1)))
          have HB2 := hide b2
          clear ho1 hg1 hor1 hlt1 hR1 hvd1 oo1 b2 HRWP HBS hcv hmk
          go_wp2_with (refine wpList_append_lies _ rfl (.tmp 37) (.tmp 39) 56 rfl N 9 ii9 (.string ⟨#[]⟩) 1 16 Tryz.underlying56 (unhide HI9).1 (unhide HI9).2.1 (unhide HI9).2.2.1 (unhide HI9).2.2.2 rfl (by decide) (.slice q1 k d1q) k (strs ((F.take k).map (·.2))) rfl (unhide HRWD) ⟨y1.heap.size, 0, none⟩ 1 1 [.string t] rfl rfl (fun q u hu => news_one y1 9 _ q u hu) (by simp [Value.oneCell']) (by decide) (unhide HML).1 (unhide HML).2.1 (unhide HBT) _ rfl ?_)
          intro g2 e2 y3 ho2 hg2 hor2 hlt2
          obtain ⟨hR3, hvp3, hn2, oo2⟩ := ac_two (unhide HO1).2.1 (unhide HO1).1 (unhide HO1).2.2.1 (unhide XV).2.2 (unhide HB2) (grown_only hg2) (hor2.imp_right (fun e => by rw [e]; simp))
          have hO3 : Only (Fr4 b v) w y3 := ac_only (unhide XA).2.2.2.2.1 (by rw [unhide HN]; exact (unhide XV).1) (by rw [unhide HN]; exact (unhide HO1).2.2.1) (unhide HO1).2.2.2 oo2
          have HWR := hide (rwrite_any y3 base b v' sk hR3 (Nat.le_trans (unhide HLS).2.2.2.1 hO3.size) (unhide XA).2.1 (unhide XA).2.2.1 (by have := (unhide XA).2.2.2.2.2.2.1; have := (unhide HLS).2.2.2.2.1; omega) (by have := (unhide XA).2.2.2.2.2.2.2.1; have := (unhide HLS).2.2.2.2.2.1; omega) ii t)
          have j0 : y3.cell? ⟨jb, 0, none⟩ = some (.pointer (some ⟨b, 0, none⟩)) := (World.cell?_of_block (a := ⟨jb, 0, none⟩) (hO3.2 jb (unhide HJ).1 (unhide HJ).2.1)).trans (unhide HJ).2.2
          have HO3 := hide (And.intro hR3 (And.intro hvp3 (And.intro ho2 (And.intro hn2 hO3))))
          obtain ⟨er, her⟩ : ∃ q, writeE sk ii t = q := ⟨_, rfl⟩
          rw [her] at HWR HDR
          clear ho2 hg2 hor2 hlt2 hR3 hvp3 hn2 oo2 hO3 HRWD HBT HB2 HB1 HML her
          go_wp2_with fail
          refine (unhide HWR).mono ?_
          rintro e y4 ⟨rfl, hP⟩
          have HP := hide hP
          clear hP HWR w1 j0
          by_cases he : er = 0
          · subst he
            have HN4 := hide (show AcI w base b v s (recL F) F (k + 1) (.slice (some ⟨g1, 0, none⟩) (k + 1) e1) (.slice (some ⟨g2, 0, none⟩) (k + 1) e2) y4 from by
              obtain ⟨a1, a2, a3, a4, a5, a6, a7, a8, a9⟩ := unhide XA
              obtain ⟨c1, c2, c3, c4, c5⟩ := unhide HO3
              exact AcI.next a2 a3 a4 c5 a6 a7 a8 a9 c1 (by rw [unhide HN]; exact c2) (by rw [unhide HN, List.map_take]; exact c3) c4 (unhide HP) (by rw [unhide HDR, if_pos rfl]) (by rw [unhide HF16]; exact hk16) (unhide HZT))
            clear HP HO3 HO1 XA XV HDR HZT
            go_wp2
            go_roundw
            case rel => exact ⟨k + 1, by omega, by go_num, unhide HN4⟩
            case measure => simp [intOf]; omega
          · have he' : (er == 0) = false := by simpa using he
            have HE := hide (show e0 = er ∧ RPst base b v s0 w y4 from by
              obtain ⟨a1, a2, a3, a4, a5, a6, a7, a8, a9⟩ := unhide XA
              have e1 : layR s (recL F) = (er, writeS sk ii t) := by rw [a4, unhide HDR, if_neg he]
              have e2 : runsR s (runsOf nx l) = (er, writeS sk ii t) := by rw [runsOf, unhide HF0, runsR, e1, if_neg he]
              have e3 : (er, writeS sk ii t) = (e0, s0) := e2.symm.trans (unhide HRES)
              injection e3 with q1 q2
              rw [← q1, ← q2]
              exact ⟨rfl, RPst.trans (unhide HO3).2.2.2.2 a6 (unhide HP)⟩)
            obtain ⟨rfl, hfin⟩ := unhide HE
            have HFIN := hide hfin
            clear HP HO3 HO1 XA XV HDR HZT he HE hfin
            go_wp2
            go_ret
            exact ⟨rfl, unhide HFIN⟩
    · as_aux_lemma =>
        have hk' : ¬ (k : Int) < 16 := by omega
        obtain rfl : k = 16 := by omega
        simp only [Int.cast_ofNat_Int] at *
        obtain ⟨a1, a2, a3, a4, a5, a6, a7, a8, a9⟩ := unhide XA
        have HEQ := hide (show layR s (recL F) = (flushE sk, flushS sk) from by rw [a4, List.drop_of_length_le (by rw [recL_len, unhide HF16]; exact Nat.le_refl _), layR])
        have HFL := hide (rflush_any wo base b v' sk a1 (Nat.le_trans (unhide HLS).2.2.2.1 a5.size) a2 a3 (by have := (unhide HLS).2.2.2.2.1; omega) (by have := (unhide HLS).2.2.2.2.2.1; omega))
        have j1 : wo.cell? ⟨jb, 0, none⟩ = some (.pointer (some ⟨b, 0, none⟩)) := (World.cell?_of_block (a := ⟨jb, 0, none⟩) (a5.2 jb (unhide HJ).1 (unhide HJ).2.1)).trans (unhide HJ).2.2
        obtain ⟨fe, hfe⟩ : ∃ q, flushE sk = q := ⟨_, rfl⟩
        obtain ⟨s1, hs1⟩ : ∃ q, flushS sk = q := ⟨_, rfl⟩
        rw [hfe, hs1] at HFL HEQ
        have HF0 := hide hF0
        have HF1 := hide (show Sane s1 ∧ Coh s1 ∧ s1.pend.length ≤ s.pend.length + 20 ∧ s1.acts.length ≤ s.acts.length + 20 from by
          rw [← hs1]
          have q1 : (flushS sk).pend.length ≤ sk.pend.length := by
            unfold flushS
            split
            · rw [diesS_pend]; exact Nat.le_refl _
            · exact Nat.zero_le _
          have q2 : (flushS sk).acts.length ≤ sk.acts.length + 1 := by
            unfold flushS
            split
            · rw [diesS_acts]; omega
            · simp
          exact ⟨a2.flush, a3.flush, by omega, by omega⟩)
        clear a1 a2 a3 a4 a5 a6 a7 a8 a9 hfe hs1 hF0
        go_wp2_with fail
        refine (unhide HFL).mono ?_
        rintro e x1 ⟨rfl, hP1⟩
        have HP1 := hide hP1
        have HT1 := hide (RPst.trans (unhide XA).2.2.2.2.1 (unhide XA).2.2.2.2.2.1 hP1)
        clear hP1 HFL j1
        by_cases hf : fe = 0
        case neg =>
          have hf' : (fe == 0) = false := by simpa using hf
          have HE := hide (show e0 = fe ∧ RPst base b v s0 w x1 from by
            have e2 : runsR s (runsOf nx l) = (fe, s1) := by rw [runsOf, unhide HF0, runsR, unhide HEQ, if_neg hf]
            have e3 : (fe, s1) = (e0, s0) := e2.symm.trans (unhide HRES)
            injection e3 with q1 q2
            rw [← q1, ← q2]
            exact ⟨rfl, unhide HT1⟩)
          obtain ⟨rfl, hfin⟩ := unhide HE
          have HFIN := hide hfin
          clear HE hfin hf HP1 HT1 HEQ HF1 XA XV
          go_wp2
          go_ret
          exact ⟨rfl, unhide HFIN⟩
        subst hf
        obtain ⟨v2, k1, k2, k3⟩ := unhide HP1
        have kk := unhide HT1
        have n2 : ¬ Fr4 b v2 jb := fun q => by
          rcases k3 jb q with r | r
          · rcases (unhide XA).2.2.2.2.2.1 jb r with r | r
            · exact (unhide HJ).2.1 r
            · have := (unhide HJ).1; omega
          · have := (unhide HJ).1; have := (unhide XA).2.2.2.2.1.size; omega
        have hrow1 := (unhide XV).1
        have hrow2 := (unhide XV).2.1
        have np : ∀ g, (Value.slice p1 16 c1).ownBlock = some g → ¬ Fr4 b v' g := fun g e => by
          obtain ⟨cur, hB⟩ := own_blk hrow1 e
          exact (unhide XA).1.noty hB ft3
        have r1 : x1.ownsRow N 3 1 (.slice p1 16 c1) 16 ((secs (F.take 16)).map (Value.int .i64)) := owns_only hrow1 k2 (fun g e q => np g e q)
        have r2 : x1.ownsRow N 9 1 (.slice q1 16 d1q) 16 (strs ((F.take 16).map (·.2))) := owns_only hrow2 k2 (fun g e q => (unhide XV).2.2 g e q)
        have n3 : ∀ g, (Value.slice q1 16 d1q).ownBlock = some g → ¬ Fr4 b v2 g := fun g e q => by
          rcases k3 g q with r | r
          · exact (unhide XV).2.2 g e r
          · have := (hrow2.lt g e).2; omega
        have eF : F.take 16 = F := List.take_of_length_le (by rw [unhide HF16]; exact Nat.le_refl _)
        rw [eF] at r1 r2
        have jx1 : Rj x1 jb b n lost := by
          obtain ⟨v9, g1, g2, g3⟩ := kk
          exact Blk.only (unhide HRJ).1 g2 (unhide HJ).2.1
        have HS1 := hide (show Rk x1 base b v2 s1 ∧ Sane s1 ∧ Coh s1 ∧ s1.pend.length ≤ 80000000 ∧ s1.acts.length ≤ 80000000 ∧ ¬ Fr4 b v2 jb ∧ base ≤ x1.heap.size ∧ x1.ownsRow N 3 1 (.slice p1 16 c1) 16 ((secs F).map (Value.int .i64)) ∧ x1.ownsRow N 9 1 (.slice q1 16 d1q) 16 (strs (F.map (·.2))) ∧ (∀ g, (Value.slice q1 16 d1q).ownBlock = some g → ¬ Fr4 b v2 g) from by
          obtain ⟨q1, q2, q3, q4⟩ := unhide HF1
          have := (unhide HLS).2.2.2.2.1
          have := (unhide HLS).2.2.2.2.2.1
          have := (unhide HLS).2.2.2.1
          have z1 := (unhide XA).2.2.2.2.1.size
          have z2 := k2.size
          exact ⟨k1, q1, q2, by omega, by omega, n2, by omega, r1, r2, n3⟩)
        have HT2 := hide (show Only (Fr4 b v) w x1 ∧ ∀ k, Fr4 b v2 k → Fr4 b v k ∨ w.heap.size ≤ k from by
          refine ⟨(unhide XA).2.2.2.2.1.trans k2 (fun g hg q => ?_), fun g q => ?_⟩
          · rcases (unhide XA).2.2.2.2.2.1 g q with r | r
            · exact r
            · omega
          · rcases k3 g q with r | r
            · exact (unhide XA).2.2.2.2.2.1 g r
            · have := (unhide XA).2.2.2.2.1.size; exact .inr (by omega))
        have HNX := hide (rnext_any x1 jb b n lost jx1 (unhide HRJ).2.1)
        rw [(unhide HRJ).2.2.1] at HNX
        have jj := (unhide HS1)
        clear k1 k2 k3 kk n2 hrow1 hrow2 np r1 r2 n3 eF HP1 HT1 jj
        have HJX := hide jx1
        clear jx1 XA XV HF1
        go_wp2_with fail
        refine (unhide HNX).mono ?_
        rintro e x2 ⟨rfl, hx2⟩
        subst x2
        have hIn : Ints x1.drew p1 (secs F) := intsT (owns_only (unhide HS1).2.2.2.2.2.2.2.1 (Only.of_below (P := fun _ => False) (Below.refl _ _).drew) (fun _ _ q => q)) (by rw [secs, List.length_map, unhide HF16])
        have HSET := hide (rset_any nx (unhide HRJ).2.2.2 p1 c1 (secs F) (by rw [secs, List.length_map, unhide HF16]) x1.drew hIn (unhide HMEM))
        obtain ⟨hdb, hhd⟩ : ∃ q, headB nx (secs F) = q := ⟨_, rfl⟩
        rw [hhd] at HSET
        have HHD := hide hhd
        have j2 : x1.drew.cell? ⟨jb, 0, none⟩ = some (.pointer (some ⟨b, 0, none⟩)) := by
          have : x1.cell? ⟨jb, 0, none⟩ = some (.pointer (some ⟨b, 0, none⟩)) := by rw [Blk.cell (unhide HJX) 0]; rfl
          exact this
        clear hIn hhd HNX
        go_wp2_with fail
        refine wp_region_held_drew (S := fun W => W.cell? ⟨jb, 0, none⟩ = some (.pointer (some ⟨b, 0, none⟩))) (by kernel_rfl) j2 ?_
        intro hS
        refine wpAnyH_takeD 0 (some 62) (.pointer (some ⟨jb, 0, none⟩)) rfl rfl (by kernel_rfl) (by kernel_rfl) (by kernel_rfl) (fun _ _ _ h => h) (Or.inl ⟨by rfl, fun w hSw => by have q0 : w.cell? ⟨jb, 0, none⟩ = some (.pointer (some ⟨b, 0, none⟩)) := hSw; go_simp⟩) hS ?_
        simp only [Act.put, List.setIfInBounds_toArray, List.set_cons_zero, List.set_cons_succ]
        refine wpAnyH_takeD 1 (some 63) (.pointer (some ⟨jb, 0, none⟩)) rfl rfl (by kernel_rfl) (by kernel_rfl) (by kernel_rfl) (fun _ _ _ h => h) (Or.inl ⟨by rfl, fun w hSw => by have q0 : w.cell? ⟨jb, 0, none⟩ = some (.pointer (some ⟨b, 0, none⟩)) := hSw; go_simp⟩) hS ?_
        simp only [Act.put, List.setIfInBounds_toArray, List.set_cons_zero, List.set_cons_succ]
        refine wpAnyH_takeD 2 (some 64) (.pointer (some ⟨jb, 0, none⟩)) rfl rfl (by kernel_rfl) (by kernel_rfl) (by kernel_rfl) (fun _ _ _ h => h) (Or.inl ⟨by rfl, fun w hSw => by have q0 : w.cell? ⟨jb, 0, none⟩ = some (.pointer (some ⟨b, 0, none⟩)) := hSw; go_simp⟩) hS ?_
        simp only [Act.put, List.setIfInBounds_toArray, List.set_cons_zero, List.set_cons_succ]
        refine wpAnyH_takeD 3 (some 65) (.pointer (some ⟨b, 0, none⟩)) rfl rfl (by kernel_rfl) (by kernel_rfl) (by kernel_rfl) (fun _ _ _ h => h) (Or.inl ⟨by rfl, fun w hSw => by have q0 : w.cell? ⟨jb, 0, none⟩ = some (.pointer (some ⟨b, 0, none⟩)) := hSw; go_simp⟩) hS ?_
        simp only [Act.put, List.setIfInBounds_toArray, List.set_cons_zero, List.set_cons_succ]
        refine wpAnyH_takeD 4 (some 66) (.int .i64 (nx : Int)) rfl rfl (by kernel_rfl) (by kernel_rfl) (by kernel_rfl) (fun _ _ _ h => h) (Or.inl ⟨by rfl, fun w hSw => by have q0 : w.cell? ⟨jb, 0, none⟩ = some (.pointer (some ⟨b, 0, none⟩)) := hSw; go_simp⟩) hS ?_
        simp only [Act.put, List.setIfInBounds_toArray, List.set_cons_zero, List.set_cons_succ]
        refine wpAnyH_takeD 5 (some 67) (.slice p1 16 c1) rfl rfl (by kernel_rfl) (by kernel_rfl) (by kernel_rfl) (fun _ _ _ h => h) (Or.inl ⟨by rfl, fun w hSw => by have q0 : w.cell? ⟨jb, 0, none⟩ = some (.pointer (some ⟨b, 0, none⟩)) := hSw; go_simp⟩) hS ?_
        simp only [Act.put, List.setIfInBounds_toArray, List.set_cons_zero, List.set_cons_succ]
        refine wpAnyH_ready (rs := [6]) (by kernel_rfl) (by simp) ?_
        refine AllReadyH.cons rfl (fun K hK => ?_) AllReadyH.nil
        simp only [List.getElem_toArray, List.getElem_cons_succ, List.getElem_cons_zero]
        go_simp
        refine (unhide HSET).mono ?_
        rintro e x3 ⟨rfl, hb3⟩
        have HB3 := hide hb3
        have j3 : x3.cell? ⟨jb, 0, none⟩ = some (.pointer (some ⟨b, 0, none⟩)) := (hb3.cell (p := ⟨jb, 0, none⟩) (World.block_lt_of_cell? _ _ j2)).trans j2
        clear hb3
        refine hK.out _ _ j3 (fun hS => ?_)
        clear hK K
        refine wpAnyH_ready (rs := [7]) (by kernel_rfl) (by simp) ?_
        refine AllReadyH.cons rfl (fun K hK => ?_) AllReadyH.nil
        simp only [List.getElem_toArray, List.getElem_cons_succ, List.getElem_cons_zero]
        go_simp
        have HW1 := hide (rwrite_any x3 base b v2 s1 ((unhide HS1).1.drew.below (unhide HB3)) (Nat.le_trans (unhide HS1).2.2.2.2.2.2.1 (unhide HB3).size) (unhide HS1).2.1 (unhide HS1).2.2.1 (by have := (unhide HS1).2.2.2.1; omega) (by have := (unhide HS1).2.2.2.2.1; omega) 1 hdb)
        obtain ⟨ew, hew⟩ : ∃ q, writeE s1 1 hdb = q := ⟨_, rfl⟩
        rw [hew] at HW1
        have HEW := hide hew
        clear hew
        refine (unhide HW1).mono ?_
        rintro e x4 ⟨rfl, hP4⟩
        have HP4 := hide (RPst.belowL (unhide HB3) hP4)
        have j4 : x4.cell? ⟨jb, 0, none⟩ = some (.pointer (some ⟨b, 0, none⟩)) := by
          obtain ⟨v9, k1, k2, k3⟩ := hP4
          exact (World.cell?_of_block (a := ⟨jb, 0, none⟩) (k2.2 jb (World.block_lt_of_cell? _ _ j3) (unhide HS1).2.2.2.2.2.1)).trans j3
        clear hP4
        refine hK.out _ _ j4 (fun hS => ?_)
        clear hK K
        refine wpAnyH_takeD 8 (some 11) (.int .i64 ew) rfl rfl (by kernel_rfl) (by kernel_rfl) (by kernel_rfl) (fun _ _ _ h => h) (Or.inl ⟨by rfl, fun w hSw => by have q0 : w.cell? ⟨jb, 0, none⟩ = some (.pointer (some ⟨b, 0, none⟩)) := hSw; go_simp⟩) hS ?_
        simp only [Act.put, List.setIfInBounds_toArray, List.set_cons_zero, List.set_cons_succ]
        refine wpAnyH_done (by kernel_rfl) ?_ _
        clear hS j2 j3 j4 HSET HW1
        have HT4 := hide (RPst.trans (unhide HT2).1 (unhide HT2).2 (RPst.belowL (Below.refl _ x1).drew (unhide HP4)))
        by_cases hw : ew = 0
        case neg =>
          have hw' : (ew == 0) = false := by simpa using hw
          have HE := hide (show e0 = ew ∧ RPst base b v s0 w x4 from by
            have e1 : layR s1 [(1, hdb)] = (ew, writeS s1 1 hdb) := by rw [layR, unhide HEW, if_neg hw]
            have e2 : runsR s (runsOf nx l) = (ew, writeS s1 1 hdb) := by rw [runsOf, unhide HF0, runsR, unhide HEQ, if_pos rfl, runsR, unhide HHD, e1, if_neg hw]
            have e3 : (ew, writeS s1 1 hdb) = (e0, s0) := e2.symm.trans (unhide HRES)
            injection e3 with q1 q2
            rw [← q1, ← q2]
            exact ⟨rfl, unhide HT4⟩)
          obtain ⟨rfl, hfin⟩ := unhide HE
          have HFIN := hide hfin
          clear HE hfin hw HP4 HT4 HEQ HS1 HT2
          go_wp2
          go_ret
          exact ⟨rfl, unhide HFIN⟩
        subst hw
        obtain ⟨v4, k1, k2, k3⟩ := unhide HP4
        have bx : Below x1.heap.size x1 x1.drew := (Below.refl _ _).drew
        have hR0 := unhide HS1
        have n4 : ¬ Fr4 b v4 jb := fun q => by
          rcases k3 jb q with r | r
          · exact hR0.2.2.2.2.2.1 r
          · have := Blk.lt (unhide HJX); have : x1.drew.heap.size = x1.heap.size := rfl; omega
        have rr1 := hR0.2.2.2.2.2.2.2.1
        have rr2 := hR0.2.2.2.2.2.2.2.2.1
        have np : ∀ g, (Value.slice p1 16 c1).ownBlock = some g → ¬ Fr4 b v2 g := fun g e => by
          obtain ⟨cur, hB⟩ := own_blk rr1 e
          exact hR0.1.noty hB ft3
        have r1 : x4.ownsRow N 3 1 (.slice p1 16 c1) 16 ((secs F).map (Value.int .i64)) := owns_only (owns_only rr1 (Only.of_below (P := fun _ => False) bx) (fun _ _ q => q)) k2 (fun g e q => np g e q)
        have r2 : x4.ownsRow N 9 1 (.slice q1 16 d1q) 16 (strs (F.map (·.2))) := owns_only (owns_only rr2 (Only.of_below (P := fun _ => False) bx) (fun _ _ q => q)) k2 (fun g e q => hR0.2.2.2.2.2.2.2.2.2 g e q)
        have n5 : ∀ g, (Value.slice q1 16 d1q).ownBlock = some g → ¬ Fr4 b v4 g := fun g e q => by
          rcases k3 g q with r | r
          · exact hR0.2.2.2.2.2.2.2.2.2 g e r
          · have := (rr2.lt g e).2; have : x1.drew.heap.size = x1.heap.size := rfl; omega
        have hpg := pend_grow s1 1 hdb
        have hag := acts_grow s1 1 hdb
        have jx4 : x4.cell? ⟨jb, 0, none⟩ = some (.pointer (some ⟨b, 0, none⟩)) := by
          have := Blk.cell (Blk.only (Blk.below (unhide HJX) bx (Blk.lt (unhide HJX))) k2 hR0.2.2.2.2.2.1) 0
          rw [this]; rfl
        obtain ⟨s2, hs2⟩ : ∃ q, writeS s1 1 hdb = q := ⟨_, rfl⟩
        rw [hs2] at k1 hpg hag
        have HS2 := hide (show Rk x4 base b v4 s2 ∧ Sane s2 ∧ Coh s2 ∧ s2.pend.length ≤ 80000001 ∧ s2.acts.length ≤ 80000001 ∧ ¬ Fr4 b v4 jb ∧ base ≤ x4.heap.size ∧ x4.ownsRow N 3 1 (.slice p1 16 c1) 16 ((secs F).map (Value.int .i64)) ∧ x4.ownsRow N 9 1 (.slice q1 16 d1q) 16 (strs (F.map (·.2))) ∧ (∀ g, (Value.slice q1 16 d1q).ownBlock = some g → ¬ Fr4 b v4 g) from by
          refine ⟨k1, by rw [← hs2]; exact hR0.2.1.write _ _, by rw [← hs2]; exact hR0.2.2.1.write _ _, by have := hR0.2.2.2.1; omega, by have := hR0.2.2.2.2.1; omega, n4, ?_, r1, r2, n5⟩
          have z1 := hR0.2.2.2.2.2.2.1
          have z2 := k2.size
          have : x1.drew.heap.size = x1.heap.size := rfl
          omega)
        have HFL2 := hide (rflush_any x4 base b v4 s2 (unhide HS2).1 (unhide HS2).2.2.2.2.2.2.1 (unhide HS2).2.1 (unhide HS2).2.2.1 (by have := (unhide HS2).2.2.2.1; omega) (by have := (unhide HS2).2.2.2.2.1; omega))
        have HT5 := hide (show Only (Fr4 b v) w x4 ∧ ∀ k, Fr4 b v4 k → Fr4 b v k ∨ w.heap.size ≤ k from by
          have o1 : Only (Fr4 b v) w x1.drew := (unhide HT2).1.drew
          refine ⟨o1.trans k2 (fun g hg q => ?_), fun g q => ?_⟩
          · rcases (unhide HT2).2 g q with r | r
            · exact r
            · omega
          · rcases k3 g q with r | r
            · exact (unhide HT2).2 g r
            · have := o1.size; exact .inr (by omega))
        have HS2W := hide hs2
        obtain ⟨ff, hff⟩ : ∃ q, flushE s2 = q := ⟨_, rfl⟩
        obtain ⟨s3, hs3⟩ : ∃ q, flushS s2 = q := ⟨_, rfl⟩
        rw [hff, hs3] at HFL2
        have HE1 := hide (show layR s1 [(1, hdb)] = (ff, s3) from by rw [layR, unhide HEW, if_pos rfl, hs2, layR, hff, hs3])
        have HF3 := hide (show Sane s3 ∧ Coh s3 ∧ s3.pend.length ≤ 80000001 ∧ s3.acts.length ≤ 80000002 from by
          rw [← hs3]
          have q1 : (flushS s2).pend.length ≤ s2.pend.length := by
            unfold flushS
            split
            · rw [diesS_pend]; exact Nat.le_refl _
            · exact Nat.zero_le _
          have q2 : (flushS s2).acts.length ≤ s2.acts.length + 1 := by
            unfold flushS
            split
            · rw [diesS_acts]; omega
            · simp
          have := (unhide HS2).2.2.2.1
          have := (unhide HS2).2.2.2.2.1
          exact ⟨(unhide HS2).2.1.flush, (unhide HS2).2.2.1.flush, by omega, by omega⟩)
        clear k1 k2 k3 bx hR0 n4 rr1 rr2 np r1 r2 n5 hpg hag hs2 hff hs3 HP4 HT4 HS1 HT2 HEW HS2W HJX
        go_wp2_with fail
        refine (unhide HFL2).mono ?_
        rintro e x5 ⟨rfl, hP5⟩
        have HP5 := hide hP5
        clear hP5 HFL2 jx4
        have HT6 := hide (RPst.trans (unhide HT5).1 (unhide HT5).2 (unhide HP5))
        by_cases hg : ff = 0
        case neg =>
          have hg' : (ff == 0) = false := by simpa using hg
          have HE := hide (show e0 = ff ∧ RPst base b v s0 w x5 from by
            have e2 : runsR s (runsOf nx l) = (ff, s3) := by rw [runsOf, unhide HF0, runsR, unhide HEQ, if_pos rfl, runsR, unhide HHD, unhide HE1, if_neg hg]
            have e3 : (ff, s3) = (e0, s0) := e2.symm.trans (unhide HRES)
            injection e3 with q1 q2
            rw [← q1, ← q2]
            exact ⟨rfl, unhide HT6⟩)
          obtain ⟨rfl, hfin⟩ := unhide HE
          have HFIN := hide hfin
          clear HE hfin hg HP5 HT5 HT6 HEQ HS2 HE1 HF3
          go_wp2
          go_ret
          exact ⟨rfl, unhide HFIN⟩
        subst hg
        obtain ⟨v5, k1, k2, k3⟩ := unhide HP5
        have hR0 := unhide HS2
        have rr1 := hR0.2.2.2.2.2.2.2.1
        have rr2 := hR0.2.2.2.2.2.2.2.2.1
        have np : ∀ g, (Value.slice p1 16 c1).ownBlock = some g → ¬ Fr4 b v4 g := fun g e => by
          obtain ⟨cur, hB⟩ := own_blk rr1 e
          exact hR0.1.noty hB ft3
        have r1 : x5.ownsRow N 3 1 (.slice p1 16 c1) 16 ((secs F).map (Value.int .i64)) := owns_only rr1 k2 (fun g e q => np g e q)
        have r2 : x5.ownsRow N 9 1 (.slice q1 16 d1q) 16 (strs (F.map (·.2))) := owns_only rr2 k2 (fun g e q => hR0.2.2.2.2.2.2.2.2.2 g e q)
        have n5 : ∀ g, (Value.slice q1 16 d1q).ownBlock = some g → ¬ Fr4 b v5 g := fun g e q => by
          rcases k3 g q with r | r
          · exact hR0.2.2.2.2.2.2.2.2.2 g e r
          · have := (rr2.lt g e).2; omega
        have np5 : ∀ g, (Value.slice p1 16 c1).ownBlock = some g → ¬ Fr4 b v5 g := fun g e => by
          obtain ⟨cur, hB⟩ := own_blk r1 e
          exact k1.noty hB ft3
        have j5 : x5.cell? ⟨jb, 0, none⟩ = some (.pointer (some ⟨b, 0, none⟩)) := by
          obtain ⟨v9, g1, g2, g3⟩ := unhide HT6
          exact (World.cell?_of_block (a := ⟨jb, 0, none⟩) (g2.2 jb (unhide HJ).1 (unhide HJ).2.1)).trans (unhide HJ).2.2
        have lF : F.length = 16 := unhide HF16
        have oB : ∀ (pp : Option Addr) (cc g o : Nat), pp = some ⟨g, o, none⟩ → (Value.slice pp 16 cc).ownBlock = some g := fun pp cc g o e => by rw [e]; rfl
        have HSEC := hide (rsecond_loop x5 base b v5 s3 k1 (Nat.le_trans hR0.2.2.2.2.2.2.1 k2.size) (unhide HF3).1 (unhide HF3).2.1 (by have := (unhide HF3).2.2.1; omega) (by have := (unhide HF3).2.2.2; omega) nx (unhide HRJ).2.2.2 p1 q1 c1 d1q (secs F) (F.map (·.2)) (by rw [secs, List.length_map, lF]) (by rw [List.length_map, lF]) (intsT r1 (by rw [secs, List.length_map, lF])) (strsT r2 (by rw [List.length_map, lF])) (fun g o e => np5 g (oB p1 c1 g o e)) (fun g o e => n5 g (oB q1 d1q g o e)) F lF (fun i hi => by
          rw [secs_at F i (by omega), List.getD_eq_getElem?_getD, List.getD_eq_getElem?_getD, List.getElem?_map, List.getElem?_eq_getElem (by omega)]
          rfl))
        have HT7 := hide (show Only (Fr4 b v) w x5 ∧ ∀ k, Fr4 b v5 k → Fr4 b v k ∨ w.heap.size ≤ k from by
          refine ⟨(unhide HT5).1.trans k2 (fun g hg q => ?_), fun g q => ?_⟩
          · rcases (unhide HT5).2 g q with r | r
            · exact r
            · omega
          · rcases k3 g q with r | r
            · exact (unhide HT5).2 g r
            · have := (unhide HT5).1.size; exact .inr (by omega))
        have HE2 := hide (show secR s3 nx F = (e0, s0) from by
          have e2 : runsR s (runsOf nx l) = secR s3 nx F := by rw [runsOf, unhide HF0, runsR, unhide HEQ, if_pos rfl, runsR, unhide HHD, unhide HE1, if_pos rfl, runs_sec]
          rw [← e2]; exact unhide HRES)
        clear k1 k2 k3 hR0 rr1 rr2 np r1 r2 n5 np5 lF oB HP5 HT5 HT6 HEQ HS2 HE1 HF3 HF0 HHD
        go_wp2_with fail
        refine (unhide HSEC).mono ?_
        rintro e x6 ⟨he6, hP6⟩
        rw [unhide HE2] at he6 hP6
        have HFIN := hide (RPst.trans (unhide HT7).1 (unhide HT7).2 hP6)
        subst he6
        clear hP6 HSEC HE2 HT7 j5
        go_wp2
        go_ret
        exact ⟨rfl, unhide HFIN⟩
end Go.Proofs.YtffiaogbphgmgaaGreatDoor
