import Derived.Test.YtnnehadmnijhjaaGreatDoorMv25
import Derived.Test.YtnnehadmnijhjaaGreatDoorMv23
import Derived.Test.YtnnehadmnijhjaaGreatDoorMv22
import Derived.WalkMore
import Derived.Deep.DeepCutAuto
namespace Go.Proofs.YtnnehadmnijhjaaGreatDoor
open Go.RowKit Go.Maps Go.Sort Go.Shelf
set_option maxRecDepth 100000
set_option maxHeartbeats 8000000 in
theorem bopens7 (z0 z1 : Int) (sp : Option Addr) (sm sc : Nat) (sl : List ByteArray) (hsl : sl.length = sm) (dead : Bool) (W : World) (hG : ETy W) (hS : Strs W sp sl) :
    Calls Tryz.prog 3 #[.int .i64 z0, .int .i64 z1, .slice sp sm sc, .bool dead] W fun e w' => e = .returned (.bool true) ∧ Below W.heap.size W w' := by
  have HKN := hide (known7_any W hG)
  have HS := hide (And.intro hsl hS)
  have HG := hide hG
  obtain ⟨i9, hi, hq0, hq1, hq2⟩ := info_parts infoS
  have HII := hide (And.intro hi (And.intro hq0 (And.intro hq1 hq2)))
  clear hi hq0 hq1 hq2 hsl hS hG
  go_enter Tryz.func3, Tryz.ntmps3
  go_wp2_with fail
  refine (unhide HKN).mono ?_
  rintro e x1 ⟨rfl, hb1⟩
  obtain ⟨N, hN⟩ : ∃ z, x1.heap.size = z := ⟨_, rfl⟩
  have HNN := hide hN
  have HB1 := hide hb1
  have X0 := hide (show x1.ownsRow N 9 1 (.slice none 0 0) 0 (strs []) ∧ Below N x1 x1 from ⟨World.ownsRow_nil _ _ _ _, Below.refl _ _⟩)
  clear hb1 HKN hN
  go_wp2_with fail
  go_loopw [10, 11] (fun v iv wr => ∃ (i : Nat) (p : Option Addr) (c m : Nat) (K : List ByteArray), i ≤ 20 ∧ iv = .int .i64 (i : Int) ∧ v = .slice p m c ∧ m = K.length ∧ m ≤ i ∧ (∀ t ∈ K, t.size = 256) ∧ wr.ownsRow N 9 1 (.slice p m c) m (strs K) ∧ Below N x1 wr) (fun _ iv _ => 20 - (intOf iv).toNat)
  case atStart => exact ⟨0, none, 0, 0, [], by omega, rfl, rfl, rfl, by omega, fun t ht => (by cases ht), (unhide X0).1, (unhide X0).2⟩
  case round =>
    obtain ⟨i, pv, cv, m, K, hi20, rfl, rfl, hm, hmi, hK, hrow, hb⟩ := hrel
    obtain ⟨wo, rfl⟩ : ∃ wo, wo = wr := ⟨_, rfl⟩
    have XR := hide (And.intro hrow (And.intro hb (And.intro hm hK)))
    clear hrow hb hm hK X0
    obtain ⟨cb, hcb⟩ : ∃ cb : Bool, decide (i < sm ∧ i < 20) = cb := ⟨_, rfl⟩
    have HCB := hide hcb
    clear hcb
    go_upto_region 4 with fail
    go_cut [34] (fun c wx => c = .bool cb ∧ wx = wo)
    case first =>
      by_cases g1 : i < sm
      · have g1' : (i : Int) < (sm : Int) := by omega
        by_cases g2 : i < 20
        · have g2' : (i : Int) < 20 := by omega
          go_wp2_with fail
          go_meet
          exact ⟨congrArg Value.bool (by rw [← unhide HCB]; exact (decide_eq_true ⟨g1, g2⟩).symm), rfl⟩
        · have g2' : ¬ (i : Int) < 20 := by omega
          go_wp2_with fail
          go_meet
          exact ⟨congrArg Value.bool (by rw [← unhide HCB]; exact (decide_eq_false (fun r => g2 r.2)).symm), rfl⟩
      · have g1' : ¬ (i : Int) < (sm : Int) := by omega
        go_wp2_with fail
        go_meet
        exact ⟨congrArg Value.bool (by rw [← unhide HCB]; exact (decide_eq_false (fun r => g1 r.1)).symm), rfl⟩
    case rest =>
    obtain ⟨rfl, hwc⟩ := hcut
    subst wc
    cases cb with
    | true =>
      as_aux_lemma =>
        have hgo := of_decide_eq_true (unhide HCB)
        have j0 : (0 : Int) ≤ (i : Int) := by omega
        have j1 : (i : Int) < (sm : Int) := by omega
        obtain ⟨g, o, rfl, hg, hc⟩ := (unhide HS).2 i (by have := (unhide HS).1; omega)
        have hbx : Below W.heap.size W wo := (unhide HB1).trans (((unhide XR).2.1.mono (by have := (unhide HB1).size; have := unhide HNN; omega)))
        have ck : wo.cell? ⟨g, o + i, none⟩ = some (.string (sl.getD i ByteArray.empty)) := (hbx.cell (p := ⟨g, o + i, none⟩) hg).trans hc
        generalize sl.getD i ByteArray.empty = t at *
        clear hc hbx
        by_cases ht : t.size = 256
        · as_aux_lemma =>
            have hc : ((t.size : Int) == 256) = true := by rw [ht]; rfl
            have HRW := hide (show (wo.alloc (.cells #[.string t] 9)).ownsRow N 9 1 (.slice pv m cv) m (strs K) from owns_only (unhide XR).1 ((Only.of_below (P := fun _ => False) (Below.refl _ wo)).alloc _) (fun _ _ q => q))
            have HBS := hide (show N ≤ (wo.alloc (.cells #[.string t] 9)).heap.size from by have := (unhide XR).2.1.size; have := unhide HNN; simp; omega)
            have HML := hide (show m + 1 ≤ maxLen ∧ (m + 1) * 16 ≤ 140737488355328 from ⟨by unfold maxLen; omega, by omega⟩)
            have HT := hide ht
            clear ht
            go_wp2_with (refine wpList_append_lies _ rfl (.tmp 43) (.tmp 48) 22 rfl N 9 i9 (.string ⟨#[]⟩) 1 16 Tryz.underlying22 (unhide HII).1 (unhide HII).2.1 (unhide HII).2.2.1 (unhide HII).2.2.2 rfl (by decide) (.slice pv m cv) m (strs K) rfl (unhide HRW) ⟨wo.heap.size, 0, none⟩ 1 1 [.string t] rfl rfl (fun q u hu => news_one wo 9 _ q u hu) (by simp [Value.oneCell']) (by decide) (unhide HML).1 (unhide HML).2 (unhide HBS) _ rfl ?_)
            intro g2 e2 y1 ho1 hg2 hor1 hlt1
            have HNX := hide (show m + 1 = (K ++ [t]).length ∧ (∀ u ∈ K ++ [t], u.size = 256) ∧ y1.ownsRow N 9 1 (.slice (some ⟨g2, 0, none⟩) (m + 1) e2) (m + 1) (strs (K ++ [t])) ∧ Below N x1 y1 from by
              refine ⟨by rw [List.length_append, ← (unhide XR).2.2.1]; rfl, fun u hu => ?_, by simpa [strs] using ho1, ?_⟩
              · rcases List.mem_append.1 hu with q | q
                · exact (unhide XR).2.2.2 u q
                · rw [List.mem_singleton.1 q]; exact unhide HT
              · have hs := (unhide XR).2.1.size
                have := unhide HNN
                have b1 : Below N x1 (wo.alloc (.cells #[.string t] 9)) := (unhide XR).2.1.alloc (by omega) _
                exact b1.trans ((grown_only hg2).below (unhide HBS) (fun b hb q => by have := ((unhide HRW).lt b q).1; omega)))
            clear ho1 hg2 hor1 hlt1 HRW HBS HML
            go_wp2
            go_roundw
            case rel => exact ⟨i + 1, _, _, m + 1, _, by omega, by go_num, rfl, (unhide HNX).1, by omega, (unhide HNX).2.1, (unhide HNX).2.2.1, (unhide HNX).2.2.2⟩
            case measure => simp [intOf]; omega
        · as_aux_lemma =>
            have hc : ((t.size : Int) == 256) = false := by simp; omega
            clear ht
            go_wp2
            go_roundw
            case rel => exact ⟨i + 1, _, _, m, K, by omega, by go_num, rfl, (unhide XR).2.2.1, by omega, (unhide XR).2.2.2, (unhide XR).1, (unhide XR).2.1⟩
            case measure => simp [intOf]; omega
    | false =>
      have hKz : ∀ j, j < K.length → (K.getD j ByteArray.empty).size = 256 := fun j hj => (unhide XR).2.2.2 _ (by rw [List.getD_eq_getElem?_getD, List.getElem?_eq_getElem hj]; exact List.getElem_mem _)
      have hK20 : K.length ≤ 20 := by have := (unhide XR).2.2.1; omega
      have hSt : Strs wo pv K := by
        have hr := (unhide XR).1
        rw [(unhide XR).2.2.1] at hr
        obtain ⟨p, c, q1, q2⟩ := Strs.own hr
        injection q1 with e1 e2 e3
        rw [e1]; exact q2
      have HLD := hide (blaid_any pv cv K 19 m (unhide XR).2.2.1 hKz (by decide) (by omega) wo hSt)
      have HBW := hide (show Below W.heap.size W wo from (unhide HB1).trans (((unhide XR).2.1.mono (by have := (unhide HB1).size; have := unhide HNN; omega))))
      obtain ⟨L, hL⟩ : ∃ z, ldL 19 K = z := ⟨_, rfl⟩
      obtain ⟨A, hA⟩ : ∃ z, ldA 19 K = z := ⟨_, rfl⟩
      have HL := hide (show L.length = 128 ∧ (∀ t ∈ L, t.size = 256) ∧ L.getD 1 ByteArray.empty = headB 0 [] ∧ A.length ≤ 100 ∧ (∀ a n, a < 19 → ¬ pageOk L a n 0) from by
        rw [← hL, ← hA]
        exact ⟨ld_len _ _, ld_size 19 K hKz, ld_head 19 K (by decide), by rw [ldA_len]; omega, fun a n ha q => low_bad K a n ha q⟩)
      simp only [Int.cast_ofNat_Int] at HLD
      rw [hL, hA] at HLD
      clear hKz hK20 hSt hL hA XR HCB HII HB1
      go_wp2_with fail
      refine (unhide HLD).mono ?_
      rintro e x2 ⟨b, rfl, v, hD, hb2, hSn⟩
      have hbW2 : Below wo.heap.size wo x2 := hb2
      have hg2 : ETy x2 := (unhide HG).below ((unhide HBW).trans (hb2.mono (unhide HBW).size)) (unhide HG).lt
      have HPO := hide (popen7 hD hb2 hg2 hSn (unhide HL).1 (unhide HL).2.2.1 (by have := (unhide HL).2.2.2.1; omega))
      have HGo := hide (show ETy wo from (unhide HG).below (unhide HBW) (unhide HG).lt)
      clear hD hb2 hSn hbW2 hg2 HLD
      go_wp2_with fail
      refine (unhide HPO).mono ?_
      rintro e x3 ⟨jb, pb, rfl, hK⟩
      have HFIN := hide (show ∀ w9, Below wo.heap.size wo w9 → Below W.heap.size W w9 from fun w9 h9 => (unhide HBW).trans (h9.mono (unhide HBW).size))
      have HMN := hide (fun W9 => rmany_any z0 W9)
      have HK := hide hK
      clear hK HPO
      cases dead with
      | true =>
        as_aux_lemma =>
          have HAR := hide (armP (unhide HK) 1 (by decide) rfl)
          have ea : armE (rs L A) 1 = 0 := rfl
          have es : armS (rs L A) 1 = ⟨L, L, [], A, 1, false⟩ := rfl
          rw [show ({ s := rs L A, nx := 1, jl := false, op := false, tx := [], keep := 3, h := [], hits := 0, mis := 0, lost := false } : PS).s = rs L A from rfl, ea] at HAR
          clear HK ea es
          go_wp2_with fail
          refine (unhide HAR).mono ?_
          rintro e x4 ⟨rfl, K4, -⟩
          have HFL := hide (flushP K4 (by show 0 ≤ 1000000000; omega) (by show A.length ≤ 1000000000; have := (unhide HL).2.2.2.1; omega) (by show (flushS ⟨L, L, [], A, 1, false⟩).last.length = _; rw [(flush_dies L A).2]; rfl))
          have ef : flushE ⟨L, L, [], A, 1, false⟩ = 2 := (flush_dies L A).1
          have eg : flushS ⟨L, L, [], A, 1, false⟩ = ⟨L, L, [], A, 0, true⟩ := (flush_dies L A).2
          have HFL2 := hide ((unhide HFL).mono (fun e w' q => (show e = .returned (.int .i64 2) ∧ PK wo w' b jb pb { s := ⟨L, L, [], A, 0, true⟩, nx := 1, jl := false, op := false, tx := [], keep := 3, h := [], hits := 0, mis := 0, lost := false } (fun _ => False) from by
            obtain ⟨q1, q2, q3⟩ := q
            refine ⟨?_, ?_⟩
            · have q1' : e = .returned (.int .i64 (flushE ⟨L, L, [], A, 1, false⟩)) := q1
              rw [ef] at q1'
              exact q1'
            · have k : PK wo w' b jb pb { s := flushS ⟨L, L, [], A, 1, false⟩, nx := 1, jl := false, op := false, tx := [], keep := 3, h := [], hits := 0, mis := 0, lost := false } (fun _ => False) := q2
              rw [eg] at k
              exact k)))
          clear K4 HAR HFL ef eg
          go_wp2_with fail
          refine (unhide HFL2).mono ?_
          rintro e x5 ⟨rfl, K5⟩
          have HK := hide K5
          clear K5 HFL2
          by_cases hn : 1 ≤ z0 ∧ z0 ≤ 1024
          case neg =>
            as_aux_lemma =>
              have HMO := hide (mopen_count (some ⟨pb, 0, none⟩) z1 z0 hn x5)
              have HM2 := hide (unhide HMN x5)
              rw [if_neg hn] at HM2
              have HBF := hide (unhide HFIN x5 (unhide HK).bel)
              clear hn HMN HK
              go_wp2_with fail
              refine (unhide HMO).mono ?_
              rintro e y ⟨rfl, hy⟩
              subst y
              clear HMO
              go_wp2_with fail
              refine (unhide HM2).mono ?_
              rintro e y ⟨rfl, hy⟩
              subst y
              clear HM2
              go_wp2
              go_ret
              exact ⟨rfl, unhide HBF⟩
          obtain ⟨n, rfl⟩ := Int.eq_ofNat_of_zero_le (show 0 ≤ z0 by omega)
          have hn1 : 1 ≤ n := by omega
          have hn2 : n ≤ 1024 := by omega
          have hp1 : 0 < pgs n := pgs_pos hn1
          have hp4 := pgs_le hn2
          have HM2 := hide (fun W9 => unhide HMN W9)
          rw [if_pos hn, Int.toNat_natCast] at HM2
          have hzP : (((pgs n : Nat) : Int) == 0) = false := by simp; omega
          have hwP : IntKind.i64.wrap ((128 : Int) - ((pgs n : Nat) : Int)) = (128 : Int) - ((pgs n : Nat) : Int) := wrapI_eq _ (by omega) (by omega)
          clear hn HMN
          by_cases ha : z1 < 0 ∨ (128 : Int) - (pgs n : Int) < z1
          case pos =>
            as_aux_lemma =>
              have HMO := hide (mopen_at (unhide HK) (unhide HL).1 n hn1 hn2 z1 ha)
              have HM3 := hide (unhide HM2 x5)
              have HBF := hide (unhide HFIN x5 (unhide HK).bel)
              obtain ⟨P0, hP0⟩ : ∃ q, pgs n = q := ⟨_, rfl⟩
              rw [hP0] at ha HM3 hzP hwP
              clear HM2 HK hP0 hp1 hp4
              by_cases h0 : z1 < 0
              · have d0 : decide (z1 < 0) = true := decide_eq_true h0
                clear ha
                go_wp2_with fail
                refine (unhide HMO).mono ?_
                rintro e y ⟨rfl, hy⟩
                subst y
                clear HMO
                go_wp2_with fail
                refine (unhide HM3).mono ?_
                rintro e y ⟨rfl, hy⟩
                subst y
                clear HM3
                go_wp2
                go_ret
                exact ⟨rfl, unhide HBF⟩
              · have d0 : decide (z1 < 0) = false := decide_eq_false h0
                have h1 : (128 : Int) - (P0 : Int) < z1 := ha.resolve_left h0
                have d1 : decide ((128 : Int) - (P0 : Int) < z1) = true := decide_eq_true h1
                clear ha
                go_wp2_with fail
                refine (unhide HMO).mono ?_
                rintro e y ⟨rfl, hy⟩
                subst y
                clear HMO
                go_wp2_with fail
                refine (unhide HM3).mono ?_
                rintro e y ⟨rfl, hy⟩
                subst y
                clear HM3
                go_wp2
                go_ret
                exact ⟨rfl, unhide HBF⟩
          obtain ⟨a, rfl⟩ := Int.eq_ofNat_of_zero_le (show 0 ≤ z1 by omega)
          have h128 : a + pgs n ≤ 128 := by omega
          have d0 : decide ((a : Int) < 0) = false := decide_eq_false (by omega)
          have n0 : ¬ (a : Int) < 0 := by omega
          have d1 : decide ((128 : Int) - ((pgs n : Nat) : Int) < (a : Int)) = false := decide_eq_false (by omega)
          have n1 : ¬ (128 : Int) - ((pgs n : Nat) : Int) < (a : Int) := by omega
          clear ha
          have HMO := hide (mopen_dead (unhide HK) (unhide HGo) rfl (unhide HL).1 rfl rfl n hn1 hn2 a h128)
          have HM3 := hide (fun W9 => unhide HM2 W9)
          obtain ⟨P0, hP0⟩ : ∃ q, pgs n = q := ⟨_, rfl⟩
          rw [hP0] at HM3 hzP hwP d1 n1
          clear HM2 HK hP0 hp1 hp4 h128
          go_wp2_with fail
          refine (unhide HMO).mono ?_
          rintro e x6 ⟨rfl, hb6⟩
          have HBF := hide (unhide HFIN x6 hb6)
          clear hb6 HMO
          go_wp2_with fail
          refine (unhide HM3 _).mono ?_
          rintro e y ⟨rfl, hy⟩
          subst y
          clear HM3
          go_wp2
          go_ret
          exact ⟨rfl, unhide HBF⟩
      | false =>
        as_aux_lemma =>
          by_cases hn : 1 ≤ z0 ∧ z0 ≤ 1024
          case neg =>
            as_aux_lemma =>
              have HMO := hide (mopen_count (some ⟨pb, 0, none⟩) z1 z0 hn x3)
              have HM2 := hide (unhide HMN x3)
              rw [if_neg hn] at HM2
              have HBF := hide (unhide HFIN x3 (unhide HK).bel)
              clear hn HMN HK
              go_wp2_with fail
              refine (unhide HMO).mono ?_
              rintro e y ⟨rfl, hy⟩
              subst y
              clear HMO
              go_wp2_with fail
              refine (unhide HM2).mono ?_
              rintro e y ⟨rfl, hy⟩
              subst y
              clear HM2
              go_wp2
              go_ret
              exact ⟨rfl, unhide HBF⟩
          obtain ⟨n, rfl⟩ := Int.eq_ofNat_of_zero_le (show 0 ≤ z0 by omega)
          have hn1 : 1 ≤ n := by omega
          have hn2 : n ≤ 1024 := by omega
          have hp1 : 0 < pgs n := pgs_pos hn1
          have hp4 := pgs_le hn2
          have HM2 := hide (fun W9 => unhide HMN W9)
          rw [if_pos hn, Int.toNat_natCast] at HM2
          have hzP : (((pgs n : Nat) : Int) == 0) = false := by simp; omega
          have hwP : IntKind.i64.wrap ((128 : Int) - ((pgs n : Nat) : Int)) = (128 : Int) - ((pgs n : Nat) : Int) := wrapI_eq _ (by omega) (by omega)
          clear hn HMN
          by_cases ha : z1 < 0 ∨ (128 : Int) - (pgs n : Int) < z1
          case pos =>
            as_aux_lemma =>
              have HMO := hide (mopen_at (unhide HK) (unhide HL).1 n hn1 hn2 z1 ha)
              have HM3 := hide (unhide HM2 x3)
              have HBF := hide (unhide HFIN x3 (unhide HK).bel)
              obtain ⟨P0, hP0⟩ : ∃ q, pgs n = q := ⟨_, rfl⟩
              rw [hP0] at ha HM3 hzP hwP
              clear HM2 HK hP0 hp1 hp4
              by_cases h0 : z1 < 0
              · have d0 : decide (z1 < 0) = true := decide_eq_true h0
                clear ha
                go_wp2_with fail
                refine (unhide HMO).mono ?_
                rintro e y ⟨rfl, hy⟩
                subst y
                clear HMO
                go_wp2_with fail
                refine (unhide HM3).mono ?_
                rintro e y ⟨rfl, hy⟩
                subst y
                clear HM3
                go_wp2
                go_ret
                exact ⟨rfl, unhide HBF⟩
              · have d0 : decide (z1 < 0) = false := decide_eq_false h0
                have h1 : (128 : Int) - (P0 : Int) < z1 := ha.resolve_left h0
                have d1 : decide ((128 : Int) - (P0 : Int) < z1) = true := decide_eq_true h1
                clear ha
                go_wp2_with fail
                refine (unhide HMO).mono ?_
                rintro e y ⟨rfl, hy⟩
                subst y
                clear HMO
                go_wp2_with fail
                refine (unhide HM3).mono ?_
                rintro e y ⟨rfl, hy⟩
                subst y
                clear HM3
                go_wp2
                go_ret
                exact ⟨rfl, unhide HBF⟩
          obtain ⟨a, rfl⟩ := Int.eq_ofNat_of_zero_le (show 0 ≤ z1 by omega)
          have h128 : a + pgs n ≤ 128 := by omega
          have d0 : decide ((a : Int) < 0) = false := decide_eq_false (by omega)
          have n0 : ¬ (a : Int) < 0 := by omega
          have d1 : decide ((128 : Int) - ((pgs n : Nat) : Int) < (a : Int)) = false := decide_eq_false (by omega)
          have n1 : ¬ (128 : Int) - ((pgs n : Nat) : Int) < (a : Int) := by omega
          clear ha
          have HMO := hide (mopen_any (unhide HK) (unhide HGo) (frp0 L A) (unhide HL).1 (unhide HL).2.1 h128 hn1 hn2)
          have HM3 := hide (fun W9 => unhide HM2 W9)
          obtain ⟨P, hPd⟩ : ∃ P : List ByteArray, P = (L.drop a).take (pgs n) := ⟨_, rfl⟩
          have hPl : P.length = pgs n := by rw [hPd, List.length_take, List.length_drop, (unhide HL).1]; omega
          have hPg : ∀ k, k < pgs n → P.getD k ByteArray.empty = L.getD (a + k) ByteArray.empty := fun k hk => by
            rw [hPd, List.getD_eq_getElem?_getD, List.getD_eq_getElem?_getD, List.getElem?_take_of_lt hk, List.getElem?_drop]
          have HIF := hide (pages_iff L a n hn2 P hPg)
          have HPQ := hide (And.intro hPl hPg)
          have HMS := hide (fun (h : ∀ k, k < pgs n → P.getD k ByteArray.empty = pgT k (bdB (tkT P) n k)) => (ms_iff L a n (tkT P)).2 (fun k hk => by rw [← hPg k hk]; exact h k hk))
          have HN := hide (And.intro hn1 (And.intro hn2 (And.intro h128 hp1)))
          obtain ⟨P0, hP0⟩ : ∃ q, pgs n = q := ⟨_, rfl⟩
          have HP0 := hide hP0
          rw [hP0] at HM3 hzP hwP d1 n1 h128 hp4
          clear HM2 HK hP0 hp1 hPd hPl hPg hn1
          go_wp2_with fail
          refine (unhide HMO).mono ?_
          rintro e x4 ⟨mb, hmb, ⟨S4, K4, hM4, hF4, hop4, hO4⟩, hres⟩
          have hS4 : S4.s = rs L A := hF4.rst.s
          obtain ⟨v4, hD4⟩ : ∃ v, Dk x4 wo.heap.size b v (rs L A) := by
            obtain ⟨bw, bv, ov, Ki⟩ := K4
            obtain ⟨v, q⟩ := Ki.jk.dk
            exact ⟨v, by rw [← hS4]; exact q⟩
          have HIM := hide (image_any x4 wo.heap.size b v4 (rs L A) hD4 (by show 0 < L.length; rw [(unhide HL).1]; decide) (by show L.length ≤ 1024; rw [(unhide HL).1]; decide))
          have H4 := hide (And.intro K4 (And.intro hM4 hF4))
          have HRES := hide hres
          clear hmb K4 hM4 hF4 hop4 hO4 hS4 hD4 hres HMO
          obtain ⟨jm, em, hje⟩ : ∃ jm em, e = .returned (.tuple #[.pointer jm, .int .i64 em]) ∧ ((jm = some ⟨mb, 0, none⟩ ∧ em = 0 ∧ ∀ k, k < pgs n → pageOk L a n k) ∨ (jm = none ∧ em = 73 ∧ ∃ k, k < pgs n ∧ ¬ pageOk L a n k)) := by
            rcases unhide HRES with ⟨q1, q2⟩ | ⟨q1, q2⟩
            · exact ⟨_, _, q2, .inl ⟨rfl, rfl, q1⟩⟩
            · exact ⟨_, _, q2, .inr ⟨rfl, rfl, q1⟩⟩
          obtain ⟨rfl, hje⟩ := hje
          have HJE := hide hje
          clear HRES hje
          go_wp2_with fail
          refine (unhide HM3 _).mono ?_
          rintro e y ⟨rfl, hy⟩
          subst y
          clear HM3
          go_wp2_with fail
          refine (unhide HIM).mono ?_
          rintro e x5 ⟨vi, rfl, hrow, hb5⟩
          obtain ⟨gi, ci, rfl, hci, hSt5⟩ : ∃ gi c, vi = .slice (some ⟨gi, 0, none⟩) 128 c ∧ 128 ≤ c ∧ Strs x5 (some ⟨gi, 0, none⟩) L := by
            have hr : x5.ownsRow x4.heap.size 9 1 vi L.length (strs L) := hrow
            obtain ⟨g, c, q1, q2⟩ := hr.form (by rw [(unhide HL).1]; decide)
            obtain ⟨p, c', r1, r2⟩ := Strs.own hr
            rw [q1] at r1
            injection r1 with e1 e2 e3
            obtain ⟨p9, c9, q9, h9⟩ := row_form hr
            rw [q1] at q9
            injection q9 with f1 f2 f3
            exact ⟨g, c, by rw [q1, (unhide HL).1], by have := (unhide HL).1; omega, by rw [e1]; exact r2⟩
          have hStP : Strs x5 (some ⟨gi, a, none⟩) P := fun j hj => by
            have hj' : j < pgs n := by rw [← (unhide HPQ).1]; exact hj
            obtain ⟨g, o, e1, hg1, hc1⟩ := hSt5 (a + j) (by rw [(unhide HL).1]; have := (unhide HN).2.2.1; omega)
            injection e1 with e1
            injection e1 with e2 e3
            subst e2 e3
            refine ⟨gi, a, rfl, hg1, ?_⟩
            rw [(unhide HPQ).2 j hj']
            rw [Nat.zero_add] at hc1
            exact hc1
          have HRD := hide (fun c => rread7 n (unhide HN).1 hn2 (some ⟨gi, a, none⟩) c P (unhide HPQ).1 x5 hStP)
          rw [unhide HP0] at HRD
          have H5 := hide (show PK wo x5 b jb pb S4 (fun x => False ∨ x = mb) ∧ MB x5 mb pb a n ∧ Frp7 S4 L A 1 from ⟨(unhide H4).1.below hb5, (unhide H4).2.1.below hb5, (unhide H4).2.2⟩)
          have wa : IntKind.i64.wrap ((a : Int) + (P0 : Int)) = ((a + P0 : Nat) : Int) := by rw [wrapI_eq _ (by omega) (by omega)]; omega
          have s0 : (0 : Int) ≤ (a : Int) := by omega
          have s1 : (a : Int) ≤ ((a + P0 : Nat) : Int) := by omega
          have s2 : ((a + P0 : Nat) : Int) ≤ (ci : Int) := by omega
          have hca : ¬ ci = a := by have h1 := (unhide HN).2.2.2; have h2 := unhide HP0; omega
          clear hrow hb5 hSt5 hStP HIM H4
          go_wp2_with fail
          refine (unhide HRD _).mono ?_
          rintro e x6 ⟨hb6, hq⟩
          have HB6 := hide (unhide HFIN x6 ((unhide H5).1.bel.trans (hb6.mono (unhide H5).1.bel.size)))
          rcases unhide HJE with ⟨rfl, rfl, hok⟩ | ⟨rfl, rfl, hbad⟩
          case inr =>
            as_aux_lemma =>
              rcases hq with ⟨hy, _⟩ | ⟨hno, rfl⟩
              · obtain ⟨k, hk, hk2⟩ := hbad
                exact absurd ((unhide HIF).2 hy k hk) hk2
              · clear hb6 hno hbad HRD H5 HJE HIF HMS HPQ HN HP0
                go_wp2
                go_ret
                exact ⟨rfl, unhide HB6⟩
          rcases hq with ⟨hy, rfl, hBls⟩ | ⟨hno, rfl⟩
          case inr => exact absurd ((unhide HIF).1 hok) hno
          as_aux_lemma =>
            have h19 : 19 ≤ a := Nat.le_of_not_lt (fun q => (unhide HL).2.2.2.2 a n q (hok 0 (unhide HN).2.2.2))
            obtain ⟨gt, hgt⟩ : ∃ z, x5.heap.size = z := ⟨_, rfl⟩
            rw [hgt] at hBls ⊢
            have hlt : gt < x6.heap.size := by
              obtain ⟨g, o, e1, hg1, _⟩ := hBls 0 (unhide HN).1
              injection e1 with e1
              injection e1 with e2 e3
              rw [e2]; exact hg1
            have K6 : PK wo x6 b jb pb S4 (fun x => (False ∨ x = mb) ∨ x = gt) := (unhide H5).1.more hb6 (fun x q => q.imp_right (fun e => by rw [e]; exact ⟨by omega, hlt⟩))
            have BG6 : BG wo x6 b jb pb mb (fun x => (False ∨ x = mb) ∨ x = gt) a n S4 L A 0 L L (tkT P) := ⟨K6, (unhide H5).2.1.below hb6, .inl (.inr rfl), unhide HGo, frp_seen (unhide H5).2.2 (unhide HL).1 (unhide HL).2.1 (unhide HL).2.2.1, unhide HMS hy.2, h19, (unhide HN).2.2.1, (unhide HN).1, hn2⟩
            have HLI := hide (mlist_any BG6)
            have hlen : (lst (tkT P) n).length ≤ 1024 := by
              have h1 : (lst (tkT P) n).length = ((List.range n).filter (tkT P)).length := by simp [lst, lstN]
              have h2 := List.length_filter_le (tkT P) (List.range n)
              rw [List.length_range] at h2
              omega
            obtain ⟨TT, hTT⟩ : ∃ z, tkT P = z := ⟨_, rfl⟩
            rw [hTT] at HLI hlen hBls
            have HRL := hide (fun (W9 : World) (h9 : Bls W9 (some ⟨gt, 0, none⟩) TT n) => rlist7 n hn2 (some ⟨gt, 0, none⟩) n TT W9 h9)
            have HBL := hide (And.intro hBls hlt)
            have HLE := hide hlen
            clear h19 hgt K6 BG6 hlen hTT hBls hlt hb6 hy hok H5 HRD HMS HIF HJE HPQ HN HP0
            go_wp2_with fail
            refine (unhide HLI).mono ?_
            rintro e x7 ⟨vl, rfl, hrow7, S7, BG7, -, -, hO7⟩
            obtain ⟨p7, c7, rfl, -⟩ := row_form hrow7
            have hI7 : Ints x7 p7 (lst TT n) := ints_own hrow7
            have hB7 : Bls x7 (some ⟨gt, 0, none⟩) TT n := fun j hj => by
              obtain ⟨g, o, e1, hg1, hc1⟩ := (unhide HBL).1 j hj
              injection e1 with e1
              injection e1 with e2 e3
              subst e2 e3
              exact ⟨_, _, rfl, Nat.lt_of_lt_of_le hg1 hO7.size, (World.cell?_of_block (hO7.2 _ hg1 (fun q => q (.inr rfl)))).trans hc1⟩
            have HR7 := hide ((unhide HRL x7 hB7).mono (fun e w' (q : RlQ TT n x7 e w') => (show ∃ q d, e = .returned (.slice q (lst TT n).length d) ∧ Ints w' q (lst TT n) ∧ Below x7.heap.size x7 w' from q)))
            have HB7 := hide (unhide HFIN x7 BG7.pk.bel)
            have HI7 := hide hI7
            obtain ⟨tl, htl⟩ : ∃ z, lst TT n = z := ⟨_, rfl⟩
            obtain ⟨ll, hll⟩ : ∃ z, tl.length = z := ⟨_, rfl⟩
            rw [htl] at HR7 HI7 HLE ⊢
            rw [hll] at HR7 HLE ⊢
            have HLL := hide hll
            clear hrow7 BG7 hO7 hI7 hB7 htl hll HLI HRL HBL HB6
            go_wp2_with fail
            refine (unhide HR7).mono ?_
            rintro e x8 ⟨q8, d8, rfl, hI8, hb8⟩
            have HSM := hide (same7_any x8 p7 q8 c7 d8 tl tl ll ll (unhide HLL).symm (unhide HLL).symm (by have := unhide HLE; omega) (fun j hj => by
              obtain ⟨g, o, e1, hg1, hc1⟩ := unhide HI7 j hj
              exact ⟨g, o, e1, Nat.lt_of_lt_of_le hg1 hb8.size, (hb8.cell (p := ⟨g, o + j, none⟩) hg1).trans hc1⟩) hI8)
            rw [decide_eq_true rfl] at HSM
            have HB8 := hide (show Below W.heap.size W x8 from (unhide HB7).trans (hb8.mono (unhide HB7).size))
            clear hI8 hb8 HR7 HI7 HB7
            go_wp2_with fail
            refine (unhide HSM).mono ?_
            rintro e x9 ⟨rfl, hb9⟩
            have HBF := hide (show Below W.heap.size W x9 from (unhide HB8).trans (hb9.mono (unhide HB8).size))
            clear hb9 HSM HB8
            go_wp2
            go_ret
            exact ⟨rfl, unhide HBF⟩
end Go.Proofs.YtnnehadmnijhjaaGreatDoor
