import Derived.Test.YtnkaooafenakdaaGreatDoorMr45
import Derived.WalkMore
namespace Go.Proofs.YtnkaooafenakdaaGreatDoor
open Go.RowKit Go.Maps Go.Sort Go.Shelf
set_option maxRecDepth 100000 in
set_option maxHeartbeats 8000000 in
theorem full_walk (p : Option Addr) (c : Nat) (l : List Int) (n : Nat) (hn : n = l.length) (x1 x2 : Int) (hx1 : I64 x1) (hx2 : I64 x2) (w : World) (hg : ETy w) (hi : Ints w p l) (hw : ∀ i, I64 (l.getD i 0)) (hz : n ≤ 9000000000000000000) :
    Calls Tryz.prog 3 #[.slice p n c, .int .i64 x1, .int .i64 x2] w fun e w' => e = .returned (.bool true) ∧ Below w.heap.size w w' := by
  have HPK := hide (fun W => pick6_any x1 65 (by decide) hx1 65 rfl W)
  have hpl := pickP_lt x1 65 (by decide)
  have HX12 := hide (And.intro hx1 hx2)
  generalize pickP x1 65 = keep at *
  have HFR := hide (pfresh_any keep (by omega) w hg)
  have HA := hide (And.intro hn (And.intro hi hw))
  obtain ⟨i0, hi0, hz0, hz1, hz2⟩ := info_parts infoI3h
  have HI := hide (And.intro hi0 (And.intro hz0 (And.intro hz1 hz2)))
  clear hi0 hz0 hz1 hz2 hg hn hi hw hx1 hx2
  go_enter Tryz.func3, Tryz.ntmps3
  go_wp2_with (go_at_call 10; refine (unhide HPK _).mono ?_; rintro e w' ⟨rfl, hw'⟩; subst w')
  refine (unhide HFR).mono ?_
  rintro e y1 ⟨b, jb, pb, rfl, K1⟩
  have HBG := hide (pbegin_any K1)
  rw [show beginE (freshP keep) = 0 from rfl, show beginS (freshP keep) = { freshP keep with op := true } from rfl] at HBG
  clear K1 HFR HPK
  go_wp2_with fail
  refine (unhide HBG).mono ?_
  rintro e y2 ⟨rfl, K2, -⟩
  have X0 := hide (show FuI w b jb pb l [] 0 (.slice none 0 0) y2 from ⟨_, zF 128, K2.more (Below.refl _ _) (fun x hx => by simp [Value.ownBlock] at hx), ⟨⟨⟨rfl, rfl, rfl, rfl⟩, L0_len, L0_size, head0, by decide, (seen0 keep).was, zF_len 128, zF_len 128, fun _ _ _ => rfl, fun q => (by cases q), fun p hp => by cases hp⟩, rfl, fun x => by simp [freshP, txAt], rfl, fun x hx => (by cases hx), fun k a1 a2 _ => zF_at k a1 a2⟩, World.ownsRow_nil _ _ _ _, by simp, fun j _ hj => by omega⟩)
  clear K2 HBG
  go_wp2
  go_loopw [10, 11] (fun v i wr => ∃ (k : Nat) (ks : List Int), i = .int .i64 (k : Int) ∧ k ≤ n + 17 ∧ FuI w b jb pb l ks k v wr) (fun _ i _ => n + 17 - (intOf i).toNat)
  case atStart => exact ⟨0, [], rfl, by omega, unhide X0⟩
  case round =>
    obtain ⟨k, ks, rfl, hkn, S, Mn, K, F, hrow, h16, hcov⟩ := hrel
    obtain ⟨wo, rfl⟩ : ∃ wo, wo = wr := ⟨_, rfl⟩
    clear X0
    obtain ⟨pv, cv, rfl, hcv⟩ := row_form hrow
    by_cases hks : ks.length < 16
    · have hkb : k < n + 16 := by rw [(unhide HA).1]; exact fu_bound hcov hks
      have e1 : (ks.length : Int) < 16 := by omega
      obtain ⟨r, hr1, hr2⟩ : ∃ r : Nat, k % 109 = r ∧ r < 109 := ⟨k % 109, rfl, Nat.mod_lt _ (by decide)⟩
      have hmod : Int.tmod (k : Int) 109 = (r : Int) := by rw [Int.tmod_eq_emod_of_nonneg (by omega)]; omega
      have HF := hide (And.intro K (And.intro F (And.intro hrow hcov)))
      have HR := hide hr1
      clear K F hrow hcov hr1
      by_cases hkl : k < n
      · have e2 : (k : Int) < (n : Int) := by omega
        obtain ⟨gl, ol, hpo, hgl, hcl⟩ := (unhide HA).2.1 k (by have := (unhide HA).1; omega)
        subst hpo
        have hcl' : wo.cell? ⟨gl, ol + k, none⟩ = some (.int .i64 (l.getD k 0)) := ((unhide HF).1.bel.cell (p := ⟨gl, ol + k, none⟩) hgl).trans hcl
        have HPI := hide (fun W => pick6_any (l.getD k 0) 109 (by decide) ((unhide HA).2.2 k) 109 rfl W)
        have hpq := pickP_lt (l.getD k 0) 109 (by decide)
        generalize pickP (l.getD k 0) 109 = zq at *
        generalize l.getD k 0 = lk at *
        obtain ⟨z, hzz⟩ : ∃ z : Nat, (19 : Int) + (zq : Int) = (z : Int) ∧ 19 ≤ z ∧ z < 128 := ⟨19 + zq, by omega, by omega, by omega⟩
        have hz19 := hzz.2.1
        have hz128 := hzz.2.2
        have HZC := hide (show k < l.length ∨ 19 + ((k % 109 : Nat) : Int) = (z : Int) from .inl (by rw [← (unhide HA).1]; exact hkl))
        have hzr := hzz.1
        clear hzz hcl hgl
        go_wp2_with (go_at_call 10; refine (unhide HPI _).mono ?_; rintro e w' ⟨rfl, hw'⟩; subst w')
        clear hcl' HPI
        as_aux_lemma =>
          go_loopw [13, 14] (fun u j wr => ∃ q : Nat, q ≤ ks.length ∧ j = .int .i64 (q : Int) ∧ u = .bool ((ks.take q).any fun x => x == (z : Int)) ∧ wr = wo) (fun _ j _ => ks.length - (intOf j).toNat)
          case atStart => exact ⟨0, by omega, rfl, rfl, rfl⟩
          case round =>
            obtain ⟨q, hq, rfl, rfl, rfl⟩ := hrel
            by_cases hql : q < ks.length
            · obtain ⟨g, hpv, -, hcq⟩ := row_cell (unhide HF).2.2.1 q hql
              subst hpv
              have hst := any_take ks (z : Int) q hql
              generalize ks.getD q 0 = kq at *
              have HST := hide hst
              clear hst
              have i1 : (q : Int) < (ks.length : Int) := by omega
              have i2 : (0 : Int) ≤ (q : Int) := by omega
              generalize ks.length = kn at *
              cases hb : (ks.take q).any (fun x => x == (z : Int)) with
              | true =>
                have HE := hide (show (ks.take (q + 1)).any (fun x => x == (z : Int)) = true from by rw [unhide HST, hb]; rfl)
                clear hb HST
                go_wp2
                go_roundw
                case rel => exact ⟨q + 1, by omega, by go_num, by rw [unhide HE], by first | rfl | trivial⟩
                case measure => simp [intOf]; omega
              | false =>
                by_cases hc : kq = (z : Int)
                · have hcb : (kq == (z : Int)) = true := by simp [hc]
                  have HE := hide (show (ks.take (q + 1)).any (fun x => x == (z : Int)) = true from by rw [unhide HST, hb, hcb]; rfl)
                  clear hb HST hc
                  go_wp2
                  go_roundw
                  case rel => exact ⟨q + 1, by omega, by go_num, by rw [unhide HE], by first | rfl | trivial⟩
                  case measure => simp [intOf]; omega
                · have hcb : (kq == (z : Int)) = false := by simp [hc]
                  have HE := hide (show (ks.take (q + 1)).any (fun x => x == (z : Int)) = false from by rw [unhide HST, hb, hcb]; rfl)
                  clear hb HST hc
                  go_wp2
                  go_roundw
                  case rel => exact ⟨q + 1, by omega, by go_num, by rw [unhide HE], by first | rfl | trivial⟩
                  case measure => simp [intOf]; omega
            · have hqe : ks.take q = ks := List.take_of_length_le (by omega)
              rw [hqe, any_mem]
              have i1 : ¬ (q : Int) < (ks.length : Int) := by omega
              have HBY := hide (bytes6_any ⟨#[97]⟩ wr)
              have hts : (bytesB ⟨#[97]⟩).size = 256 := bytes1_size _ rfl
              generalize bytesB ⟨#[97]⟩ = t at *
              clear hqe hql hq
              go_wp2_with fail
              refine (unhide HBY).mono ?_
              rintro e y ⟨rfl, hby⟩
              obtain ⟨K, F, hrow, hcov⟩ := unhide HF
              have K2 := K.below hby
              have hrow2 := owns_only hrow (Only.of_below (P := fun _ => False) hby) (fun _ _ q => q)
              have HWR := hide (pwrite_any K2 (z : Int) t (by rw [hts]; decide))
              obtain ⟨a1, a2⟩ := F.write K.srt z hz19 hz128 t hts (.inr hks)
              rw [a1] at HWR
              have HS := hide (And.intro a2 (And.intro hrow2 hcov))
              clear K F hrow hcov K2 hrow2 a1 a2 hby HBY HF
              generalize writeP S (z : Int) t = S2 at *
              by_cases hm : (z : Int) ∈ ks
              · have hdm : decide ((z : Int) ∈ ks) = true := by simpa using hm
                rw [hdm]
                have HM := hide hm
                clear hm hdm
                go_wp2_with fail
                refine (unhide HWR).mono ?_
                rintro e y2 ⟨rfl, K3, hO3⟩
                have HRR := hide (show FuI w b jb pb l ks (k + 1) (.slice pv ks.length cv) y2 from by
                  obtain ⟨a2, hrow2, hcov⟩ := unhide HS
                  rw [if_pos (unhide HM)] at a2
                  refine ⟨S2, _, K3, a2, owns_only hrow2 hO3 (fun x hx q => q hx), by omega, fun j j1 j2 => ?_⟩
                  by_cases hjk : j = k
                  · rcases unhide HZC with q | q
                    · omega
                    · rw [hjk, q]; exact unhide HM
                  · exact hcov j j1 (by omega))
                clear K3 hO3 HWR HS
                go_wp2
                go_roundw
                case rel => exact ⟨k + 1, ks, by go_num, by omega, unhide HRR⟩
                case measure => simp [intOf]; omega
              · have hdm : decide ((z : Int) ∈ ks) = false := by simpa using hm
                rw [hdm]
                have HM := hide hm
                clear hm hdm
                go_wp2_with fail
                refine (unhide HWR).mono ?_
                rintro e y2 ⟨rfl, K3, hO3⟩
                have hrow3 : y2.ownsRow w.heap.size 3 1 (.slice pv ks.length cv) ks.length (ks.map encZ) := owns_only (unhide HS).2.1 hO3 (fun x hx q => q hx)
                have HRA := hide (show (y2.alloc (.cells #[.int .i64 (z : Int)] 3)).ownsRow w.heap.size 3 1 (.slice pv ks.length cv) ks.length (ks.map encZ) from hrow3.alloc _)
                have hbs := K3.bel.size
                have HXS := hide (show w.heap.size ≤ (y2.alloc (.cells #[.int .i64 (z : Int)] 3)).heap.size from by simp; omega)
                have HK3 := hide K3
                clear K3 hO3 hrow3 hbs HWR
                go_wp2_with (refine wpList_append_lies _ rfl (.tmp 81) (.tmp 83) 22 rfl w.heap.size 3 i0 (.int .i64 0) 1 8 Tryz.underlying22 (unhide HI).1 (unhide HI).2.1 (unhide HI).2.2.1 (unhide HI).2.2.2 rfl (by decide) _ ks.length (ks.map encZ) rfl (unhide HRA) ⟨y2.heap.size, 0, none⟩ 1 1 [.int .i64 (z : Int)] rfl rfl (fun q u hu => news_one y2 3 _ q u hu) (by simp [Value.oneCell']) (by decide) (by unfold maxLen; omega) (by omega) (unhide HXS) _ rfl ?_)
                intro g5 cap5 y5 ho5 hg5 hl5 hlt5
                have HRR := hide (show FuI w b jb pb l (ks ++ [(z : Int)]) (k + 1) (.slice (some ⟨g5, 0, none⟩) (ks.length + 1) cap5) y5 from by
                  obtain ⟨a2, hrow2, hcov⟩ := unhide HS
                  rw [if_neg (unhide HM)] at a2
                  have hb4 : Below y2.heap.size y2 (y2.alloc (.cells #[.int .i64 (z : Int)] 3)) := (Below.refl _ _).alloc (Nat.le_refl _) _
                  have K4 := (unhide HK3).below hb4
                  have hO5 : Only (fun q => (Value.slice pv ks.length cv).ownBlock = some q) (y2.alloc (.cells #[.int .i64 (z : Int)] 3)) y5 := (Only.refl _ _).grown hg5 (fun q _ e => e)
                  refine ⟨S2, _, K4.poke hO5 (fun x q _ => q) (fun x q => (row_lt (unhide HRA) q).2) (fun x hx => ?_), a2, by simpa using ho5, by simp; omega, fun j j1 j2 => ?_⟩
                  · obtain rfl : g5 = x := by simpa [Value.ownBlock] using hx
                    rcases hl5 with q | q
                    · exact .inl q
                    · exact .inr ⟨by rw [q]; simp, hlt5⟩
                  · by_cases hjk : j = k
                    · rcases unhide HZC with q | q
                      · omega
                      · rw [hjk, q]; simp
                    · exact List.mem_append_left _ (hcov j j1 (by omega)))
                clear ho5 hg5 hl5 hlt5 HRA HS HK3
                go_wp2
                go_roundw
                case rel => exact ⟨k + 1, ks ++ [(z : Int)], by go_num, by omega, unhide HRR⟩
                case measure => simp [intOf]; omega
      · have e2 : ¬ (k : Int) < (n : Int) := by omega
        obtain ⟨z, hzz⟩ : ∃ z : Nat, (19 : Int) + (r : Int) = (z : Int) ∧ 19 ≤ z ∧ z < 128 := ⟨19 + r, by omega, by omega, by omega⟩
        have hz19 := hzz.2.1
        have hz128 := hzz.2.2
        have hzr := hzz.1
        have HZC := hide (show k < l.length ∨ 19 + ((k % 109 : Nat) : Int) = (z : Int) from .inr (by have := unhide HR; omega))
        clear hzz
        go_wp2_with fail
        as_aux_lemma =>
          go_loopw [13, 14] (fun u j wr => ∃ q : Nat, q ≤ ks.length ∧ j = .int .i64 (q : Int) ∧ u = .bool ((ks.take q).any fun x => x == (z : Int)) ∧ wr = wo) (fun _ j _ => ks.length - (intOf j).toNat)
          case atStart => exact ⟨0, by omega, rfl, rfl, rfl⟩
          case round =>
            obtain ⟨q, hq, rfl, rfl, rfl⟩ := hrel
            by_cases hql : q < ks.length
            · obtain ⟨g, hpv, -, hcq⟩ := row_cell (unhide HF).2.2.1 q hql
              subst hpv
              have hst := any_take ks (z : Int) q hql
              generalize ks.getD q 0 = kq at *
              have HST := hide hst
              clear hst
              have i1 : (q : Int) < (ks.length : Int) := by omega
              have i2 : (0 : Int) ≤ (q : Int) := by omega
              generalize ks.length = kn at *
              cases hb : (ks.take q).any (fun x => x == (z : Int)) with
              | true =>
                have HE := hide (show (ks.take (q + 1)).any (fun x => x == (z : Int)) = true from by rw [unhide HST, hb]; rfl)
                clear hb HST
                go_wp2
                go_roundw
                case rel => exact ⟨q + 1, by omega, by go_num, by rw [unhide HE], by first | rfl | trivial⟩
                case measure => simp [intOf]; omega
              | false =>
                by_cases hc : kq = (z : Int)
                · have hcb : (kq == (z : Int)) = true := by simp [hc]
                  have HE := hide (show (ks.take (q + 1)).any (fun x => x == (z : Int)) = true from by rw [unhide HST, hb, hcb]; rfl)
                  clear hb HST hc
                  go_wp2
                  go_roundw
                  case rel => exact ⟨q + 1, by omega, by go_num, by rw [unhide HE], by first | rfl | trivial⟩
                  case measure => simp [intOf]; omega
                · have hcb : (kq == (z : Int)) = false := by simp [hc]
                  have HE := hide (show (ks.take (q + 1)).any (fun x => x == (z : Int)) = false from by rw [unhide HST, hb, hcb]; rfl)
                  clear hb HST hc
                  go_wp2
                  go_roundw
                  case rel => exact ⟨q + 1, by omega, by go_num, by rw [unhide HE], by first | rfl | trivial⟩
                  case measure => simp [intOf]; omega
            · have hqe : ks.take q = ks := List.take_of_length_le (by omega)
              rw [hqe, any_mem]
              have i1 : ¬ (q : Int) < (ks.length : Int) := by omega
              have HBY := hide (bytes6_any ⟨#[97]⟩ wr)
              have hts : (bytesB ⟨#[97]⟩).size = 256 := bytes1_size _ rfl
              generalize bytesB ⟨#[97]⟩ = t at *
              clear hqe hql hq
              go_wp2_with fail
              refine (unhide HBY).mono ?_
              rintro e y ⟨rfl, hby⟩
              obtain ⟨K, F, hrow, hcov⟩ := unhide HF
              have K2 := K.below hby
              have hrow2 := owns_only hrow (Only.of_below (P := fun _ => False) hby) (fun _ _ q => q)
              have HWR := hide (pwrite_any K2 (z : Int) t (by rw [hts]; decide))
              obtain ⟨a1, a2⟩ := F.write K.srt z hz19 hz128 t hts (.inr hks)
              rw [a1] at HWR
              have HS := hide (And.intro a2 (And.intro hrow2 hcov))
              clear K F hrow hcov K2 hrow2 a1 a2 hby HBY HF
              generalize writeP S (z : Int) t = S2 at *
              by_cases hm : (z : Int) ∈ ks
              · have hdm : decide ((z : Int) ∈ ks) = true := by simpa using hm
                rw [hdm]
                have HM := hide hm
                clear hm hdm
                go_wp2_with fail
                refine (unhide HWR).mono ?_
                rintro e y2 ⟨rfl, K3, hO3⟩
                have HRR := hide (show FuI w b jb pb l ks (k + 1) (.slice pv ks.length cv) y2 from by
                  obtain ⟨a2, hrow2, hcov⟩ := unhide HS
                  rw [if_pos (unhide HM)] at a2
                  refine ⟨S2, _, K3, a2, owns_only hrow2 hO3 (fun x hx q => q hx), by omega, fun j j1 j2 => ?_⟩
                  by_cases hjk : j = k
                  · rcases unhide HZC with q | q
                    · omega
                    · rw [hjk, q]; exact unhide HM
                  · exact hcov j j1 (by omega))
                clear K3 hO3 HWR HS
                go_wp2
                go_roundw
                case rel => exact ⟨k + 1, ks, by go_num, by omega, unhide HRR⟩
                case measure => simp [intOf]; omega
              · have hdm : decide ((z : Int) ∈ ks) = false := by simpa using hm
                rw [hdm]
                have HM := hide hm
                clear hm hdm
                go_wp2_with fail
                refine (unhide HWR).mono ?_
                rintro e y2 ⟨rfl, K3, hO3⟩
                have hrow3 : y2.ownsRow w.heap.size 3 1 (.slice pv ks.length cv) ks.length (ks.map encZ) := owns_only (unhide HS).2.1 hO3 (fun x hx q => q hx)
                have HRA := hide (show (y2.alloc (.cells #[.int .i64 (z : Int)] 3)).ownsRow w.heap.size 3 1 (.slice pv ks.length cv) ks.length (ks.map encZ) from hrow3.alloc _)
                have hbs := K3.bel.size
                have HXS := hide (show w.heap.size ≤ (y2.alloc (.cells #[.int .i64 (z : Int)] 3)).heap.size from by simp; omega)
                have HK3 := hide K3
                clear K3 hO3 hrow3 hbs HWR
                go_wp2_with (refine wpList_append_lies _ rfl (.tmp 81) (.tmp 83) 22 rfl w.heap.size 3 i0 (.int .i64 0) 1 8 Tryz.underlying22 (unhide HI).1 (unhide HI).2.1 (unhide HI).2.2.1 (unhide HI).2.2.2 rfl (by decide) _ ks.length (ks.map encZ) rfl (unhide HRA) ⟨y2.heap.size, 0, none⟩ 1 1 [.int .i64 (z : Int)] rfl rfl (fun q u hu => news_one y2 3 _ q u hu) (by simp [Value.oneCell']) (by decide) (by unfold maxLen; omega) (by omega) (unhide HXS) _ rfl ?_)
                intro g5 cap5 y5 ho5 hg5 hl5 hlt5
                have HRR := hide (show FuI w b jb pb l (ks ++ [(z : Int)]) (k + 1) (.slice (some ⟨g5, 0, none⟩) (ks.length + 1) cap5) y5 from by
                  obtain ⟨a2, hrow2, hcov⟩ := unhide HS
                  rw [if_neg (unhide HM)] at a2
                  have hb4 : Below y2.heap.size y2 (y2.alloc (.cells #[.int .i64 (z : Int)] 3)) := (Below.refl _ _).alloc (Nat.le_refl _) _
                  have K4 := (unhide HK3).below hb4
                  have hO5 : Only (fun q => (Value.slice pv ks.length cv).ownBlock = some q) (y2.alloc (.cells #[.int .i64 (z : Int)] 3)) y5 := (Only.refl _ _).grown hg5 (fun q _ e => e)
                  refine ⟨S2, _, K4.poke hO5 (fun x q _ => q) (fun x q => (row_lt (unhide HRA) q).2) (fun x hx => ?_), a2, by simpa using ho5, by simp; omega, fun j j1 j2 => ?_⟩
                  · obtain rfl : g5 = x := by simpa [Value.ownBlock] using hx
                    rcases hl5 with q | q
                    · exact .inl q
                    · exact .inr ⟨by rw [q]; simp, hlt5⟩
                  · by_cases hjk : j = k
                    · rcases unhide HZC with q | q
                      · omega
                      · rw [hjk, q]; simp
                    · exact List.mem_append_left _ (hcov j j1 (by omega)))
                clear ho5 hg5 hl5 hlt5 HRA HS HK3
                go_wp2
                go_roundw
                case rel => exact ⟨k + 1, ks ++ [(z : Int)], by go_num, by omega, unhide HRR⟩
                case measure => simp [intOf]; omega
    · have e1 : ¬ (ks.length : Int) < 16 := by omega
      have hk16 : ks.length = 16 := by omega
      rw [hk16] at hrow hcv e1 K ⊢
      have HPI := hide (fun W => pick6_any x1 109 (by decide) (unhide HX12).1 109 rfl W)
      have ho0 := pickP_lt x1 109 (by decide)
      generalize pickP x1 109 = o0 at *
      have HF := hide (And.intro K (And.intro F (And.intro hrow hk16)))
      have HPG := hide (fun (t : Nat) (h : ∀ s, s < t → 19 + (((o0 + s) % 109 : Nat) : Int) ∈ ks) (ht : t ≤ 109) => show t ≤ 16 from by
        have := nodup_sub (rotL o0 t) ks (rotL_nodup _ _ ht) (fun x hx => by
          obtain ⟨s, hs, rfl⟩ := List.mem_map.1 hx
          exact h s (List.mem_range.1 hs))
        rw [rotL_len, hk16] at this
        exact this)
      have hoz : (19 : Int) + (o0 : Int) = 19 + (((o0 + 0) % 109 : Nat) : Int) := by omega
      have HOZ := hide hoz
      clear K F hrow hcov hks h16 hoz hk16 hkn
      go_wp2_with (go_at_call 10; refine (unhide HPI _).mono ?_; rintro e w' ⟨rfl, hw'⟩; subst w')
      rw [unhide HOZ]
      clear HPI HOZ
      go_loopw [16, 17] (fun o u wr => ∃ t : Nat, t ≤ 16 ∧ o = .int .i64 (19 + (((o0 + t) % 109 : Nat) : Int)) ∧ (∀ s, s < t → 19 + (((o0 + s) % 109 : Nat) : Int) ∈ ks) ∧ (u = .bool true ∨ (u = .bool false ∧ 19 + (((o0 + t) % 109 : Nat) : Int) ∉ ks)) ∧ wr = wo) (fun o u _ => 2 * (17 - ((intOf o - 19 - (o0 : Int)) % 109).toNat) + (if (match u with | .bool b => b | _ => false) = true then 1 else 0))
      case atStart => exact ⟨0, by omega, rfl, fun s hs => by omega, .inl rfl, rfl⟩
      case round =>
        obtain ⟨t, ht, rfl, hall, hu, rfl⟩ := hrel
        have hsm : ((19 + (((o0 + t) % 109 : Nat) : Int)) - 19 - (o0 : Int)) % 109 = (t : Int) := by omega
        obtain ⟨z, hz1⟩ : ∃ z : Nat, 19 + (((o0 + t) % 109 : Nat) : Int) = (z : Int) := ⟨19 + (o0 + t) % 109, by omega⟩
        have hz2 : 19 ≤ z ∧ z < 128 := by omega
        have HZ := hide (And.intro hsm (And.intro hz1 (And.intro hall hz2)))
        rw [hz1] at hu ⊢
        clear hsm hz1 hall hz2
        rcases hu with rfl | ⟨rfl, hnot⟩
        · go_wp2_with fail
          go_loopw [17, 18] (fun u j wr' => ∃ q : Nat, q ≤ 16 ∧ j = .int .i64 (q : Int) ∧ u = .bool ((ks.take q).any fun x => x == (z : Int)) ∧ wr' = wr) (fun _ j _ => 16 - (intOf j).toNat)
          case atStart => exact ⟨0, by omega, rfl, rfl, rfl⟩
          case round =>
            obtain ⟨q, hq, rfl, rfl, rfl⟩ := hrel
            by_cases hql : q < 16
            · obtain ⟨g, hpv, -, hcq⟩ := row_cell (ks := ks) (n := 16) (by rw [(unhide HF).2.2.2]; exact (unhide HF).2.2.1) q (by rw [(unhide HF).2.2.2]; exact hql)
              subst hpv
              have hst := any_take ks (z : Int) q (by rw [(unhide HF).2.2.2]; exact hql)
              generalize ks.getD q 0 = kq at *
              have HST := hide hst
              clear hst
              have i1 : (q : Int) < 16 := by omega
              have i2 : (0 : Int) ≤ (q : Int) := by omega
              cases hb : (ks.take q).any (fun x => x == (z : Int)) with
              | true =>
                have HE := hide (show (ks.take (q + 1)).any (fun x => x == (z : Int)) = true from by rw [unhide HST, hb]; rfl)
                clear hb HST
                go_wp2
                go_roundw
                case rel => exact ⟨q + 1, by omega, by go_num, by rw [unhide HE], by first | rfl | trivial⟩
                case measure => simp [intOf]; omega
              | false =>
                by_cases hc : kq = (z : Int)
                · have hcb : (kq == (z : Int)) = true := by simp [hc]
                  have HE := hide (show (ks.take (q + 1)).any (fun x => x == (z : Int)) = true from by rw [unhide HST, hb, hcb]; rfl)
                  clear hb HST hc
                  go_wp2
                  go_roundw
                  case rel => exact ⟨q + 1, by omega, by go_num, by rw [unhide HE], by first | rfl | trivial⟩
                  case measure => simp [intOf]; omega
                · have hcb : (kq == (z : Int)) = false := by simp [hc]
                  have HE := hide (show (ks.take (q + 1)).any (fun x => x == (z : Int)) = false from by rw [unhide HST, hb, hcb]; rfl)
                  clear hb HST hc
                  go_wp2
                  go_roundw
                  case rel => exact ⟨q + 1, by omega, by go_num, by rw [unhide HE], by first | rfl | trivial⟩
                  case measure => simp [intOf]; omega
            · have hqe : ks.take q = ks := List.take_of_length_le (by have := (unhide HF).2.2.2; omega)
              rw [hqe, any_mem]
              have i1 : ¬ (q : Int) < 16 := by omega
              by_cases hm : (z : Int) ∈ ks
              · have hdm : decide ((z : Int) ∈ ks) = true := by simpa using hm
                rw [hdm]
                have HA2 := hide (show ∀ s, s < t + 1 → 19 + (((o0 + s) % 109 : Nat) : Int) ∈ ks from fun s hs => by
                  by_cases e : s = t
                  · rw [e, (unhide HZ).2.1]; exact hm
                  · exact (unhide HZ).2.2.1 s (by omega))
                have ht1 : t + 1 ≤ 16 := unhide HPG (t + 1) (unhide HA2) (by omega)
                have hz128 := (unhide HZ).2.2.2.2
                clear hm hdm hqe
                by_cases h127 : z = 127
                · have e9 : 19 + (((o0 + (t + 1)) % 109 : Nat) : Int) = 19 := by have := (unhide HZ).2.1; omega
                  have HE9 := hide e9
                  have HOM := hide (show ((19 : Int) - 19 - (o0 : Int)) % 109 = ((t + 1 : Nat) : Int) from by have := (unhide HZ).2.1; omega)
                  subst h127
                  clear e9
                  go_wp2
                  go_roundw
                  case rel => exact ⟨t + 1, ht1, by rw [unhide HE9], unhide HA2, .inl rfl, by first | rfl | trivial⟩
                  case measure =>
                    have h1 := unhide HOM
                    have h2 := (unhide HZ).1
                    rw [(unhide HZ).2.1] at h2
                    simp only [intOf]
                    rw [h1, h2]
                    simp
                    omega
                · have e9 : 19 + (((o0 + (t + 1)) % 109 : Nat) : Int) = (z : Int) + 1 := by have := (unhide HZ).2.1; omega
                  have HE9 := hide e9
                  have HOM := hide (show ((z : Int) + 1 - 19 - (o0 : Int)) % 109 = ((t + 1 : Nat) : Int) from by have := (unhide HZ).2.1; omega)
                  have e10 : ¬ (127 : Int) < (z : Int) + 1 := by omega
                  clear e9
                  go_wp2
                  go_roundw
                  case rel => exact ⟨t + 1, ht1, by rw [unhide HE9], unhide HA2, .inl rfl, by first | rfl | trivial⟩
                  case measure =>
                    have h1 := unhide HOM
                    have h2 := (unhide HZ).1
                    rw [(unhide HZ).2.1] at h2
                    simp only [intOf]
                    rw [h1, h2]
                    simp
                    omega
              · have hdm : decide ((z : Int) ∈ ks) = false := by simpa using hm
                rw [hdm]
                have HM := hide hm
                clear hm hdm hqe
                go_wp2
                go_roundw
                case rel => exact ⟨t, ht, by rw [(unhide HZ).2.1], (unhide HZ).2.2.1, .inr ⟨rfl, by rw [(unhide HZ).2.1]; exact unhide HM⟩, by first | rfl | trivial⟩
                case measure =>
                  have h2 := (unhide HZ).1
                  rw [(unhide HZ).2.1] at h2
                  simp only [intOf]
                  rw [h2]
                  simp
        · as_aux_lemma =>
            have hz19 := (unhide HZ).2.2.2.1
            have hz128 := (unhide HZ).2.2.2.2
            have HNO := hide hnot
            clear hnot HZ HPG
            have HBY := hide (bytes6_any ⟨#[98]⟩ wr)
            have hts : (bytesB ⟨#[98]⟩).size = 256 := bytes1_size _ rfl
            generalize bytesB ⟨#[98]⟩ = tb at *
            go_wp2_with fail
            refine (unhide HBY).mono ?_
            rintro e a1 ⟨rfl, hb1⟩
            obtain ⟨K, F, hrow, hk16⟩ := unhide HF
            have hF62 := F.seen.full F.op z hz19 hz128 tb hts (by
              unfold roomB
              rw [Bool.or_eq_false_iff]
              refine ⟨?_, by have := F.len; simp; omega⟩
              cases hq : (txAt S.tx (z : Int)).isSome with
              | false => rfl
              | true => exact absurd ((F.tx _).1 hq) (unhide HNO))
            have HWR := hide (pwrite_any (K.below hb1) (z : Int) tb (by rw [hts]; decide))
            rw [hF62.1, hF62.2.1] at HWR
            have hrow1 := owns_only hrow (Only.of_below (P := fun _ => False) hb1) (fun _ _ q => q)
            have H1 := hide (And.intro F (And.intro hrow1 hk16))
            clear K F hrow hk16 hF62 hrow1 hb1 HBY HF hts
            go_wp2_with fail
            refine (unhide HWR).mono ?_
            rintro e a2 ⟨rfl, K2, hO2⟩
            have hrow2 := owns_only (unhide H1).2.1 hO2 (fun x hx q => q hx)
            have HPI := hide (fun W => pick6_any x2 16 (by decide) (unhide HX12).2 16 rfl W)
            have hpq := pickP_lt x2 16 (by decide)
            generalize pickP x2 16 = pq at *
            obtain ⟨g, hpv, -, hcq⟩ := row_cell (ks := ks) (n := 16) (by rw [(unhide H1).2.2]; exact hrow2) pq (by rw [(unhide H1).2.2]; exact hpq)
            subst hpv
            have hmem : ks.getD pq 0 ∈ ks := by
              have hl : pq < ks.length := by rw [(unhide H1).2.2]; exact hpq
              rw [List.getD_eq_getElem?_getD, List.getElem?_eq_getElem hl]
              exact List.getElem_mem hl
            obtain ⟨kz, hkz⟩ : ∃ kz : Nat, ks.getD pq 0 = (kz : Int) ∧ 19 ≤ kz ∧ kz < 128 := by
              have := (unhide H1).1.rng _ hmem
              exact ⟨(ks.getD pq 0).toNat, by omega, by omega, by omega⟩
            rw [hkz.1] at hcq hmem
            have hkz19 := hkz.2.1
            have hkz128 := hkz.2.2
            have HK2 := hide (And.intro K2 (And.intro hrow2 hmem))
            have i1 : (pq : Int) < 16 := by omega
            have i2 : (0 : Int) ≤ (pq : Int) := by omega
            clear K2 hO2 hrow2 hmem HWR hkz
            have HBY := hide (bytes6_any ⟨#[99]⟩ a2)
            have hts : (bytesB ⟨#[99]⟩).size = 256 := bytes1_size _ rfl
            have HTC := hide (fun W => bytes6_any ⟨#[99]⟩ W)
            generalize bytesB ⟨#[99]⟩ = tc at *
            go_wp2_with (go_at_call 10; refine (unhide HPI _).mono ?_; rintro e w' ⟨rfl, hw'⟩; subst w')
            refine (unhide HBY).mono ?_
            rintro e a3 ⟨rfl, hb3⟩
            obtain ⟨K2, hrow2, hmem⟩ := unhide HK2
            obtain ⟨f1, f2⟩ := (unhide H1).1.write K2.srt kz hkz19 hkz128 tc hts (.inl hmem)
            rw [if_pos hmem] at f2
            have HWR := hide (pwrite_any (K2.below hb3) (kz : Int) tc (by rw [hts]; decide))
            rw [f1] at HWR
            have H2 := hide f2
            clear K2 hrow2 hb3 HBY HPI f1 f2 HK2 hcq
            generalize writeP S (kz : Int) tc = S3 at *
            go_wp2_with fail
            refine (unhide HWR).mono ?_
            rintro e a4 ⟨rfl, K4, -⟩
            have HDI := hide K4.dirty
            have hl16 : (S3.tx.map (·.1)).length = 16 := by rw [List.length_map, (unhide H2).len, (unhide H1).2.2]
            rw [hl16] at HDI
            have HK4 := hide K4
            clear K4 HWR hl16
            go_wp2_with fail
            refine (unhide HDI).mono ?_
            rintro e a5 ⟨dv, rfl, hdr, hb5⟩
            obtain ⟨pd, cd, rfl, _⟩ := row_form hdr
            have K5 := (unhide HK4).below hb5
            have HCO := hide (pcommit_any K5 (by rw [(unhide H2).seen.rst.nx]; decide) (by rw [(unhide H2).seen.rst.s]; exact Nat.zero_le _) (by rw [(unhide H2).seen.rst.s]; show A0.length ≤ _; decide))
            have htok : ∀ p ∈ S3.tx, 19 ≤ p.1 ∧ p.1 < 128 ∧ p.2.size = 256 := by
              obtain ⟨bw, bv, ov, Ki⟩ := K5
              intro p hp
              have := Ki.tok p hp
              rw [(unhide H2).seen.rst.s, show (rs L0 A0).last.length = 128 from L0_len] at this
              exact this
            obtain ⟨s1, s2, _⟩ := (unhide H2).seen.commit (unhide H2).op K5.srt (by rw [(unhide H2).len, (unhide H1).2.2]; exact Nat.le_refl _) htok
            rw [s1] at HCO
            have hvz : (Mn.set kz tc).getD z ByteArray.empty = zero256 := (unhide H2).zer z hz19 hz128 (unhide HNO)
            have hvk : (Mn.set kz tc).getD kz ByteArray.empty = tc := getD_set_same _ _ _ (by rw [(unhide H1).1.seen.ln]; exact hkz128)
            have H3 := hide (And.intro s2 (And.intro hvz hvk))
            clear K5 hb5 hdr htok s1 s2 hvz hvk HDI HK4
            generalize comL L0 ((0 + 1) % 4294967296) S3.tx = L5 at *
            generalize A0 ++ comA S3.tx = A5 at *
            generalize (0 + 1) % 4294967296 = h5 at *
            generalize commitPS S3 = S5 at *
            go_wp2_with fail
            refine (unhide HCO).mono ?_
            rintro e a6 ⟨rfl, K6, -⟩
            obtain ⟨s2, hvz, hvk⟩ := unhide H3
            obtain ⟨r1, r2, r3, _, _⟩ := s2.read z hz19 hz128
            have HRD := hide (pread_any K6 (z : Int) (readT_rest s2.rst z (by rw [s2.len]; exact hz128) s2.siz))
            rw [r1, r2, hvz] at HRD
            have H4 := hide (And.intro r3 hvk)
            clear K6 s2 hvz hvk r1 r2 r3 HCO H3
            generalize (readP S5 (z : Int)).2.2 = S6 at *
            go_wp2_with fail
            refine (unhide HRD).mono ?_
            rintro e a7 ⟨rfl, K7, -⟩
            obtain ⟨r3, hvk⟩ := unhide H4
            obtain ⟨q1, q2, _, _, _⟩ := r3.read kz hkz19 hkz128
            have HRE := hide (pread_any K7 (kz : Int) (readT_rest r3.rst kz (by rw [r3.len]; exact hkz128) r3.siz))
            rw [q1, q2, hvk] at HRE
            clear K7 r3 hvk q1 q2 HRD H4
            go_wp2_with fail
            refine (unhide HRE).mono ?_
            rintro e a8 ⟨rfl, K8, -⟩
            have HB8 := hide K8.bel
            have HZB := hide (bytes6_any ⟨#[0]⟩ a8)
            rw [zero_rep] at HZB
            clear K8 HRE
            generalize zero256 = zz at *
            have hee : (zz.toList == zz.toList) = true := by simp
            have hec : (tc.toList == tc.toList) = true := by simp
            go_wp2_with fail
            refine (unhide HZB).mono ?_
            rintro e a9 ⟨rfl, hb9⟩
            have HB9 := hide ((unhide HB8).trans (hb9.mono (unhide HB8).size))
            have HTD := hide (unhide HTC a9)
            clear hb9 HZB HB8
            go_wp2_with fail
            refine (unhide HTD).mono ?_
            rintro e a10 ⟨rfl, hb10⟩
            have HB10 := hide ((unhide HB9).trans (hb10.mono (unhide HB9).size))
            clear hb10 HTD HB9
            go_wp2
            go_ret
            exact ⟨rfl, unhide HB10⟩
end Go.Proofs.YtnkaooafenakdaaGreatDoor
