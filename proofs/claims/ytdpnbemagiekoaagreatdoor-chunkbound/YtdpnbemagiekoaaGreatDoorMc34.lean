import Derived.Test.YtdpnbemagiekoaaGreatDoorMc33
import Derived.Test.YtdpnbemagiekoaaGreatDoorMc18
namespace Go.Proofs.YtdpnbemagiekoaaGreatDoor
open Go.RowKit Go.Maps Go.Sort Go.Shelf
/-- A disk with a clear journal on which so many sectors were written. -/
def aT (P : List (Nat × ByteArray)) : List (Nat × Nat) := A0 ++ P.map (fun p => (0, p.1))
theorem aT_len (P : List (Nat × ByteArray)) : (aT P).length = 2 + P.length := by rw [aT, List.length_append, List.length_map]; rfl
def layT (P : List (Nat × ByteArray)) : DSt := ⟨L0, layP L0 P, P, aT P, 0, false⟩
theorem layT_write (P : List (Nat × ByteArray)) (j : Nat) (t : ByteArray) (h : j < 128) (ht : t.size = 256) : writeE (layT P) (j : Int) t = 0 ∧ writeS (layT P) (j : Int) t = layT (P ++ [(j, t)]) := by
  obtain ⟨h1, h2⟩ := writeA (s := layT P) ⟨rfl, rfl⟩ j (by show j < L0.length; rw [L0_len]; exact h) _ ht
  refine ⟨h1, ?_⟩
  rw [h2]
  unfold layT aT
  simp only
  rw [layP_app, List.map_append, List.append_assoc]
  rfl
theorem layT_flush (P : List (Nat × ByteArray)) : flushE (layT P) = 0 ∧ flushS (layT P) = rs (layP L0 P) (aT P ++ [(1, 0)]) := by
  obtain ⟨h1, h2⟩ := flushA (s := layT P) ⟨rfl, rfl⟩
  exact ⟨h1, by rw [h2]; rfl⟩
theorem DF.write {w0 w : World} {b : Nat} {s : DSt} {X : Nat → Prop} (h : DF w0 w b s X) (hp : s.pend.length ≤ 1000000000) (ha : s.acts.length ≤ 1000000000) (i : Int) (t : ByteArray) :
    Calls Tryz.prog 40 #[.pointer (some ⟨b, 0, none⟩), .int .i64 i, .string t] w fun e w' => e = .returned (.int .i64 (writeE s i t)) ∧ DF w0 w' b (writeS s i t) X ∧ Only (fun x => ¬ X x) w w' := by
  obtain ⟨v, h1, h2, h3, h4⟩ := h
  refine (write_any w _ b v s h1 h2.size h3 hp ha i t).mono ?_
  rintro e w' ⟨rfl, hP⟩
  exact ⟨rfl, DF.dpost h1 h2 (h3.write i t) h4 hP⟩
theorem pr9_pair (a : Nat) (l : List ByteArray) (m : Nat) : (prN a l m).Pairwise (fun x y => x.1 ≠ y.1) := by
  unfold prN
  refine List.pairwise_map.2 ((List.nodup_range (n := m)).imp (fun h => ?_))
  simp only
  omega
/-- The sectors of both. -/
def pt (l k : List ByteArray) (i j : Nat) : List (Nat × ByteArray) := prN 19 l i ++ prN 20 k j
theorem pt_len (l k : List ByteArray) (i j : Nat) : (pt l k i j).length = i + j := by rw [pt, List.length_append, prN_len, prN_len]
theorem prN_mem {a : Nat} {l : List ByteArray} {m : Nat} {p : Nat × ByteArray} (h : p ∈ prN a l m) : ∃ i, i < m ∧ p = (a + i, l.getD i ByteArray.empty) := by
  obtain ⟨i, hi, rfl⟩ := List.mem_map.1 h
  exact ⟨i, List.mem_range.1 hi, rfl⟩
theorem pt_pair (l k : List ByteArray) (j : Nat) : (pt l k 1 j).Pairwise (fun x y => x.1 ≠ y.1) := by
  refine List.pairwise_append.2 ⟨pr9_pair _ _ _, pr9_pair _ _ _, fun x hx y hy => ?_⟩
  obtain ⟨i, hi, rfl⟩ := prN_mem hx
  obtain ⟨q, hq, rfl⟩ := prN_mem hy
  simp only
  omega
theorem pt_at0 (l k : List ByteArray) (j : Nat) : (layP L0 (pt l k 1 j)).getD 19 ByteArray.empty = l.getD 0 ByteArray.empty :=
  layP_in _ _ _ _ (pt_pair l k j) (List.mem_append.2 (.inl (List.mem_map.2 ⟨0, List.mem_range.2 (by omega), rfl⟩))) (by rw [L0_len]; omega)
theorem pt_at (l k : List ByteArray) (j i : Nat) (hi : i < j) (h : 20 + j ≤ 128) : (layP L0 (pt l k 1 j)).getD (20 + i) ByteArray.empty = k.getD i ByteArray.empty :=
  layP_in _ _ _ _ (pt_pair l k j) (List.mem_append.2 (.inr (List.mem_map.2 ⟨i, List.mem_range.2 hi, rfl⟩))) (by rw [L0_len]; omega)
theorem pt_mem {l k : List ByteArray} {i j : Nat} {p : Nat × ByteArray} (h : p ∈ pt l k i j) : 19 ≤ p.1 ∧ ((∃ q, q < i ∧ p.2 = l.getD q ByteArray.empty) ∨ ∃ q, q < j ∧ p.2 = k.getD q ByteArray.empty) := by
  rcases List.mem_append.1 h with h | h
  · obtain ⟨q, hq, rfl⟩ := prN_mem h
    exact ⟨by simp only; omega, .inl ⟨q, hq, rfl⟩⟩
  · obtain ⟨q, hq, rfl⟩ := prN_mem h
    exact ⟨by simp only; omega, .inr ⟨q, hq, rfl⟩⟩
theorem pt_head (l k : List ByteArray) (i j : Nat) : (layP L0 (pt l k i j)).getD 1 ByteArray.empty = headB 0 [] := by
  rw [layP_skip _ _ _ (fun p hp => by have := (pt_mem hp).1; omega)]
  exact head0
theorem pg9_size (m i : Nat) (hm : m ≤ 1000) (hi : i < m) : ((pgZ m).getD i ByteArray.empty).size = 256 := by
  rw [pgZ_at _ _ hi]
  exact pgT_size i (by omega) zb zb_size
theorem pgI9_size (m i : Nat) (hm : m ≤ 1000) (hi : i < m) : ((pgZI m).getD i ByteArray.empty).size = 256 := by
  rw [pgZI_at _ _ hi]
  exact pgI_size i (by omega) ib0 ib0_size
set_option maxRecDepth 100000 in
set_option maxHeartbeats 2000000 in
theorem fresh9_any (n : Nat) (hn1 : 1 ≤ n) (hn2 : n ≤ 24) (w : World) (hg : ETy w) :
    Calls Tryz.prog 9 #[.int .i64 (n : Int)] w fun e w' => ∃ b jb pb xb mb sb gb L A, e = .returned (.pointer (some ⟨gb, 0, none⟩)) ∧ A.length ≤ 1000 ∧ CSt w w' b jb pb xb mb sb gb n 0 false L A 0 (fun _ => none) (fun _ => none) (fun _ => none) (fun _ => false) (fun _ => false) (fun i => L.getD (30 + i) ByteArray.empty) (fun i => L.getD (30 + i) ByteArray.empty) := by
  have HNW := hide (new128 w)
  have HQ := hide (And.intro hn1 (And.intro hn2 hg))
  have hp1 : pgs n = 1 := by unfold pgs; omega
  have hi4 : ipgs n ≤ 4 := by unfold ipgs; omega
  have HM := hide (fun W => minitial_any n hn1 (by omega) W)
  have HI := hide (fun W => iinitial_any n hn1 (by omega) W)
  rw [hp1] at HM
  obtain ⟨m, hm⟩ : ∃ q, ipgs n = q := ⟨_, rfl⟩
  rw [hm] at HI hi4
  have HMM := hide hm
  clear hg hn1 hn2 hm
  go_enter Tryz.func9, Tryz.ntmps9
  go_wp2_with fail
  refine (unhide HNW).mono ?_
  rintro e x1 ⟨b, rfl, v, h1, h5, h6⟩
  have HF := hide (format_any x1 w.heap.size b v _ h1 h5.size h6 (Nat.zero_le _) (Nat.zero_le _))
  rw [format_rs] at HF
  have H1 := hide (And.intro h1 (And.intro h5 h6))
  clear h1 h5 h6 HNW
  go_wp2_with fail
  refine (unhide HF).mono ?_
  rintro e x2 ⟨rfl, v2, k1, k2, k3⟩
  have hb2 := DI.only (unhide H1).1 (unhide H1).2.1 k2
  have hS2 : Sane (rs L0 A0) := by
    have := layR_sane [(1, headB 0 [])] _ (unhide H1).2.2
    rw [format_rs] at this
    exact this
  have X2 := hide (And.intro k1 (And.intro hb2 hS2))
  have HM' := hide (unhide HM x2)
  clear k1 k2 k3 hb2 hS2 H1 HF HM
  go_wp2_with fail
  refine (unhide HM').mono ?_
  rintro e x3 ⟨u, rfl, hU, hb3⟩
  have hU' : x3.ownsRow x2.heap.size 9 1 u (pgZ 1).length (strs (pgZ 1)) := by rw [pgZ_len]; exact hU
  obtain ⟨pv, cv, rfl, hst⟩ := Strs.ownB hU'
  have HI' := hide (unhide HI x3)
  have X3 := hide (And.intro hst hb3)
  clear hU hU' hst hb3 HI HM'
  go_wp2_with fail
  refine (unhide HI').mono ?_
  rintro e x4 ⟨u, rfl, hU, hb4⟩
  have hU' : x4.ownsRow x3.heap.size 9 1 u (pgZI m).length (strs (pgZI m)) := by rw [pgZI_len]; exact hU
  obtain ⟨pk, ck, rfl, hst⟩ := Strs.ownB hU'
  obtain ⟨g2, hg2⟩ : ∃ q, x2.heap.size = q := ⟨_, rfl⟩
  obtain ⟨g4, hg4⟩ : ∃ q, x4.heap.size = q := ⟨_, rfl⟩
  have hb24 : Below x2.heap.size x2 x4 := (unhide X3).2.trans (hb4.mono (unhide X3).2.size)
  have hm1 : 1 ≤ m := by rw [← unhide HMM]; have := (unhide HQ).1; unfold ipgs; omega
  obtain ⟨gv, ov, rfl, v2', v3', v4'⟩ := (unhide X3).1 0 (by rw [pgZ_len]; decide)
  obtain ⟨gk, ok, rfl, _, _, _⟩ := hst 0 (by rw [pgZI_len]; exact hm1)
  have HR := hide (show ((g2 ≤ gv ∧ gv < g4) ∧ x4.cell? ⟨gv, ov, none⟩ = some (.string ((pgZ 1).getD 0 ByteArray.empty))) ∧ (g2 ≤ gk ∧ gk < g4) ∧ (∀ j, j < m → x4.cell? ⟨gk, ok + j, none⟩ = some (.string ((pgZI m).getD j ByteArray.empty))) from ⟨⟨⟨by omega, by have := hb4.size; omega⟩, (hb4.cell (p := ⟨gv, ov, none⟩) v3').trans v4'⟩, ⟨by have := (unhide X3).2.size; omega, by omega⟩, fun j hj => by
      obtain ⟨g, oo, q1, q2, q3, q4⟩ := hst j (by rw [pgZI_len]; exact hj)
      cases q1
      exact q4⟩)
  have X4 := hide (show DF w x4 b (layT (pt (pgZ 1) (pgZI m) 0 0)) (fun x => g2 ≤ x ∧ x < g4) ∧ Only (fun x => ¬ (g2 ≤ x ∧ x < g4)) x4 x4 from ⟨⟨v2, (unhide X2).1.below hb24, (unhide X2).2.1.trans (hb24.mono (unhide X2).2.1.size), (unhide X2).2.2, fun x hx => ⟨fun q => by have := ((unhide X2).1.fd x q).2; omega, by omega⟩⟩, Only.refl _ _⟩)
  rw [pgZ_len, pgZI_len]
  clear hU hU' hst hb4 hb24 hg2 hg4 X2 X3 HI' v2' v3' v4' hm1
  go_wp2
  clear hp1
  go_loopw [10] (fun i wr => ∃ k : Nat, k ≤ 1 ∧ i = .int .i64 (k : Int) ∧ DF w wr b (layT (pt (pgZ 1) (pgZI m) k 0)) (fun x => g2 ≤ x ∧ x < g4) ∧ Only (fun x => ¬ (g2 ≤ x ∧ x < g4)) x4 wr) (fun i _ => 1 - (intOf i).toNat)
  case atStart => exact ⟨0, by omega, rfl, (unhide X4).1, (unhide X4).2⟩
  case round =>
    obtain ⟨k, hk, rfl, hD, hO⟩ := hrel
    obtain ⟨wo, rfl⟩ : ∃ wo, wo = wr := ⟨_, rfl⟩
    clear X4
    by_cases hkn : k < 1
    · obtain rfl : k = 0 := by omega
      obtain ⟨hgl, cg⟩ := (unhide HR).1
      have cg' : wo.cell? ⟨gv, ov, none⟩ = some (.string ((pgZ 1).getD 0 ByteArray.empty)) := (World.cell?_of_block (a := ⟨gv, ov, none⟩) (hO.2 gv (World.block_lt_of_cell? x4 _ cg) (fun q => q hgl))).trans cg
      have HWR := hide (hD.write (by show (pt (pgZ 1) (pgZI m) 0 0).length ≤ _; rw [pt_len]; decide) (by show (aT (pt (pgZ 1) (pgZI m) 0 0)).length ≤ _; rw [aT_len, pt_len]; decide) ((19 : Nat) : Int) ((pgZ 1).getD 0 ByteArray.empty))
      obtain ⟨w1, w2⟩ := layT_write (pt (pgZ 1) (pgZI m) 0 0) 19 ((pgZ 1).getD 0 ByteArray.empty) (by omega) (pg9_size 1 0 (by omega) (by omega))
      rw [w1, w2, show pt (pgZ 1) (pgZI m) 0 0 ++ [(19, (pgZ 1).getD 0 ByteArray.empty)] = pt (pgZ 1) (pgZI m) 1 0 from rfl] at HWR
      have HO := hide hO
      simp only [Int.cast_ofNat_Int] at HWR
      clear hD w1 w2 cg hO hgl
      generalize (pgZ 1).getD 0 ByteArray.empty = t at cg' HWR
      go_wp2_with (go_at_call 40; refine (unhide HWR).mono ?_; rintro e y1 ⟨rfl, hD1, hO1⟩)
      go_roundw
      case rel => exact ⟨1, by omega, rfl, hD1, (unhide HO).trans hO1 (fun _ _ q => q)⟩
      case measure => simp [intOf]
    · have hk1 : k = 1 := by omega
      have hkn' : ¬ (k : Int) < 1 := by omega
      have Y0 := hide (show DF w wo b (layT (pt (pgZ 1) (pgZI m) 1 0)) (fun x => g2 ≤ x ∧ x < g4) ∧ Only (fun x => ¬ (g2 ≤ x ∧ x < g4)) x4 wo from by rw [hk1] at hD; exact ⟨hD, hO⟩)
      obtain ⟨k0, hk0'⟩ : ∃ q, k = q := ⟨_, rfl⟩
      clear hD hO hkn hk hk1 hk0'
      go_wp2
      go_loopw [11] (fun i wr => ∃ k : Nat, k ≤ m ∧ i = .int .i64 (k : Int) ∧ DF w wr b (layT (pt (pgZ 1) (pgZI m) 1 k)) (fun x => g2 ≤ x ∧ x < g4) ∧ Only (fun x => ¬ (g2 ≤ x ∧ x < g4)) x4 wr) (fun i _ => m - (intOf i).toNat)
      case atStart => exact ⟨0, by omega, rfl, (unhide Y0).1, (unhide Y0).2⟩
      case round =>
        obtain ⟨k, hk, rfl, hD, hO⟩ := hrel
        obtain ⟨wp, rfl⟩ : ∃ wp, wp = wr := ⟨_, rfl⟩
        clear Y0
        by_cases hkn : k < m
        · have hkn' : (k : Int) < (m : Int) := by omega
          have hk0 : (0 : Int) ≤ (k : Int) := by omega
          have hgl := (unhide HR).2.1
          have cg := (unhide HR).2.2 k hkn
          have cg' : wp.cell? ⟨gk, ok + k, none⟩ = some (.string ((pgZI m).getD k ByteArray.empty)) := (World.cell?_of_block (a := ⟨gk, ok + k, none⟩) (hO.2 gk (World.block_lt_of_cell? x4 _ cg) (fun q => q hgl))).trans cg
          have HWR := hide (hD.write (by show (pt (pgZ 1) (pgZI m) 1 k).length ≤ _; rw [pt_len]; omega) (by show (aT (pt (pgZ 1) (pgZI m) 1 k)).length ≤ _; rw [aT_len, pt_len]; omega) ((20 + k : Nat) : Int) ((pgZI m).getD k ByteArray.empty))
          obtain ⟨w1, w2⟩ := layT_write (pt (pgZ 1) (pgZI m) 1 k) (20 + k) ((pgZI m).getD k ByteArray.empty) (by omega) (pgI9_size m k (by omega) hkn)
          rw [w1, w2, show pt (pgZ 1) (pgZI m) 1 k ++ [(20 + k, (pgZI m).getD k ByteArray.empty)] = pt (pgZ 1) (pgZI m) 1 (k + 1) from by rw [pt, pt, List.append_assoc, prN_succ 20]] at HWR
          have e1 : (20 : Int) + (k : Int) = ((20 + k : Nat) : Int) := by omega
          have hq : 20 + k ≤ 1000 := by omega
          have HO := hide hO
          clear hD w1 w2 cg hO hgl
          generalize 20 + k = ak at *
          generalize (pgZI m).getD k ByteArray.empty = t at cg' HWR
          go_wp2_with (go_at_call 40; refine (unhide HWR).mono ?_; rintro e y1 ⟨rfl, hD1, hO1⟩)
          go_roundw
          case rel => exact ⟨k + 1, by omega, by go_num, hD1, (unhide HO).trans hO1 (fun _ _ q => q)⟩
          case measure => simp [intOf]; omega
        · have hkn' : ¬ (k : Int) < (m : Int) := by omega
          have hke : m = k := by omega
          have hD' := hD.di
          have HFL := hide (flushD hD' (by show (pt (pgZ 1) (pgZI m) 1 k).length ≤ _; rw [pt_len]; omega) (by show (aT (pt (pgZ 1) (pgZI m) 1 k)).length ≤ _; rw [aT_len, pt_len]; omega))
          rw [(layT_flush _).1, (layT_flush _).2] at HFL
          have HKE := hide hke
          clear hD hD' hO hke
          go_wp2_with fail
          refine (unhide HFL).mono ?_
          rintro e y1 ⟨rfl, vd, d1, d2, d3⟩
          obtain ⟨hn1, hn2, hgw⟩ := unhide HQ
          have hmk : ipgs n = k := (unhide HMM).trans (unhide HKE)
          have hke := unhide HKE
          have HP := hide (parts9_any (n := n) (T := fun _ => none) (B := fun _ => false) d1 d2 hgw d3 0 (by decide) (by rw [layP_len, L0_len]) (layP_size _ _ L0_size (fun p hp => by
              rcases (pt_mem hp).2 with ⟨q, hq, e⟩ | ⟨q, hq, e⟩
              · rw [e]; exact pg9_size 1 q (by omega) hq
              · rw [e]; exact pgI9_size m q (by omega) (by omega))) (pt_head _ _ _ _) (by rw [List.length_append, aT_len, pt_len]; simp only [List.length_cons, List.length_nil]; omega) (fun q hq => by
              rw [pt_at _ _ k q (by omega) (by omega), pgZI_at _ _ (by omega), ib0_ibd]) (TOk.zero n) (fun q hq => by
              obtain rfl : q = 0 := by unfold pgs at hq; omega
              refine ⟨zb, zb_size, ?_, fun j _ => by rw [zb_bit]; simp⟩
              rw [show (19 + 0 : Nat) = 19 from rfl, pt_at0, pgZ_at _ _ (by omega)]) hn1 hn2)
          have hAl : (aT (pt (pgZ 1) (pgZI m) 1 k) ++ [(1, 0)]).length ≤ 1000 := by rw [List.length_append, aT_len, pt_len]; simp only [List.length_cons, List.length_nil]; omega
          have HAL := hide hAl
          clear d1 d2 d3 hn1 hn2 hgw hmk hAl hke HFL
          go_wp2_with (go_at_call 28; refine (unhide HP).mono ?_; rintro e y2 ⟨jb, pb, xb, mb, sb, gb, rfl, hC⟩)
          go_ret
          exact ⟨b, jb, pb, xb, mb, sb, gb, _, _, rfl, unhide HAL, hC⟩
end Go.Proofs.YtdpnbemagiekoaaGreatDoor

namespace Go.Proofs.YtdpnbemagiekoaaGreatDoor
open Go.RowKit Go.Maps Go.Sort Go.Shelf
theorem lea0 (n : Nat) (h : 0 < n) : Lea (fun _ => false) n 0 := ⟨h, rfl, fun j hj => absurd hj (Nat.not_lt_zero j)⟩
set_option maxRecDepth 100000 in
set_option maxHeartbeats 8000000 in
theorem bound9_true {e0 e1 e2 : Addr} (c : Int) (hc : I64 c) (w : World) (hg : ETy w) (hK : KTab w) (hs : Snt w e0 e1 e2) : Calls Tryz.prog 3 #[.int .i64 c, .bool true] w fun e w' => e = .returned (.bool true) ∧ Below w.heap.size w w' := by
  have HF := hide (fresh9_any 3 (by decide) (by decide) w hg)
  simp only [Int.cast_ofNat_Int] at HF
  have HWO := hide (fun W => whole9_any c hc W)
  have ht : (bkB (pickP c 21)).size = 256 := bkB_size _
  generalize bkB (pickP c 21) = t at *
  obtain ⟨d, hdd⟩ : ∃ q, dgB t = q := ⟨_, rfl⟩
  have hd : d.size = 32 := by rw [← hdd]; exact dgB_size _
  have HG := hide (And.intro hK (And.intro hs (And.intro ht (And.intro hd hdd))))
  clear hg hK hs ht hd hc hdd
  go_enter Tryz.func3, Tryz.ntmps3
  go_wp2_with fail
  refine (unhide HF).mono ?_
  rintro e x0 ⟨b, jb, pb, xb, mb, sb, gb, L, A, rfl, hA, hC⟩
  clear HF
  go_wp2_with fail
  refine (unhide HWO _).mono ?_
  rintro e y0 ⟨rfl, hb0⟩
  replace hC := hC.below hb0
  clear hb0 HWO
  obtain ⟨k0, k1, k2, k3, k4⟩ := hC.c
  generalize (fun i => L.getD (30 + i) ByteArray.empty) = D0 at hC
  have HH := hide (hC.begin)
  try simp only [Int.cast_ofNat_Int] at HH
  have XC := hide hC
  clear hC
  go_wp2_with fail
  refine (unhide HH).mono ?_
  rintro e x1 ⟨rfl, hC⟩
  clear HH XC k0 k1 k2 k3 k4
  obtain ⟨k0, k1, k2, k3, k4⟩ := hC.c
  have HH := hide (hC.saveN (by decide) (unhide HG).1 (unhide HG).2.1 t d (unhide HG).2.2.2.2 (unhide HG).2.2.1 0 (lea0 3 (by decide)) (fun _ _ q => by cases q))
  try simp only [Int.cast_ofNat_Int] at HH
  have XC := hide hC
  clear hC
  go_wp2_with fail
  refine (unhide HH).mono ?_
  rintro e x2 ⟨rfl, hC⟩
  clear HH XC k0 k1 k2 k3 k4
  obtain ⟨k0, k1, k2, k3, k4⟩ := hC.c
  have HH := hide (hC.find 0 d 1 rfl)
  try simp only [Int.cast_ofNat_Int] at HH
  have XC := hide hC
  clear hC
  go_wp2_with fail
  refine (unhide HH).mono ?_
  rintro e x3 ⟨rfl, hC⟩
  clear HH XC k0 k1 k2 k3 k4
  obtain ⟨k0, k1, k2, k3, k4⟩ := hC.c
  have HH := hide (hC.put (by decide) 0 (by decide) d (unhide HG).2.2.2.1 65534 (by decide) (by decide) (fun j c' hj => by by_cases e : j = 0; exact e; rw [upd, if_neg e] at hj; cases hj))
  try simp only [Int.cast_ofNat_Int] at HH
  have XC := hide hC
  clear hC
  go_wp2_with fail
  refine (unhide HH).mono ?_
  rintro e x4 ⟨rfl, hC⟩
  clear HH XC k0 k1 k2 k3 k4
  obtain ⟨k0, k1, k2, k3, k4⟩ := hC.c
  have HH := hide (hC.hold (by decide) (unhide HG).2.1 0 (by decide) d 65534 (by decide) rfl)
  try simp only [Int.cast_ofNat_Int] at HH
  have XC := hide hC
  clear hC
  go_wp2_with fail
  refine (unhide HH).mono ?_
  rintro e x5 ⟨rfl, hC⟩
  clear HH XC k0 k1 k2 k3 k4
  obtain ⟨k0, k1, k2, k3, k4⟩ := hC.c
  have HH := hide (hC.commit (by omega))
  try simp only [Int.cast_ofNat_Int] at HH
  have XC := hide hC
  clear hC
  go_wp2_with fail
  refine (unhide HH).mono ?_
  rintro e x6 ⟨rfl, L', A', hA', hC⟩
  clear HH XC k0 k1 k2 k3 k4
  obtain ⟨k0, k1, k2, k3, k4⟩ := hC.c
  have HH := hide (hC.count 0 (by decide) d 65535 rfl)
  try simp only [Int.cast_ofNat_Int] at HH
  have XC := hide hC
  clear hC
  go_wp2_with fail
  refine (unhide HH).mono ?_
  rintro e x7 ⟨rfl, hC⟩
  clear HH XC k0 k1 k2 k3 k4
  obtain ⟨k0, k1, k2, k3, k4⟩ := hC.c
  have HH := hide (hC.begin)
  try simp only [Int.cast_ofNat_Int] at HH
  have XC := hide hC
  clear hC
  go_wp2_with fail
  refine (unhide HH).mono ?_
  rintro e x8 ⟨rfl, hC⟩
  clear HH XC k0 k1 k2 k3 k4
  obtain ⟨k0, k1, k2, k3, k4⟩ := hC.c
  have HH := hide (hC.saveM (unhide HG).1 (unhide HG).2.1 t d (unhide HG).2.2.2.2 (unhide HG).2.2.1 0 (by decide) rfl rfl)
  try simp only [Int.cast_ofNat_Int] at HH
  have XC := hide hC
  clear hC
  go_wp2_with fail
  refine (unhide HH).mono ?_
  rintro e x9 ⟨rfl, hC⟩
  clear HH XC k0 k1 k2 k3 k4
  obtain ⟨k0, k1, k2, k3, k4⟩ := hC.c
  have HH := hide (hC.abort)
  try simp only [Int.cast_ofNat_Int] at HH
  have XC := hide hC
  clear hC
  go_wp2_with fail
  refine (unhide HH).mono ?_
  rintro e x10 ⟨rfl, hC⟩
  clear HH XC k0 k1 k2 k3 k4
  obtain ⟨k0, k1, k2, k3, k4⟩ := hC.c
  have HH := hide (hC.reload)
  try simp only [Int.cast_ofNat_Int] at HH
  have XC := hide hC
  clear hC
  go_wp2_with fail
  refine (unhide HH).mono ?_
  rintro e x11 ⟨rfl, hC⟩
  clear HH XC k0 k1 k2 k3 k4
  obtain ⟨k0, k1, k2, k3, k4⟩ := hC.c
  have HH := hide (hC.count 0 (by decide) d 65535 rfl)
  try simp only [Int.cast_ofNat_Int] at HH
  have XC := hide hC
  clear hC
  go_wp2_with fail
  refine (unhide HH).mono ?_
  rintro e x12 ⟨rfl, hC⟩
  clear HH XC k0 k1 k2 k3 k4
  obtain ⟨k0, k1, k2, k3, k4⟩ := hC.c
  have HH := hide (hC.begin)
  try simp only [Int.cast_ofNat_Int] at HH
  have XC := hide hC
  clear hC
  go_wp2_with fail
  refine (unhide HH).mono ?_
  rintro e x13 ⟨rfl, hC⟩
  clear HH XC k0 k1 k2 k3 k4
  obtain ⟨k0, k1, k2, k3, k4⟩ := hC.c
  have HH := hide (hC.drop_more (by decide) (unhide HG).2.1 0 (by decide) d 65535 (by decide) rfl)
  try simp only [Int.cast_ofNat_Int] at HH
  have XC := hide hC
  clear hC
  go_wp2_with fail
  refine (unhide HH).mono ?_
  rintro e x14 ⟨rfl, hC⟩
  clear HH XC k0 k1 k2 k3 k4
  obtain ⟨k0, k1, k2, k3, k4⟩ := hC.c
  have HH := hide (hC.count 0 (by decide) d 65534 rfl)
  try simp only [Int.cast_ofNat_Int] at HH
  have XC := hide hC
  clear hC
  go_wp2_with fail
  refine (unhide HH).mono ?_
  rintro e x15 ⟨rfl, hC⟩
  clear HH XC k0 k1 k2 k3 k4
  obtain ⟨k0, k1, k2, k3, k4⟩ := hC.c
  have HB := hide hC.bel
  clear hC
  go_wp2
  go_ret
  exact ⟨rfl, unhide HB⟩
set_option maxRecDepth 100000 in
set_option maxHeartbeats 8000000 in
theorem bound9_false {e0 e1 e2 : Addr} (c : Int) (hc : I64 c) (w : World) (hg : ETy w) (hK : KTab w) (hs : Snt w e0 e1 e2) : Calls Tryz.prog 3 #[.int .i64 c, .bool false] w fun e w' => e = .returned (.bool true) ∧ Below w.heap.size w w' := by
  have HF := hide (fresh9_any 3 (by decide) (by decide) w hg)
  simp only [Int.cast_ofNat_Int] at HF
  have HWO := hide (fun W => whole9_any c hc W)
  have ht : (bkB (pickP c 21)).size = 256 := bkB_size _
  generalize bkB (pickP c 21) = t at *
  obtain ⟨d, hdd⟩ : ∃ q, dgB t = q := ⟨_, rfl⟩
  have hd : d.size = 32 := by rw [← hdd]; exact dgB_size _
  have HG := hide (And.intro hK (And.intro hs (And.intro ht (And.intro hd hdd))))
  clear hg hK hs ht hd hc hdd
  go_enter Tryz.func3, Tryz.ntmps3
  go_wp2_with fail
  refine (unhide HF).mono ?_
  rintro e x0 ⟨b, jb, pb, xb, mb, sb, gb, L, A, rfl, hA, hC⟩
  clear HF
  go_wp2_with fail
  refine (unhide HWO _).mono ?_
  rintro e y0 ⟨rfl, hb0⟩
  replace hC := hC.below hb0
  clear hb0 HWO
  obtain ⟨k0, k1, k2, k3, k4⟩ := hC.c
  generalize (fun i => L.getD (30 + i) ByteArray.empty) = D0 at hC
  have HH := hide (hC.begin)
  try simp only [Int.cast_ofNat_Int] at HH
  have XC := hide hC
  clear hC
  go_wp2_with fail
  refine (unhide HH).mono ?_
  rintro e x1 ⟨rfl, hC⟩
  clear HH XC k0 k1 k2 k3 k4
  obtain ⟨k0, k1, k2, k3, k4⟩ := hC.c
  have HH := hide (hC.saveN (by decide) (unhide HG).1 (unhide HG).2.1 t d (unhide HG).2.2.2.2 (unhide HG).2.2.1 0 (lea0 3 (by decide)) (fun _ _ q => by cases q))
  try simp only [Int.cast_ofNat_Int] at HH
  have XC := hide hC
  clear hC
  go_wp2_with fail
  refine (unhide HH).mono ?_
  rintro e x2 ⟨rfl, hC⟩
  clear HH XC k0 k1 k2 k3 k4
  obtain ⟨k0, k1, k2, k3, k4⟩ := hC.c
  have HH := hide (hC.find 0 d 1 rfl)
  try simp only [Int.cast_ofNat_Int] at HH
  have XC := hide hC
  clear hC
  go_wp2_with fail
  refine (unhide HH).mono ?_
  rintro e x3 ⟨rfl, hC⟩
  clear HH XC k0 k1 k2 k3 k4
  obtain ⟨k0, k1, k2, k3, k4⟩ := hC.c
  have HH := hide (hC.put (by decide) 0 (by decide) d (unhide HG).2.2.2.1 65534 (by decide) (by decide) (fun j c' hj => by by_cases e : j = 0; exact e; rw [upd, if_neg e] at hj; cases hj))
  try simp only [Int.cast_ofNat_Int] at HH
  have XC := hide hC
  clear hC
  go_wp2_with fail
  refine (unhide HH).mono ?_
  rintro e x4 ⟨rfl, hC⟩
  clear HH XC k0 k1 k2 k3 k4
  obtain ⟨k0, k1, k2, k3, k4⟩ := hC.c
  have HH := hide (hC.hold (by decide) (unhide HG).2.1 0 (by decide) d 65534 (by decide) rfl)
  try simp only [Int.cast_ofNat_Int] at HH
  have XC := hide hC
  clear hC
  go_wp2_with fail
  refine (unhide HH).mono ?_
  rintro e x5 ⟨rfl, hC⟩
  clear HH XC k0 k1 k2 k3 k4
  obtain ⟨k0, k1, k2, k3, k4⟩ := hC.c
  have HH := hide (hC.commit (by omega))
  try simp only [Int.cast_ofNat_Int] at HH
  have XC := hide hC
  clear hC
  go_wp2_with fail
  refine (unhide HH).mono ?_
  rintro e x6 ⟨rfl, L', A', hA', hC⟩
  clear HH XC k0 k1 k2 k3 k4
  obtain ⟨k0, k1, k2, k3, k4⟩ := hC.c
  have HH := hide (hC.count 0 (by decide) d 65535 rfl)
  try simp only [Int.cast_ofNat_Int] at HH
  have XC := hide hC
  clear hC
  go_wp2_with fail
  refine (unhide HH).mono ?_
  rintro e x7 ⟨rfl, hC⟩
  clear HH XC k0 k1 k2 k3 k4
  obtain ⟨k0, k1, k2, k3, k4⟩ := hC.c
  have HH := hide (hC.begin)
  try simp only [Int.cast_ofNat_Int] at HH
  have XC := hide hC
  clear hC
  go_wp2_with fail
  refine (unhide HH).mono ?_
  rintro e x8 ⟨rfl, hC⟩
  clear HH XC k0 k1 k2 k3 k4
  obtain ⟨k0, k1, k2, k3, k4⟩ := hC.c
  have HH := hide (hC.hold_max (unhide HG).2.1 0 (by decide) d rfl)
  try simp only [Int.cast_ofNat_Int] at HH
  have XC := hide hC
  clear hC
  go_wp2_with fail
  refine (unhide HH).mono ?_
  rintro e x9 ⟨rfl, hC⟩
  clear HH XC k0 k1 k2 k3 k4
  obtain ⟨k0, k1, k2, k3, k4⟩ := hC.c
  have HH := hide (hC.abort)
  try simp only [Int.cast_ofNat_Int] at HH
  have XC := hide hC
  clear hC
  go_wp2_with fail
  refine (unhide HH).mono ?_
  rintro e x10 ⟨rfl, hC⟩
  clear HH XC k0 k1 k2 k3 k4
  obtain ⟨k0, k1, k2, k3, k4⟩ := hC.c
  have HH := hide (hC.reload)
  try simp only [Int.cast_ofNat_Int] at HH
  have XC := hide hC
  clear hC
  go_wp2_with fail
  refine (unhide HH).mono ?_
  rintro e x11 ⟨rfl, hC⟩
  clear HH XC k0 k1 k2 k3 k4
  obtain ⟨k0, k1, k2, k3, k4⟩ := hC.c
  have HH := hide (hC.count 0 (by decide) d 65535 rfl)
  try simp only [Int.cast_ofNat_Int] at HH
  have XC := hide hC
  clear hC
  go_wp2_with fail
  refine (unhide HH).mono ?_
  rintro e x12 ⟨rfl, hC⟩
  clear HH XC k0 k1 k2 k3 k4
  obtain ⟨k0, k1, k2, k3, k4⟩ := hC.c
  have HH := hide (hC.begin)
  try simp only [Int.cast_ofNat_Int] at HH
  have XC := hide hC
  clear hC
  go_wp2_with fail
  refine (unhide HH).mono ?_
  rintro e x13 ⟨rfl, hC⟩
  clear HH XC k0 k1 k2 k3 k4
  obtain ⟨k0, k1, k2, k3, k4⟩ := hC.c
  have HH := hide (hC.drop_more (by decide) (unhide HG).2.1 0 (by decide) d 65535 (by decide) rfl)
  try simp only [Int.cast_ofNat_Int] at HH
  have XC := hide hC
  clear hC
  go_wp2_with fail
  refine (unhide HH).mono ?_
  rintro e x14 ⟨rfl, hC⟩
  clear HH XC k0 k1 k2 k3 k4
  obtain ⟨k0, k1, k2, k3, k4⟩ := hC.c
  have HH := hide (hC.count 0 (by decide) d 65534 rfl)
  try simp only [Int.cast_ofNat_Int] at HH
  have XC := hide hC
  clear hC
  go_wp2_with fail
  refine (unhide HH).mono ?_
  rintro e x15 ⟨rfl, hC⟩
  clear HH XC k0 k1 k2 k3 k4
  obtain ⟨k0, k1, k2, k3, k4⟩ := hC.c
  have HB := hide hC.bel
  clear hC
  go_wp2
  go_ret
  exact ⟨rfl, unhide HB⟩
theorem bound9_walk {e0 e1 e2 : Addr} (c : Int) (hc : I64 c) (v : Bool) (w : World) (hg : ETy w) (hK : KTab w) (hs : Snt w e0 e1 e2) : Calls Tryz.prog 3 #[.int .i64 c, .bool v] w fun e w' => e = .returned (.bool true) ∧ Below w.heap.size w w' := by
  cases v
  · exact bound9_false c hc w hg hK hs
  · exact bound9_true c hc w hg hK hs
end Go.Proofs.YtdpnbemagiekoaaGreatDoor
