import Derived.Test.YtnkaooafenakdaaGreatDoorMr46
import Derived.Test.YtnkaooafenakdaaGreatDoorMr33
import Derived.Test.YtnkaooafenakdaaGreatDoorMr34
namespace Go.Proofs.YtnkaooafenakdaaGreatDoor
open Go.RowKit Go.Maps Go.Sort Go.Shelf
theorem bytes1_size (s : ByteArray) (h : s.size = 1) : (bytesB s).size = 256 := by rw [bytesB, if_pos h]; exact rep1_size _
/-- A pool whose disk is at rest. -/
structure Rst (S : PS) (L : List ByteArray) (A : List (Nat × Nat)) (nx : Nat) : Prop where
  s : S.s = rs L A
  nx : S.nx = nx
  jl : S.jl = false
  lost : S.lost = false
theorem tx_good {tx : Tx} (hs : Srt tx) (hl : tx.length ≤ 16) (hm : ∀ p ∈ tx, 19 ≤ p.1 ∧ p.1 < 128 ∧ p.2.size = 256) : GoodL tx := by
  refine ⟨hl, fun x hx => ⟨(hm x hx).1, (hm x hx).2.1⟩, ?_, fun x hx => (hm x hx).2.2⟩
  show (tx.map (·.1)).Nodup
  exact List.pairwise_map.2 (hs.imp (fun q => by omega))
theorem cTx_mem (l : List Int) (d : Int) : ∀ k, ∀ p ∈ cTx l d k, 19 ≤ p.1 ∧ p.1 < 128 ∧ p.2.size = 256
  | 0, p, hp => by cases hp
  | k + 1, p, hp => by
    rcases mem_put hp with q | q
    · subst q
      exact ⟨(cK_lo l k).1, (cK_lo l k).2, rep1_size _⟩
    · exact cTx_mem l d k p q
theorem cTx_good (l : List Int) (d : Int) (k : Nat) (hk : k ≤ 16) : GoodL (cTx l d k) := tx_good (cTx_srt l d k) (Nat.le_trans (cTx_len l d k) hk) (cTx_mem l d k)
theorem commit_rest {S : PS} {L : List ByteArray} {A : List (Nat × Nat)} {nx : Nat} (h : Rst S L A nx) (ho : S.op = true) (hL : L.length = 128) (hg : GoodL S.tx) : commitPE S = 0 ∧ Rst (commitPS S) (comL L nx S.tx) (A ++ comA S.tx) ((nx + 1) % 4294967296) ∧ (commitPS S).op = false ∧ (commitPS S).tx = [] ∧ (commitPS S).keep = S.keep ∧ (commitPS S).h = layAll S.keep S.tx S.h := by
  have hc : commitR S.s S.nx S.jl S.tx = ⟨0, rs (comL L nx S.tx) (A ++ comA S.tx), (nx + 1) % 4294967296, false⟩ := by
    rw [h.s, h.nx, h.jl]
    exact commit_rs L A nx S.tx hL hg
  have e1 : commitPE S = 0 := by unfold commitPE; rw [ho, h.lost, hc]; rfl
  have e2 : commitPS S = { doneS S with h := layAll S.keep S.tx S.h } := by unfold commitPS; rw [ho, h.lost, hc]; rfl
  refine ⟨e1, ?_, by rw [e2]; rfl, by rw [e2]; rfl, by rw [e2]; rfl, by rw [e2]⟩
  rw [e2]
  exact ⟨by show (commitR S.s S.nx S.jl S.tx).s = _; rw [hc], by show (commitR S.s S.nx S.jl S.tx).nx = _; rw [hc], by show (commitR S.s S.nx S.jl S.tx).lost = _; rw [hc], h.lost⟩
theorem read_rest {S : PS} {L : List ByteArray} {A : List (Nat × Nat)} {nx : Nat} (h : Rst S L A nx) (k : Nat) (hk : k < L.length) : (readP S k).2.1 = 0 ∧ Rst (readP S k).2.2 L A nx ∧ (readP S k).2.2.op = S.op ∧ (readP S k).2.2.tx = S.tx ∧ (readP S k).2.2.keep = S.keep := by
  have hh : hasB S.s (k : Int) = true := by rw [h.s]; show (decide (0 ≤ (k : Int)) && decide ((k : Int) < (L.length : Int))) = true; simp; omega
  have hr : readE S.s (k : Int) = 0 := by rw [h.s]; exact (read_rs L A k hk).1
  unfold readP
  rw [hh, h.lost]
  cases ht : txAt S.tx (k : Int) with
  | some t => exact ⟨rfl, h, rfl, rfl, rfl⟩
  | none =>
    cases hf : txAt S.h (k : Int) with
    | some t => exact ⟨rfl, ⟨h.s, h.nx, h.jl, h.lost⟩, rfl, rfl, rfl⟩
    | none =>
      simp only [hr, if_true]
      exact ⟨rfl, ⟨h.s, h.nx, h.jl, h.lost⟩, rfl, rfl, rfl⟩
theorem readT_rest {S : PS} {L : List ByteArray} {A : List (Nat × Nat)} {nx : Nat} (h : Rst S L A nx) (k : Nat) (hk : k < L.length) (hz : ∀ t ∈ L, t.size = 256) : (readT S.s (k : Int)).size ≤ maxLen := by
  rw [h.s, (read_rs L A k hk).2]
  have : (L.getD k ByteArray.empty).size = 256 := hz _ (by rw [List.getD_eq_getElem?_getD, List.getElem?_eq_getElem hk]; exact List.getElem_mem hk)
  rw [this]; decide
theorem write_rest {S : PS} {L : List ByteArray} {A : List (Nat × Nat)} {nx : Nat} (h : Rst S L A nx) (i : Int) (t : ByteArray) : Rst (writeP S i t) L A nx ∧ (writeP S i t).op = S.op ∧ (writeP S i t).keep = S.keep := by
  unfold writeP
  split
  · exact ⟨⟨h.s, h.nx, h.jl, h.lost⟩, rfl, rfl⟩
  · exact ⟨h, rfl, rfl⟩
theorem end_rest {S : PS} {L : List ByteArray} {A : List (Nat × Nat)} {nx : Nat} (h : Rst S L A nx) : Rst (endS S) L A nx := ⟨h.s, h.nx, h.jl, h.lost⟩
/-- The pool of a script that is played in a transaction. -/
def ShI (w w1 : World) (b jb pb : Nat) (X : Nat → Prop) (L : List ByteArray) (A : List (Nat × Nat)) (nx : Nat) (wr : World) : Prop :=
  ∃ S, PK w wr b jb pb S X ∧ Rst S L A nx ∧ S.op = true ∧ Only (fun x => ¬ X x) w1 wr
theorem PK.dirty {w0 w : World} {b jb pb : Nat} {S : PS} {X : Nat → Prop} (K : PK w0 w b jb pb S X) : Calls Tryz.prog 14 #[.pointer (some ⟨pb, 0, none⟩)] w fun e w' => ∃ v, e = .returned v ∧ w'.ownsRow w.heap.size 3 1 v (S.tx.map (·.1)).length ((S.tx.map (·.1)).map encZ) ∧ Below w.heap.size w w' := by
  obtain ⟨bw, bv, ov, K⟩ := K
  exact dirty_any w bw pb S.tx K.tx (by have := K.t16; omega) (by rw [K.blk.cell]; rfl)
theorem PK.stats {w0 w : World} {b jb pb : Nat} {S : PS} {X : Nat → Prop} (K : PK w0 w b jb pb S X) : Calls Tryz.prog 22 #[.pointer (some ⟨pb, 0, none⟩)] w fun e w' => e = .returned (.agg #[.int .i64 S.hits, .int .i64 S.mis, .int .i64 (S.h.length : Int)]) ∧ Below w.heap.size w w' := by
  obtain ⟨bw, bv, ov, K⟩ := K
  have h := stats_any w _ pb b jb S.op bw S.keep bv ov S.hits S.mis S.lost _ _ K.blk K.hn.ord
  rw [List.length_map] at h
  exact h
theorem PK.ji {w0 w : World} {b jb pb : Nat} {S : PS} {X : Nat → Prop} (K : PK w0 w b jb pb S X) : JI w0 w b jb S.s S.nx S.jl := by
  obtain ⟨bw, bv, ov, K⟩ := K
  exact K.jk.ji
set_option maxRecDepth 100000 in
set_option maxHeartbeats 4000000 in
theorem pshape_walk (p1 : Option Addr) (c1 : Nat) (l1 : List Int) (n1 : Nat) (hn1 : n1 = l1.length) (p2 : Option Addr) (c2 : Nat) (l2 : List Int) (n2 : Nat) (hn2 : n2 = l2.length) (p3 : Option Addr) (c3 : Nat) (os : List Op6) (n3 : Nat) (hn3 : n3 = os.length) (w : World) (hg : ETy w) (hi1 : Ints w p1 l1) (hi2 : Ints w p2 l2) (hw1 : ∀ i, I64 (l1.getD i 0)) (hw2 : ∀ i, I64 (l2.getD i 0)) (ho : Ops6 w p3 os) (hwo : Wop os) (hz : n3 ≤ 9223372036854775807) :
    Calls Tryz.prog 6 #[.slice p1 n1 c1, .slice p2 n2 c2, .slice p3 n3 c3] w fun e w' => e = .returned (.bool true) ∧ Below w.heap.size w w' := by
  have HFR := hide (pfresh_any 9 (by decide) w hg)
  have HA1 := hide (And.intro hn1 (And.intro hi1 hw1))
  have HA2 := hide (And.intro hn2 (And.intro hi2 hw2))
  have HA3 := hide (And.intro hn3 (And.intro ho hwo))
  have hmk := run_make_s 128 (by decide)
  simp only [Int.cast_ofNat_Int] at hmk
  clear hg hn1 hi1 hw1 hn2 hi2 hw2 hn3 ho hwo
  go_enter Tryz.func6, Tryz.ntmps6
  go_wp2_with fail
  refine (unhide HFR).mono ?_
  rintro e x1 ⟨b, jb, pb, rfl, K1⟩
  obtain ⟨M, hM⟩ : ∃ M : List ByteArray, List.replicate 128 ⟨#[]⟩ = M := ⟨_, rfl⟩
  rw [hM] at hmk
  have hMl : M.length = 128 := by rw [← hM, List.length_replicate]
  have hmk1 := hmk x1
  obtain ⟨x2, hx2⟩ : ∃ x, x1.alloc (.cells (strs M).toArray 9) = x := ⟨_, rfl⟩
  rw [hx2] at hmk1
  have hb2 : Below x1.heap.size x1 x2 := by rw [← hx2]; exact (Below.refl _ _).alloc (Nat.le_refl _) _
  have hB2 : Blk x2 x1.heap.size (strs M).toArray 9 := by rw [← hx2]; exact Blk.new x1 _ _
  have hx1w := K1.bel.size
  have K2 : PK w x2 b jb pb (freshP 9) (fun x => x = x1.heap.size) := K1.more hb2 (fun x hx => .inr (by rw [hx]; exact ⟨Nat.le_refl _, hB2.lt⟩))
  obtain ⟨g, hgg⟩ : ∃ g, x1.heap.size = g := ⟨_, rfl⟩
  rw [hgg] at hmk1 hB2 K2 hx1w
  have HTR := hide (traceD K2.ji.di (by show A0.length ≤ _; decide))
  rw [show (freshP 9).s.acts.length = 2 from rfl] at HTR
  have H2 := hide (And.intro K2 (And.intro hB2 (And.intro hMl hx1w)))
  clear K1 K2 hb2 hB2 hMl hx1w hx2 hM hmk HFR
  replace hgg := hide hgg
  go_wp2_with fail
  refine (unhide HTR).mono ?_
  rintro e x3 ⟨rfl, _, _, hb3⟩
  obtain ⟨K2, hB2, hMl, hg0⟩ := unhide H2
  have K3 := K2.below hb3
  have hB3 := hB2.below hb3 hB2.lt
  have HC := hide (commits_any K3 rfl rfl rfl (by show L0.length = 128; exact L0_len) (by decide) (Nat.zero_le _) (by show A0.length ≤ _; decide) g 128 M hMl hB3 rfl hg0 p1 c1 l1 n1 (unhide HA1).1 (unhide HA1).2.1 (unhide HA1).2.2 ⟨#[98]⟩ 98 0 rfl (fun _ => rfl) rfl (by decide))
  have hG1 := cTx_good l1 0 (min n1 16) (by omega)
  have hR1 : Rst (cS (freshP 9) l1 0 (min n1 16)) L0 A0 1 := ⟨rfl, rfl, rfl, rfl⟩
  obtain ⟨e1, R1, o1, t1, _, _⟩ := commit_rest hR1 rfl L0_len hG1
  rw [e1] at HC
  have htx : (cS (freshP 9) l1 0 (min n1 16)).tx = cTx l1 0 (min n1 16) := rfl
  rw [htx] at R1
  obtain ⟨T1, hT1⟩ : ∃ T, cTx l1 0 (min n1 16) = T := ⟨_, rfl⟩
  rw [hT1] at R1 hG1
  have HS1 := hide (And.intro R1 (And.intro o1 (And.intro t1 hG1)))
  clear K2 hB2 K3 hB3 hb3 H2 hR1 e1 R1 o1 t1 htx hT1 hG1 HTR
  generalize commitPS (cS (freshP 9) l1 0 (min n1 16)) = S1 at *
  generalize hM1 : cSec l1 0 M (min n1 16) = M1 at *
  have HM1 := hide (show M1.length = 128 from by rw [← hM1, cSec_len, hMl])
  have HG0 := hide hg0
  clear hM1 hMl hg0
  go_wp2_with fail
  refine (unhide HC).mono ?_
  rintro e x4 ⟨rfl, K4, hB4, hO4⟩
  obtain ⟨R1, o1, t1, hG1⟩ := unhide HS1
  have HTR := hide (traceD K4.ji.di (by rw [R1.s]; show (A0 ++ comA T1).length ≤ _; rw [List.length_append, comA_len T1 hG1.len]; decide))
  rw [show S1.s.acts.length = 40 from by rw [R1.s]; show (A0 ++ comA T1).length = 40; rw [List.length_append, comA_len T1 hG1.len]; rfl] at HTR
  have H4 := hide (And.intro K4 hB4)
  clear K4 hB4 hO4 HC R1 o1 t1 hG1
  go_wp2_with fail
  refine (unhide HTR).mono ?_
  rintro e x5 ⟨rfl, _, _, hb5⟩
  have K5 := (unhide H4).1.below hb5
  have hB5 := (unhide H4).2.below hb5 (unhide H4).2.lt
  have HBG := hide (pbegin_any K5)
  obtain ⟨R1, o1, t1, hG1⟩ := unhide HS1
  rw [show beginE S1 = 0 from by simp [beginE, o1, R1.lost], show beginS S1 = { S1 with op := true } from by simp [beginS, o1, R1.lost]] at HBG
  have HB5 := hide hB5
  clear K5 hB5 hb5 H4 HTR R1 o1 t1 hG1
  go_wp2_with fail
  refine (unhide HBG).mono ?_
  rintro e x6 ⟨rfl, K6, hO6⟩
  obtain ⟨R1, o1, t1, hG1⟩ := unhide HS1
  have hL1 : (comL L0 1 T1).length = 128 := by rw [comL_len, L0_len]
  have hz1 := com_size L0 1 T1 hG1 L0_size
  have X0 := hide (show ShI w x6 b jb pb (fun x => x = g) (comL L0 1 T1) (A0 ++ comA T1) 2 x6 from ⟨_, K6, ⟨R1.s, R1.nx, R1.jl, R1.lost⟩, rfl, Only.refl _ _⟩)
  have HB6 := hide ((unhide HB5).only hO6 (fun q => q rfl))
  have HL1 := hide (And.intro hL1 hz1)
  clear K6 hO6 R1 o1 t1 hG1 hL1 hz1 HB5 HBG
  obtain ⟨L1, hL1⟩ : ∃ L, comL L0 1 T1 = L := ⟨_, rfl⟩
  rw [hL1] at X0 HL1
  have HLE := hide hL1
  clear hL1
  go_wp2
  go_loopw [13] (fun i wr => ∃ k : Nat, k ≤ n3 ∧ i = .int .i64 (k : Int) ∧ ShI w x6 b jb pb (fun x => x = g) L1 (A0 ++ comA T1) 2 wr) (fun i _ => n3 - (intOf i).toNat)
  case atStart => exact ⟨0, by omega, rfl, unhide X0⟩
  case round =>
    obtain ⟨k, hk, rfl, S, K, R, hop, hO⟩ := hrel
    obtain ⟨wo, rfl⟩ : ∃ wo, wo = wr := ⟨_, rfl⟩
    clear X0
    by_cases hkn : k < n3
    · have e1 : (k : Int) < (n3 : Int) := by omega
      obtain ⟨go, oo, vo, rfl, hgo, d0, d1, d2, d3⟩ := (unhide HA3).2.1.below K.bel (Nat.le_refl _) k (by have := (unhide HA3).1; omega)
      have HHM := hide (fun W => home_any (os.getD k op60).n ((unhide HA3).2.2 k).2 W)
      obtain ⟨hm, hhm⟩ : ∃ m : Nat, homeP (os.getD k op60).n = (m : Int) ∧ m < 128 := ⟨19 + pickP (os.getD k op60).n 20, by unfold homeP; omega, by have := pickP_lt (os.getD k op60).n 20 (by decide); omega⟩
      rw [hhm.1] at HHM
      have hm128 := hhm.2
      generalize (os.getD k op60).n = nn at *
      generalize (os.getD k op60).kind = kk at *
      generalize (os.getD k op60).s = ss at *
      have HRD := hide (pread_any K (hm : Int) (readT_rest R hm (by rw [(unhide HL1).1]; exact hm128) (unhide HL1).2))
      obtain ⟨r1, R2, op2, tx2, _⟩ := read_rest R hm (by rw [(unhide HL1).1]; exact hm128)
      rw [r1] at HRD
      have HR2 := hide (And.intro R2 (op2.trans hop))
      generalize (readP S (hm : Int)).1 = rt at *
      generalize (readP S (hm : Int)).2.2 = S2 at *
      have HO := hide hO
      clear hhm r1 R2 op2 tx2 hO K R hop d0 d2 d3 hm128
      go_wp2_with (go_at_call 17; refine (unhide HHM _).mono ?_; rintro e w' ⟨rfl, hw'⟩; subst w')
      refine (unhide HRD).mono ?_
      rintro e y1 ⟨rfl, K1, hO1⟩
      have HBY := hide (bytes6_any ⟨#[117]⟩ y1)
      obtain ⟨ub, hub⟩ : ∃ u, bytesB ⟨#[117]⟩ = u := ⟨_, rfl⟩
      have hus : ub.size = 256 := by rw [← hub]; exact bytes1_size _ rfl
      rw [hub] at HBY
      have H1 := hide (And.intro K1 ((unhide HO).trans hO1 (fun _ _ q => q)))
      clear K1 hO1 hub HRD HO d1
      go_wp2_with fail
      refine (unhide HBY).mono ?_
      rintro e y2 ⟨rfl, hb2⟩
      have K2 := (unhide H1).1.below hb2
      have HWR := hide (pwrite_any K2 (hm : Int) ub (by rw [hus]; decide))
      obtain ⟨R3, op3, _⟩ := write_rest (unhide HR2).1 (hm : Int) ub
      have H2 := hide (And.intro ((unhide H1).2.trans (Only.of_below (P := fun x => ¬ x = g) hb2) (fun _ _ q => q)) (And.intro R3 (op3.trans (unhide HR2).2)))
      clear K2 hb2 H1 R3 op3 HR2 HBY hus
      generalize refP S2 (hm : Int) ub = er at *
      generalize writeP S2 (hm : Int) ub = S3 at *
      go_wp2_with fail
      refine (unhide HWR).mono ?_
      rintro e y3 ⟨rfl, K3, hO3⟩
      have HDI := hide K3.dirty
      have H3 := hide (And.intro K3 ((unhide H2).1.trans hO3 (fun _ _ q => q)))
      clear K3 hO3 HWR
      go_wp2_with fail
      refine (unhide HDI).mono ?_
      rintro e y4 ⟨dv, rfl, _, hb4⟩
      have K4 := (unhide H3).1.below hb4
      have HST := hide K4.stats
      have H4 := hide (And.intro K4 ((unhide H3).2.trans (Only.of_below (P := fun x => ¬ x = g) hb4) (fun _ _ q => q)))
      clear K4 hb4 HDI H3
      go_wp2_with fail
      refine (unhide HST).mono ?_
      rintro e y5 ⟨rfl, hb5⟩
      have HRR := hide (show ShI w x6 b jb pb (fun x => x = g) L1 (A0 ++ comA T1) 2 y5 from ⟨S3, (unhide H4).1.below hb5, (unhide H2).2.1, (unhide H2).2.2, (unhide H4).2.trans (Only.of_below (P := fun x => ¬ x = g) hb5) (fun _ _ q => q)⟩)
      clear hb5 HST H4 H2
      go_wp2
      go_roundw
      case rel => exact ⟨k + 1, by omega, by go_num, unhide HRR⟩
      case measure => simp [intOf]; omega
    · have e1 : ¬ (k : Int) < (n3 : Int) := by omega
      have HAB := hide (pabort_any K)
      rw [show abortE S = 0 from by simp [abortE, hop], show abortS S = endS S from by simp [abortS, hop]] at HAB
      have HB7 := hide ((unhide HB6).only hO (fun q => q rfl))
      have HR := hide (end_rest R)
      clear K R hop hO
      go_wp2_with fail
      refine (unhide HAB).mono ?_
      rintro e y1 ⟨rfl, K1, hO1⟩
      have hB1 := (unhide HB7).only hO1 (fun q => q rfl)
      obtain ⟨R1, o1, t1, hG1⟩ := unhide HS1
      have hac : (endS S).s.acts = A0 ++ comA T1 := by rw [(unhide HR).s]; rfl
      have hal : (A0 ++ comA T1).length = 40 := by rw [List.length_append, comA_len T1 hG1.len]; rfl
      have HTR := hide (traceD K1.ji.di (by rw [hac, hal]; decide))
      rw [hac, hal] at HTR
      have H1 := hide (And.intro K1 hB1)
      clear K1 hO1 hB1 R1 o1 t1 hG1 hac hal HAB HB7
      go_wp2_with fail
      refine (unhide HTR).mono ?_
      rintro e y2 ⟨rfl, _, _, hb2⟩
      have K2 := (unhide H1).1.below hb2
      have hB2 := (unhide H1).2.below hb2 (unhide H1).2.lt
      obtain ⟨R1, o1, t1, hG1⟩ := unhide HS1
      have hal : (A0 ++ comA T1).length = 40 := by rw [List.length_append, comA_len T1 hG1.len]; rfl
      have hRR := unhide HR
      have HC := hide (commits_any K2 rfl hRR.lost rfl (by rw [hRR.s]; exact (unhide HL1).1) (by rw [hRR.nx]; decide) (by rw [hRR.s]; exact Nat.zero_le _) (by rw [hRR.s]; show (A0 ++ comA T1).length ≤ _; omega) g 128 M1 (unhide HM1) hB2 rfl (unhide HG0) p2 c2 l2 n2 (unhide HA2).1 (unhide HA2).2.1 (unhide HA2).2.2 ⟨#[99]⟩ 99 1 rfl (fun _ => rfl) rfl (by decide))
      have hG2 := cTx_good l2 1 (min n2 16) (by omega)
      have hR2 : Rst (cS (endS S) l2 1 (min n2 16)) L1 (A0 ++ comA T1) 2 := ⟨hRR.s, hRR.nx, hRR.jl, hRR.lost⟩
      obtain ⟨e2, R2, _, _, _, _⟩ := commit_rest hR2 rfl (unhide HL1).1 hG2
      rw [e2] at HC
      have htx : (cS (endS S) l2 1 (min n2 16)).tx = cTx l2 1 (min n2 16) := rfl
      rw [htx] at R2
      obtain ⟨T2, hT2⟩ : ∃ T, cTx l2 1 (min n2 16) = T := ⟨_, rfl⟩
      rw [hT2] at R2 hG2
      have HS2 := hide (And.intro R2 (And.intro hG1 hG2))
      clear K2 hB2 hb2 H1 R1 o1 t1 hG1 hal hRR hG2 hR2 e2 R2 htx hT2 HTR
      generalize commitPS (cS (endS S) l2 1 (min n2 16)) = S4 at *
      generalize cSec l2 1 M1 (min n2 16) = M2 at *
      go_wp2_with fail
      refine (unhide HC).mono ?_
      rintro e y3 ⟨rfl, K3, -, -⟩
      obtain ⟨R2, hG1, hG2⟩ := unhide HS2
      have hac : S4.s.acts = A0 ++ comA T1 ++ comA T2 := by rw [R2.s]; rfl
      have hal : (A0 ++ comA T1 ++ comA T2).length = 78 := by rw [List.length_append, List.length_append, comA_len T1 hG1.len, comA_len T2 hG2.len]; rfl
      have HTR := hide (traceD K3.ji.di (by rw [hac, hal]; decide))
      rw [hac, hal] at HTR
      have HB3 := hide K3.bel
      clear K3 hac hal HC R2 hG1 hG2
      go_wp2_with fail
      refine (unhide HTR).mono ?_
      rintro e y4 ⟨rfl, hB4, _, hb4⟩
      have HT := hide (fun i hi => trace_at (unhide HS2).2.1 (unhide HS2).2.2 hB4 i hi)
      have HBW := hide ((unhide HB3).trans (hb4.mono (unhide HB3).size))
      have hgl := hB4.lt
      have HY4 := hide hgl
      obtain ⟨gt, hgt⟩ : ∃ g, y3.heap.size = g := ⟨_, rfl⟩
      rw [hgt] at HT HY4 ⊢
      clear hB4 hb4 HTR HB3 hgt hgl HS2
      go_wp2
      go_loopw [19] (fun i wr => ∃ k : Nat, k ≤ 38 ∧ i = .int .i64 (k : Int) ∧ Below y4.heap.size y4 wr) (fun i _ => 38 - (intOf i).toNat)
      case atStart => exact ⟨0, by omega, rfl, Below.refl _ _⟩
      case round =>
        obtain ⟨k, hk, rfl, hbk⟩ := hrel
        obtain ⟨wo, rfl⟩ : ∃ wo, wo = wr := ⟨_, rfl⟩
        by_cases hk38 : k < 38
        · obtain ⟨x, y, t1, t2, t3, t4, hrun, hno⟩ := unhide HT k hk38
          have hgl := unhide HY4
          have u1 : wo.cell? ⟨gt, (2 + k) * 2, none⟩ = some (.int .i64 (kindC k)) := by rw [show (2 + k) * 2 = 4 + k * 2 by omega]; exact (hbk.cell (p := ⟨gt, 4 + k * 2, none⟩) hgl).trans t1
          have u2 : wo.cell? ⟨gt, (2 + k) * 2 + 1, none⟩ = some (.int .i64 (x : Int)) := by rw [show (2 + k) * 2 = 4 + k * 2 by omega]; exact (hbk.cell (p := ⟨gt, 4 + k * 2 + 1, none⟩) hgl).trans t2
          have u3 : wo.cell? ⟨gt, (40 + k) * 2, none⟩ = some (.int .i64 (kindC k)) := by rw [show (40 + k) * 2 = 80 + k * 2 by omega]; exact (hbk.cell (p := ⟨gt, 80 + k * 2, none⟩) hgl).trans t3
          have u4 : wo.cell? ⟨gt, (40 + k) * 2 + 1, none⟩ = some (.int .i64 (y : Int)) := by rw [show (40 + k) * 2 = 80 + k * 2 by omega]; exact (hbk.cell (p := ⟨gt, 80 + k * 2 + 1, none⟩) hgl).trans t4
          have hgo : gt < wo.heap.size := Nat.lt_of_lt_of_le hgl hbk.size
          have hne : ¬ (gt = wo.heap.size) := by omega
          generalize kindC k = KK at *
          have v3 : (wo.alloc (.cells #[.int .i64 KK, .int .i64 (x : Int)] 48)).cell? ⟨gt, (40 + k) * 2, none⟩ = some (.int .i64 KK) := (World.cell?_alloc_old _ _ _ hne).trans u3
          have v4 : (wo.alloc (.cells #[.int .i64 KK, .int .i64 (x : Int)] 48)).cell? ⟨gt, (40 + k) * 2 + 1, none⟩ = some (.int .i64 (y : Int)) := (World.cell?_alloc_old _ _ _ hne).trans u4
          have v5 : Blk (wo.alloc (.cells #[.int .i64 KK, .int .i64 (x : Int)] 48)) wo.heap.size #[.int .i64 KK, .int .i64 (x : Int)] 48 := Blk.new _ _ _
          have v7 : Blk ((wo.alloc (.cells #[.int .i64 KK, .int .i64 (x : Int)] 48)).alloc (.cells #[.int .i64 KK, .int .i64 (y : Int)] 48)) wo.heap.size #[.int .i64 KK, .int .i64 (x : Int)] 48 := v5.alloc _
          have v8 : Blk ((wo.alloc (.cells #[.int .i64 KK, .int .i64 (x : Int)] 48)).alloc (.cells #[.int .i64 KK, .int .i64 (y : Int)] 48)) (wo.heap.size + 1) #[.int .i64 KK, .int .i64 (y : Int)] 48 := by
            have := Blk.new (wo.alloc (.cells #[.int .i64 KK, .int .i64 (x : Int)] 48)) 48 #[.int .i64 KK, .int .i64 (y : Int)]
            rwa [show (wo.alloc (.cells #[.int .i64 KK, .int .i64 (x : Int)] 48)).heap.size = wo.heap.size + 1 by simp] at this
          have p1' : ((wo.alloc (.cells #[.int .i64 KK, .int .i64 (x : Int)] 48)).alloc (.cells #[.int .i64 KK, .int .i64 (y : Int)] 48)).cell? ⟨wo.heap.size, 0, none⟩ = some (.int .i64 KK) := v7.cell 0
          have p2' : ((wo.alloc (.cells #[.int .i64 KK, .int .i64 (x : Int)] 48)).alloc (.cells #[.int .i64 KK, .int .i64 (y : Int)] 48)).cell? ⟨wo.heap.size, 1, none⟩ = some (.int .i64 (x : Int)) := v7.cell 1
          have p3' : ((wo.alloc (.cells #[.int .i64 KK, .int .i64 (x : Int)] 48)).alloc (.cells #[.int .i64 KK, .int .i64 (y : Int)] 48)).cell? ⟨wo.heap.size + 1, 0, none⟩ = some (.int .i64 KK) := v8.cell 0
          have p4' : ((wo.alloc (.cells #[.int .i64 KK, .int .i64 (x : Int)] 48)).alloc (.cells #[.int .i64 KK, .int .i64 (y : Int)] 48)).cell? ⟨wo.heap.size + 1, 1, none⟩ = some (.int .i64 (y : Int)) := v8.cell 1
          have HBX := hide (hbk.trans ((((Below.refl _ wo).alloc (Nat.le_refl _) (.cells #[.int .i64 KK, .int .i64 (x : Int)] 48)).alloc (by simp) (.cells #[.int .i64 KK, .int .i64 (y : Int)] 48)).mono hbk.size))
          clear v5 v7 v8 u3 u4 hne
          have e1 : (k : Int) < 38 := by omega
          have i0 : (0 : Int) ≤ 2 + (k : Int) := by omega
          have i1 : 2 + (k : Int) < 78 := by omega
          have i2 : (0 : Int) ≤ 40 + (k : Int) := by omega
          have i3 : 40 + (k : Int) < 78 := by omega
          have i4 : (2 + (k : Int)).toNat = 2 + k := by omega
          have i5 : (40 + (k : Int)).toNat = 40 + k := by omega
          have ek : (KK != KK) = false := by simp
          clear t1 t2 t3 t4 hbk hgo hgl
          by_cases hxy : x = y
          · subst hxy
            have e0 : ((x : Int) != (x : Int)) = false := by simp
            clear hrun hno
            go_wp2
            go_roundw
            case rel => exact ⟨k + 1, by omega, by go_num, unhide HBX⟩
            case measure => simp [intOf]; omega
          · have e0 : ((x : Int) != (y : Int)) = true := by simp; omega
            have h19 : 19 ≤ k ∧ k < 35 := Classical.byContradiction (fun q => hxy (hno q))
            have e3 : decide ((k : Int) < 19) = false := by simp; omega
            have e4 : decide ((34 : Int) < (k : Int)) = false := by simp; omega
            clear hrun hno hxy h19
            go_wp2
            go_roundw
            case rel => exact ⟨k + 1, by omega, by go_num, unhide HBX⟩
            case measure => simp [intOf]; omega
        · have e1 : ¬ (k : Int) < 38 := by omega
          have HF := hide ((unhide HBW).trans (hbk.mono (unhide HBW).size))
          clear hbk
          go_wp2
          go_ret
          exact ⟨rfl, unhide HF⟩
end Go.Proofs.YtnkaooafenakdaaGreatDoor
