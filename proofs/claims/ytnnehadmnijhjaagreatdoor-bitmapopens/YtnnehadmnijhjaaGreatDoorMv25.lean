import Derived.Test.YtnnehadmnijhjaaGreatDoorMv24
import Derived.Test.YtnnehadmnijhjaaGreatDoorMv16
import Derived.BigQuiet
import Derived.WalkMore
import Derived.Deep.DeepCutAuto
import Derived.Test.YtnnehadmnijhjaaGreatDoorMv23
import Derived.Test.YtnnehadmnijhjaaGreatDoorMv22
namespace Go.Proofs.YtnnehadmnijhjaaGreatDoor
open Go.RowKit Go.Maps Go.Sort Go.Shelf
set_option maxRecDepth 100000
/-- the first q places are told -/
def tkL (P : List ByteArray) (n q : Nat) : List Bool := (List.range n).map fun i => decide (i < q) && tkT P i
theorem tkL_len (P : List ByteArray) (n q : Nat) : (tkL P n q).length = n := by simp [tkL]
theorem tkL_zero (P : List ByteArray) (n : Nat) : tkL P n 0 = List.replicate n false := by
  apply List.ext_getElem
  · simp [tkL]
  · intro i h1 h2; simp [tkL]
theorem tkL_step (P : List ByteArray) (n q : Nat) : (tkL P n q).set q (tkT P q) = tkL P n (q + 1) := by
  apply List.ext_getElem
  · simp [tkL]
  · intro i h1 h2
    rw [List.getElem_set]
    by_cases h : q = i
    · subst h; simp [tkL]
    · rw [if_neg h]
      simp only [tkL, List.getElem_map, List.getElem_range]
      congr 1
      simp; omega
theorem tkL_at (P : List ByteArray) (n j : Nat) (hj : j < n) : (tkL P n n).getD j false = tkT P j := by
  rw [List.getD_eq_getElem?_getD]
  simp [tkL, hj]
theorem shr_bit (x r : Nat) : (x / 2 ^ r) &&& 1 = if x.testBit r then 1 else 0 := by
  rw [Nat.and_one_is_mod, Nat.testBit_eq_decide_div_mod_eq]
  have := Nat.mod_two_eq_zero_or_one (x / 2 ^ r)
  by_cases h : x / 2 ^ r % 2 = 1
  · simp [h]
  · simp [h]; omega
theorem bit_eq (x r : Nat) (hx : x < 256) : (bits BinOp.and IntKind.u8 ((x : Int) / 2 ^ r) 1 == 1) = x.testBit r := by
  have h1 : x / 2 ^ r < 256 := Nat.lt_of_le_of_lt (Nat.div_le_self _ _) hx
  have e1 : ((x : Int) / 2 ^ r) = ((x / 2 ^ r : Nat) : Int) := by rw [Int.natCast_ediv]; simp
  have h := u8_and_nat (x / 2 ^ r) 1 h1 (by decide)
  rw [e1]
  have h' : bits BinOp.and IntKind.u8 ((x / 2 ^ r : Nat) : Int) 1 = ((x / 2 ^ r &&& 1 : Nat) : Int) := h
  rw [h', shr_bit]
  cases x.testBit r <;> rfl
def RdQ (P : List ByteArray) (n : Nat) (w : World) (e : Ending) (w' : World) : Prop :=
  Below w.heap.size w w' ∧ ((((∀ k, k < pgs n → gdP P k) ∧ ∀ k, k < pgs n → P.getD k ByteArray.empty = pgT k (bdB (tkT P) n k)) ∧ e = .returned (.tuple #[.slice (some ⟨w.heap.size, 0, none⟩) n n, .bool true]) ∧ Bls w' (some ⟨w.heap.size, 0, none⟩) (tkT P) n) ∨
    (¬ ((∀ k, k < pgs n → gdP P k) ∧ ∀ k, k < pgs n → P.getD k ByteArray.empty = pgT k (bdB (tkT P) n k)) ∧ e = .returned (.tuple #[.slice none 0 0, .bool false])))
def RdI (P : List ByteArray) (n g : Nat) (w : World) (k q : Nat) (wr : World) : Prop := Blk wr g (bools (tkL P n q)) 4 ∧ Below w.heap.size w wr ∧ ∀ i, i < k → gdP P i
set_option maxHeartbeats 8000000 in
theorem rread7 (n : Nat) (hn1 : 1 ≤ n) (hn2 : n ≤ 1024) (p : Option Addr) (c : Nat) (P : List ByteArray) (hP : P.length = pgs n) (w : World) (hS : Strs w p P) :
    Calls Tryz.prog 13 #[.int .i64 (n : Int), .slice p (pgs n) c] w (RdQ P n w) := by
  have h4 : pgs n ≤ 4 := by unfold pgs; omega
  have HPN := hide (show ∀ k, k < pgs n → 256 * k < n from fun k hk => by unfold pgs at hk; omega)
  have HPE := hide (show n ≤ 256 * pgs n from by unfold pgs; omega)
  have hmk := run_make_b n (by omega) w
  obtain ⟨g, hg⟩ : ∃ z, w.heap.size = z := ⟨_, rfl⟩
  obtain ⟨x1, hx1⟩ : ∃ z, w.alloc (.cells (bools (List.replicate n false)) 4) = z := ⟨_, rfl⟩
  have X1 := hide (show RdI P n g w 0 0 x1 from ⟨by rw [← hx1, ← hg, tkL_zero]; exact Blk.new w _ _, by rw [← hx1]; exact (Below.refl _ _).alloc (Nat.le_refl _) _, fun i hi => by omega⟩)
  rw [hx1, hg] at hmk
  have HPG := hide (fun (W : World) (hB : Blk W g (bools (tkL P n n)) 4) => rpages_any (some ⟨g, 0, none⟩) n n hn1 hn2 (tkT P) W (fun j hj => ⟨g, 0, rfl, hB.lt, by rw [Nat.zero_add, hB.cell, bools_at _ _ (by rw [tkL_len]; exact hj), tkL_at P n j hj]⟩))
  have HBS := hide (fun (W : World) (hB : Blk W g (bools (tkL P n n)) 4) => (show Bls W (some ⟨g, 0, none⟩) (tkT P) n from fun j hj => ⟨g, 0, rfl, hB.lt, by rw [Nat.zero_add, hB.cell, bools_at _ _ (by rw [tkL_len]; exact hj), tkL_at P n j hj]⟩))
  have HNO := hide (fun (W : World) (hb : Below w.heap.size w W) (hno : ¬ ((∀ k, k < pgs n → gdP P k) ∧ ∀ k, k < pgs n → P.getD k ByteArray.empty = pgT k (bdB (tkT P) n k))) => (show RdQ P n w (.returned (.tuple #[.slice none 0 0, .bool false])) W from ⟨hb, .inr ⟨hno, rfl⟩⟩))
  have HYES := hide (fun (W : World) (hb : Below w.heap.size w W) (hy : (∀ k, k < pgs n → gdP P k) ∧ ∀ k, k < pgs n → P.getD k ByteArray.empty = pgT k (bdB (tkT P) n k)) (hB : Bls W (some ⟨g, 0, none⟩) (tkT P) n) => (show RdQ P n w (.returned (.tuple #[.slice (some ⟨g, 0, none⟩) n n, .bool true])) W from ⟨hb, .inl ⟨hy, by rw [hg], by rw [hg]; exact hB⟩⟩))
  have HS := hide (And.intro hP hS)
  have HGG := hide (show w.heap.size ≤ g by omega)
  have HPL := hide (show ∀ k, k < pgs n → (pagesL (tkT P) n (pgs n)).getD k ByteArray.empty = pgT k (bdB (tkT P) n k) from fun k hk => by rw [List.getD_eq_getElem?_getD]; simp [pagesL, hk])
  have HPLL := hide (show (pagesL (tkT P) n (pgs n)).length = pgs n from by simp [pagesL])
  obtain ⟨m, hm⟩ : ∃ z, pgs n = z := ⟨_, rfl⟩
  rw [hm] at h4 HPN HPE HPG HNO HYES HS HPL HPLL ⊢
  clear hP hS hg hm hx1 hn1
  go_enter Tryz.func13, Tryz.ntmps13
  go_wp2
  go_loopw [7, 8, 9, 10] (fun kv _ _ _ wr => ∃ k : Nat, k ≤ m ∧ kv = .int .i64 (k : Int) ∧ RdI P n g w k (min n (256 * k)) wr) (fun kv _ _ _ _ => m - (intOf kv).toNat)
  case atStart => exact ⟨0, by omega, rfl, by rw [show min n (256 * 0) = 0 by omega]; exact unhide X1⟩
  case round =>
    obtain ⟨k, hk, rfl, hI⟩ := hrel
    obtain ⟨wo, rfl⟩ : ∃ wo, wo = wr := ⟨_, rfl⟩
    have XI := hide hI
    clear hI X1 hmk
    by_cases hkm : k < m
    · have hkm' : (k : Int) < (m : Int) := by omega
      have i0 : (0 : Int) ≤ (k : Int) := by omega
      obtain ⟨gs, os, rfl, hgs, hcs⟩ := (unhide HS).2 k (by rw [(unhide HS).1]; exact hkm)
      have ck := ((unhide XI).2.1.cell (p := ⟨gs, os + k, none⟩) hgs).trans hcs
      have HPS := hide (rparse_any (P.getD k ByteArray.empty) wo)
      have HGD := hide (show gdP P k ↔ prOk (P.getD k ByteArray.empty) ∧ (pbd (P.getD k ByteArray.empty)).size = 32 from Iff.rfl)
      have HTK := hide (fun (j : Nat) (hj : j < 256) => tk_at P k j hj)
      obtain ⟨tt, htt⟩ : ∃ z, P.getD k ByteArray.empty = z := ⟨_, rfl⟩
      rw [htt] at ck HPS HGD HTK
      clear hcs htt
      go_wp2_with fail
      refine (unhide HPS).mono ?_
      rintro e x2 ⟨hpp, hb2⟩
      have HB2 := hide (show RdI P n g w k (min n (256 * k)) x2 from ⟨(unhide XI).1.below hb2 (unhide XI).1.lt, (unhide XI).2.1.trans (hb2.mono (unhide XI).2.1.size), (unhide XI).2.2⟩)
      clear hb2 HPS ck XI
      rcases hpp with ⟨hok, rfl⟩ | ⟨hno, rfl⟩
      case inr =>
        as_aux_lemma =>
          have HF := hide (unhide HNO (x2.alloc (.cells #[.int .i64 0, .int .i64 0, .string ⟨#[]⟩] 87)) ((unhide HB2).2.1.alloc (unhide HB2).2.1.size _) (fun q => hno ((unhide HGD).1 (q.1 k hkm)).1))
          clear hno HB2
          go_wp2
          go_ret2
          exact unhide HF
      obtain ⟨bd, hbd⟩ : ∃ z, pbd tt = z := ⟨_, rfl⟩
      obtain ⟨kd, hkd⟩ : ∃ z, pkd tt = z := ⟨_, rfl⟩
      obtain ⟨nb, hnb⟩ : ∃ z, pnm tt = z := ⟨_, rfl⟩
      rw [hbd, hkd, hnb]
      rw [hbd] at HGD HTK
      obtain ⟨gp, hgp⟩ : ∃ z, x2.heap.size = z := ⟨_, rfl⟩
      obtain ⟨x3, hx3⟩ : ∃ z, x2.alloc (.cells #[.int .i64 kd, .int .i64 nb, .string bd] 87) = z := ⟨_, rfl⟩
      have B3 : Blk x3 gp #[.int .i64 kd, .int .i64 nb, .string bd] 87 := by rw [← hx3, ← hgp]; exact Blk.new x2 _ _
      have HB3 := hide (show RdI P n g w k (min n (256 * k)) x3 from ⟨by rw [← hx3]; exact (unhide HB2).1.alloc _, by rw [← hx3]; exact (unhide HB2).2.1.alloc (unhide HB2).2.1.size _, (unhide HB2).2.2⟩)
      have HGP := hide (show g ≠ gp ∧ w.heap.size ≤ gp from ⟨fun e => by have := (unhide HB2).1.lt; omega, by have := (unhide HB2).2.1.size; omega⟩)
      have HBK := hide B3
      have a2 : x3.cell? ⟨gp, 2, none⟩ = some (.string bd) := B3.cell 2
      have HOK := hide hok
      clear hbd hkd hnb B3 HB2 hok
      by_cases hsz : bd.size = 32
      case neg =>
        as_aux_lemma =>
          have hs' : ((bd.size : Int) != 32) = true := by simp; omega
          have HF := hide (unhide HNO x3 (unhide HB3).2.1 (fun q => hsz ((unhide HGD).1 (q.1 k hkm)).2))
          clear hsz HB3 HBK
          go_wp2
          go_ret2
          exact unhide HF
      have hs' : ((bd.size : Int) != 32) = false := by rw [hsz]; rfl
      have HGK := hide ((unhide HGD).2 ⟨unhide HOK, hsz⟩)
      have HSZ := hide hsz
      clear hsz HOK
      go_wp2_with fail
      clear hx3 hgp a2 hs'
      as_aux_lemma =>
        go_loopw [10] (fun jv wr => ∃ j : Nat, j ≤ 256 ∧ 256 * k + j ≤ n ∧ jv = .int .i64 (j : Int) ∧ RdI P n g w k (256 * k + j) wr ∧ Blk wr gp #[.int .i64 kd, .int .i64 nb, .string bd] 87) (fun jv _ => 256 - (intOf jv).toNat)
        case atStart => exact ⟨0, by omega, by have := unhide HPN k hkm; omega, rfl, by have := unhide HPN k hkm; rw [show 256 * k + 0 = min n (256 * k) by omega]; exact unhide HB3, unhide HBK⟩
        case round =>
          obtain ⟨j, hj, hjn, rfl, hI, hBp⟩ := hrel
          obtain ⟨wp, rfl⟩ : ∃ wo, wo = wr := ⟨_, rfl⟩
          have XI := hide hI
          have XP := hide hBp
          clear hI hBp HB3 HBK
          obtain ⟨cb, hcb⟩ : ∃ cb : Bool, decide (j < 256 ∧ 256 * k + j < n) = cb := ⟨_, rfl⟩
          have HCB := hide hcb
          obtain ⟨q, hq⟩ : ∃ z, 256 * k + j = z := ⟨_, rfl⟩
          have w1 : IntKind.i64.wrap (256 * (k : Int)) = ((256 * k : Nat) : Int) := by rw [wrapI_eq _ (by omega) (by omega)]; omega
          have w2 : IntKind.i64.wrap (((256 * k : Nat) : Int) + (j : Int)) = (q : Int) := by rw [wrapI_eq _ (by omega) (by omega)]; omega
          have HQ := hide hq
          rw [hq] at hjn XI
          obtain ⟨kk, hkk⟩ : ∃ z, 256 * k = z := ⟨_, rfl⟩
          rw [hkk] at w1 w2
          clear hcb hq hkk
          go_upto_region 9 with fail
          go_cut [46] (fun cv wx => cv = .bool cb ∧ wx = wp)
          case first =>
            by_cases g1 : j < 256
            · have g1' : (j : Int) < 256 := by omega
              by_cases g2 : q < n
              · have g2' : (q : Int) < (n : Int) := by omega
                go_wp2_with fail
                go_meet
                exact ⟨congrArg Value.bool (by rw [← unhide HCB]; exact (decide_eq_true ⟨g1, by have := unhide HQ; omega⟩).symm), rfl⟩
              · have g2' : ¬ (q : Int) < (n : Int) := by omega
                go_wp2_with fail
                go_meet
                exact ⟨congrArg Value.bool (by rw [← unhide HCB]; exact (decide_eq_false (fun r => g2 (by have := unhide HQ; omega))).symm), rfl⟩
            · have g1' : ¬ (j : Int) < 256 := by omega
              go_wp2_with fail
              go_meet
              exact ⟨congrArg Value.bool (by rw [← unhide HCB]; exact (decide_eq_false (fun r => g1 r.1)).symm), rfl⟩
          case rest =>
          obtain ⟨rfl, hwc⟩ := hcut
          subst wc
          cases cb with
          | true =>
            as_aux_lemma =>
              have hgo := of_decide_eq_true (unhide HCB)
              have hqn : q < n := by have := unhide HQ; omega
              have j0 : (0 : Int) ≤ (q : Int) := by omega
              have j1 : (q : Int) < (n : Int) := by omega
              have a2 : wp.cell? ⟨gp, 2, none⟩ = some (.string bd) := (unhide XP).cell 2
              have hjd : j / 8 < 32 := by omega
              have hix := index_str bd (j / 8) (by rw [unhide HSZ]; exact hjd)
              rw [byN_eq] at hix
              have hbt := bit_eq (byN bd (j / 8)) (j % 8) (byN_lt _ _)
              have HTV := hide (show tkT P q = (byN bd (j / 8)).testBit (j % 8) from by
                rw [← unhide HQ, unhide HTK j hgo.1, bitB, show j % 256 = j by omega])
              generalize (byN bd (j / 8)).testBit (j % 8) = tb at *
              generalize byN bd (j / 8) = x at *
              have dq : (j : Int).tdiv 8 = ((j / 8 : Nat) : Int) := by rw [Int.tdiv_eq_ediv_of_nonneg (by omega)]; omega
              have dr : (j : Int).tmod 8 = ((j % 8 : Nat) : Int) := by rw [Int.tmod_eq_emod_of_nonneg (by omega)]; omega
              have wd : IntKind.i64.wrap ((j / 8 : Nat) : Int) = ((j / 8 : Nat) : Int) := wrapI_eq _ (by omega) (by omega)
              have bq : Blk wp g (bools (tkL P n q)) 4 := (unhide XI).1
              have cq : wp.cell? ⟨g, q, none⟩ = some (.bool ((tkL P n q).getD q false)) := by rw [bq.cell, bools_at _ _ (by rw [tkL_len]; exact hqn)]
              have fq : wp.frozen? ⟨g, q, none⟩ = false := bq.frozen q
              obtain ⟨wq, hwq⟩ : ∃ z, wp.setCell ⟨g, q, none⟩ (.bool tb) = z := ⟨_, rfl⟩
              have HN := hide (show RdI P n g w k (256 * k + (j + 1)) wq ∧ Blk wq gp #[.int .i64 kd, .int .i64 nb, .string bd] 87 from by
                have h1 := bq.set q (.bool tb)
                rw [hwq, bools_set, ← unhide HTV, tkL_step] at h1
                refine ⟨⟨by rw [show 256 * k + (j + 1) = q + 1 by have := unhide HQ; omega]; exact h1, ?_, (unhide XI).2.2⟩, ?_⟩
                · rw [← hwq]
                  exact (unhide XI).2.1.setCell (by have := unhide HGG; exact this) _
                · rw [← hwq]
                  exact (unhide XP).other _ _ (unhide HGP).1)
              clear bq hgo HTV
              generalize (tkL P n q).getD q false = ob at *
              generalize hj8 : j / 8 = jq at *
              generalize hj8r : j % 8 = jr at *
              go_wp2
              go_roundw
              case rel => exact ⟨j + 1, by have := of_decide_eq_true (unhide HCB); omega, by have := unhide HQ; omega, by go_num, unhide HN⟩
              case measure => have := of_decide_eq_true (unhide HCB); simp [intOf]; omega
          | false =>
            as_aux_lemma =>
              have hno := of_decide_eq_false (unhide HCB)
              have HN := hide (show RdI P n g w (k + 1) (min n (256 * (k + 1))) wp from by
                refine ⟨?_, (unhide XI).2.1, fun i hi => ?_⟩
                · have := (unhide XI).1
                  by_cases hqn : q = n
                  · rw [show min n (256 * (k + 1)) = n by have := unhide HQ; omega]
                    rw [hqn] at this
                    exact this
                  · rw [show min n (256 * (k + 1)) = q by have := unhide HQ; omega]
                    exact this
                · by_cases hik : i = k
                  · rw [hik]; exact unhide HGK
                  · exact (unhide XI).2.2 i (by omega))
              clear hno
              go_wp2
              go_roundw
              case rel => exact ⟨k + 1, by omega, by go_num, unhide HN⟩
              case measure => simp [intOf]; omega
    · as_aux_lemma =>
        have hkm' : ¬ (k : Int) < (m : Int) := by omega
        obtain rfl : k = m := by omega
        have hB : Blk wo g (bools (tkL P n n)) 4 := by
          have := (unhide XI).1
          rw [show min n (256 * k) = n by have := unhide HPE; omega] at this
          exact this
        have HPP := hide (unhide HPG wo hB)
        have HG := hide (unhide XI).2.2
        have HBL := hide hB
        have HBE := hide (unhide XI).2.1
        clear hB XI
        go_wp2_with fail
        refine (unhide HPP).mono ?_
        rintro e x2 ⟨v, rfl, hrow, hb2⟩
        obtain ⟨pv, cv, rfl, hZ⟩ : ∃ p c, v = .slice p k c ∧ Strs x2 p (pagesL (tkT P) n k) := by
          have hr : x2.ownsRow wo.heap.size 9 1 v (pagesL (tkT P) n k).length (strs (pagesL (tkT P) n k)) := by rw [unhide HPLL]; exact hrow
          obtain ⟨p, c, q1, q2⟩ := Strs.own hr
          exact ⟨p, c, by rw [q1, unhide HPLL], q2⟩
        have HZ := hide hZ
        have HB2 := hide (show Below w.heap.size w x2 from (unhide HBE).trans (hb2.mono (unhide HBE).size))
        have HBL2 := hide (unhide HBS x2 ((unhide HBL).below hb2 (unhide HBL).lt))
        clear hrow hZ hb2 HPP HBL
        go_wp2_with fail
        go_loopw [12] (fun iv wr => ∃ i : Nat, i ≤ k ∧ iv = .int .i64 (i : Int) ∧ Below x2.heap.size x2 wr ∧ ∀ r, r < i → P.getD r ByteArray.empty = pgT r (bdB (tkT P) n r)) (fun iv _ => k - (intOf iv).toNat)
        case atStart => exact ⟨0, by omega, rfl, Below.refl _ _, fun r hr => by omega⟩
        case round =>
          obtain ⟨i, hi, rfl, hb, hall⟩ := hrel
          obtain ⟨wp, rfl⟩ : ∃ wo, wo = wr := ⟨_, rfl⟩
          have XB := hide hb
          have XA := hide hall
          clear hb hall
          by_cases hik : i < k
          · have hik' : (i : Int) < (k : Int) := by omega
            have hge : decide ((k : Int) ≤ (i : Int)) = false := decide_eq_false (by omega)
            have hgn : ¬ (k : Int) ≤ (i : Int) := by omega
            have i0 : (0 : Int) ≤ (i : Int) := by omega
            obtain ⟨g1, o1, rfl, hg1, hc1⟩ := unhide HZ i (by rw [unhide HPLL]; exact hik)
            obtain ⟨g2, o2, rfl, hg2, hc2⟩ := (unhide HS).2 i (by rw [(unhide HS).1]; exact hik)
            have d1 := ((unhide XB).cell (p := ⟨g1, o1 + i, none⟩) hg1).trans hc1
            have hbw : Below w.heap.size w wp := (unhide HB2).trans ((unhide XB).mono (unhide HB2).size)
            have d2 := (hbw.cell (p := ⟨g2, o2 + i, none⟩) hg2).trans hc2
            rw [unhide HPL i hik] at d1
            have HBW := hide hbw
            clear hc1 hc2 hbw
            by_cases he : P.getD i ByteArray.empty = pgT i (bdB (tkT P) n i)
            · as_aux_lemma =>
                have HA := hide (show ∀ r, r < i + 1 → P.getD r ByteArray.empty = pgT r (bdB (tkT P) n r) from fun r hr => by
                  by_cases hri : r = i
                  · rw [hri]; exact he
                  · exact unhide XA r (by omega))
                rw [← he] at d1
                generalize P.getD i ByteArray.empty = t at *
                clear he
                go_wp2_with fail
                go_quiet (fail)
                go_wp2
                go_roundw
                case rel => exact ⟨i + 1, by omega, by go_num, below_drewN (unhide XB) _, unhide HA⟩
                case measure => simp [intOf]; omega
            · as_aux_lemma =>
                have HF := hide (fun d => unhide HNO (wp.drewN d) (below_drewN (unhide HBW) d) (fun q => he (q.2 i hik)))
                have hst := str_neJ (Ne.symm he)
                generalize P.getD i ByteArray.empty = t at *
                generalize pgT i (bdB (tkT P) n i) = u at *
                clear he
                go_wp2_with fail
                go_quiet (fail)
                go_wp2
                go_ret2
                exact unhide HF _
          · as_aux_lemma =>
              have hik' : ¬ (i : Int) < (k : Int) := by omega
              have HF := hide (unhide HYES wp ((unhide HB2).trans ((unhide XB).mono (unhide HB2).size)) ⟨unhide HG, fun r hr => unhide XA r (by omega)⟩ (fun j hj => by
                obtain ⟨g1, o1, e1, hg1, hc1⟩ := unhide HBL2 j hj
                exact ⟨g1, o1, e1, Nat.lt_of_lt_of_le hg1 (unhide XB).size, ((unhide XB).cell (p := ⟨g1, o1 + j, none⟩) hg1).trans hc1⟩))
              go_wp2
              go_ret2
              exact unhide HF
def RlQ (T : Nat → Bool) (n : Nat) (w : World) (e : Ending) (w' : World) : Prop := ∃ q d, e = .returned (.slice q (lst T n).length d) ∧ Ints w' q (lst T n) ∧ Below w.heap.size w w'
set_option maxHeartbeats 4000000 in
/-- the document's List -/
theorem rlist7 (n : Nat) (hn2 : n ≤ 1024) (p : Option Addr) (c : Nat) (T : Nat → Bool) (w : World) (hT : Bls w p T n) :
    Calls Tryz.prog 16 #[.slice p n c] w (RlQ T n w) := by
  obtain ⟨i0, hi, hz0, hz1, hz2⟩ := info_parts infoI3
  have HI := hide (And.intro hi (And.intro hz0 (And.intro hz1 hz2)))
  have HT := hide hT
  clear hi hz0 hz1 hz2 hT
  obtain ⟨N, hN⟩ : ∃ z, w.heap.size = z := ⟨_, rfl⟩
  have X0 := hide (show w.ownsRow N 3 1 (.slice none 0 0) 0 ((lst T 0).map (Value.int .i64)) ∧ Below N w w from ⟨World.ownsRow_nil _ _ _ _, Below.refl _ _⟩)
  have HNN := hide hN
  clear hN
  go_enter Tryz.func16, Tryz.ntmps16
  go_wp2
  go_loopw [3, 4] (fun v iv wr => ∃ (i : Nat) (p : Option Addr) (c m : Nat), i ≤ n ∧ iv = .int .i64 (i : Int) ∧ v = .slice p m c ∧ m = (lst T i).length ∧ m ≤ i ∧ wr.ownsRow N 3 1 (.slice p m c) m ((lst T i).map (Value.int .i64)) ∧ Below N w wr) (fun _ iv _ => n - (intOf iv).toNat)
  case atStart => exact ⟨0, none, 0, 0, by omega, rfl, rfl, rfl, by omega, (unhide X0).1, (unhide X0).2⟩
  case round =>
    obtain ⟨i, pv, cv, m, hin, rfl, rfl, hm, hmi, hrow, hb⟩ := hrel
    obtain ⟨wo, rfl⟩ : ∃ wo, wo = wr := ⟨_, rfl⟩
    have XR := hide (And.intro hrow (And.intro hb hm))
    clear hrow hb hm X0
    by_cases hil : i < n
    · have hil' : (i : Int) < (n : Int) := by omega
      have i0' : (0 : Int) ≤ (i : Int) := by omega
      obtain ⟨g1, o1, rfl, hg1, hc1⟩ := unhide HT i hil
      have d1 := ((unhide XR).2.1.cell (p := ⟨g1, o1 + i, none⟩) (by rw [unhide HNN] at hg1; exact hg1)).trans hc1
      have HLS := hide (lst_succ T i)
      clear hc1
      cases hTi : T i with
      | true =>
        rw [hTi] at d1 HLS
        as_aux_lemma =>
          have HRW := hide (show (wo.alloc (.cells #[.int .i64 (i : Int)] 3)).ownsRow N 3 1 (.slice pv m cv) m ((lst T i).map (Value.int .i64)) from owns_only (unhide XR).1 ((Only.of_below (P := fun _ => False) (Below.refl _ wo)).alloc _) (fun _ _ q => q))
          have HBS := hide (show N ≤ (wo.alloc (.cells #[.int .i64 (i : Int)] 3)).heap.size from by have := (unhide XR).2.1.size; rw [unhide HNN] at this; simp; omega)
          have HML := hide (show m + 1 ≤ maxLen ∧ (m + 1) * 8 ≤ 140737488355328 from ⟨by unfold maxLen; omega, by omega⟩)
          clear hTi
          go_wp2_with (refine wpList_append_lies _ rfl (.tmp 15) (.tmp 17) 46 rfl N 3 i0 (.int .i64 0) 1 8 Tryz.underlying46 (unhide HI).1 (unhide HI).2.1 (unhide HI).2.2.1 (unhide HI).2.2.2 rfl (by decide) (.slice pv m cv) m ((lst T i).map (Value.int .i64)) rfl (unhide HRW) ⟨wo.heap.size, 0, none⟩ 1 1 [.int .i64 (i : Int)] rfl rfl (fun q u hu => news_one wo 3 _ q u hu) (by simp [Value.oneCell']) (by decide) (unhide HML).1 (unhide HML).2 (unhide HBS) _ rfl ?_)
          intro g2 e2 y1 ho1 hg2 hor1 hlt1
          have HNX := hide (show m + 1 = (lst T (i + 1)).length ∧ y1.ownsRow N 3 1 (.slice (some ⟨g2, 0, none⟩) (m + 1) e2) (m + 1) ((lst T (i + 1)).map (Value.int .i64)) ∧ Below N w y1 from by
            have e : lst T (i + 1) = lst T i ++ [(i : Int)] := by have := unhide HLS; simpa using this
            refine ⟨by rw [e, List.length_append, ← (unhide XR).2.2]; rfl, by rw [e, List.map_append]; exact ho1, ?_⟩
            have hs := (unhide XR).2.1.size
            rw [unhide HNN] at hs
            have b1 : Below N w (wo.alloc (.cells #[.int .i64 (i : Int)] 3)) := (unhide XR).2.1.alloc hs _
            exact b1.trans ((grown_only hg2).below (unhide HBS) (fun b hb q => by have := ((unhide HRW).lt b q).1; omega)))
          clear ho1 hg2 hor1 hlt1 HRW HBS HML
          go_wp2
          go_roundw
          case rel => exact ⟨i + 1, _, _, m + 1, by omega, by go_num, rfl, (unhide HNX).1, by omega, (unhide HNX).2.1, (unhide HNX).2.2⟩
          case measure => simp [intOf]; omega
      | false =>
        rw [hTi] at d1 HLS
        as_aux_lemma =>
          have HNX := hide (show m = (lst T (i + 1)).length ∧ wo.ownsRow N 3 1 (.slice pv m cv) m ((lst T (i + 1)).map (Value.int .i64)) from by
            have e : lst T (i + 1) = lst T i := by have := unhide HLS; simpa using this
            rw [e]
            exact ⟨(unhide XR).2.2, (unhide XR).1⟩)
          clear hTi
          go_wp2
          go_roundw
          case rel => exact ⟨i + 1, _, _, m, by omega, by go_num, rfl, (unhide HNX).1, by omega, (unhide HNX).2, (unhide XR).2.1⟩
          case measure => simp [intOf]; omega
    · as_aux_lemma =>
        have hil' : ¬ (i : Int) < (n : Int) := by omega
        obtain rfl : i = n := by omega
        have HF := hide (show Ints wo pv (lst T i) from by
          have hr := (unhide XR).1
          rw [(unhide XR).2.2] at hr
          exact ints_own hr)
        have HM := hide (unhide XR).2.2
        have HB := hide (unhide XR).2.1
        clear XR
        go_wp2
        go_ret
        exact ⟨pv, cv, congrArg (fun z => Ending.returned (Value.slice pv z cv)) (unhide HM), unhide HF, by rw [unhide HNN]; exact unhide HB⟩
end Go.Proofs.YtnnehadmnijhjaaGreatDoor

namespace Go.Proofs.YtnnehadmnijhjaaGreatDoor
open Go.RowKit Go.Maps Go.Sort Go.Shelf
theorem arm_rs7 (I : List ByteArray) (A : List (Nat × Nat)) (f : Nat) : armE (rs I A) (f : Int) = 0 ∧ armS (rs I A) (f : Int) = ⟨I, I, [], A, (f : Int), false⟩ := by
  have h : ¬ ((f : Int) < 0) := by omega
  rw [armE, armS, if_neg h, if_neg h]
  exact ⟨rfl, rfl⟩
/-- A pool with an open transaction, on a disk that may die. -/
def Armed (w0 w : World) (b jb pb : Nat) (X : Nat → Prop) (n : Nat) (O : List ByteArray) (A : List (Nat × Nat)) (f : Nat) (tx : Tx) (Tw T : Nat → Bool) : Prop :=
  ∃ S, PK w0 w b jb pb S X ∧ S.s = ⟨O, O, [], A, (f : Int), false⟩ ∧ S.nx = 2 ∧ S.jl = false ∧ S.lost = false ∧ S.op = true ∧ S.tx = tx ∧ GoodL tx ∧ StO O O ∧ MS O 19 n Tw ∧ MS (layP O (natW tx)) 19 n T
theorem St.arm {w0 w : World} {b jb pb mb : Nat} {X : Nat → Prop} {n kp : Nat} {L : List ByteArray} {A : List (Nat × Nat)} {Tw T : Nat → Bool} (h : St w0 w b jb pb mb X 19 n kp true L A 1 Tw T) (f : Nat) (hf : f ≤ 40) :
    Calls Tryz.prog 8 #[.pointer (some ⟨b, 0, none⟩), .int .i64 (f : Int)] w fun e w' => e = .returned (.int .i64 0) ∧ (∃ tx, Armed w0 w' b jb pb X n L A f tx Tw T) ∧ Only (fun x => ¬ X x) w w' := by
  have hlast := h.lasts
  obtain ⟨S, Mw, Mn, h1, h2, h3, h4⟩ := h
  have hs := h1.seen.rst.s
  have hc := armP h1.pk (f : Int) (by omega) (by rw [hs, (arm_rs7 L A f).2]; rfl)
  rw [hs, (arm_rs7 L A f).1, (arm_rs7 L A f).2] at hc
  refine hc.mono ?_
  rintro e w' ⟨rfl, K, hO⟩
  have h5 := h1.hi
  refine ⟨rfl, ⟨S.tx, _, K, rfl, by show S.nx = 2; rw [h1.seen.rst.nx], h1.seen.rst.jl, h1.seen.rst.lost, h3, rfl, tx_good h1.srt h1.t16 h1.tok, ⟨hlast.2.1, hlast.2.2.1, hlast.2.2.2.1, fun k _ _ => rfl⟩, hlast.1, ?_⟩, hO⟩
  refine h1.ms.over (fun k hk => ?_)
  rw [tx_lay h1.srt (fun p hp => (h1.tok p hp).1) L (19 + k) (by rw [h1.seen.len]; omega), h1.seen.now (19 + k) (by omega) (by omega), h1.seen.was (19 + k) (by omega) (by rw [h1.seen.len]; omega)]
end Go.Proofs.YtnnehadmnijhjaaGreatDoor

namespace Go.Proofs.YtnnehadmnijhjaaGreatDoor
open Go.RowKit Go.Maps Go.Sort Go.Shelf
theorem flushK {w0 w : World} {b jb : Nat} {s : DSt} {nx : Nat} {lost : Bool} {X : Nat → Prop} (h : JK w0 w b jb s nx lost X) (hp : s.pend.length ≤ 1000000000) (ha : s.acts.length ≤ 1000000000) :
    Calls Tryz.prog 9 #[.pointer (some ⟨b, 0, none⟩)] w fun e w' => e = .returned (.int .i64 (flushE s)) ∧ JK w0 w' b jb (flushS s) nx lost X ∧ Only (fun x => ¬ X x) w w' := by
  obtain ⟨v, h1, h2, h3, h4, h5, h6, h7⟩ := h
  refine (flush_any w _ b v s h1 h5.size h6 hp ha).mono ?_
  rintro ev w' ⟨rfl, hP⟩
  exact ⟨rfl, JK.dpost h1 h2 h3 h4 h5 h6.flush h7 hP⟩
theorem flushP {w0 w : World} {b jb pb : Nat} {S : PS} {X : Nat → Prop} (K : PK w0 w b jb pb S X) (hp : S.s.pend.length ≤ 1000000000) (ha : S.s.acts.length ≤ 1000000000) (hl : (flushS S.s).last.length = S.s.last.length) :
    Calls Tryz.prog 9 #[.pointer (some ⟨b, 0, none⟩)] w fun e w' => e = .returned (.int .i64 (flushE S.s)) ∧ PK w0 w' b jb pb { S with s := flushS S.s } X ∧ Only (fun x => ¬ X x) w w' := by
  obtain ⟨bw, bv, ov, K⟩ := K
  refine (flushK K.jk hp ha).mono ?_
  rintro ev w' ⟨rfl, hJ, hO⟩
  have np : ∀ x, Pf pb bw bv ov x → ¬ ¬ (X x ∨ Pf pb bw bv ov x) := fun x q r => r (.inr q)
  refine ⟨rfl, ⟨bw, bv, ov, hJ, K.blk.only hO (np _ (.inl rfl)), K.tx.only hO (np _ (.inr (.inl rfl))), K.hn.only hO (np _ (.inr (.inr (.inl rfl)))) (fun x q => np _ (.inr (.inr (.inr q)))), K.ne, K.lo1, K.lo2, K.lo3, K.xn, K.hk, K.kp, K.t16, ?_⟩, hO.mono (fun x _ q r => q (.inl r))⟩
  show ∀ p ∈ S.tx, 19 ≤ p.1 ∧ p.1 < ((flushS S.s).last.length : Int) ∧ p.2.size = 256
  rw [hl]
  exact K.tok
theorem read_gone {S : PS} {D : DSt} (hs : S.s = D) (hh : S.h = []) (ht : S.tx = []) (hd : D.dead = true) (hl : D.last.length = 128) (i : Nat) (hi : i < 128) : (readP S (i : Int)).1 = ⟨#[]⟩ ∧ (readP S (i : Int)).2.1 = 2 ∧ ((readP S (i : Int)).2.2 = S ∨ (readP S (i : Int)).2.2 = lostS S) := by
  have hb : hasB S.s (i : Int) = true := by rw [hs]; unfold hasB; rw [hl]; simp; omega
  have hr : readE S.s (i : Int) = 2 := by
    rw [hs]
    unfold readE
    rw [if_pos (show isOk D (i : Int) from ⟨by omega, by rw [hl]; omega⟩), if_pos hd]
  unfold readP
  rw [hb, if_neg (by decide)]
  cases hlo : S.lost
  · rw [if_neg (by decide), ht, hh, hr]
    exact ⟨rfl, rfl, .inr rfl⟩
  · exact ⟨rfl, rfl, .inl rfl⟩
theorem pgs_pos {n : Nat} (h : 1 ≤ n) : 0 < pgs n := by unfold pgs; omega
theorem flush_dies (L : List ByteArray) (A : List (Nat × Nat)) : flushE ⟨L, L, [], A, 1, false⟩ = 2 ∧ flushS ⟨L, L, [], A, 1, false⟩ = ⟨L, L, [], A, 0, true⟩ := by
  have e : diesS ⟨L, L, [], A, 1, false⟩ = ⟨L, L, [], A, 0, true⟩ := rfl
  unfold flushE flushS
  rw [e]
  exact ⟨rfl, rfl⟩
end Go.Proofs.YtnnehadmnijhjaaGreatDoor

namespace Go.Proofs.YtnnehadmnijhjaaGreatDoor
open Go.RowKit Go.Maps Go.Sort Go.Shelf
set_option maxRecDepth 100000
/-- Open of a number of places that may not be -/
theorem mopen_count (p : Option Addr) (a z : Int) (hz : ¬ (1 ≤ z ∧ z ≤ 1024)) (w : World) : Calls Tryz.prog 10 #[.pointer p, .int .i64 a, .int .i64 z] w fun e w' => e = .returned (.tuple #[.pointer none, .int .i64 1]) ∧ w' = w := by
  have HM := hide (fun W => isCount_any z W)
  rw [show (decide (1 ≤ z) && decide (z ≤ 1024)) = false from by
    by_cases q : 1 ≤ z
    · rw [decide_eq_false (fun r => hz ⟨q, r⟩)]; simp
    · rw [decide_eq_false q]; rfl] at HM
  clear hz
  go_enter Tryz.func10, Tryz.ntmps10
  go_wp2_with (go_at_call 36; refine (unhide HM _).mono ?_; rintro e w' ⟨rfl, hw'⟩; subst w')
  go_ret2
  exact ⟨rfl, rfl⟩
theorem psize_pk {w0 w : World} {b jb pb : Nat} {S : PS} {X : Nat → Prop} (K : PK w0 w b jb pb S X) (hl : S.s.last.length = 128) : Calls Tryz.prog 37 #[.pointer (some ⟨pb, 0, none⟩)] w fun e w' => e = .returned (.int .i64 128) ∧ w' = w := by
  obtain ⟨bw, bv, ov, Ki⟩ := K
  have := Ki.size
  rw [hl] at this
  exact this
set_option maxHeartbeats 2000000 in
/-- Open anywhere else -/
theorem mopen_at {w0 w : World} {b jb pb : Nat} {S : PS} {X : Nat → Prop} (K : PK w0 w b jb pb S X) (hl : S.s.last.length = 128) (n : Nat) (hn1 : 1 ≤ n) (hn2 : n ≤ 1024) (a : Int) (ha : a < 0 ∨ (128 : Int) - (pgs n : Int) < a) : Calls Tryz.prog 10 #[.pointer (some ⟨pb, 0, none⟩), .int .i64 a, .int .i64 (n : Int)] w fun e w' => e = .returned (.tuple #[.pointer none, .int .i64 1]) ∧ w' = w := by
  have h4 := pgs_le hn2
  have HCN := hide (fun W => isCount_any (n : Int) W)
  rw [decide_eq_true (show (1 : Int) ≤ (n : Int) by omega), decide_eq_true (show (n : Int) ≤ 1024 by omega)] at HCN
  have HPO := hide (fun W => pagesOf_any n hn2 W)
  have HSZ := hide (psize_pk K hl)
  obtain ⟨P0, hP0⟩ : ∃ q, pgs n = q := ⟨_, rfl⟩
  rw [hP0] at HPO ha h4
  have hw : IntKind.i64.wrap ((128 : Int) - (P0 : Int)) = (128 : Int) - (P0 : Int) := wrapI_eq _ (by omega) (by omega)
  clear K hl hP0
  by_cases h0 : a < 0
  · have ha0 : decide (a < 0) = true := decide_eq_true h0
    clear ha
    go_enter Tryz.func10, Tryz.ntmps10
    go_wp2_with (first | (go_at_call 36; refine (unhide HCN _).mono ?_; rintro e w' ⟨rfl, hw'⟩; subst w') | (go_at_call 38; refine (unhide HPO _).mono ?_; rintro e w' ⟨rfl, hw'⟩; subst w') | (go_at_call 37; refine (unhide HSZ).mono ?_; rintro e w' ⟨rfl, hw'⟩; subst w'))
    go_ret2
    exact ⟨rfl, rfl⟩
  · have ha0 : decide (a < 0) = false := decide_eq_false h0
    have h1 : (128 : Int) - (P0 : Int) < a := ha.resolve_left h0
    have ha1 : decide ((128 : Int) - (P0 : Int) < a) = true := decide_eq_true h1
    clear ha
    go_enter Tryz.func10, Tryz.ntmps10
    go_wp2_with (first | (go_at_call 36; refine (unhide HCN _).mono ?_; rintro e w' ⟨rfl, hw'⟩; subst w') | (go_at_call 38; refine (unhide HPO _).mono ?_; rintro e w' ⟨rfl, hw'⟩; subst w') | (go_at_call 37; refine (unhide HSZ).mono ?_; rintro e w' ⟨rfl, hw'⟩; subst w'))
    go_ret2
    exact ⟨rfl, rfl⟩
set_option maxHeartbeats 4000000 in
/-- Open on a disk that has died -/
theorem mopen_dead {w0 w : World} {b jb pb : Nat} {S : PS} {X : Nat → Prop} (K : PK w0 w b jb pb S X) (hg : ETy w0) (hd : S.s.dead = true) (hl : S.s.last.length = 128) (hh : S.h = []) (ht : S.tx = []) (n : Nat) (hn1 : 1 ≤ n) (hn2 : n ≤ 1024) (a : Nat) (h128 : a + pgs n ≤ 128) : Calls Tryz.prog 10 #[.pointer (some ⟨pb, 0, none⟩), .int .i64 (a : Int), .int .i64 (n : Int)] w fun e w' => e = .returned (.tuple #[.pointer none, .int .i64 2]) ∧ Below w0.heap.size w0 w' := by
  have h4 := pgs_le hn2
  have hp1 : 0 < pgs n := pgs_pos hn1
  have HCN := hide (fun W => isCount_any (n : Int) W)
  rw [decide_eq_true (show (1 : Int) ≤ (n : Int) by omega), decide_eq_true (show (n : Int) ≤ 1024 by omega)] at HCN
  have HPO := hide (fun W => pagesOf_any n hn2 W)
  have HSZ := hide (psize_pk K hl)
  have ha0 : decide ((a : Int) < 0) = false := decide_eq_false (by omega)
  have ha1 : decide ((128 : Int) - (pgs n : Int) < (a : Int)) = false := decide_eq_false (by omega)
  obtain ⟨mb, hmb⟩ : ∃ q, w.heap.size = q := ⟨_, rfl⟩
  obtain ⟨x1, hx1⟩ : ∃ q, w.alloc (.cells #[.pointer (some ⟨pb, 0, none⟩), .int .i64 (a : Int), .int .i64 (n : Int)] 80) = q := ⟨_, rfl⟩
  have hM : MB x1 mb pb a n := by rw [← hx1, ← hmb]; exact Blk.new w _ _
  have hb1 : Below w.heap.size w x1 := by rw [← hx1]; exact (Below.refl _ _).alloc (Nat.le_refl _) _
  have K1 := K.more (Y := fun x => X x ∨ x = mb) hb1 (fun x q => q.imp_right (fun e => by rw [e]; exact ⟨by omega, Blk.lt hM⟩))
  obtain ⟨r1, r2, r3⟩ := read_gone (S := S) rfl hh ht hd hl (a + 0) (by omega)
  have hrt : (readT S.s ((a + 0 : Nat) : Int)).size ≤ maxLen := by
    unfold readT
    rw [if_pos ⟨by omega, by rw [hl]; omega⟩, if_pos hd]
    exact Nat.zero_le _
  have hc := mread_any K1 hM (.inr rfl) hg (by omega) 0 (by omega) hrt (by rw [r1]; decide)
  have e1 : rdE S (a + 0) 0 = 2 := by rw [rdE, if_neg (by rw [r2]; decide), r2]
  have e2 : rdT S (a + 0) 0 = ⟨#[]⟩ := by rw [rdT, if_neg (by rw [r2]; decide)]
  rw [e1, e2] at hc
  have HC := hide hc
  simp only [Int.cast_ofNat_Int] at HC
  obtain ⟨P0, hP0⟩ : ∃ q, pgs n = q := ⟨_, rfl⟩
  rw [hP0] at HPO ha1 hp1 h4
  have HBE := hide (show ∀ W, PK w0 W b jb pb (readP S ((a + 0 : Nat) : Int)).2.2 (fun x => X x ∨ x = mb) → Below w0.heap.size w0 W from fun W hK => hK.bel)
  have hlt : (0 : Int) < (P0 : Int) := by omega
  clear K hl hd hh ht hg hM hb1 K1 r1 r2 r3 hrt hc e1 e2 h128 hP0
  go_enter Tryz.func10, Tryz.ntmps10
  go_wp2_with (first | (go_at_call 36; refine (unhide HCN _).mono ?_; rintro e w' ⟨rfl, hw'⟩; subst w') | (go_at_call 38; refine (unhide HPO _).mono ?_; rintro e w' ⟨rfl, hw'⟩; subst w') | (go_at_call 37; refine (unhide HSZ).mono ?_; rintro e w' ⟨rfl, hw'⟩; subst w'))
  clear hmb ha0 ha1
  go_loopw [10, 11, 39] (fun _ _ i wr => i = .int .i64 0 ∧ wr = x1) (fun _ _ _ _ => 0)
  case atStart => exact ⟨rfl, by first | rfl | exact hx1⟩
  case round =>
    obtain ⟨rfl, rfl⟩ := hrel
    go_wp2_with fail
    refine (unhide HC).mono ?_
    rintro e y1 ⟨rfl, K2, -⟩
    have HF := hide (unhide HBE y1 K2)
    clear K2
    go_wp2
    go_ret2
    exact ⟨rfl, unhide HF⟩
/-- a pool over a disk at rest -/
theorem popen7 {w0 w : World} {b : Nat} {v : DV} {L : List ByteArray} {A : List (Nat × Nat)} (h : Dk w w0.heap.size b v (rs L A)) (h0 : Below w0.heap.size w0 w) (hg : ETy w) (hS : Sane (rs L A)) (hL : L.length = 128) (hh : L.getD 1 ByteArray.empty = headB 0 []) (ha : A.length ≤ 10000000) :
    Calls Tryz.prog 7 #[.pointer (some ⟨b, 0, none⟩), .int .i64 3] w fun e w' => ∃ jb pb, e = .returned (.tuple #[.pointer (some ⟨pb, 0, none⟩), .int .i64 0]) ∧ PK w0 w' b jb pb { s := rs L A, nx := 1, jl := false, op := false, tx := [], keep := 3, h := [], hits := 0, mis := 0, lost := false } (fun _ => False) := by
  have hO := open_clear h hg h0.size hS 0 (by decide) (by omega) hh ha
  refine (popen_any w b 3 (by decide) (fun jp ag er w1 => er = 0 ∧ ∃ jb, jp = some ⟨jb, 0, none⟩ ∧ JK w0 w1 b jb (rs L A) 1 false (fun _ => False)) (hO.mono (fun e w1 q => by
    obtain ⟨jb, rfl, hJ⟩ := q
    exact ⟨_, _, _, rfl, rfl, jb, rfl, JI.jk (JNew.ji h h0 hS hJ)⟩))).mono ?_
  rintro e w' ⟨jp, ag, er, w1, ⟨rfl, jb, rfl, hJ⟩, q | ⟨_, pb, bw, bv, rfl, hP⟩⟩
  · exact absurd rfl q.1
  · exact ⟨jb, pb, rfl, POk.pk hJ (by decide) hP⟩
theorem frp0 (L : List ByteArray) (A : List (Nat × Nat)) : Frp7 { s := rs L A, nx := 1, jl := false, op := false, tx := [], keep := 3, h := [], hits := 0, mis := 0, lost := false } L A 1 := ⟨⟨rfl, rfl, rfl, rfl⟩, rfl, fun p hp => by cases hp⟩
theorem frp_seen {S : PS} {L : List ByteArray} {A : List (Nat × Nat)} (h : Frp7 S L A 1) (hL : L.length = 128) (hz : ∀ t ∈ L, t.size = 256) (hh : L.getD 1 ByteArray.empty = headB 0 []) : Seen S L A 0 L L :=
  ⟨h.rst, hL, hz, hh, by decide, fun k _ _ => rfl, hL, hL, fun k _ _ => by rw [h.tx]; rfl, fun _ => h.tx, fun p hp h1 h2 => h.hok p hp (by omega) h2⟩
theorem pkd_zeroB : pkd zero256 = 0 := by kernel_rfl
/-- no map begins ahead of the free sectors -/
theorem low_bad (K : List ByteArray) (a n : Nat) (ha : a < 19) (h : pageOk (ldL 19 K) a n 0) : False := by
  have e : (ldL 19 K).getD (a + 0) ByteArray.empty = L0.getD a ByteArray.empty := by
    unfold ldL
    rw [layP_skip _ _ _ (fun p hp => by
      obtain ⟨i, _, rfl⟩ := List.mem_map.1 hp
      simp only
      omega)]
    rfl
  obtain ⟨⟨h1, h2, h3, h4⟩, -⟩ := h
  rw [e] at h1 h2
  by_cases h1a : a = 1
  · subst h1a
    rw [head0] at h2
    obtain ⟨hE, hM⟩ := headB_make 0 [] (by decide) (by simp)
    obtain ⟨p1, p2, p3, p4⟩ := make_parse 2 ((0 : Nat) : Int) (strOfNums (headL [])) hE
    rw [← hM] at p2
    rw [p2] at h2
    omega
  · have e0 : L0.getD a ByteArray.empty = zero256 := by
      rw [L0, List.getD_eq_getElem?_getD, List.getElem?_set_ne (by omega), List.getElem?_replicate, if_pos (by omega)]
      rfl
    rw [e0, pkd_zeroB] at h2
    omega
end Go.Proofs.YtnnehadmnijhjaaGreatDoor
