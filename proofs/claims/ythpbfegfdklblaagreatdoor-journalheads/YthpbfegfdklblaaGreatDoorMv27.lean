import Derived.Test.YthpbfegfdklblaaGreatDoorMv26
import Derived.WalkMore
import Derived.Deep.DeepCutAuto
import Derived.Test.YthpbfegfdklblaaGreatDoorMv05
import Derived.Test.YthpbfegfdklblaaGreatDoorCards
import Derived.Test.YthpbfegfdklblaaGreatDoorTie
import Derived.ProofKit
import Derived.OpenShut
import Derived.ShutString
import Derived.SizedLaws
import Derived.Deep.DeepHandedRow
import Derived.LaidLaws
import Derived.LaidHandle
import Derived.Lib.LaidTab
import Derived.Deep.Slices
import Derived.Deep.Strs
import Derived.Lib.SmallJoins
import Derived.Test.YthpbfegfdklblaaGreatDoorMv02
import Derived.Test.YthpbfegfdklblaaGreatDoorMv22
import Derived.Deep.SlicePairs
import Derived.Test.YthpbfegfdklblaaGreatDoorMv03
import Derived.SliceStrings
namespace Go.Proofs.YthpbfegfdklblaaGreatDoor
open Go.RowKit
set_option maxRecDepth 100000
set_option maxHeartbeats 8000000 in
theorem heads5 (c0 : Int) (hc0 : I64 c0) (hd : ByteArray) (tp : Option Addr) (tm tc : Nat) (tl : List Int) (htl : tl.length = tm) (htB : ∀ z ∈ tl, I64 z) (c3 : Int) (hc3 : I64 c3) (bp : Option Addr) (bm bc : Nat) (bl : List ByteArray) (hbl : bl.length = bm) (hbB : ∀ t ∈ bl, t.size ≤ 140737488355328) (W : World) (hG : ETy W) (hI : Ints W tp tl) (hSt : Strs W bp bl) :
    Calls Tryz.prog 3 #[.int .i64 c0, .string hd, .slice tp tm tc, .int .i64 c3, .slice bp bm bc] W fun e w' => e = .returned (.bool true) ∧ Below W.heap.size W w' := by
  have HAW := hide (awake_any W hG)
  have HT := hide (And.intro htl (And.intro hI htB))
  have HBY := hide (And.intro hbl (And.intro hSt hbB))
  have HGW := hide hG
  have HC := hide (And.intro hc0 hc3)
  clear htl hI htB hbl hSt hbB hG hc0 hc3
  go_enter Tryz.func3, Tryz.ntmps3
  go_wp2_with fail
  refine (unhide HAW).mono ?_
  rintro e x1 ⟨rfl, hb1⟩
  have HB1 := hide hb1
  have HG1 := hide ((unhide HGW).below hb1 (unhide HGW).lt)
  have HPK := hide (pick5_c c0 40 (by decide) (unhide HC).1 40 rfl x1)
  have hpl := pickP_lt c0 40 (by decide)
  obtain ⟨p, hp⟩ : ∃ z, pickP c0 40 = z := ⟨_, rfl⟩
  rw [hp] at HPK hpl
  obtain ⟨m, hm⟩ : ∃ z, 128 + p = z := ⟨_, rfl⟩
  have hw : IntKind.i64.wrap (128 + (p : Int)) = (m : Int) := by rw [wrapI_eq _ (by omega) (by omega)]; omega
  have HM := hide (show 128 ≤ m ∧ m ≤ 168 by omega)
  clear hb1 hp hm hpl HAW HGW
  go_wp2_with fail
  refine (unhide HPK).mono ?_
  rintro e y ⟨rfl, hy⟩
  subst y
  have HN1 := hide (new_any (m : Int) x1)
  clear HPK
  go_wp2_with fail
  refine (unhide HN1).mono ?_
  intro e x2 hq
  rw [NewPost, if_pos (by have := unhide HM; omega)] at hq
  obtain ⟨b, v, rfl, hD, hb2⟩ := hq
  have HD := hide hD
  have HB2 := hide hb2
  have HN2 := hide (rnew_any (m : Int) x2)
  clear hD hb2 HN1 hw
  go_wp2_with fail
  refine (unhide HN2).mono ?_
  intro e x3 hq
  rw [RNewPost, if_pos (by have := unhide HM; omega)] at hq
  obtain ⟨br, vr, rfl, hR, hb3⟩ := hq
  obtain ⟨xb, hxb⟩ : ∃ z, x3.heap.size = z := ⟨_, rfl⟩
  obtain ⟨x4, hx4⟩ : ∃ z, x3.alloc (.cells #[.pointer (some ⟨b, 0, none⟩), .pointer (some ⟨br, 0, none⟩), .pointer none, .pointer none, .pointer none, .pointer none] 37) = z := ⟨_, rfl⟩
  have HI := hide (show HdI x1 xb b br m 0 x4 from by
    have hS0 := Sd.init (unhide HD) (unhide HB2) hR.rk hb3 hxb _ hx4
    have e1 : ((m : Int)).toNat = m := Int.toNat_natCast m
    rw [e1] at hS0
    exact ⟨_, hS0, Sane.fresh _ (by rw [List.length_replicate]; have := unhide HM; omega) (by rw [List.length_replicate]; have := unhide HM; omega), Coh.fresh _, (fun t ht => by rw [(List.mem_replicate.1 ht).2]; exact Nat.le_of_eq zero256_size), Nat.le_refl _, Nat.le_refl _, List.length_replicate ..⟩)
  clear hR hb3 HD HB2 HN2
  go_wp2_with fail
  clear hx4 hxb
  go_loopw [11, 18, 19] (fun okv i _ wr => ∃ k : Nat, k ≤ 16 ∧ okv = .bool true ∧ i = .int .i64 (k : Int) ∧ HdI x1 xb b br m k wr) (fun _ i _ _ => 16 - (intOf i).toNat)
  case atStart => exact ⟨0, by omega, rfl, rfl, unhide HI⟩
  case round =>
    obtain ⟨k, hk, rfl, rfl, hId⟩ := hrel
    obtain ⟨x5, rfl⟩ : ∃ wo, wo = wr := ⟨_, rfl⟩
    have HI5 := hide hId
    clear hId HI
    obtain ⟨cb, hcb⟩ : ∃ cb : Bool, decide (k < bm ∧ k < 16) = cb := ⟨_, rfl⟩
    have HCB := hide hcb
    clear hcb
    go_upto_region 9 with fail
    go_cut [68] (fun c wx => c = .bool cb ∧ wx = x5)
    case first =>
      by_cases g1 : k < bm
      · have g1' : (k : Int) < (bm : Int) := by omega
        by_cases g2 : k < 16
        · have g2' : (k : Int) < 16 := by omega
          go_wp2_with fail
          go_meet
          exact ⟨congrArg Value.bool (by rw [← unhide HCB]; exact (decide_eq_true ⟨g1, g2⟩).symm), rfl⟩
        · have g2' : ¬ (k : Int) < 16 := by omega
          go_wp2_with fail
          go_meet
          exact ⟨congrArg Value.bool (by rw [← unhide HCB]; exact (decide_eq_false (fun r => g2 r.2)).symm), rfl⟩
      · have g1' : ¬ (k : Int) < (bm : Int) := by omega
        go_wp2_with fail
        go_meet
        exact ⟨congrArg Value.bool (by rw [← unhide HCB]; exact (decide_eq_false (fun r => g1 r.1)).symm), rfl⟩
    case rest =>
    obtain ⟨rfl, hwc⟩ := hcut
    subst wc
    cases cb with
    | true =>
      as_aux_lemma =>
        have hgo := of_decide_eq_true (unhide HCB)
        have j0 : (0 : Int) ≤ (k : Int) := by omega
        have j1 : (k : Int) < (bm : Int) := by omega
        obtain ⟨s, q1, q2, q3, q4, q5, q6, q7⟩ := unhide HI5
        obtain ⟨hbl, hSt, hbB⟩ := unhide HBY
        obtain ⟨g, o, rfl, hg, hc⟩ := hSt k (by omega)
        have hbx : Below W.heap.size W x5 := (unhide HB1).trans (q1.bel.mono (unhide HB1).size)
        have ck : x5.cell? ⟨g, o + k, none⟩ = some (.string (bl.getD k ByteArray.empty)) := (hbx.cell (p := ⟨g, o + k, none⟩) hg).trans hc
        have hz : (bl.getD k ByteArray.empty).size ≤ 140737488355328 := hbB _ (by rw [List.getD_eq_getElem?_getD, List.getElem?_eq_getElem (by omega)]; exact List.getElem_mem _)
        obtain ⟨i, hi⟩ : ∃ z : Int, 2 + (k : Int) = z := ⟨_, rfl⟩
        have hw : IntKind.i64.wrap (2 + (k : Int)) = i := by rw [wrapI_eq _ (by omega) (by omega)]; exact hi
        have HSW := hide (stepW q1 q2 q3 (by omega) (by omega) 0 i (bl.getD k ByteArray.empty) hz (.slice none 0 0) (.slice none 0 0) (.slice none 0 0))
        generalize bl.getD k ByteArray.empty = t at *
        have HQ := hide (And.intro q2 (And.intro q3 (And.intro q4 (And.intro q5 (And.intro q6 q7)))))
        clear hgo q1 q2 q3 q4 q5 q6 q7 hbl hSt hbB hc hbx hz hi HI5
        go_wp2_with fail
        refine (unhide HSW).mono ?_
        rintro e y ⟨rfl, h'⟩
        have HN := hide (show HdI x1 xb b br m (k + 1) y from by
          obtain ⟨q2, q3, q4, q5, q6, q7⟩ := unhide HQ
          have g1 := pend_grow s i (shapB t)
          have g2 := acts_grow s i (shapB t)
          exact ⟨_, h', q2.write _ _, q3.write _ _, q4.write _ _, by omega, by omega, by rw [writeS_last]; exact q7⟩)
        clear h' HSW HQ ck hw
        go_wp2
        go_roundw
        case rel => exact ⟨k + 1, by have := of_decide_eq_true (unhide HCB); omega, rfl, by go_num, unhide HN⟩
        case measure => have := of_decide_eq_true (unhide HCB); simp [intOf]; omega
    | false =>
      as_aux_lemma =>
        obtain ⟨s, q1, q2, q3, q4, q5, q6, q7⟩ := unhide HI5
        have hbx : Below W.heap.size W x5 := (unhide HB1).trans (q1.bel.mono (unhide HB1).size)
        have HPK := hide (pick5_c c3 4294967296 (by decide) (unhide HC).2 4294967296 rfl x5)
        obtain ⟨pn, hpn⟩ : ∃ z : Int, ((pickP c3 4294967296 : Nat) : Int) = z := ⟨_, rfl⟩
        rw [hpn] at HPK
        obtain ⟨htl, hIn, htB⟩ := unhide HT
        have hI5 : Ints x5 tp tl := fun j hj => by
          obtain ⟨g, o, k1, k2, k3⟩ := hIn j hj
          exact ⟨g, o, k1, Nat.lt_of_lt_of_le k2 hbx.size, (hbx.cell (p := ⟨g, o + j, none⟩) k2).trans k3⟩
        have HST := hide (rset_some pn tp tm tc tl htl x5 hI5 htB)
        have HQ := hide (And.intro q1 (And.intro q2 (And.intro q3 (And.intro q4 (And.intro q5 (And.intro q6 q7))))))
        clear q1 q2 q3 q4 q5 q6 q7 hbx hpn htl hIn htB hI5 HI5 HCB
        go_wp2_with fail
        refine (unhide HPK).mono ?_
        rintro e y ⟨rfl, hy⟩
        subst y
        clear HPK
        go_wp2_with fail
        refine (unhide HST).mono ?_
        rintro e y ⟨⟨t, rfl, ht⟩, hby⟩
        have HS5 := hide (show Sd x1 y xb b br s s #[.pointer (some ⟨b, 0, none⟩), .pointer (some ⟨br, 0, none⟩), .pointer none, .pointer none, .pointer none, .pointer none] (fun _ => False) ∧ Sane s ∧ Coh s ∧ Szs s ∧ s.pend.length ≤ 16 ∧ s.acts.length ≤ 16 ∧ s.last.length = m from by
          obtain ⟨q1, q2, q3, q4, q5, q6, q7⟩ := unhide HQ
          exact ⟨q1.below hby, q2, q3, q4, by omega, by omega, q7⟩)
        clear ht hby HST HQ
        by_cases h256 : hd.size = 256
        · have hc : ((hd.size : Int) == 256) = true := by rw [h256]; rfl
          have HH := hide h256
          clear h256
          as_aux_lemma =>
            have HRW := hide (raw5_any (unhide HS5).1 (unhide HS5).2.1 (unhide HS5).2.2.1 (by have := (unhide HS5).2.2.2.2.1; omega) (by have := (unhide HS5).2.2.2.2.2.1; omega) hd)
            obtain ⟨s2, hs2⟩ : ∃ z, flushS (writeS s 1 hd) = z := ⟨_, rfl⟩
            have HQ2 := hide (show Sane s2 ∧ Coh s2 ∧ Szs s2 ∧ s2.pend.length ≤ 100 ∧ s2.acts.length ≤ 100 ∧ s2.last.length = m from by
              obtain ⟨-, q1, q2, q3, q4, q5, q6⟩ := unhide HS5
              have g1 := flushS_pend (writeS s 1 hd)
              have g2 := pend_grow s 1 hd
              have g3 := flushS_acts (writeS s 1 hd)
              have g4 := acts_grow s 1 hd
              have g5 := flushS_len (writeS s 1 hd)
              rw [writeS_last] at g5
              rw [hs2] at g1 g3 g5
              refine ⟨?_, ?_, ?_, by omega, by omega, by omega⟩
              · rw [← hs2]; exact (q1.write 1 hd).flush
              · rw [← hs2]; exact (q2.write 1 hd).flush
              · rw [← hs2]; exact (q3.write 1 hd).flush)
            rw [hs2] at HRW
            clear hs2
            go_wp2_with fail
            refine (unhide HRW).mono ?_
            rintro e x6 ⟨rfl, h6⟩
            clear HRW
            obtain ⟨nz, H, okh, hRH⟩ := RHP.ex (readT s2 1) (s2.last.length : Int)
            obtain ⟨n1, n2, n3⟩ := hRH.num
            obtain ⟨nh, rfl⟩ := Int.eq_ofNat_of_zero_le n1
            obtain ⟨s3, er, ag, has, hOR⟩ := OR.ex s2 nh H okh
            have HQ3 := hide (show Sane s3 ∧ s3.acts.length ≤ 1000 from by
              obtain ⟨q1, q2, q3, q4, q5, q6⟩ := unhide HQ2
              have := hOR.acts n3
              exact ⟨hOR.sane q1, by omega⟩)
            have HNH := hide (show nh < 4294967296 by omega)
            have HGT := hide (show ETy x6 from (unhide HG1).below h6.bel (unhide HG1).lt)
            have HOP := hide (stepO h6 (unhide HGT) (unhide HQ2).1 (unhide HQ2).2.1 (by have := (unhide HQ2).2.2.1.read 1; omega) (by have := (unhide HQ2).2.2.2.1; omega) (by have := (unhide HQ2).2.2.2.2.1; omega) (by have := (unhide HQ2).2.2.2.2.2; have := unhide HM; omega) hRH hOR 0 ⟨#[]⟩ none none none 0 0 0 0 0 0)
            clear h6 hRH n1 n2 n3 hOR HGT HS5 HQ2
            go_wp2_with fail
            refine (unhide HOP).mono ?_
            rintro e x7 ⟨rfl, h7⟩
            obtain ⟨p1, p2, v7, vr7, hB7, hD7, hR7, hb7, hJ7⟩ := h7.got
            have HAL := hide (alike_any hD7 hR7 hB7 (by have := (unhide HQ3).2; omega) (unhide HQ3).1.acts (unhide HQ3).1.pos (unhide HQ3).1.cap)
            have HB7 := hide hB7
            have HBE := hide hb7
            have HJ7 := hide hJ7
            clear h7 hB7 hD7 hR7 hb7 hJ7 HOP HQ3
            go_wp2_with fail
            refine (unhide HAL).mono ?_
            rintro e x8 ⟨rfl, hb8⟩
            have hJ8 : p2 = none ∨ ∃ jb sb, p1 = some ⟨jb, 0, none⟩ ∧ p2 = some ⟨sb, 0, none⟩ ∧ Jb x8 jb b ((nh + 1) % 4294967296) false ∧ Rj x8 sb br nh false := by
              rcases unhide HJ7 with q | ⟨jb, sb, q1, q2, q3, q4⟩
              · exact .inl q
              · exact .inr ⟨jb, sb, q1, q2, Blk.below q3 hb8 (Blk.lt q3), Blk.below q4 hb8 (Blk.lt q4)⟩
            have HNX := hide (stepN ((unhide HB7).below hb8 (unhide HB7).lt) 0 ⟨#[]⟩ none none none 0 0 0 0 0 0 nh (unhide HNH) hJ8)
            have HB8 := hide (show Below x1.heap.size x1 x8 from (unhide HBE).trans (hb8.mono (unhide HBE).size))
            clear hb8 hJ8 HJ7 HB7 HBE HAL HNH
            go_wp2_with fail
            refine (unhide HNX).mono ?_
            rintro e x9 ⟨rfl, hb9⟩
            have HE := hide (show Below W.heap.size W x9 from (unhide HB1).trans (((unhide HB8).trans (hb9.mono (unhide HB8).size)).mono (unhide HB1).size))
            clear hb9 HNX HB8
            go_wp2
            go_ret
            exact ⟨rfl, unhide HE⟩
        · have hc : ((hd.size : Int) == 256) = false := by simp; omega
          clear h256
          as_aux_lemma =>
            have HRW := hide (raw5_any (unhide HS5).1 (unhide HS5).2.1 (unhide HS5).2.2.1 (by have := (unhide HS5).2.2.2.2.1; omega) (by have := (unhide HS5).2.2.2.2.2.1; omega) t)
            obtain ⟨s2, hs2⟩ : ∃ z, flushS (writeS s 1 t) = z := ⟨_, rfl⟩
            have HQ2 := hide (show Sane s2 ∧ Coh s2 ∧ Szs s2 ∧ s2.pend.length ≤ 100 ∧ s2.acts.length ≤ 100 ∧ s2.last.length = m from by
              obtain ⟨-, q1, q2, q3, q4, q5, q6⟩ := unhide HS5
              have g1 := flushS_pend (writeS s 1 t)
              have g2 := pend_grow s 1 t
              have g3 := flushS_acts (writeS s 1 t)
              have g4 := acts_grow s 1 t
              have g5 := flushS_len (writeS s 1 t)
              rw [writeS_last] at g5
              rw [hs2] at g1 g3 g5
              refine ⟨?_, ?_, ?_, by omega, by omega, by omega⟩
              · rw [← hs2]; exact (q1.write 1 t).flush
              · rw [← hs2]; exact (q2.write 1 t).flush
              · rw [← hs2]; exact (q3.write 1 t).flush)
            rw [hs2] at HRW
            clear hs2
            go_wp2_with fail
            refine (unhide HRW).mono ?_
            rintro e x6 ⟨rfl, h6⟩
            clear HRW
            obtain ⟨nz, H, okh, hRH⟩ := RHP.ex (readT s2 1) (s2.last.length : Int)
            obtain ⟨n1, n2, n3⟩ := hRH.num
            obtain ⟨nh, rfl⟩ := Int.eq_ofNat_of_zero_le n1
            obtain ⟨s3, er, ag, has, hOR⟩ := OR.ex s2 nh H okh
            have HQ3 := hide (show Sane s3 ∧ s3.acts.length ≤ 1000 from by
              obtain ⟨q1, q2, q3, q4, q5, q6⟩ := unhide HQ2
              have := hOR.acts n3
              exact ⟨hOR.sane q1, by omega⟩)
            have HNH := hide (show nh < 4294967296 by omega)
            have HGT := hide (show ETy x6 from (unhide HG1).below h6.bel (unhide HG1).lt)
            have HOP := hide (stepO h6 (unhide HGT) (unhide HQ2).1 (unhide HQ2).2.1 (by have := (unhide HQ2).2.2.1.read 1; omega) (by have := (unhide HQ2).2.2.2.1; omega) (by have := (unhide HQ2).2.2.2.2.1; omega) (by have := (unhide HQ2).2.2.2.2.2; have := unhide HM; omega) hRH hOR 0 ⟨#[]⟩ none none none 0 0 0 0 0 0)
            clear h6 hRH n1 n2 n3 hOR HGT HS5 HQ2
            go_wp2_with fail
            refine (unhide HOP).mono ?_
            rintro e x7 ⟨rfl, h7⟩
            obtain ⟨p1, p2, v7, vr7, hB7, hD7, hR7, hb7, hJ7⟩ := h7.got
            have HAL := hide (alike_any hD7 hR7 hB7 (by have := (unhide HQ3).2; omega) (unhide HQ3).1.acts (unhide HQ3).1.pos (unhide HQ3).1.cap)
            have HB7 := hide hB7
            have HBE := hide hb7
            have HJ7 := hide hJ7
            clear h7 hB7 hD7 hR7 hb7 hJ7 HOP HQ3
            go_wp2_with fail
            refine (unhide HAL).mono ?_
            rintro e x8 ⟨rfl, hb8⟩
            have hJ8 : p2 = none ∨ ∃ jb sb, p1 = some ⟨jb, 0, none⟩ ∧ p2 = some ⟨sb, 0, none⟩ ∧ Jb x8 jb b ((nh + 1) % 4294967296) false ∧ Rj x8 sb br nh false := by
              rcases unhide HJ7 with q | ⟨jb, sb, q1, q2, q3, q4⟩
              · exact .inl q
              · exact .inr ⟨jb, sb, q1, q2, Blk.below q3 hb8 (Blk.lt q3), Blk.below q4 hb8 (Blk.lt q4)⟩
            have HNX := hide (stepN ((unhide HB7).below hb8 (unhide HB7).lt) 0 ⟨#[]⟩ none none none 0 0 0 0 0 0 nh (unhide HNH) hJ8)
            have HB8 := hide (show Below x1.heap.size x1 x8 from (unhide HBE).trans (hb8.mono (unhide HBE).size))
            clear hb8 hJ8 HJ7 HB7 HBE HAL HNH
            go_wp2_with fail
            refine (unhide HNX).mono ?_
            rintro e x9 ⟨rfl, hb9⟩
            have HE := hide (show Below W.heap.size W x9 from (unhide HB1).trans (((unhide HB8).trans (hb9.mono (unhide HB8).size)).mono (unhide HB1).size))
            clear hb9 HNX HB8
            go_wp2
            go_ret
            exact ⟨rfl, unhide HE⟩
end Go.Proofs.YthpbfegfdklblaaGreatDoor

namespace Go.Proofs.YthpbfegfdklblaaGreatDoor
open Go.ChangeShapes Go.WideShapes Go.ChangeAt Go.RowKit
theorem own : ownKnob Tryz.prog.godebug = none := by kernel_rfl
theorem laidOut : laidOutB Tryz.prog = true := by kernel_rfl
theorem gEt : Tryz.prog.globalNamed "errors.errorType" = some 1 := by kernel_rfl
theorem gRt : (Tryz.prog.cutTypes.find? (·.1 == "internal/reflectlite.rtype")).map (·.2) = some 210 := by kernel_rfl
theorem gOne : ((List.range 248).filter fun t => Tryz.prog.rowNamed t [101, 114, 114, 111, 114]) = [114] := by kernel_rfl
theorem gSize : Tryz.prog.types.size = 248 := by kernel_rfl
def laidL : List (String × DataW Unit) := [("errors.errorType", Rows.laid_errors_errorType)]
theorem wf_I64 {z : Int} (h : (Lit.int .i64 z).wf = true) : I64 z := by
  simpa [I64, Lit.wf, IntKind.min, IntKind.max, IntKind.signed, IntKind.bits] using h
/-- What the row's list gives. -/
theorem ety_of {W : World} (h : laidMetH Tryz.prog laidL W) : ETy W := by
  have h' : laidMet Tryz.prog [] W ∧ handlesMet Tryz.prog laidL W := h
  obtain ⟨name, u, ty, e1, e2, e3, e4, e5⟩ := h'.2 _ (List.mem_singleton.2 rfl)
  have en : name = [101, 114, 114, 111, 114] := (Option.some.inj e1).symm
  subst en
  obtain rfl := Option.some.inj (gRt.symm.trans e2)
  have hm : ty ∈ (List.range 248).filter fun t => Tryz.prog.rowNamed t [101, 114, 114, 111, 114] := List.mem_filter.2 ⟨List.mem_range.2 (by rw [← gSize]; exact e3), e4⟩
  rw [gOne] at hm
  obtain rfl := List.mem_singleton.1 hm
  have hh : typeHandle Tryz.prog 114 = .pointer (some ⟨2, 114, none⟩) := by kernel_rfl
  rw [hh] at e5
  have := World.var?_cell gEt e5 0
  unfold ETy
  simpa using this
/-- A world for the witness: the settled one, the variable's cell laid. -/
noncomputable def laidWorld (os : Os) : World :=
  let w0 := World.holding Tryz.prog os ⟨#[], #[], []⟩
  { w0 with heap := w0.heap.modify 1 fun
      | .cells _ t frozen => .cells #[.iface 210 (.agg #[.pointer (some ⟨2, 114, none⟩)])] t frozen
      | o => o }
end Go.Proofs.YthpbfegfdklblaaGreatDoor

namespace Go.Proofs.YthpbfegfdklblaaGreatDoor
open Go.ChangeShapes Go.WideShapes Go.ChangeAt Go.RowKit
set_option maxRecDepth 100000 in
/-- An argument []int. -/
theorem open_il {H : Type} {enc : TypeId × Value → H} {w : World} {base : Nat} {spare : Nat → Bool} {held : Bool} {fuel : Nat} {a : Option Addr} {len cap : Nat} {x : DataW H × List MemPlace} (h : DataW.trod enc Tryz.prog w base spare held fuel 22 [.slice a len cap] = some x) :
    ∃ l : List Int, len = l.length ∧ Ints w a l ∧ (∀ i, I64 (l.getD i 0)) ∧ len ≤ 9223372036854775807 := by
  have hML : (maxLen : Nat) = 9223372036854775807 := rfl
  rcases open_ints Tryz.underlying22 Tryz.underlying3 (by kernel_rfl) h with ⟨hcs, _⟩ | ⟨ad, l, c, zs, hcs, _, hl, hm, hz, hd, hcell, hwz⟩
  · simp at hcs
    obtain ⟨rfl, rfl, rfl⟩ := hcs
    exact ⟨[], rfl, fun j hj => (by cases hj), fun i => by simp [I64], by omega⟩
  · simp at hcs
    obtain ⟨rfl, rfl, rfl⟩ := hcs
    have hzl : len ≤ zs.length := by rw [hz]; split <;> omega
    have hlen : (zs.take len).length = len := by simp; omega
    refine ⟨zs.take len, hlen.symm, fun j hj => ?_, fun i => ?_, by omega⟩
    · rw [hlen] at hj
      have hc := hcell j (by omega)
      have hc0 := hcell 0 (by omega)
      obtain ⟨b, off, spot⟩ := ad
      have hspot : spot = none := by simpa [Addr.add] using World.cell?_spot hc0
      subst hspot
      rw [Addr.add_mid] at hc
      refine ⟨b, off, rfl, World.block_lt_of_cell? w _ hc, hc.trans ?_⟩
      simp [hj]
    · by_cases hi : i < (zs.take len).length
      · rw [List.getD_eq_getElem?_getD, List.getElem?_eq_getElem hi]
        exact wf_I64 (hwz _ (List.mem_of_mem_take (List.getElem_mem hi)))
      · rw [List.getD_eq_getElem?_getD, List.getElem?_eq_none (by omega)]
        simp [I64]
end Go.Proofs.YthpbfegfdklblaaGreatDoor

namespace Go.Proofs.YthpbfegfdklblaaGreatDoor
open Go.ChangeShapes Go.WideShapes Go.ChangeAt Go.RowKit
theorem weightsAll_mem {H : Type} {P : Program} {e : TypeId} : ∀ {l : List (DataW H)} {d : DataW H}, d ∈ l → ∀ n ∈ d.weights P e, n ∈ DataW.weightsAll P e l
  | d' :: r, d, hd, n, hn => by
    simp only [DataW.weightsAll, List.mem_append]
    rcases List.mem_cons.1 hd with rfl | h
    · exact Or.inl hn
    · exact Or.inr (weightsAll_mem h n hn)
end Go.Proofs.YthpbfegfdklblaaGreatDoor

namespace Go.Proofs.YthpbfegfdklblaaGreatDoor
open Go.ChangeShapes Go.WideShapes Go.ChangeAt Go.RowKit
set_option maxRecDepth 100000 in
/-- An argument []string, with the bound that its texts' bytes make. -/
theorem open_slz {H : Type} {enc : TypeId × Value → H} {w : World} {base : Nat} {spare : Nat → Bool} {held : Bool} {fuel : Nat} {a : Option Addr} {len cap : Nat} {x : DataW H × List MemPlace} (h : DataW.trod enc Tryz.prog w base spare held fuel 23 [.slice a len cap] = some x)
    (hs : ∀ n ∈ x.1.weights Tryz.prog 23, n ≤ reachBytes) :
    ∃ l : List ByteArray, len = l.length ∧ Strs w a l ∧ (∀ t ∈ l, t.size ≤ 140737488355328) := by
  rcases open_strings Tryz.underlying23 Tryz.underlying9 (by kernel_rfl) h with ⟨hcs, _⟩ | ⟨ad, l, c, zs, hcs, _, hl, hm, hz, hd, hcell, _⟩
  · simp at hcs
    obtain ⟨rfl, rfl, rfl⟩ := hcs
    exact ⟨[], rfl, fun j hj => (by cases hj), fun t ht => (by cases ht)⟩
  · simp at hcs
    obtain ⟨rfl, rfl, rfl⟩ := hcs
    have hzl : len ≤ zs.length := by rw [hz]; split <;> omega
    have hlen : (zs.take len).length = len := by simp; omega
    refine ⟨zs.take len, hlen.symm, fun j hj => ?_, fun t ht => ?_⟩
    · rw [hlen] at hj
      have hc := hcell j (by omega)
      have hc0 := hcell 0 (by omega)
      obtain ⟨b, off, spot⟩ := ad
      have hspot : spot = none := by simpa [Addr.add] using World.cell?_spot hc0
      subst hspot
      rw [Addr.add_mid] at hc
      refine ⟨b, off, rfl, World.block_lt_of_cell? w _ hc, hc.trans ?_⟩
      simp [hj]
    · have hw : t.data.toList.length ≤ reachBytes := by
        refine hs _ ?_
        rw [hd]
        simp only [DataW.weights, Tryz.underlying23, List.mem_cons, List.mem_append]
        refine Or.inr (Or.inl (weightsAll_mem (d := .lit (.string t.data.toList)) (List.mem_map.2 ⟨t, ht, rfl⟩) _ ?_))
        simp [DataW.weights]
      have e : t.data.toList.length = t.size := rfl
      unfold reachBytes at hw
      omega
end Go.Proofs.YthpbfegfdklblaaGreatDoor
