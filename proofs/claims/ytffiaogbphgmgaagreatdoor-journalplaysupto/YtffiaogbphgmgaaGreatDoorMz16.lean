import Derived.Test.YtffiaogbphgmgaaGreatDoorMz15
import Derived.Test.YtffiaogbphgmgaaGreatDoorMz12
namespace Go.Proofs.YtffiaogbphgmgaaGreatDoor
open Go.RowKit
set_option maxRecDepth 100000 in
set_option maxHeartbeats 400000 in
theorem format_any (w : World) (base b : Nat) (v : DV) (s : DSt) (h : Dk w base b v s) (hb : base ≤ w.heap.size) (hS : Sane s) (hp : s.pend.length ≤ 100000000) (ha : s.acts.length ≤ 100000000) :
    Calls Tryz.prog 27 #[.pointer (some ⟨b, 0, none⟩)] w fun e w' => e = .returned (.int .i64 (layR s [(1, headB 0 [])]).1) ∧ DPost base b v (layR s [(1, headB 0 [])]).2 w w' := by
  have HCH := hide (clearHead_any 0 w)
  have HWC := hide (fun (W : World) => hwrite_clear 0 (by decide) none 0 W)
  have HD := hide h
  have HS := hide hS
  have hlt : ∀ k, Fd b v k → k < w.heap.size := fun k hk => (h.fd k hk).2
  have HLT := hide hlt
  obtain ⟨hc, hhc⟩ : ∃ x, headB 0 [] = x := ⟨_, rfl⟩
  rw [hhc] at HWC ⊢
  clear h hS hlt hhc
  go_enter Tryz.func27, Tryz.ntmps27
  go_wp2_with fail
  refine (unhide HCH).mono ?_
  rintro e x1 ⟨rfl, hb1⟩
  have HB1 := hide hb1
  clear hb1 HCH
  go_wp2_with fail
  refine (unhide HWC _).mono ?_
  rintro e x2 ⟨rfl, hb2⟩
  have HB2 := hide ((unhide HB1).trans (hb2.mono (unhide HB1).size))
  clear hb2 HWC HB1
  obtain ⟨x3, hx3⟩ : ∃ x, x = x2.alloc (Obj.cells #[.int .i64 1, .string hc] 49) := ⟨_, rfl⟩
  have hB3 : Blk x3 x2.heap.size #[.int .i64 1, .string hc] 49 := by rw [hx3]; exact Blk.new x2 _ _
  have hb3 : Below w.heap.size w x3 := by rw [hx3]; exact (unhide HB2).alloc (unhide HB2).size _
  have HB3 := hide hb3
  have HLY := hide (jlay_any x3 base b v s ((unhide HD).below hb3) (Nat.le_trans hb hb3.size) (unhide HS) (some ⟨x2.heap.size, 0, none⟩) 1 [(1, hc)] 1 rfl (wls_blk (l := [(1, hc)]) hB3) (fun g o e q => by cases e; have := unhide HLT _ q; have := (unhide HB2).size; omega) (by show _ + 1 ≤ _; omega) (by show _ + 1 ≤ _; omega))
  clear hB3 hb3
  go_wp2_with fail
  rw [← hx3]
  replace hx3 := hide hx3
  refine (unhide HLY).mono ?_
  rintro e x4 ⟨rfl, hP4⟩
  have HP4 := hide (DPost.belowL (unhide HB3) hP4)
  clear hP4 HLY
  go_wp2
  go_ret
  exact ⟨rfl, unhide HP4⟩
/-- What is done once more: each record, where it belongs. -/
def redoL (s : DSt) (H : List Int) : List Wr1 := (List.range H.length).map fun i => (H.getD i 0, readT s ((2 + i : Nat) : Int))
theorem redoL_len (s : DSt) (H : List Int) : (redoL s H).length = H.length := by simp [redoL]
theorem redoL_at (s : DSt) (H : List Int) (k : Nat) (hk : k < H.length) : (redoL s H).getD k wr0 = (H.getD k 0, readT s ((2 + k : Nat) : Int)) := by simp [redoL, List.getD_eq_getElem?_getD, hk]
def redoR (s : DSt) (n : Nat) (H : List Int) : Int × DSt := if (layR s (redoL s H)).1 = 0 then layR (layR s (redoL s H)).2 [(1, headB n [])] else layR s (redoL s H)
set_option maxRecDepth 100000 in
set_option maxHeartbeats 2000000 in
theorem redo_any (w : World) (base b : Nat) (v : DV) (s : DSt) (h : Dk w base b v s) (hb : base ≤ w.heap.size) (hS : Sane s) (hp : s.pend.length ≤ 100000000) (ha : s.acts.length ≤ 100000000) (n : Nat) (hn : n < 4294967296) (p : Option Addr) (c : Nat) (H : List Int) (m : Nat) (hm : m = H.length) (hH : Inl w p H) (h16 : m ≤ 16) :
    Calls Tryz.prog 73 #[.pointer (some ⟨b, 0, none⟩), .agg #[.int .u32 (n : Int), .slice p m c]] w fun e w' => e = .returned (.int .i64 (redoR s n H).1) ∧ DPost base b v (redoR s n H).2 w w' := by
  have hlt : ∀ k, Fd b v k → k < w.heap.size := fun k hk => (h.fd k hk).2
  obtain ⟨x0, hx0⟩ : ∃ x, x = w.alloc (Obj.cells #[.int .u32 (n : Int), .slice p m c] 95) := ⟨_, rfl⟩
  have hs0 : x0.heap.size = w.heap.size + 1 := by rw [hx0]; simp
  have hb0 : Below w.heap.size w x0 := by rw [hx0]; exact (Below.refl _ w).alloc (Nat.le_refl _) _
  have B0 : Blk x0 w.heap.size #[.int .u32 (n : Int), .slice p m c] 95 := by rw [hx0]; exact Blk.new w _ _
  have hmk : ∀ W : World, (Instr.makeSlice 38 (.int .i64 (m : Int)) (.int .i64 (m : Int))).run Tryz.prog W = .ok (.slice (some ⟨W.heap.size, 0, none⟩) m m) (W.alloc (.cells (wrv (List.replicate m wr0)).toArray 49)) := fun W => run_make_w m (by omega) W
  have hrl : (redoL s H).length = m := by rw [redoL_len, hm]
  have X0 := hide (show ReI x0 (redoL s H) 0 (x0.alloc (.cells (wrv (List.replicate m wr0)).toArray 49)) from ⟨by simpa [prtW, hrl] using Blk.new x0 49 (wrv (List.replicate m wr0)).toArray, (Below.refl _ _).alloc (Nat.le_refl _) _⟩)
  obtain ⟨zc, hzc⟩ : ∃ z, (wrv (List.replicate m wr0)).toArray = z := ⟨_, rfl⟩
  rw [hzc] at X0
  have hmk0 := hmk x0
  have hmkw := hmk (w.alloc (Obj.cells #[.int .u32 (n : Int), .slice p m c] 95))
  rw [hzc] at hmkw
  have HD := hide h
  have HS := hide hS
  have HLT := hide hlt
  have HH := hide hH
  have HM := hide hm
  have HRL := hide hrl
  have HX := hide (And.intro hs0 (And.intro hb0 B0))
  have HRE := hide (fun (W : World) (hW : Below w.heap.size w W) (i : Int) => read_any W base b v s (h.below hW) hS.same i)
  clear h hS hlt hH hm hrl hs0 hb0 B0 hmk hmk0 hzc
  go_enter Tryz.func73, Tryz.ntmps73
  go_wp2
  have HIW := hide (show ∀ W, Below w.heap.size w W → ∀ j, j < m → ∃ lb lo, p = some ⟨lb, lo, none⟩ ∧ W.cell? ⟨lb, lo + j, none⟩ = some (.int .i64 (H.getD j 0)) from fun W hW j hj => by
    rcases unhide HH with q | ⟨lb, lo, e1, e2, e3⟩
    · rw [unhide HM, q] at hj; cases hj
    · exact ⟨lb, lo, e1, (hW.cell (p := ⟨lb, lo + j, none⟩) e2).trans (e3 j (by rw [← unhide HM]; exact hj))⟩)
  have hz0 := (unhide HX).1
  rw [← hx0]
  rw [← hz0]
  replace hx0 := hide hx0
  have HZ0 := hide hz0
  clear hz0 hmkw
  go_loopw [18] (fun i wr => ∃ k : Nat, k ≤ m ∧ i = .int .i64 (k : Int) ∧ ReI x0 (redoL s H) k wr) (fun i _ => m - (intOf i).toNat)
  case atStart => exact ⟨0, by omega, rfl, unhide X0⟩
  case round =>
    obtain ⟨k, hk, rfl, hI⟩ := hrel
    obtain ⟨wo, rfl⟩ : ∃ wo, wo = wr := ⟨_, rfl⟩
    have XI := hide hI
    have hbw : Below w.heap.size w wo := (unhide HX).2.1.trans (hI.2.mono (unhide HX).2.1.size)
    have HBW := hide hbw
    clear hI X0
    by_cases hkl : k < m
    · obtain ⟨lb, lo, rfl, ch⟩ := unhide HIW wo hbw k hkl
      have hse := redoL_at s H k (by rw [← unhide HM]; exact hkl)
      obtain ⟨z, hz⟩ : ∃ z, H.getD k 0 = z := ⟨_, rfl⟩
      rw [hz] at ch hse
      have HRA := hide (recordAt_any k (by omega) wo)
      have HRD := hide (unhide HRE wo hbw ((2 + k : Nat) : Int))
      obtain ⟨t, ht⟩ : ∃ t, readT s ((2 + k : Nat) : Int) = t := ⟨_, rfl⟩
      rw [ht] at HRD hse
      obtain ⟨er, her⟩ : ∃ e, readE s ((2 + k : Nat) : Int) = e := ⟨_, rfl⟩
      rw [her] at HRD
      obtain ⟨ri, hri⟩ : ∃ r, ((2 + k : Nat) : Int) = r := ⟨_, rfl⟩
      rw [hri] at HRA HRD
      have hol : k < (prtW (redoL s H) k).length := by rw [prtW_len _ _ (by rw [unhide HRL]; exact hk), unhide HRL]; exact hkl
      obtain ⟨w0, w1⟩ := wrv_at _ k hol
      have d0 : wo.cell? ⟨x0.heap.size, k * 2, none⟩ = some (.int .i64 ((prtW (redoL s H) k).getD k wr0).1) := by rw [(unhide XI).1.cell]; simpa using w0
      have d1 : wo.cell? ⟨x0.heap.size, k * 2 + 1, none⟩ = some (.string ((prtW (redoL s H) k).getD k wr0).2) := by rw [(unhide XI).1.cell]; simpa using w1
      have f0 := (unhide XI).1.frozen (k * 2)
      have f1 := (unhide XI).1.frozen (k * 2 + 1)
      have XR := hide ((unhide XI).step (by rw [unhide HRL]; exact hkl) (Below.refl _ wo))
      rw [hse] at XR
      generalize (prtW (redoL s H) k).getD k wr0 = old at *
      obtain ⟨oz, ot⟩ := old
      have i0 : 0 ≤ (k : Int) := by omega
      have i1 : (k : Int) < (m : Int) := by omega
      clear hse hz ht her hri w0 w1 hol hbw XI
      go_wp2_with fail
      refine (unhide HRA).mono ?_
      rintro e y1 ⟨rfl, rfl⟩
      go_wp2_with fail
      refine (unhide HRD).mono ?_
      rintro e y2 ⟨rfl, rfl⟩
      go_wp2
      go_roundw
      case rel => exact ⟨k + 1, by omega, by go_num, unhide XR⟩
      case measure => simp [intOf]; omega
    · have hk' : k = m := by omega
      subst hk'
      have hBR : Blk wo x0.heap.size (wrv (redoL s H)).toArray 49 := by
        have := (unhide XI).1
        rw [prtW, List.take_of_length_le (by rw [unhide HRL]; exact Nat.le_refl _), unhide HRL] at this
        simpa using this
      have HBR := hide hBR
      have hff : ∀ g o, (some ⟨x0.heap.size, 0, none⟩ : Option Addr) = some ⟨g, o, none⟩ → ¬ Fd b v g := fun g o e q => by cases e; have := unhide HLT _ q; have := unhide HZ0; omega
      have HLY := hide (jlay_any wo base b v s ((unhide HD).below hbw) (Nat.le_trans hb hbw.size) (unhide HS) (some ⟨x0.heap.size, 0, none⟩) k (redoL s H) k (unhide HRL).symm (wls_blk hBR) hff (by rw [unhide HRL]; omega) (by rw [unhide HRL]; omega))
      have B0w := (unhide HX).2.2.below (unhide XI).2 (by have := unhide HZ0; omega)
      have HB0 := hide B0w
      clear hBR hff hbw hkl B0w
      go_wp2_with fail
      refine (unhide HLY).mono ?_
      rintro e y1 ⟨rfl, hP1⟩
      have HP1 := hide (DPost.belowL (unhide HBW) hP1)
      have hO1 := hP1.onlyW
      have c0 : y1.cell? ⟨w.heap.size, 0, none⟩ = some (.int .u32 (n : Int)) := by rw [((unhide HB0).only hO1 (fun q => by have := unhide HLT _ q; omega)).cell 0]; rfl
      clear hP1 hO1 HLY
      by_cases he : (layR s (redoL s H)).1 = 0
      · have HRR := hide (show redoR s n H = layR (layR s (redoL s H)).2 [(1, headB n [])] from by rw [redoR, if_pos he])
        have HSA := hide (layR_sane (redoL s H) s (unhide HS))
        have hpe := layR_pend (redoL s H) s
        have hac := layR_acts (redoL s H) s
        rw [unhide HRL] at hpe hac
        rw [he]
        generalize (layR s (redoL s H)).2 = S1 at *
        have HCH := hide (fun (W : World) => clearHead_any (n : Int) W)
        have HWC := hide (fun (W : World) => hwrite_clear n hn none 0 W)
        obtain ⟨hc, hhc⟩ : ∃ x, headB n [] = x := ⟨_, rfl⟩
        rw [hhc] at HWC HRR
        clear hhc he
        go_wp2_with fail
        refine (unhide HCH _).mono ?_
        rintro e y2 ⟨rfl, hb2⟩
        have HB2 := hide hb2
        clear hb2 HCH c0
        go_wp2_with fail
        refine (unhide HWC _).mono ?_
        rintro e y3 ⟨rfl, hb3⟩
        have HB3 := hide ((unhide HB2).trans (hb3.mono (unhide HB2).size))
        clear hb3 HWC HB2
        obtain ⟨y4, hy4⟩ : ∃ x, x = y3.alloc (Obj.cells #[.int .i64 1, .string hc] 49) := ⟨_, rfl⟩
        have hB4 : Blk y4 y3.heap.size #[.int .i64 1, .string hc] 49 := by rw [hy4]; exact Blk.new y3 _ _
        have hb4 : Below y1.heap.size y1 y4 := by rw [hy4]; exact (unhide HB3).alloc (unhide HB3).size _
        have HP4 := hide ((unhide HP1).belowR hb4)
        obtain ⟨v4, j1, j2, k3⟩ := unhide HP1
        have k1 := j1.below hb4
        have k2 : Only (Fd b v) w y4 := (unhide HP4).onlyW
        have hf4 : ¬ Fd b v4 y3.heap.size := fun q => by have := (j1.fd _ q).2; have := (unhide HB3).size; omega
        have HLY := hide (jlay_any y4 base b v4 S1 k1 (Nat.le_trans hb k2.size) (unhide HSA) (some ⟨y3.heap.size, 0, none⟩) 1 [(1, hc)] 1 rfl (wls_blk (l := [(1, hc)]) hB4) (fun g o e q => by cases e; exact hf4 q) (by show _ + 1 ≤ _; omega) (by show _ + 1 ≤ _; omega))
        have HK := hide (And.intro k2 k3)
        clear hB4 hb4 k1 k2 k3 hf4 j1 j2
        go_wp2_with fail
        rw [← hy4]
        replace hy4 := hide hy4
        refine (unhide HLY).mono ?_
        rintro e y5 ⟨rfl, hP5⟩
        have HP5 := hide (DPost.trans (unhide HK).1 (unhide HK).2 hP5)
        clear hP5 HLY HK
        go_wp2
        go_ret
        rw [unhide HRR]
        exact ⟨rfl, unhide HP5⟩
      · have HRR := hide (show redoR s n H = layR s (redoL s H) from by rw [redoR, if_neg he])
        have hne : ((layR s (redoL s H)).1 != 0) = true := by simp [he]
        generalize hq1 : (layR s (redoL s H)).1 = E at *
        have HQ1 := hide hq1
        clear he hq1
        go_wp2
        go_ret
        rw [unhide HRR, unhide HQ1]
        exact ⟨rfl, unhide HP1⟩
end Go.Proofs.YtffiaogbphgmgaaGreatDoor
