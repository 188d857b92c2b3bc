import Derived.Test.YtiellebdliifdaaGreatDoorMt13
import Derived.Test.YtiellebdliifdaaGreatDoorMt14
import Derived.Deep.RegionHeld3
import Derived.Test.YtiellebdliifdaaGreatDoorMt11
import Derived.Test.YtiellebdliifdaaGreatDoorMt07
import Derived.Test.YtiellebdliifdaaGreatDoorMt06
import Derived.Test.YtiellebdliifdaaGreatDoorMt12
import Derived.BigQuiet
import Derived.Test.YtiellebdliifdaaGreatDoorMt02
namespace Go.Proofs.YtiellebdliifdaaGreatDoor
open Go.RowKit
set_option maxRecDepth 100000 in
set_option maxHeartbeats 400000 in
theorem format_any (w : World) (base b : Nat) (v : DV) (s : DSt) (h : Dk w base b v s) (hb : base ≤ w.heap.size) (hS : Sane s) (hp : s.pend.length ≤ 1000000) (ha : s.acts.length ≤ 100000000) :
  Calls Tryz.prog 21 #[.pointer (some ⟨b, 0, none⟩)] w fun e w' => e = .returned (.int .i64 (layR s [(1, headB 0 [])]).1) ∧ DPost base b v (layR s [(1, headB 0 [])]).2 w w' := by
 have HCH := hide (clearHead_any 0 w)
 have HWC := hide (fun (W : World) => hwrite_clear 0 (by decide) none 0 W)
 have HD := hide h
 have HS := hide hS
 have hlt : ∀ k, Fd b v k → k < w.heap.size := fun k hk => (h.fd k hk).2
 have HLT := hide hlt
 obtain ⟨hc, hhc⟩ : ∃ x, headB 0 [] = x := ⟨_, rfl⟩
 rw [hhc] at HWC ⊢
 clear h hS hlt hhc
 go_enter Tryz.func21, Tryz.ntmps21
 go_wp2_with fail
 refine (unhide HCH).mono ?_
 rintro e x1 ⟨rfl, hb1⟩
 have HB1 := hide hb1
 clear hb1 HCH
 go_wp2_with fail
 refine (unhide HWC _).mono ?_
 rintro e x2 ⟨rfl, hb2⟩
 have HB2 := hide ((unhide HB1).trans (hb2.mono (unhide HB1).size))
 clear hb2 HWC HB1
 obtain ⟨x3, hx3⟩ : ∃ x, x = x2.alloc (Obj.cells #[.int .i64 1, .string hc] 76) := ⟨_, rfl⟩
 have hB3 : Blk x3 x2.heap.size #[.int .i64 1, .string hc] 76 := by rw [hx3]; exact Blk.new x2 _ _
 have hb3 : Below w.heap.size w x3 := by rw [hx3]; exact (unhide HB2).alloc (unhide HB2).size _
 have HB3 := hide hb3
 have HLY := hide (jlay_any x3 base b v s ((unhide HD).below hb3) (Nat.le_trans hb hb3.size) (unhide HS) (some ⟨x2.heap.size, 0, none⟩) 1 [(1, hc)] 1 rfl (wls_blk (l := [(1, hc)]) hB3) (fun g o e q => by cases e; have := unhide HLT _ q; have := (unhide HB2).size; omega) (by show _ + 1 ≤ _; omega) (by show _ + 1 ≤ _; omega))
 clear hB3 hb3
 go_wp2_with fail
 rw [← hx3]
 replace hx3 := hide hx3
 refine (unhide HLY).mono ?_
 rintro e x4 ⟨rfl, hP4⟩
 have HP4 := hide (DPost.belowL (unhide HB3) hP4)
 clear hP4 HLY
 go_wp2
 go_ret
 exact ⟨rfl, unhide HP4⟩
def redoL (s : DSt) (H : List Int) : List Wr1 := (List.range H.length).map fun i => (H.getD i 0, readT s ((2 + i : Nat) : Int))
theorem redoL_len (s : DSt) (H : List Int) : (redoL s H).length = H.length := by simp [redoL]
theorem redoL_at (s : DSt) (H : List Int) (k : Nat) (hk : k < H.length) : (redoL s H).getD k wr0 = (H.getD k 0, readT s ((2 + k : Nat) : Int)) := by simp [redoL, List.getD_eq_getElem?_getD, hk]
def redoR (s : DSt) (n : Nat) (H : List Int) : Int × DSt := if (layR s (redoL s H)).1 = 0 then layR (layR s (redoL s H)).2 [(1, headB n [])] else layR s (redoL s H)
set_option maxRecDepth 100000 in
set_option maxHeartbeats 2000000 in
theorem redo_any (w : World) (base b : Nat) (v : DV) (s : DSt) (h : Dk w base b v s) (hb : base ≤ w.heap.size) (hS : Sane s) (hp : s.pend.length ≤ 1000000) (ha : s.acts.length ≤ 100000000) (n : Nat) (hn : n < 4294967296) (p : Option Addr) (c : Nat) (H : List Int) (m : Nat) (hm : m = H.length) (hH : Inl w p H) (h16 : m ≤ 16) :
  Calls Tryz.prog 165 #[.pointer (some ⟨b, 0, none⟩), .agg #[.int .u32 (n : Int), .slice p m c]] w fun e w' => e = .returned (.int .i64 (redoR s n H).1) ∧ DPost base b v (redoR s n H).2 w w' := by
 have hlt : ∀ k, Fd b v k → k < w.heap.size := fun k hk => (h.fd k hk).2
 obtain ⟨x0, hx0⟩ : ∃ x, x = w.alloc (Obj.cells #[.int .u32 (n : Int), .slice p m c] 114) := ⟨_, rfl⟩
 have hs0 : x0.heap.size = w.heap.size + 1 := by rw [hx0]; simp
 have hb0 : Below w.heap.size w x0 := by rw [hx0]; exact (Below.refl _ w).alloc (Nat.le_refl _) _
 have B0 : Blk x0 w.heap.size #[.int .u32 (n : Int), .slice p m c] 114 := by rw [hx0]; exact Blk.new w _ _
 have hmk : ∀ W : World, (Instr.makeSlice 72 (.int .i64 (m : Int)) (.int .i64 (m : Int))).run Tryz.prog W = .ok (.slice (some ⟨W.heap.size, 0, none⟩) m m) (W.alloc (.cells (wrv (List.replicate m wr0)).toArray 76)) := fun W => run_make_w m (by omega) W
 have hrl : (redoL s H).length = m := by rw [redoL_len, hm]
 have X0 := hide (show ReI x0 (redoL s H) 0 (x0.alloc (.cells (wrv (List.replicate m wr0)).toArray 76)) from ⟨by simpa [prtW, hrl] using Blk.new x0 76 (wrv (List.replicate m wr0)).toArray, (Below.refl _ _).alloc (Nat.le_refl _) _⟩)
 obtain ⟨zc, hzc⟩ : ∃ z, (wrv (List.replicate m wr0)).toArray = z := ⟨_, rfl⟩
 rw [hzc] at X0
 have hmk0 := hmk x0
 have hmkw := hmk (w.alloc (Obj.cells #[.int .u32 (n : Int), .slice p m c] 114))
 rw [hzc] at hmkw
 have HD := hide h
 have HS := hide hS
 have HLT := hide hlt
 have HH := hide hH
 have HM := hide hm
 have HRL := hide hrl
 have HX := hide (And.intro hs0 (And.intro hb0 B0))
 have HRE := hide (fun (W : World) (hW : Below w.heap.size w W) (i : Int) => read_any W base b v s (h.below hW) hS.same i)
 clear h hS hlt hH hm hrl hs0 hb0 B0 hmk hmk0 hzc
 go_enter Tryz.func165, Tryz.ntmps165
 go_wp2
 have HIW := hide (show ∀ W, Below w.heap.size w W → ∀ j, j < m → ∃ lb lo, p = some ⟨lb, lo, none⟩ ∧ W.cell? ⟨lb, lo + j, none⟩ = some (.int .i64 (H.getD j 0)) from fun W hW j hj => by
  rcases unhide HH with q | ⟨lb, lo, e1, e2, e3⟩
  ·rw [unhide HM, q] at hj; cases hj
  ·exact ⟨lb, lo, e1, (hW.cell (p := ⟨lb, lo + j, none⟩) e2).trans (e3 j (by rw [← unhide HM]; exact hj))⟩)
 have hz0 := (unhide HX).1
 rw [← hx0]
 rw [← hz0]
 replace hx0 := hide hx0
 have HZ0 := hide hz0
 clear hz0 hmkw
 go_loopw [18] (fun i wr => ∃ k : Nat, k ≤ m ∧ i = .int .i64 (k : Int) ∧ ReI x0 (redoL s H) k wr) (fun i _ => m - (intOf i).toNat)
 case atStart => exact ⟨0, by omega, rfl, unhide X0⟩
 case round =>
  obtain ⟨k, hk, rfl, hI⟩ := hrel
  obtain ⟨wo, rfl⟩ : ∃ wo, wo = wr := ⟨_, rfl⟩
  have XI := hide hI
  have hbw : Below w.heap.size w wo := (unhide HX).2.1.trans (hI.2.mono (unhide HX).2.1.size)
  have HBW := hide hbw
  clear hI X0
  by_cases hkl : k < m
  ·obtain ⟨lb, lo, rfl, ch⟩ := unhide HIW wo hbw k hkl
   have hse := redoL_at s H k (by rw [← unhide HM]; exact hkl)
   obtain ⟨z, hz⟩ : ∃ z, H.getD k 0 = z := ⟨_, rfl⟩
   rw [hz] at ch hse
   have HRA := hide (recordAt_any k (by omega) wo)
   have HRD := hide (unhide HRE wo hbw ((2 + k : Nat) : Int))
   obtain ⟨t, ht⟩ : ∃ t, readT s ((2 + k : Nat) : Int) = t := ⟨_, rfl⟩
   rw [ht] at HRD hse
   obtain ⟨er, her⟩ : ∃ e, readE s ((2 + k : Nat) : Int) = e := ⟨_, rfl⟩
   rw [her] at HRD
   obtain ⟨ri, hri⟩ : ∃ r, ((2 + k : Nat) : Int) = r := ⟨_, rfl⟩
   rw [hri] at HRA HRD
   have hol : k < (prtW (redoL s H) k).length := by rw [prtW_len _ _ (by rw [unhide HRL]; exact hk), unhide HRL]; exact hkl
   obtain ⟨w0, w1⟩ := wrv_at _ k hol
   have d0 : wo.cell? ⟨x0.heap.size, k * 2, none⟩ = some (.int .i64 ((prtW (redoL s H) k).getD k wr0).1) := by rw [(unhide XI).1.cell]; simpa using w0
   have d1 : wo.cell? ⟨x0.heap.size, k * 2 + 1, none⟩ = some (.string ((prtW (redoL s H) k).getD k wr0).2) := by rw [(unhide XI).1.cell]; simpa using w1
   have f0 := (unhide XI).1.frozen (k * 2)
   have f1 := (unhide XI).1.frozen (k * 2 + 1)
   have XR := hide ((unhide XI).step (by rw [unhide HRL]; exact hkl) (Below.refl _ wo))
   rw [hse] at XR
   generalize (prtW (redoL s H) k).getD k wr0 = old at *
   obtain ⟨oz, ot⟩ := old
   have i0 : 0 ≤ (k : Int) := by omega
   have i1 : (k : Int) < (m : Int) := by omega
   clear hse hz ht her hri w0 w1 hol hbw XI
   go_wp2_with fail
   refine (unhide HRA).mono ?_
   rintro e y1 ⟨rfl, rfl⟩
   go_wp2_with fail
   refine (unhide HRD).mono ?_
   rintro e y2 ⟨rfl, rfl⟩
   go_wp2
   go_roundw
   case rel => exact ⟨k + 1, by omega, by go_num, unhide XR⟩
   case measure => simp [intOf]; omega
  ·have hk' : k = m := by omega
   subst hk'
   have hBR : Blk wo x0.heap.size (wrv (redoL s H)).toArray 76 := by
    have := (unhide XI).1
    rw [prtW, List.take_of_length_le (by rw [unhide HRL]; exact Nat.le_refl _), unhide HRL] at this
    simpa using this
   have HBR := hide hBR
   have hff : ∀ g o, (some ⟨x0.heap.size, 0, none⟩ : Option Addr) = some ⟨g, o, none⟩ → ¬ Fd b v g := fun g o e q => by cases e; have := unhide HLT _ q; have := unhide HZ0; omega
   have HLY := hide (jlay_any wo base b v s ((unhide HD).below hbw) (Nat.le_trans hb hbw.size) (unhide HS) (some ⟨x0.heap.size, 0, none⟩) k (redoL s H) k (unhide HRL).symm (wls_blk hBR) hff (by rw [unhide HRL]; omega) (by rw [unhide HRL]; omega))
   have B0w := (unhide HX).2.2.below (unhide XI).2 (by have := unhide HZ0; omega)
   have HB0 := hide B0w
   clear hBR hff hbw hkl B0w
   go_wp2_with fail
   refine (unhide HLY).mono ?_
   rintro e y1 ⟨rfl, hP1⟩
   have HP1 := hide (DPost.belowL (unhide HBW) hP1)
   have hO1 := hP1.onlyW
   have c0 : y1.cell? ⟨w.heap.size, 0, none⟩ = some (.int .u32 (n : Int)) := by rw [((unhide HB0).only hO1 (fun q => by have := unhide HLT _ q; omega)).cell 0]; rfl
   clear hP1 hO1 HLY
   by_cases he : (layR s (redoL s H)).1 = 0
   ·have HRR := hide (show redoR s n H = layR (layR s (redoL s H)).2 [(1, headB n [])] from by rw [redoR, if_pos he])
    have HSA := hide (layR_sane (redoL s H) s (unhide HS))
    have hpe := layR_pend (redoL s H) s
    have hac := layR_acts (redoL s H) s
    rw [unhide HRL] at hpe hac
    rw [he]
    generalize (layR s (redoL s H)).2 = S1 at *
    have HCH := hide (fun (W : World) => clearHead_any (n : Int) W)
    have HWC := hide (fun (W : World) => hwrite_clear n hn none 0 W)
    obtain ⟨hc, hhc⟩ : ∃ x, headB n [] = x := ⟨_, rfl⟩
    rw [hhc] at HWC HRR
    clear hhc he
    go_wp2_with fail
    refine (unhide HCH _).mono ?_
    rintro e y2 ⟨rfl, hb2⟩
    have HB2 := hide hb2
    clear hb2 HCH c0
    go_wp2_with fail
    refine (unhide HWC _).mono ?_
    rintro e y3 ⟨rfl, hb3⟩
    have HB3 := hide ((unhide HB2).trans (hb3.mono (unhide HB2).size))
    clear hb3 HWC HB2
    obtain ⟨y4, hy4⟩ : ∃ x, x = y3.alloc (Obj.cells #[.int .i64 1, .string hc] 76) := ⟨_, rfl⟩
    have hB4 : Blk y4 y3.heap.size #[.int .i64 1, .string hc] 76 := by rw [hy4]; exact Blk.new y3 _ _
    have hb4 : Below y1.heap.size y1 y4 := by rw [hy4]; exact (unhide HB3).alloc (unhide HB3).size _
    have HP4 := hide ((unhide HP1).belowR hb4)
    obtain ⟨v4, j1, j2, k3⟩ := unhide HP1
    have k1 := j1.below hb4
    have k2 : Only (Fd b v) w y4 := (unhide HP4).onlyW
    have hf4 : ¬ Fd b v4 y3.heap.size := fun q => by have := (j1.fd _ q).2; have := (unhide HB3).size; omega
    have HLY := hide (jlay_any y4 base b v4 S1 k1 (Nat.le_trans hb k2.size) (unhide HSA) (some ⟨y3.heap.size, 0, none⟩) 1 [(1, hc)] 1 rfl (wls_blk (l := [(1, hc)]) hB4) (fun g o e q => by cases e; exact hf4 q) (by show _ + 1 ≤ _; omega) (by show _ + 1 ≤ _; omega))
    have HK := hide (And.intro k2 k3)
    clear hB4 hb4 k1 k2 k3 hf4 j1 j2
    go_wp2_with fail
    rw [← hy4]
    replace hy4 := hide hy4
    refine (unhide HLY).mono ?_
    rintro e y5 ⟨rfl, hP5⟩
    have HP5 := hide (DPost.trans (unhide HK).1 (unhide HK).2 hP5)
    clear hP5 HLY HK
    go_wp2
    go_ret
    rw [unhide HRR]
    exact ⟨rfl, unhide HP5⟩
   ·have HRR := hide (show redoR s n H = layR s (redoL s H) from by rw [redoR, if_neg he])
    have hne : ((layR s (redoL s H)).1 != 0) = true := by simp [he]
    generalize hq1 : (layR s (redoL s H)).1 = E at *
    have HQ1 := hide hq1
    clear he hq1
    go_wp2
    go_ret
    rw [unhide HRR, unhide HQ1]
    exact ⟨rfl, unhide HP1⟩
end Go.Proofs.YtiellebdliifdaaGreatDoor
namespace Go.Proofs.YtiellebdliifdaaGreatDoor
open Go.RowKit
def JNew (base b : Nat) (v : DV) (s : DSt) (jb nx : Nat) (w w' : World) : Prop :=
 ∃ v', Dk w' base b v' s ∧ Jb w' jb b nx false ∧ ¬ Fd b v' jb ∧ w.heap.size ≤ jb ∧ Only (Fd b v) w w' ∧ ∀ k, Fd b v' k → Fd b v k ∨ w.heap.size ≤ k
def OpenPost (base b : Nat) (v : DV) (s : DSt) (w : World) (e : Ending) (w' : World) : Prop :=
  (readE s 1 ≠ 0 ∧ e = .returned (.tuple #[.pointer none, .bool false, .int .i64 (readE s 1)]) ∧ DPost base b v s w w') ∨
  (readE s 1 = 0 ∧ ∃ (n : Nat) (H : List Int) (ok : Bool), n < 4294967296 ∧ RHP (readT s 1) (s.last.length : Int) (n : Int) H ok ∧
    ((ok = false ∧ e = .returned (.tuple #[.pointer none, .bool false, .int .i64 53]) ∧ DPost base b v s w w') ∨
     (ok = true ∧ H.length = 0 ∧ ∃ jb, e = .returned (.tuple #[.pointer (some ⟨jb, 0, none⟩), .bool false, .int .i64 0]) ∧ JNew base b v s jb ((n + 1) % 4294967296) w w') ∨
     (ok = true ∧ 0 < H.length ∧ (redoR s n H).1 ≠ 0 ∧ e = .returned (.tuple #[.pointer none, .bool false, .int .i64 (redoR s n H).1]) ∧ DPost base b v (redoR s n H).2 w w') ∨
     (ok = true ∧ 0 < H.length ∧ (redoR s n H).1 = 0 ∧ ∃ jb, e = .returned (.tuple #[.pointer (some ⟨jb, 0, none⟩), .bool true, .int .i64 0]) ∧ JNew base b v (redoR s n H).2 jb ((n + 1) % 4294967296) w w')))
theorem RHP.num {t : ByteArray} {size n : Int} {H : List Int} {ok : Bool} (h : RHP t size n H ok) : 0 ≤ n ∧ n < 4294967296 ∧ (ok = true → H.length ≤ 16) := by
 rcases h with ⟨_, rfl, rfl, rfl⟩ | ⟨⟨h1, _⟩, rfl, h3⟩
 ·exact ⟨by decide, by decide, fun q => by cases q⟩
 ·have := prOk_fit t h1
  refine ⟨this.1, by omega, fun q => ?_⟩
  rcases h3 with ⟨_, _, rfl⟩ | ⟨_, rfl, _⟩
  ·simp at q; omega
  ·simp
theorem JNew.make {w y z : World} {base b jb nx : Nat} {v : DV} {s : DSt} (hP : DPost base b v s w y) (hb : Below y.heap.size y z) (hj : y.heap.size ≤ jb) (hJ : Jb z jb b nx false) : JNew base b v s jb nx w z := by
 obtain ⟨v', h1, h2, h3⟩ := hP
 have hs := h2.size
 exact ⟨v', h1.below hb, hJ, fun q => by have := (h1.fd _ q).2; omega, by omega, h2.trans (Only.of_below (P := fun _ => False) hb) (fun _ _ q => q.elim), h3⟩
theorem row_inlJ {w : World} {base : Nat} {p : Option Addr} {c m : Nat} {L : List Int} (h : w.ownsRow base 3 1 (.slice p m c) m (L.map (Value.int .i64))) (hm : m = L.length) : Inl w p L := by
 by_cases h0 : 0 < L.length
 ·obtain ⟨g, cap, e, hb, _⟩ := h.form (by omega)
  simp at e
  obtain ⟨rfl, rfl⟩ := e
  refine .inr ⟨g, 0, rfl, (h.lt g rfl).2, fun j hj => ?_⟩
  rw [Nat.zero_add, (own_at h rfl j (by omega)).1]
  simp [List.getD_eq_getElem?_getD, hj]
 ·exact .inl (List.eq_nil_of_length_eq_zero (by omega))
set_option maxRecDepth 100000 in
set_option maxHeartbeats 2000000 in
theorem open_any (w : World) (base b : Nat) (v : DV) (s : DSt) (h : Dk w base b v s) (hg : ETy w) (hb : base ≤ w.heap.size) (hS : Sane s) (ht : (readT s 1).size ≤ 9223372036854775807) (hp : s.pend.length ≤ 1000000) (ha : s.acts.length ≤ 10000000) :
  Calls Tryz.prog 116 #[.pointer (some ⟨b, 0, none⟩)] w (OpenPost base b v s w) := by
 have HRD := hide (read_any w base b v s h hS.same 1)
 have HSZ := hide (size_any w base b v s h)
 have HRH := hide (readHead_any w hg (readT s 1) ht (s.last.length : Int))
 have HD := hide h
 have HS := hide hS
 have HP0 := hide (DPost.refl h)
 have hlt : ∀ k, Fd b v k → k < w.heap.size := fun k hk => (h.fd k hk).2
 have HLT := hide hlt
 clear h hS hlt hg ht
 obtain ⟨sz, hsz⟩ : ∃ z, (s.last.length : Int) = z := ⟨_, rfl⟩
 obtain ⟨t, htt⟩ : ∃ t, readT s 1 = t := ⟨_, rfl⟩
 rw [hsz] at HSZ HRH
 rw [htt] at HRD HRH
 have HT := hide (And.intro hsz htt)
 clear hsz htt
 go_enter Tryz.func116, Tryz.ntmps116
 go_wp2_with fail
 refine (unhide HRD).mono ?_
 rintro e x1 ⟨rfl, rfl⟩
 by_cases he : readE s 1 = 0
 ·have HE := hide he
  rw [he]
  clear he
  go_wp2_with fail
  refine (unhide HSZ).mono ?_
  rintro e x2 ⟨rfl, rfl⟩
  go_wp2_with fail
  refine (unhide HRH).mono ?_
  rintro e x3 ⟨p, c, H, n0, ok, rfl, hR, hrow, hb3⟩
  obtain ⟨hn0, hn1, h16⟩ := hR.num
  obtain ⟨n, rfl⟩ : ∃ n : Nat, n0 = (n : Int) := ⟨n0.toNat, by omega⟩
  have hn : n < 4294967296 := by omega
  obtain ⟨m, hm⟩ : ∃ m, m = H.length := ⟨_, rfl⟩
  rw [← hm] at hrow h16 ⊢
  have HIN := hide (row_inlJ hrow hm)
  have HRR := hide (show RHP (readT s 1) (s.last.length : Int) (n : Int) H ok from by rw [(unhide HT).1, (unhide HT).2]; exact hR)
  have HM := hide hm
  obtain ⟨x4, hx4⟩ : ∃ x, x = x3.alloc (Obj.cells #[.int .u32 (n : Int), .slice p m c] 114) := ⟨_, rfl⟩
  have B4 : Blk x4 x3.heap.size #[.int .u32 (n : Int), .slice p m c] 114 := by rw [hx4]; exact Blk.new x3 _ _
  have hb4 : Below x2.heap.size x2 x4 := by rw [hx4]; exact hb3.alloc hb3.size _
  have hI4 : Inl x4 p H := (unhide HIN).only (show Only (fun _ => False) x3 x4 from by rw [hx4]; exact (Only.refl _ x3).alloc _) (fun _ _ _ _ q => q)
  have hg4 : x2.heap.size ≤ x3.heap.size := hb3.size
  have HB4 := hide (And.intro B4 (And.intro hb4 (And.intro hI4 hg4)))
  clear hrow hb3 hR hm HSZ HRH HRD hn0 hn1 B4 hb4 hI4 hg4 HIN
  cases ok with
  | false =>
   have HPO := hide (show OpenPost base b v s x2 (.returned (.tuple #[.pointer none, .bool false, .int .i64 53])) x4 from .inr ⟨unhide HE, n, H, false, hn, unhide HRR, .inl ⟨rfl, rfl, (unhide HP0).belowR (unhide HB4).2.1⟩⟩)
   clear h16
   go_wp2
   go_ret3
   rw [← hx4]
   exact unhide HPO
  | true =>
   have h16' := h16 rfl
   have HIS := hide (fun (W : World) => isSet_any (n : Int) p m c W)
   clear h16
   go_wp2_with fail
   rw [← hx4]
   replace hx4 := hide hx4
   obtain ⟨gh, hgh⟩ : ∃ g, x3.heap.size = g := ⟨_, rfl⟩
   rw [hgh] at HB4 ⊢
   clear hgh
   refine (unhide HIS _).mono ?_
   rintro e x5 ⟨rfl, hb5⟩
   have B5 := (unhide HB4).1.below hb5 (unhide HB4).1.lt
   have hI5 : Inl x5 p H := (unhide HB4).2.2.1.only (Only.of_below (P := fun _ => False) hb5) (fun _ _ _ _ q => q)
   have HB5 := hide (And.intro B5 (And.intro ((unhide HB4).2.1.trans (hb5.mono (unhide HB4).2.1.size)) hI5))
   have hgl : x2.heap.size ≤ gh := (unhide HB4).2.2.2
   clear hb5 B5 hI5 HB4
   have c0 : x5.cell? ⟨gh, 0, none⟩ = some (.int .u32 (n : Int)) := (unhide HB5).1.cell 0
   have c1 : x5.cell? ⟨gh, 1, none⟩ = some (.slice p m c) := (unhide HB5).1.cell 1
   by_cases hm0 : 0 < m
   ·have hd : decide (0 < m) = true := by simp [hm0]
    rw [hd]
    have HRO := hide (redo_any x5 base b v s ((unhide HD).below (unhide HB5).2.1) (Nat.le_trans hb (unhide HB5).2.1.size) (unhide HS) hp (by omega) n hn p c H m (unhide HM) (unhide HB5).2.2 h16')
    clear hd
    go_wp2_with fail
    refine (unhide HRO).mono ?_
    rintro e y1 ⟨rfl, hP1⟩
    have HP1 := hide (DPost.belowL (unhide HB5).2.1 hP1)
    have hnf : ¬ Fd b v gh := fun q => by have := unhide HLT _ q; omega
    have BY := (unhide HB5).1.only hP1.onlyW hnf
    have HBY := hide BY
    clear hP1 HRO c0 c1 hnf BY
    by_cases he : (redoR s n H).1 = 0
    ·have HRE := hide he
     rw [he]
     clear he
     have hcc : y1.drew.cell? ⟨gh, 0, none⟩ = some (.int .u32 (n : Int)) ∧ y1.drew.cell? ⟨gh, 1, none⟩ = some (.slice p m c) := ⟨(unhide HBY).cell 0, (unhide HBY).cell 1⟩
     have hwr : IntKind.u32.wrap ((n : Int) + 1) = (((n + 1) % 4294967296 : Nat) : Int) := by
      have : IntKind.u32.wrap ((n : Int) + 1) = ((n : Int) + 1) % 4294967296 := by simp [IntKind.wrap, IntKind.signed, IntKind.bits]
      rw [this]; omega
     obtain ⟨nx, hnx⟩ : ∃ nx, (n + 1) % 4294967296 = nx := ⟨_, rfl⟩
     rw [hnx] at hwr
     have HNX := hide hnx
     clear hnx
     go_wp2_with fail
     refine wp_region_held_drew (S := fun w' => w'.cell? ⟨gh, 0, none⟩ = some (.int .u32 (n : Int)) ∧ w'.cell? ⟨gh, 1, none⟩ = some (.slice p m c)) (by kernel_rfl) hcc ?_
     intro hS
     refine wpAnyH_takeD 0 (some 39) (.pointer (some ⟨b, 0, none⟩)) rfl rfl (by kernel_rfl) (by kernel_rfl) (by kernel_rfl) (fun _ _ _ h => h) (Or.inl ⟨by rfl, fun w hSw => by obtain ⟨q1, q2⟩ := hSw; go_simp⟩) hS ?_
     simp only [Act.put, List.setIfInBounds_toArray, List.set_cons_zero, List.set_cons_succ]
     refine wpAnyH_takeD 1 (some 40) (.pointer (some ⟨gh, 0, none⟩)) rfl rfl (by kernel_rfl) (by kernel_rfl) (by kernel_rfl) (fun _ _ _ h => h) (Or.inl ⟨by rfl, fun w hSw => by obtain ⟨q1, q2⟩ := hSw; go_simp⟩) hS ?_
     simp only [Act.put, List.setIfInBounds_toArray, List.set_cons_zero, List.set_cons_succ]
     refine wpAnyH_takeD 2 (some 41) (.int .u32 (n : Int)) rfl rfl (by kernel_rfl) (by kernel_rfl) (by kernel_rfl) (fun _ _ _ h => h) (Or.inl ⟨by rfl, fun w hSw => by obtain ⟨q1, q2⟩ := hSw; go_simp⟩) hS ?_
     simp only [Act.put, List.setIfInBounds_toArray, List.set_cons_zero, List.set_cons_succ]
     refine wpAnyH_takeD 3 (some 42) (.int .u32 (nx : Int)) rfl rfl (by kernel_rfl) (by kernel_rfl) (by kernel_rfl) (fun _ _ _ h => h) (Or.inl ⟨by rfl, fun w hSw => by obtain ⟨q1, q2⟩ := hSw; go_simp⟩) hS ?_
     simp only [Act.put, List.setIfInBounds_toArray, List.set_cons_zero, List.set_cons_succ]
     refine wpAnyH_takeD 4 (some 43) (.agg #[.pointer (some ⟨b, 0, none⟩), .int .u32 (nx : Int), .bool false]) rfl rfl (by kernel_rfl) (by kernel_rfl) (by kernel_rfl) (fun _ _ _ h => h) (Or.inl ⟨by rfl, fun w hSw => by obtain ⟨q1, q2⟩ := hSw; go_simp⟩) hS ?_
     simp only [Act.put, List.setIfInBounds_toArray, List.set_cons_zero, List.set_cons_succ]
     refine wpAnyH_takeD 6 (some 45) (.agg #[.int .u32 (n : Int), .slice p m c]) rfl rfl (by kernel_rfl) (by kernel_rfl) (by kernel_rfl) (fun _ _ _ h => h) (Or.inl ⟨by rfl, fun w hSw => by obtain ⟨q1, q2⟩ := hSw; go_simp⟩) hS ?_
     simp only [Act.put, List.setIfInBounds_toArray, List.set_cons_zero, List.set_cons_succ]
     refine wpAnyH_ready (rs := [5, 7]) (by kernel_rfl) (by simp) ?_
     refine AllReadyH.cons rfl (fun K hK => ?_) (AllReadyH.cons rfl (fun K hK => ?_) AllReadyH.nil)
     ·simp only [List.getElem_toArray, List.getElem_cons_succ, List.getElem_cons_zero]
      go_simp
      obtain ⟨z1, hzz1⟩ : ∃ q, q = (y1.alloc (Obj.cells #[.pointer (some ⟨b, 0, none⟩), .int .u32 (nx : Int), .bool false] 133)).drew := ⟨_, rfl⟩
      have BJ : Jb z1 y1.heap.size b nx false := by rw [hzz1]; exact Blk.new y1 _ _
      have hbz : Below y1.heap.size y1 z1 := by rw [hzz1]; exact ((Below.refl _ y1).alloc (Nat.le_refl _) _).drew
      have HBJ := hide BJ
      rw [← hzz1]
      replace hzz1 := hide hzz1
      have HBZ := hide hbz
      have BYz := (unhide HBY).below hbz (unhide HBY).lt
      clear HBY hbz BJ
      have HBY := hide BYz
      clear BYz
      obtain ⟨jb, hjb⟩ : ∃ j, y1.heap.size = j := ⟨_, rfl⟩
      have HJL := hide (show y1.heap.size ≤ jb from Nat.le_of_eq hjb)
      rw [hjb] at HBJ ⊢
      clear hjb
      refine hK.out _ _ ⟨by rw [(unhide HBY).cell 0]; rfl, by rw [(unhide HBY).cell 1]; rfl⟩ (fun hS => ?_)
      clear hK K
      refine wpAnyH_ready (rs := [7]) (by kernel_rfl) (by simp) ?_
      refine AllReadyH.cons rfl (fun K hK => ?_) AllReadyH.nil
      simp only [List.getElem_toArray, List.getElem_cons_succ, List.getElem_cons_zero]
      go_simp
      refine (unhide HIS _).mono ?_
      rintro e z2 ⟨rfl, hb2⟩
      rw [show decide (0 < m) = true by simp [hm0]]
      have BJ2 : Jb z2 jb b nx false := Blk.below (unhide HBJ) hb2 (Blk.lt (unhide HBJ))
      have BY2 := (unhide HBY).below hb2 (unhide HBY).lt
      replace HBZ := hide ((unhide HBZ).trans (hb2.mono (unhide HBZ).size))
      clear HBJ HBY hb2
      have HBJ := hide BJ2
      have HBY := hide BY2
      clear BJ2 BY2
      refine hK.out _ _ ⟨by rw [(unhide HBY).cell 0]; rfl, by rw [(unhide HBY).cell 1]; rfl⟩ (fun hS => ?_)
      clear hK K
      refine wpAnyH_takeD 8 (some 2) (.pointer (some ⟨jb, 0, none⟩)) rfl rfl (by kernel_rfl) (by kernel_rfl) (by kernel_rfl) (fun _ _ _ h => h) (Or.inl ⟨by rfl, fun w hSw => by obtain ⟨q1, q2⟩ := hSw; go_simp⟩) hS ?_
      simp only [Act.put, List.setIfInBounds_toArray, List.set_cons_zero, List.set_cons_succ]
      refine wpAnyH_takeD 9 (some 3) (.bool true) rfl rfl (by kernel_rfl) (by kernel_rfl) (by kernel_rfl) (fun _ _ _ h => h) (Or.inl ⟨by rfl, fun w hSw => by obtain ⟨q1, q2⟩ := hSw; go_simp⟩) hS ?_
      simp only [Act.put, List.setIfInBounds_toArray, List.set_cons_zero, List.set_cons_succ]
      refine wpAnyH_takeD 10 (some 4) (.int .i64 0) rfl rfl (by kernel_rfl) (by kernel_rfl) (by kernel_rfl) (fun _ _ _ h => h) (Or.inl ⟨by rfl, fun w hSw => by obtain ⟨q1, q2⟩ := hSw; go_simp⟩) hS ?_
      simp only [Act.put, List.setIfInBounds_toArray, List.set_cons_zero, List.set_cons_succ]
      refine wpAnyH_done (by kernel_rfl) ?_ _
      clear hS
      have HPO := hide (show OpenPost base b v s x2 (.returned (.tuple #[.pointer (some ⟨jb, 0, none⟩), .bool true, .int .i64 0])) z2 from .inr ⟨unhide HE, n, H, true, hn, unhide HRR, .inr (.inr (.inr ⟨rfl, by rw [← unhide HM]; exact hm0, unhide HRE, jb, rfl, by rw [unhide HNX]; exact JNew.make (unhide HP1) (unhide HBZ) (unhide HJL) (unhide HBJ)⟩))⟩)
      clear HBJ HBY HBZ
      go_wp2
      go_ret3
      exact unhide HPO
     ·simp only [List.getElem_toArray, List.getElem_cons_succ, List.getElem_cons_zero]
      go_simp
      refine (unhide HIS _).mono ?_
      rintro e z1 ⟨rfl, hb2⟩
      rw [show decide (0 < m) = true by simp [hm0]]
      have BY2 := (show Blk y1.drew gh _ _ from unhide HBY).below hb2 (unhide HBY).lt
      have HBZ0 := hide (show Below y1.heap.size y1 z1 from ((Below.refl _ y1).drew).trans hb2)
      clear HBY hb2
      have HBY := hide BY2
      clear BY2
      refine hK.out _ _ ⟨by rw [(unhide HBY).cell 0]; rfl, by rw [(unhide HBY).cell 1]; rfl⟩ (fun hS => ?_)
      clear hK K
      refine wpAnyH_ready (rs := [5]) (by kernel_rfl) (by simp) ?_
      refine AllReadyH.cons rfl (fun K hK => ?_) AllReadyH.nil
      simp only [List.getElem_toArray, List.getElem_cons_succ, List.getElem_cons_zero]
      go_simp
      obtain ⟨z2, hzz2⟩ : ∃ q, q = z1.alloc (Obj.cells #[.pointer (some ⟨b, 0, none⟩), .int .u32 (nx : Int), .bool false] 133) := ⟨_, rfl⟩
      have BJ : Jb z2 z1.heap.size b nx false := by rw [hzz2]; exact Blk.new z1 _ _
      have hbz : Below z1.heap.size z1 z2 := by rw [hzz2]; exact (Below.refl _ z1).alloc (Nat.le_refl _) _
      have HBJ := hide BJ
      rw [← hzz2]
      replace hzz2 := hide hzz2
      have HBZ := hide ((unhide HBZ0).trans (hbz.mono (unhide HBZ0).size))
      have BYz := (unhide HBY).below hbz (unhide HBY).lt
      have hjl : y1.heap.size ≤ z1.heap.size := (unhide HBZ0).size
      clear HBY hbz BJ HBZ0
      have HBY := hide BYz
      clear BYz
      obtain ⟨jb, hjb⟩ : ∃ j, z1.heap.size = j := ⟨_, rfl⟩
      rw [hjb] at HBJ hjl ⊢
      have HJL := hide hjl
      clear hjb hjl
      refine hK.out _ _ ⟨by rw [(unhide HBY).cell 0]; rfl, by rw [(unhide HBY).cell 1]; rfl⟩ (fun hS => ?_)
      clear hK K
      refine wpAnyH_takeD 8 (some 2) (.pointer (some ⟨jb, 0, none⟩)) rfl rfl (by kernel_rfl) (by kernel_rfl) (by kernel_rfl) (fun _ _ _ h => h) (Or.inl ⟨by rfl, fun w hSw => by obtain ⟨q1, q2⟩ := hSw; go_simp⟩) hS ?_
      simp only [Act.put, List.setIfInBounds_toArray, List.set_cons_zero, List.set_cons_succ]
      refine wpAnyH_takeD 9 (some 3) (.bool true) rfl rfl (by kernel_rfl) (by kernel_rfl) (by kernel_rfl) (fun _ _ _ h => h) (Or.inl ⟨by rfl, fun w hSw => by obtain ⟨q1, q2⟩ := hSw; go_simp⟩) hS ?_
      simp only [Act.put, List.setIfInBounds_toArray, List.set_cons_zero, List.set_cons_succ]
      refine wpAnyH_takeD 10 (some 4) (.int .i64 0) rfl rfl (by kernel_rfl) (by kernel_rfl) (by kernel_rfl) (fun _ _ _ h => h) (Or.inl ⟨by rfl, fun w hSw => by obtain ⟨q1, q2⟩ := hSw; go_simp⟩) hS ?_
      simp only [Act.put, List.setIfInBounds_toArray, List.set_cons_zero, List.set_cons_succ]
      refine wpAnyH_done (by kernel_rfl) ?_ _
      clear hS
      have HPO := hide (show OpenPost base b v s x2 (.returned (.tuple #[.pointer (some ⟨jb, 0, none⟩), .bool true, .int .i64 0])) z2 from .inr ⟨unhide HE, n, H, true, hn, unhide HRR, .inr (.inr (.inr ⟨rfl, by rw [← unhide HM]; exact hm0, unhide HRE, jb, rfl, by rw [unhide HNX]; exact JNew.make (unhide HP1) (unhide HBZ) (unhide HJL) (unhide HBJ)⟩))⟩)
      clear HBJ HBY HBZ
      go_wp2
      go_ret3
      exact unhide HPO
    ·have hne : ((redoR s n H).1 != 0) = true := by simp [he]
     have HPO := hide (show OpenPost base b v s x2 (.returned (.tuple #[.pointer none, .bool false, .int .i64 (redoR s n H).1])) y1 from .inr ⟨unhide HE, n, H, true, hn, unhide HRR, .inr (.inr (.inl ⟨rfl, by rw [← unhide HM]; exact hm0, he, rfl, unhide HP1⟩))⟩)
     generalize (redoR s n H).1 = E at *
     clear he
     go_wp2
     go_ret3
     exact unhide HPO
   ·have hd : decide (0 < m) = false := by simp; omega
    rw [hd]
    obtain rfl : m = 0 := by omega
    have HP1 := hide ((unhide HP0).belowR (unhide HB5).2.1)
    have HBY := hide (unhide HB5).1
    clear hd c0 c1
    have hcc : x5.drew.cell? ⟨gh, 0, none⟩ = some (.int .u32 (n : Int)) ∧ x5.drew.cell? ⟨gh, 1, none⟩ = some (.slice p 0 c) := ⟨(unhide HBY).cell 0, (unhide HBY).cell 1⟩
    have hwr : IntKind.u32.wrap ((n : Int) + 1) = (((n + 1) % 4294967296 : Nat) : Int) := by
     have : IntKind.u32.wrap ((n : Int) + 1) = ((n : Int) + 1) % 4294967296 := by simp [IntKind.wrap, IntKind.signed, IntKind.bits]
     rw [this]; omega
    obtain ⟨nx, hnx⟩ : ∃ nx, (n + 1) % 4294967296 = nx := ⟨_, rfl⟩
    rw [hnx] at hwr
    have HNX := hide hnx
    clear hnx
    go_wp2_with fail
    refine wp_region_held_drew (S := fun w' => w'.cell? ⟨gh, 0, none⟩ = some (.int .u32 (n : Int)) ∧ w'.cell? ⟨gh, 1, none⟩ = some (.slice p 0 c)) (by kernel_rfl) hcc ?_
    intro hS
    refine wpAnyH_takeD 0 (some 39) (.pointer (some ⟨b, 0, none⟩)) rfl rfl (by kernel_rfl) (by kernel_rfl) (by kernel_rfl) (fun _ _ _ h => h) (Or.inl ⟨by rfl, fun w hSw => by obtain ⟨q1, q2⟩ := hSw; go_simp⟩) hS ?_
    simp only [Act.put, List.setIfInBounds_toArray, List.set_cons_zero, List.set_cons_succ]
    refine wpAnyH_takeD 1 (some 40) (.pointer (some ⟨gh, 0, none⟩)) rfl rfl (by kernel_rfl) (by kernel_rfl) (by kernel_rfl) (fun _ _ _ h => h) (Or.inl ⟨by rfl, fun w hSw => by obtain ⟨q1, q2⟩ := hSw; go_simp⟩) hS ?_
    simp only [Act.put, List.setIfInBounds_toArray, List.set_cons_zero, List.set_cons_succ]
    refine wpAnyH_takeD 2 (some 41) (.int .u32 (n : Int)) rfl rfl (by kernel_rfl) (by kernel_rfl) (by kernel_rfl) (fun _ _ _ h => h) (Or.inl ⟨by rfl, fun w hSw => by obtain ⟨q1, q2⟩ := hSw; go_simp⟩) hS ?_
    simp only [Act.put, List.setIfInBounds_toArray, List.set_cons_zero, List.set_cons_succ]
    refine wpAnyH_takeD 3 (some 42) (.int .u32 (nx : Int)) rfl rfl (by kernel_rfl) (by kernel_rfl) (by kernel_rfl) (fun _ _ _ h => h) (Or.inl ⟨by rfl, fun w hSw => by obtain ⟨q1, q2⟩ := hSw; go_simp⟩) hS ?_
    simp only [Act.put, List.setIfInBounds_toArray, List.set_cons_zero, List.set_cons_succ]
    refine wpAnyH_takeD 4 (some 43) (.agg #[.pointer (some ⟨b, 0, none⟩), .int .u32 (nx : Int), .bool false]) rfl rfl (by kernel_rfl) (by kernel_rfl) (by kernel_rfl) (fun _ _ _ h => h) (Or.inl ⟨by rfl, fun w hSw => by obtain ⟨q1, q2⟩ := hSw; go_simp⟩) hS ?_
    simp only [Act.put, List.setIfInBounds_toArray, List.set_cons_zero, List.set_cons_succ]
    refine wpAnyH_takeD 6 (some 45) (.agg #[.int .u32 (n : Int), .slice p 0 c]) rfl rfl (by kernel_rfl) (by kernel_rfl) (by kernel_rfl) (fun _ _ _ h => h) (Or.inl ⟨by rfl, fun w hSw => by obtain ⟨q1, q2⟩ := hSw; go_simp⟩) hS ?_
    simp only [Act.put, List.setIfInBounds_toArray, List.set_cons_zero, List.set_cons_succ]
    refine wpAnyH_ready (rs := [5, 7]) (by kernel_rfl) (by simp) ?_
    refine AllReadyH.cons rfl (fun K hK => ?_) (AllReadyH.cons rfl (fun K hK => ?_) AllReadyH.nil)
    ·simp only [List.getElem_toArray, List.getElem_cons_succ, List.getElem_cons_zero]
     go_simp
     obtain ⟨z1, hzz1⟩ : ∃ q, q = (x5.alloc (Obj.cells #[.pointer (some ⟨b, 0, none⟩), .int .u32 (nx : Int), .bool false] 133)).drew := ⟨_, rfl⟩
     have BJ : Jb z1 x5.heap.size b nx false := by rw [hzz1]; exact Blk.new x5 _ _
     have hbz : Below x5.heap.size x5 z1 := by rw [hzz1]; exact ((Below.refl _ x5).alloc (Nat.le_refl _) _).drew
     have HBJ := hide BJ
     rw [← hzz1]
     replace hzz1 := hide hzz1
     have HBZ := hide hbz
     have BYz := (unhide HBY).below hbz (unhide HBY).lt
     clear HBY hbz BJ
     have HBY := hide BYz
     clear BYz
     obtain ⟨jb, hjb⟩ : ∃ j, x5.heap.size = j := ⟨_, rfl⟩
     have HJL := hide (show x5.heap.size ≤ jb from Nat.le_of_eq hjb)
     rw [hjb] at HBJ ⊢
     clear hjb
     refine hK.out _ _ ⟨by rw [(unhide HBY).cell 0]; rfl, by rw [(unhide HBY).cell 1]; rfl⟩ (fun hS => ?_)
     clear hK K
     refine wpAnyH_ready (rs := [7]) (by kernel_rfl) (by simp) ?_
     refine AllReadyH.cons rfl (fun K hK => ?_) AllReadyH.nil
     simp only [List.getElem_toArray, List.getElem_cons_succ, List.getElem_cons_zero]
     go_simp
     refine (unhide HIS _).mono ?_
     rintro e z2 ⟨rfl, hb2⟩
     rw [show decide (0 < 0) = false by simp]
     have BJ2 : Jb z2 jb b nx false := Blk.below (unhide HBJ) hb2 (Blk.lt (unhide HBJ))
     have BY2 := (unhide HBY).below hb2 (unhide HBY).lt
     replace HBZ := hide ((unhide HBZ).trans (hb2.mono (unhide HBZ).size))
     clear HBJ HBY hb2
     have HBJ := hide BJ2
     have HBY := hide BY2
     clear BJ2 BY2
     refine hK.out _ _ ⟨by rw [(unhide HBY).cell 0]; rfl, by rw [(unhide HBY).cell 1]; rfl⟩ (fun hS => ?_)
     clear hK K
     refine wpAnyH_takeD 8 (some 2) (.pointer (some ⟨jb, 0, none⟩)) rfl rfl (by kernel_rfl) (by kernel_rfl) (by kernel_rfl) (fun _ _ _ h => h) (Or.inl ⟨by rfl, fun w hSw => by obtain ⟨q1, q2⟩ := hSw; go_simp⟩) hS ?_
     simp only [Act.put, List.setIfInBounds_toArray, List.set_cons_zero, List.set_cons_succ]
     refine wpAnyH_takeD 9 (some 3) (.bool false) rfl rfl (by kernel_rfl) (by kernel_rfl) (by kernel_rfl) (fun _ _ _ h => h) (Or.inl ⟨by rfl, fun w hSw => by obtain ⟨q1, q2⟩ := hSw; go_simp⟩) hS ?_
     simp only [Act.put, List.setIfInBounds_toArray, List.set_cons_zero, List.set_cons_succ]
     refine wpAnyH_takeD 10 (some 4) (.int .i64 0) rfl rfl (by kernel_rfl) (by kernel_rfl) (by kernel_rfl) (fun _ _ _ h => h) (Or.inl ⟨by rfl, fun w hSw => by obtain ⟨q1, q2⟩ := hSw; go_simp⟩) hS ?_
     simp only [Act.put, List.setIfInBounds_toArray, List.set_cons_zero, List.set_cons_succ]
     refine wpAnyH_done (by kernel_rfl) ?_ _
     clear hS
     have HPO := hide (show OpenPost base b v s x2 (.returned (.tuple #[.pointer (some ⟨jb, 0, none⟩), .bool false, .int .i64 0])) z2 from .inr ⟨unhide HE, n, H, true, hn, unhide HRR, .inr (.inl ⟨rfl, (unhide HM).symm, jb, rfl, by rw [unhide HNX]; exact JNew.make (unhide HP1) (unhide HBZ) (unhide HJL) (unhide HBJ)⟩)⟩)
     clear HBJ HBY HBZ
     go_wp2
     go_ret3
     exact unhide HPO
    ·simp only [List.getElem_toArray, List.getElem_cons_succ, List.getElem_cons_zero]
     go_simp
     refine (unhide HIS _).mono ?_
     rintro e z1 ⟨rfl, hb2⟩
     rw [show decide (0 < 0) = false by simp]
     have BY2 := (show Blk x5.drew gh _ _ from unhide HBY).below hb2 (unhide HBY).lt
     have HBZ0 := hide (show Below x5.heap.size x5 z1 from ((Below.refl _ x5).drew).trans hb2)
     clear HBY hb2
     have HBY := hide BY2
     clear BY2
     refine hK.out _ _ ⟨by rw [(unhide HBY).cell 0]; rfl, by rw [(unhide HBY).cell 1]; rfl⟩ (fun hS => ?_)
     clear hK K
     refine wpAnyH_ready (rs := [5]) (by kernel_rfl) (by simp) ?_
     refine AllReadyH.cons rfl (fun K hK => ?_) AllReadyH.nil
     simp only [List.getElem_toArray, List.getElem_cons_succ, List.getElem_cons_zero]
     go_simp
     obtain ⟨z2, hzz2⟩ : ∃ q, q = z1.alloc (Obj.cells #[.pointer (some ⟨b, 0, none⟩), .int .u32 (nx : Int), .bool false] 133) := ⟨_, rfl⟩
     have BJ : Jb z2 z1.heap.size b nx false := by rw [hzz2]; exact Blk.new z1 _ _
     have hbz : Below z1.heap.size z1 z2 := by rw [hzz2]; exact (Below.refl _ z1).alloc (Nat.le_refl _) _
     have HBJ := hide BJ
     rw [← hzz2]
     replace hzz2 := hide hzz2
     have HBZ := hide ((unhide HBZ0).trans (hbz.mono (unhide HBZ0).size))
     have BYz := (unhide HBY).below hbz (unhide HBY).lt
     have hjl : x5.heap.size ≤ z1.heap.size := (unhide HBZ0).size
     clear HBY hbz BJ HBZ0
     have HBY := hide BYz
     clear BYz
     obtain ⟨jb, hjb⟩ : ∃ j, z1.heap.size = j := ⟨_, rfl⟩
     rw [hjb] at HBJ hjl ⊢
     have HJL := hide hjl
     clear hjb hjl
     refine hK.out _ _ ⟨by rw [(unhide HBY).cell 0]; rfl, by rw [(unhide HBY).cell 1]; rfl⟩ (fun hS => ?_)
     clear hK K
     refine wpAnyH_takeD 8 (some 2) (.pointer (some ⟨jb, 0, none⟩)) rfl rfl (by kernel_rfl) (by kernel_rfl) (by kernel_rfl) (fun _ _ _ h => h) (Or.inl ⟨by rfl, fun w hSw => by obtain ⟨q1, q2⟩ := hSw; go_simp⟩) hS ?_
     simp only [Act.put, List.setIfInBounds_toArray, List.set_cons_zero, List.set_cons_succ]
     refine wpAnyH_takeD 9 (some 3) (.bool false) rfl rfl (by kernel_rfl) (by kernel_rfl) (by kernel_rfl) (fun _ _ _ h => h) (Or.inl ⟨by rfl, fun w hSw => by obtain ⟨q1, q2⟩ := hSw; go_simp⟩) hS ?_
     simp only [Act.put, List.setIfInBounds_toArray, List.set_cons_zero, List.set_cons_succ]
     refine wpAnyH_takeD 10 (some 4) (.int .i64 0) rfl rfl (by kernel_rfl) (by kernel_rfl) (by kernel_rfl) (fun _ _ _ h => h) (Or.inl ⟨by rfl, fun w hSw => by obtain ⟨q1, q2⟩ := hSw; go_simp⟩) hS ?_
     simp only [Act.put, List.setIfInBounds_toArray, List.set_cons_zero, List.set_cons_succ]
     refine wpAnyH_done (by kernel_rfl) ?_ _
     clear hS
     have HPO := hide (show OpenPost base b v s x2 (.returned (.tuple #[.pointer (some ⟨jb, 0, none⟩), .bool false, .int .i64 0])) z2 from .inr ⟨unhide HE, n, H, true, hn, unhide HRR, .inr (.inl ⟨rfl, (unhide HM).symm, jb, rfl, by rw [unhide HNX]; exact JNew.make (unhide HP1) (unhide HBZ) (unhide HJL) (unhide HBJ)⟩)⟩)
     clear HBJ HBY HBZ
     go_wp2
     go_ret3
     exact unhide HPO
 ·have hne : (readE s 1 != 0) = true := by simp [he]
  have HPO := hide (show OpenPost base b v s x1 (.returned (.tuple #[.pointer none, .bool false, .int .i64 (readE s 1)])) x1 from .inl ⟨he, rfl, unhide HP0⟩)
  generalize readE s 1 = E at *
  clear he
  go_wp2
  go_ret3
  exact unhide HPO
end Go.Proofs.YtiellebdliifdaaGreatDoor
namespace Go.Proofs.YtiellebdliifdaaGreatDoor
open Go.RowKit
end Go.Proofs.YtiellebdliifdaaGreatDoor
namespace Go.Proofs.YtiellebdliifdaaGreatDoor
open Go.RowKit
structure GoodL (l : List Wr1) : Prop where
 len : l.length ≤ 16
 free : ∀ x ∈ l, 19 ≤ x.1 ∧ x.1 < 128
 nodup : (secs l).Nodup
 size : ∀ x ∈ l, x.2.size = 256
theorem GoodL.nil : GoodL [] := ⟨by simp, fun x hx => (by cases hx), List.nodup_nil, fun x hx => (by cases hx)⟩
theorem GoodL.ref {l : List Wr1} (h : GoodL l) : refE l 128 = 0 := by
 have h1 : l.any (freeP 128) = false := List.any_eq_false.2 (fun x hx => by
  have := h.free x hx
  simp [freeP]
  omega)
 have h2 : l.any longP = false := List.any_eq_false.2 (fun x hx => by
  have := h.size x hx
  simp [longP, this])
 rw [refE, if_neg (by have := h.len; omega), h1, if_neg (by decide), if_neg (fun q => q h.nodup), h2, if_neg (by decide)]
end Go.Proofs.YtiellebdliifdaaGreatDoor
namespace Go.Proofs.YtiellebdliifdaaGreatDoor
open Go.RowKit
theorem numB_snoc (n x : Int) (k : Nat) (h0 : 0 ≤ x) (h1 : x < 256) : numB (256 * n + x) (k + 1) = numB n k ++ [x] := by
 unfold numB
 rw [List.range_succ, List.map_append]
 congr 1
 ·refine List.map_congr_left fun i hi => ?_
  have hik : i < k := List.mem_range.1 hi
  rw [show 8 * (k + 1 - 1 - i) = 8 + 8 * (k - 1 - i) by omega, Int.pow_add, ← Int.ediv_ediv_of_nonneg (by decide)]
  have : (256 * n + x) / 2 ^ 8 = n := by
   have e : (2 : Int) ^ 8 = 256 := by decide
   rw [e]
   omega
  rw [this]
 ·simp
  omega
end Go.Proofs.YtiellebdliifdaaGreatDoor
namespace Go.Proofs.YtiellebdliifdaaGreatDoor
open Go.RowKit
theorem strOfNums_app (a b : List Int) : strOfNums (a ++ b) = strOfNums a ++ strOfNums b := by
 simp only [strOfNums, List.map_append]
 apply ByteArray.ext
 simp
theorem strOfNums_size (l : List Int) : (strOfNums l).size = l.length := by simp [strOfNums, ByteArray.size]
end Go.Proofs.YtiellebdliifdaaGreatDoor
