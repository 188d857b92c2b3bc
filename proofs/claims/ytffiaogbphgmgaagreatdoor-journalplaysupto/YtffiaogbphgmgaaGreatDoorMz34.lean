import Derived.Test.YtffiaogbphgmgaaGreatDoorMz33
import Derived.Test.YtffiaogbphgmgaaGreatDoorMz32
import Derived.Test.YtffiaogbphgmgaaGreatDoorMz05
import Derived.Test.YtffiaogbphgmgaaGreatDoorCards
import Derived.Test.YtffiaogbphgmgaaGreatDoorTie
import Derived.ProofKit
import Derived.OpenShut
import Derived.ShutString
import Derived.SizedLaws
import Derived.Deep.DeepHandedRow
import Derived.LaidLaws
import Derived.LaidHandle
import Derived.Lib.LaidTab
import Derived.Deep.Slices
import Derived.Deep.Strs
import Derived.Lib.SmallJoins
import Derived.Test.YtffiaogbphgmgaaGreatDoorMz02
import Derived.Test.YtffiaogbphgmgaaGreatDoorMz23
import Derived.Deep.SlicePairs
import Derived.Test.YtffiaogbphgmgaaGreatDoorMz20
namespace Go.Proofs.YtffiaogbphgmgaaGreatDoor
open Go.RowKit
set_option maxRecDepth 100000
/-- no text on the disk is longer than a sector -/
def Sz3 (s : DSt) : Prop := (∀ t ∈ s.now, t.size ≤ 256) ∧ (∀ t ∈ s.last, t.size ≤ 256) ∧ ∀ p ∈ s.pend, p.2.size ≤ 256
theorem layP_mem3 (ps : List (Nat × ByteArray)) : ∀ (l : List ByteArray) (t : ByteArray), t ∈ layP l ps → t ∈ l ∨ ∃ p ∈ ps, t = p.2 := by
  induction ps with
  | nil => intro l t h; exact .inl h
  | cons p r ih =>
    intro l t h
    rcases ih (l.set p.1 p.2) t h with q | ⟨p', q, e⟩
    · rcases List.mem_or_eq_of_mem_set q with q | q
      · exact .inl q
      · exact .inr ⟨p, List.mem_cons_self .., q⟩
    · exact .inr ⟨p', List.mem_cons_of_mem _ q, e⟩
theorem Sz3.dies {s : DSt} (h : Sz3 s) : Sz3 (diesS s) := ⟨by rw [diesS_now]; exact h.1, by rw [diesS_last]; exact h.2.1, by rw [diesS_pend]; exact h.2.2⟩
theorem Sz3.write {s : DSt} (h : Sz3 s) (i : Int) (t : ByteArray) : Sz3 (writeS s i t) := by
  unfold writeS
  split
  · split
    · rename_i ht
      split
      · exact h.dies
      · refine ⟨fun u hu => ?_, fun u hu => ?_, fun p hp => ?_⟩
        · rcases List.mem_or_eq_of_mem_set hu with q | q
          · exact h.1 u q
          · rw [q]; omega
        · have hu' : u ∈ (diesS s).last := hu
          rw [diesS_last] at hu'
          exact h.2.1 u hu'
        · rcases List.mem_append.1 hp with q | q
          · exact h.2.2 p q
          · rw [List.mem_singleton.1 q]
            exact Nat.le_of_eq ht
    · exact h
  · exact h
theorem Sz3.flush {s : DSt} (h : Sz3 s) : Sz3 (flushS s) := by
  unfold flushS
  split
  · exact h.dies
  · refine ⟨fun u hu => ?_, fun u hu => ?_, fun p hp => by cases hp⟩
    · have hu' : u ∈ (diesS s).now := hu
      rw [diesS_now] at hu'
      exact h.1 u hu'
    · rcases layP_mem3 _ _ u hu with q | ⟨p, q, e⟩
      · exact h.2.1 u q
      · rw [e]; exact h.2.2 p q
theorem Sz3.lay (l : List Wr1) : ∀ {s : DSt}, Sz3 s → Sz3 (layR s l).2 := by
  induction l with
  | nil => intro s h; rw [layR]; exact h.flush
  | cons p r ih =>
    intro s h
    rw [layR]
    split
    · exact ih (h.write _ _)
    · exact h.write _ _
theorem Sz3.runs (R : List (List Wr1)) : ∀ {s : DSt}, Sz3 s → Sz3 (runsR s R).2 := by
  induction R with
  | nil => intro s h; rw [runsR]; exact h
  | cons r R ih =>
    intro s h
    rw [runsR]
    split
    · exact ih (Sz3.lay _ h)
    · exact Sz3.lay _ h
theorem Sz3.commit {s : DSt} (h : Sz3 s) (nx : Nat) (lost : Bool) (l : List Wr1) : Sz3 (commitR s nx lost l).s := by
  unfold commitR
  split
  · exact h
  · split
    · exact h
    · split
      · exact Sz3.runs _ h
      · exact Sz3.runs _ h
theorem Sz3.arm {s : DSt} (h : Sz3 s) (n : Int) : Sz3 (armS s n) := by
  unfold armS
  split
  · exact h
  · split
    · exact h
    · exact h
theorem Sz3.crash {s : DSt} (h : Sz3 s) (l : List Int) : Sz3 (crashS s l) := by
  have k : ∀ t ∈ layP s.last (keepP s.pend (keptL s.pend.length l)), t.size ≤ 256 := fun t ht => by
    rcases layP_mem3 _ _ t ht with q | ⟨p, q, e⟩
    · exact h.2.1 t q
    · rw [e]; exact h.2.2 p (keepP_mem _ _ p q)
  unfold crashS
  split
  · exact ⟨k, k, fun p hp => by cases hp⟩
  · exact h
theorem Sz3.redo {s : DSt} (h : Sz3 s) (n : Nat) (H : List Int) : Sz3 (redoR s n H).2 := by
  unfold redoR
  split
  · exact Sz3.lay _ (Sz3.lay _ h)
  · exact Sz3.lay _ h
theorem Sz3.or {s s' : DSt} {n : Nat} {H : List Int} {ok : Bool} {er : Int} {ag has : Bool} (hS : Sz3 s) (h : OR s n H ok s' er ag has) : Sz3 s' := by
  rcases h with ⟨_, _, _, _, q⟩ | ⟨_, _, _, _, _, q⟩ | ⟨_, _, _, _, _, _, q⟩ | ⟨_, _, _, _, _, _, _, q⟩ | ⟨_, _, _, _, _, _, _, q⟩
  · rw [q]; exact hS
  · rw [q]; exact hS
  · rw [q]; exact hS
  · rw [q]; exact hS.redo n H
  · rw [q]; exact hS.redo n H
theorem Sz3.read {s : DSt} (h : Sz3 s) (i : Int) : (readT s i).size ≤ 256 := by
  unfold readT
  split
  · split
    · exact Nat.zero_le _
    · rw [List.getD_eq_getElem?_getD]
      by_cases q : i.toNat < s.now.length
      · rw [List.getElem?_eq_getElem q]; exact h.1 _ (List.getElem_mem _)
      · rw [List.getElem?_eq_none (by omega)]; exact Nat.zero_le _
  · exact Nat.zero_le _
/-- all that is kept of a disk from call to call -/
structure Gd (s : DSt) (n p a : Nat) : Prop where
  sane : Sane s
  coh : Coh s
  sz : Sz3 s
  len : s.last.length = n
  pend : s.pend.length ≤ p
  acts : s.acts.length ≤ a
theorem Gd.arm {s : DSt} {n p a : Nat} (h : Gd s n p a) (k : Int) (hk : k ≤ 9223372036854775807) : Gd (armS s k) n p a := by
  refine ⟨h.sane.arm k hk, h.coh.arm k, h.sz.arm k, ?_, ?_, ?_⟩
  · rw [← h.len]; unfold armS; split; rfl; split; rfl; rfl
  · refine Nat.le_trans (Nat.le_of_eq ?_) h.pend; unfold armS; split; rfl; split; rfl; rfl
  · refine Nat.le_trans (Nat.le_of_eq ?_) h.acts; unfold armS; split; rfl; split; rfl; rfl
theorem Gd.commit {s : DSt} {n p a : Nat} (h : Gd s n p a) (nx : Nat) (lost : Bool) (l : List Wr1) : Gd (commitR s nx lost l).s n (p + 40) (a + 40) := by
  obtain ⟨q1, q2⟩ := commit_grow s nx lost l
  have h1 := h.pend
  have h2 := h.acts
  exact ⟨commit_sane s nx lost l h.sane, commit_coh s nx lost l h.coh, h.sz.commit nx lost l, by rw [commit_len]; exact h.len, by omega, by omega⟩
theorem Gd.crash {s : DSt} {n p a : Nat} (h : Gd s n p a) (l : List Int) : Gd (crashS s l) n p a := by
  refine ⟨h.sane.crash l, h.coh.crash l, h.sz.crash l, ?_, ?_, ?_⟩
  · rw [← h.len]; unfold crashS; split; exact layP_len _ _; rfl
  · unfold crashS; split; exact Nat.zero_le _; exact h.pend
  · unfold crashS; split; exact h.acts; exact h.acts
theorem Gd.write {s : DSt} {n p a : Nat} (h : Gd s n p a) (i : Int) (t : ByteArray) : Gd (writeS s i t) n (p + 1) (a + 1) := by
  have q1 := pend_grow s i t
  have q2 := acts_grow s i t
  have h1 := h.pend
  have h2 := h.acts
  exact ⟨h.sane.write i t, h.coh.write i t, h.sz.write i t, by rw [writeS_lastX]; exact h.len, by omega, by omega⟩
theorem Gd.lay {s : DSt} {n p a : Nat} (h : Gd s n p a) (l : List Wr1) : Gd (layR s l).2 n (p + l.length) (a + l.length + 1) := by
  have q1 := layR_pend l s
  have q2 := layR_acts l s
  have h1 := h.pend
  have h2 := h.acts
  exact ⟨layR_sane l s h.sane, layR_coh l s h.coh, Sz3.lay l h.sz, by rw [layR_len]; exact h.len, by omega, by omega⟩
theorem Gd.more {s : DSt} {n p a p' a' : Nat} (h : Gd s n p a) (hp : p ≤ p') (ha : a ≤ a') : Gd s n p' a' := ⟨h.sane, h.coh, h.sz, h.len, Nat.le_trans h.pend hp, Nat.le_trans h.acts ha⟩
theorem Gd.redo {s : DSt} {n p a : Nat} (h : Gd s n p a) (m : Nat) (H : List Int) (hH : H.length ≤ 16) : Gd (redoR s m H).2 n (p + 20) (a + 20) := by
  unfold redoR
  split
  · exact ((h.lay (redoL s H)).lay [(1, headB m [])]).more (by rw [redoL_len]; simp; omega) (by rw [redoL_len]; simp; omega)
  · exact (h.lay (redoL s H)).more (by rw [redoL_len]; omega) (by rw [redoL_len]; omega)
theorem Gd.or {s s' : DSt} {n p a m : Nat} {H : List Int} {ok : Bool} {er : Int} {ag has : Bool} (hS : Gd s n p a) (h : OR s m H ok s' er ag has) (hH : ok = true → H.length ≤ 16) : Gd s' n (p + 20) (a + 20) := by
  rcases h with ⟨_, _, _, _, q⟩ | ⟨_, _, _, _, _, q⟩ | ⟨_, _, _, _, _, _, q⟩ | ⟨_, k, _, _, _, _, _, q⟩ | ⟨_, k, _, _, _, _, _, q⟩
  · rw [q]; exact hS.more (by omega) (by omega)
  · rw [q]; exact hS.more (by omega) (by omega)
  · rw [q]; exact hS.more (by omega) (by omega)
  · rw [q]; exact hS.redo m H (hH k)
  · rw [q]; exact hS.redo m H (hH k)
end Go.Proofs.YtffiaogbphgmgaaGreatDoor

namespace Go.Proofs.YtffiaogbphgmgaaGreatDoor
open Go.RowKit
set_option maxRecDepth 100000
theorem Gd.flush {s : DSt} {n p a : Nat} (h : Gd s n p a) : Gd (flushS s) n p (a + 1) := by
  have q1 := flushS_pend s
  have q2 := flushS_acts s
  have h1 := h.pend
  have h2 := h.acts
  exact ⟨h.sane.flush, h.coh.flush, h.sz.flush, by rw [flushS_len]; exact h.len, by omega, by omega⟩
/-- what a step leaves: some state of the disks that is as good -/
def StG (w0 : World) (xb : Nat) (n p a : Nat) (Z : Nat → Prop) (w : World) (e : Ending) (w' : World) : Prop :=
  (∃ s', (e = .returned (.bool true) ∧ Gd s' n (p + 40) (a + 40)) ∧ Se w0 w' xb s' Z) ∧ Only (fun k => ¬ Z k) w w'
theorem StG.disks {w0 w w' : World} {xb b br : Nat} {s s' : DSt} {p1 p2 p3 p4 : Option Addr} {Z : Nat → Prop} {n p a : Nat} {e : Ending} (h : Sj w0 w xb b br s p1 p2 p3 p4 Z) (he : e = .returned (.bool true)) (hs : Sd w0 w' xb b br s' s' #[.pointer (some ⟨b, 0, none⟩), .pointer (some ⟨br, 0, none⟩), .pointer p1, .pointer p2, .pointer p3, .pointer p4] (fun k => Z k ∨ Js p1 p2 p3 p4 k)) (ho : Only (fun k => ¬ (Z k ∨ Js p1 p2 p3 p4 k)) w w') (hG : Gd s' n (p + 40) (a + 40)) : StG w0 xb n p a Z w e w' :=
  ⟨⟨s', ⟨he, hG⟩, b, br, p1, p2, p3, p4, h.disks hs ho⟩, ho.mono (fun _ _ q r => q (.inl r))⟩
/-- the fields of a step that are lists, as they lie in the caller's memory -/
structure OpL (w0 : World) (l1 l2 l3 : Option Addr) (wl : List Wr1) (kl tl : List Int) : Prop where
  w : ∀ W, Below w0.heap.size w0 W → Wls W l1 wl
  wz : ∀ g o, l1 = some ⟨g, o, none⟩ → 0 < wl.length → g < w0.heap.size
  k : ∀ W, Below w0.heap.size w0 W → Ints W l2 kl
  k0 : ∀ g o, l2 = some ⟨g, o, none⟩ → 0 < kl.length → g < w0.heap.size
  t : ∀ W, Below w0.heap.size w0 W → Ints W l3 tl
  wn : wl.length ≤ 7000000
  kn : kl.length ≤ 9223372036854775807
  tB : ∀ z ∈ tl, I64 z
set_option maxHeartbeats 4000000 in
/-- step, of any kind -/
theorem step_any {w0 w : World} {xb : Nat} {s : DSt} {Z : Nat → Prop} (h : Se w0 w xb s Z) (hg : ETy w0) {n p a : Nat} (hG : Gd s n p a) (hp : p ≤ 30000000) (ha : a ≤ 30000000) (hn : 18 ≤ n) (kd on i : Int) (hi : I64 i) (x : ByteArray) (hx : x.size ≤ 140737488355328) (l1 l2 l3 : Option Addr) (m1 m2 m3 : Nat) (wl : List Wr1) (kl tl : List Int) (hL : OpL w0 l1 l2 l3 wl kl tl) :
    Calls Tryz.prog 8 #[.pointer (some ⟨xb, 0, none⟩), .agg #[.int .i64 kd, .int .i64 on, .int .i64 i, .string x, .slice l1 wl.length m1, .slice l2 kl.length m2, .slice l3 tl.length m3]] w (StG w0 xb n p a Z w) := by
  obtain ⟨b, br, p1, p2, p3, p4, h⟩ := h
  have hpp := hG.pend
  have haa := hG.acts
  by_cases hk : 1 ≤ kd ∧ kd ≤ 10
  · have hc : kd = 1 ∨ kd = 2 ∨ kd = 3 ∨ kd = 4 ∨ kd = 5 ∨ kd = 6 ∨ kd = 7 ∨ kd = 8 ∨ kd = 9 ∨ kd = 10 := by omega
    rcases hc with rfl | rfl | rfl | rfl | rfl | rfl | rfl | rfl | rfl | rfl
    · refine (stepWr h.sd hG.sane hG.coh (by omega) (by omega) on i x hx _ _ _).mono ?_
      rintro e w' ⟨q1, q2, q3⟩
      exact StG.disks h q1 q2 q3 ((hG.write i _).more (by omega) (by omega))
    · refine (stepFl h.sd hG.sane hG.coh (by omega) (by omega) on i x _ _ _ _ _ _ _ _ _).mono ?_
      rintro e w' ⟨q1, q2, q3⟩
      exact StG.disks h q1 q2 q3 (hG.flush.more (by omega) (by omega))
    · refine (stepAr h.sd hG.sane hG.coh (by omega) (by omega) on i x _ _ _ _ _ _ _ _ _).mono ?_
      rintro e w' ⟨q1, q2, q3⟩
      exact StG.disks h q1 q2 q3 ((hG.arm i hi.2).more (by omega) (by omega))
    · refine (stepCr h.sd hG.sane hG.coh (by omega) (by omega) on i x _ _ _ _ _ _ _ _ _ kl rfl hL.k hL.kn hL.k0).mono ?_
      rintro e w' ⟨q1, q2, q3⟩
      exact StG.disks h q1 q2 q3 ((hG.crash kl).more (by omega) (by omega))
    · refine (stepFm h.sd hG.sane hG.coh (by omega) (by omega) on i x _ _ _ _ _ _ _ _ _).mono ?_
      rintro e w' ⟨q1, q2, q3⟩
      exact StG.disks h q1 q2 q3 ((hG.lay [(1, headB 0 [])]).more (by simp) (by simp))
    · obtain ⟨nz, H, okh, hRH⟩ := RHP.ex (readT s 1) (s.last.length : Int)
      obtain ⟨r1, r2, r3⟩ := hRH.num
      obtain ⟨nh, rfl⟩ := Int.eq_ofNat_of_zero_le r1
      obtain ⟨s3, er, ag, has, hOR⟩ := OR.ex s nh H okh
      refine (stepOp h (hg.below h.sd.bel hg.lt) hG.sane hG.coh (by have := hG.sz.read 1; omega) (by omega) (by omega) (by rw [hG.len]; exact hn) hRH (by omega) hOR on i x _ _ _ _ _ _ _ _ _ hi).mono ?_
      rintro e w' ⟨q1, ⟨t1, t2, t3, t4, q2⟩, q3⟩
      exact ⟨⟨s3, ⟨q1, (hG.or hOR r3).more (by omega) (by omega)⟩, b, br, t1, t2, t3, t4, q2⟩, q3⟩
    · refine (stepCm h hG.sane hG.coh (by omega) (by omega) on i x _ _ _ _ _ _ _ _ _ hi wl rfl hL.w hL.wz hL.wn).mono ?_
      rintro e w' ⟨q1, ⟨s', q2, t1, t2, t3, t4, q3⟩, q4⟩
      refine ⟨⟨s', ⟨q1, ?_⟩, b, br, t1, t2, t3, t4, q3⟩, q4⟩
      rcases q2 with q | ⟨nx, lost, _, q⟩
      · rw [q]; exact hG.more (by omega) (by omega)
      · rw [q]; exact hG.commit nx lost wl
    · refine (stepNx h on i x _ _ _ _ _ _ _ _ _ hi).mono ?_
      rintro e w' ⟨q1, q2⟩
      exact ⟨⟨s, ⟨q1, hG.more (by omega) (by omega)⟩, b, br, p1, p2, p3, p4, h.below q2⟩, Only.of_below q2⟩
    · refine (stepHd h.sd hG.sane hG.coh (by omega) (by omega) on i x _ _ _ _ _ _ _ _ _ hi tl rfl hL.t hL.tB).mono ?_
      rintro e w' ⟨q1, t, q2, q3⟩
      exact StG.disks h q1 q2 q3 ((hG.write 1 t).flush.more (by omega) (by omega))
    · refine (stepCl h.sd hG.sane hG.coh (by omega) (by omega) on i x _ _ _ _ _ _ _ _ _ hi).mono ?_
      rintro e w' ⟨q1, t, q2, q3⟩
      exact StG.disks h q1 q2 q3 ((hG.write 1 t).flush.more (by omega) (by omega))
  · refine (stepNo xb kd hk on i x _ _ _).mono ?_
    rintro e w' ⟨q1, q2⟩
    exact ⟨⟨s, ⟨q1, hG.more (by omega) (by omega)⟩, b, br, p1, p2, p3, p4, h.below q2⟩, Only.of_below q2⟩
/-- alike -/
theorem alike_se {w0 w : World} {xb : Nat} {s : DSt} {Z : Nat → Prop} (h : Se w0 w xb s Z) {n p a : Nat} (hG : Gd s n p a) (ha : a ≤ 40000000) :
    Calls Tryz.prog 9 #[.pointer (some ⟨xb, 0, none⟩)] w fun e w' => e = .returned (.bool true) ∧ Below w.heap.size w w' := by
  obtain ⟨b, br, p1, p2, p3, p4, h⟩ := h
  obtain ⟨v, vr, h1, h2, h3, h4, h5, h6, h7, h8⟩ := h.sd
  have haa := hG.acts
  exact alike_any h1 h2 h5 (by omega) hG.sane.acts hG.sane.pos hG.sane.cap
/-- the same, where there are two sides -/
theorem Two.below {w0 w w' : World} {xa xb : Nat} {s t : DSt} {F : Nat → Prop} (h : Two w0 w xa xb s t F) (hF : ∀ k, F k → k < w.heap.size) (hb : Below w.heap.size w w') : Two w0 w' xa xb s t F := by
  obtain ⟨Z, ⟨b, br, p1, p2, p3, p4, h1⟩, ⟨c, cr, q1, q2, q3, q4, h2⟩⟩ := h
  have hs := hb.size
  refine ⟨fun k => k < w.heap.size ∧ Z k, ⟨b, br, p1, p2, p3, p4, ?_⟩, ⟨c, cr, q1, q2, q3, q4, ?_⟩⟩
  · exact h1.grow (Only.of_below (P := fun _ => False) hb) (h1.below hb).sd.bel (fun _ _ q => q.elim) (fun k q => .inl (by rcases q.2 with r | r; exact ⟨r.1, .inl r.2⟩; exact ⟨hF k r, .inr r⟩))
  · exact h2.grow (Only.of_below (P := fun _ => False) hb) (h2.below hb).sd.bel (fun _ _ q => q.elim) (fun k q => by
      by_cases hk : k < w.heap.size
      · exact .inl ⟨hk, q.2.imp_left (fun r z => r ⟨hk, z⟩)⟩
      · exact .inr ⟨by omega, q.1⟩)
end Go.Proofs.YtffiaogbphgmgaaGreatDoor

namespace Go.Proofs.YtffiaogbphgmgaaGreatDoor
open Go.RowKit
set_option maxRecDepth 100000
/-- a step of the first of two sides -/
theorem Two.step {w0 w : World} {xa xb : Nat} {s t : DSt} {F : Nat → Prop} (h : Two w0 w xa xb s t F) (hF : ∀ k, F k → k < w.heap.size) (hg : ETy w0) {n p a : Nat} (hG : Gd s n p a) (hp : p ≤ 30000000) (ha : a ≤ 30000000) (hn : 18 ≤ n) (kd on i : Int) (hi : I64 i) (x : ByteArray) (hx : x.size ≤ 140737488355328) (l1 l2 l3 : Option Addr) (m1 m2 m3 : Nat) (wl : List Wr1) (kl tl : List Int) (hL : OpL w0 l1 l2 l3 wl kl tl) :
    Calls Tryz.prog 8 #[.pointer (some ⟨xa, 0, none⟩), .agg #[.int .i64 kd, .int .i64 on, .int .i64 i, .string x, .slice l1 wl.length m1, .slice l2 kl.length m2, .slice l3 tl.length m3]] w fun e w' => (∃ s', (e = .returned (.bool true) ∧ Gd s' n (p + 40) (a + 40)) ∧ Two w0 w' xa xb s' t F) ∧ Only (fun k => ¬ F k) w w' :=
  h.left hF (R := fun e s' => e = .returned (.bool true) ∧ Gd s' n (p + 40) (a + 40)) (fun _ hZ => step_any hZ hg hG hp ha hn kd on i hi x hx l1 l2 l3 m1 m2 m3 wl kl tl hL)
/-- alike, of the first of two sides -/
theorem Two.alike {w0 w : World} {xa xb : Nat} {s t : DSt} {F : Nat → Prop} (h : Two w0 w xa xb s t F) (hF : ∀ k, F k → k < w.heap.size) {n p a : Nat} (hG : Gd s n p a) (ha : a ≤ 40000000) :
    Calls Tryz.prog 9 #[.pointer (some ⟨xa, 0, none⟩)] w fun e w' => e = .returned (.bool true) ∧ Two w0 w' xa xb s t F ∧ Below w.heap.size w w' := by
  obtain ⟨Z, h1, -⟩ := id h
  refine (alike_se h1 hG ha).mono ?_
  rintro e w' ⟨q1, q2⟩
  exact ⟨q1, h.below hF q2, q2⟩
/-- a side without journals -/
theorem Se.bare {w0 w : World} {xb b br : Nat} {s : DSt} {Z : Nat → Prop} (h : Sd w0 w xb b br s s #[.pointer (some ⟨b, 0, none⟩), .pointer (some ⟨br, 0, none⟩), .pointer none, .pointer none, .pointer none, .pointer none] Z) : Se w0 w xb s Z := by
  have hn : ∀ k, ¬ Js none none none none k := fun k q => by rcases q with q | q | q | q <;> cases q
  exact ⟨b, br, none, none, none, none, h.more (Below.refl _ _) (fun k q => .inl (q.resolve_right (hn k))), .inl ⟨rfl, rfl⟩, .inl ⟨rfl, rfl⟩, (fun k q => by cases q), (fun k q => by cases q), fun k _ => hn k, fun k q => (hn k q).elim⟩
/-- A side that was made behind w1: all that lay there before is none of it. -/
theorem Sd.base {w0 w1 w : World} {xb b br : Nat} {s t : DSt} {cs : Array Value} {X : Nat → Prop} (h : Sd w1 w xb b br s t cs X) (hb : Below w0.heap.size w0 w1) : Sd w0 w xb b br s t cs (fun k => X k ∨ k < w1.heap.size) := by
  obtain ⟨v, vr, h1, h2, h3, h4, h5, h6, h7, h8⟩ := h
  have hs := hb.size
  have hs7 := h7.size
  refine ⟨v, vr, h1.lower hs, h2.lower hs, h3, h4, h5, by omega, hb.trans (h7.mono hs), fun k q => ?_⟩
  rcases q with q | q
  · exact h8 k q
  · exact ⟨fun r => by have := (h1.fd k r).1; omega, fun r => by have := (h2.frB k r).1; omega, by omega, by omega⟩
/-- Two sides: the first was made before the world w1, the second behind it; F is neither's. -/
theorem Two.init {w0 w1 w : World} {xa xb ba ra bb rb : Nat} {s t : DSt} {F : Nat → Prop} (h1 : Sd w0 w xa ba ra s s #[.pointer (some ⟨ba, 0, none⟩), .pointer (some ⟨ra, 0, none⟩), .pointer none, .pointer none, .pointer none, .pointer none] (fun k => k < w.heap.size ∧ (w1.heap.size ≤ k ∨ F k))) (h2 : Sd w0 w xb bb rb t t #[.pointer (some ⟨bb, 0, none⟩), .pointer (some ⟨rb, 0, none⟩), .pointer none, .pointer none, .pointer none, .pointer none] (fun k => k < w.heap.size ∧ (¬ w1.heap.size ≤ k ∨ F k))) : Two w0 w xa xb s t F :=
  ⟨fun k => w1.heap.size ≤ k, Se.bare h1, Se.bare h2⟩
end Go.Proofs.YtffiaogbphgmgaaGreatDoor

namespace Go.Proofs.YtffiaogbphgmgaaGreatDoor
open Go.ChangeShapes Go.WideShapes Go.ChangeAt Go.RowKit
theorem own : ownKnob Tryz.prog.godebug = none := by kernel_rfl
theorem laidOut : laidOutB Tryz.prog = true := by kernel_rfl
theorem gEt : Tryz.prog.globalNamed "errors.errorType" = some 1 := by kernel_rfl
theorem gRt : (Tryz.prog.cutTypes.find? (·.1 == "internal/reflectlite.rtype")).map (·.2) = some 212 := by kernel_rfl
theorem gOne : ((List.range 250).filter fun t => Tryz.prog.rowNamed t [101, 114, 114, 111, 114]) = [112] := by kernel_rfl
theorem gSize : Tryz.prog.types.size = 250 := by kernel_rfl
def laidL : List (String × DataW Unit) := [("errors.errorType", Rows.laid_errors_errorType)]
theorem wf_I64 {z : Int} (h : (Lit.int .i64 z).wf = true) : I64 z := by
  simpa [I64, Lit.wf, IntKind.min, IntKind.max, IntKind.signed, IntKind.bits] using h
/-- What the row's list gives. -/
theorem ety_of {W : World} (h : laidMetH Tryz.prog laidL W) : ETy W := by
  have h' : laidMet Tryz.prog [] W ∧ handlesMet Tryz.prog laidL W := h
  obtain ⟨name, u, ty, e1, e2, e3, e4, e5⟩ := h'.2 _ (List.mem_singleton.2 rfl)
  have en : name = [101, 114, 114, 111, 114] := (Option.some.inj e1).symm
  subst en
  obtain rfl := Option.some.inj (gRt.symm.trans e2)
  have hm : ty ∈ (List.range 250).filter fun t => Tryz.prog.rowNamed t [101, 114, 114, 111, 114] := List.mem_filter.2 ⟨List.mem_range.2 (by rw [← gSize]; exact e3), e4⟩
  rw [gOne] at hm
  obtain rfl := List.mem_singleton.1 hm
  have hh : typeHandle Tryz.prog 112 = .pointer (some ⟨2, 112, none⟩) := by kernel_rfl
  rw [hh] at e5
  have := World.var?_cell gEt e5 0
  unfold ETy
  simpa using this
/-- A world for the witness: the settled one, the variable's cell laid. -/
noncomputable def laidWorld (os : Os) : World :=
  let w0 := World.holding Tryz.prog os ⟨#[], #[], []⟩
  { w0 with heap := w0.heap.modify 1 fun
      | .cells _ t frozen => .cells #[.iface 212 (.agg #[.pointer (some ⟨2, 112, none⟩)])] t frozen
      | o => o }
end Go.Proofs.YtffiaogbphgmgaaGreatDoor

namespace Go.Proofs.YtffiaogbphgmgaaGreatDoor
open Go.ChangeShapes Go.WideShapes Go.ChangeAt Go.RowKit
set_option maxRecDepth 100000 in
/-- An argument []int. -/
theorem open_il {H : Type} {enc : TypeId × Value → H} {w : World} {base : Nat} {spare : Nat → Bool} {held : Bool} {fuel : Nat} {a : Option Addr} {len cap : Nat} {x : DataW H × List MemPlace} (h : DataW.trod enc Tryz.prog w base spare held fuel 39 [.slice a len cap] = some x) :
    ∃ l : List Int, len = l.length ∧ Ints w a l ∧ (∀ i, I64 (l.getD i 0)) ∧ len ≤ 9223372036854775807 := by
  have hML : (maxLen : Nat) = 9223372036854775807 := rfl
  rcases open_ints Tryz.underlying39 Tryz.underlying3 (by kernel_rfl) h with ⟨hcs, _⟩ | ⟨ad, l, c, zs, hcs, _, hl, hm, hz, hd, hcell, hwz⟩
  · simp at hcs
    obtain ⟨rfl, rfl, rfl⟩ := hcs
    exact ⟨[], rfl, fun j hj => (by cases hj), fun i => by simp [I64], by omega⟩
  · simp at hcs
    obtain ⟨rfl, rfl, rfl⟩ := hcs
    have hzl : len ≤ zs.length := by rw [hz]; split <;> omega
    have hlen : (zs.take len).length = len := by simp; omega
    refine ⟨zs.take len, hlen.symm, fun j hj => ?_, fun i => ?_, by omega⟩
    · rw [hlen] at hj
      have hc := hcell j (by omega)
      have hc0 := hcell 0 (by omega)
      obtain ⟨b, off, spot⟩ := ad
      have hspot : spot = none := by simpa [Addr.add] using World.cell?_spot hc0
      subst hspot
      rw [Addr.add_mid] at hc
      refine ⟨b, off, rfl, World.block_lt_of_cell? w _ hc, hc.trans ?_⟩
      simp [hj]
    · by_cases hi : i < (zs.take len).length
      · rw [List.getD_eq_getElem?_getD, List.getElem?_eq_getElem hi]
        exact wf_I64 (hwz _ (List.mem_of_mem_take (List.getElem_mem hi)))
      · rw [List.getD_eq_getElem?_getD, List.getElem?_eq_none (by omega)]
        simp [I64]
end Go.Proofs.YtffiaogbphgmgaaGreatDoor

namespace Go.Proofs.YtffiaogbphgmgaaGreatDoor
open Go.RowKit
set_option maxRecDepth 100000
theorem bulk_pos5 {H : Type} (d : DataW H) : 1 ≤ Rows.uptoBulk d := by
  cases d with
  | lit l => cases l <;> simp [Rows.uptoBulk]
  | _ => simp [Rows.uptoBulk]
theorem bulk_len5 {H : Type} : ∀ l : List (DataW H), l.length ≤ Rows.uptoBulkAll l
  | [] => Nat.zero_le _
  | d :: l => by
    have h1 := bulk_len5 l
    have h2 := bulk_pos5 d
    simp only [Rows.uptoBulkAll, List.length_cons]
    omega
/-- A list of writes that came in, with its bulk. -/
theorem open_wl5 {H : Type} {enc : TypeId × Value → H} {w : World} {base : Nat} {spare : Nat → Bool} {held : Bool} {fuel : Nat} {a : Option Addr} {len cap : Nat} {x : DataW H × List MemPlace} (h : DataW.trod enc Tryz.prog w base spare held fuel 38 [.slice a len cap] = some x) :
    ∃ raw : List Wr1, len = raw.length ∧ Wls w a raw ∧ len ≤ Rows.uptoBulk x.1 := by
  rcases Deep.open_slice_pairs Tryz.underlying38 Tryz.underlying49 (by kernel_rfl) rfl rfl (by kernel_rfl) (by kernel_rfl) h with ⟨hcs, _⟩ | ⟨ad, ln, cp, m, n, V0, V1, D0, D1, P0, P1, hcs, _, hl, hm, hmm, rfl, hx⟩
  · simp at hcs
    obtain ⟨rfl, rfl, rfl⟩ := hcs
    exact ⟨[], rfl, Wls.nil _ _, by omega⟩
  · simp at hcs
    obtain ⟨rfl, rfl, rfl⟩ := hcs
    have hlm : len ≤ m := by rw [hmm]; split <;> omega
    have each : ∀ i, i < len → ∃ q : Wr1, w.cell? (ad.add (i * 2)) = some (.int .i64 q.1) ∧ w.cell? (ad.add (i * 2 + 1)) = some (.string q.2) := by
      intro i hi
      obtain ⟨c0, c1, g0, g1⟩ := hx i (by omega)
      obtain ⟨z0, e0, -, -⟩ := DataW.trod_int Tryz.underlying3 g0
      obtain ⟨z1, e1, -, -⟩ := DataW.trod_string Tryz.underlying9 g1
      simp at e0 e1
      rw [e0] at c0
      rw [e1] at c1
      exact ⟨(z0, z1), c0, c1⟩
    obtain ⟨q, hq⟩ := Deep.choose_lt each
    refine ⟨(List.range len).map q, by simp, ?_, ?_⟩
    · intro j hj
      have hj' : j < len := by simpa using hj
      obtain ⟨q0, q1⟩ := hq j hj'
      obtain ⟨b, off, spot⟩ := ad
      have hspot : spot = none := by simpa [Addr.add] using World.cell?_spot (hq 0 (by omega)).1
      subst hspot
      rw [Addr.add_mid] at q0 q1
      have eg : ((List.range len).map q).getD j wr0 = q j := by simp [List.getD, List.getElem?_map, List.getElem?_range hj']
      rw [eg]
      exact ⟨b, off, rfl, World.block_lt_of_cell? w _ q0, q0, by simpa [Nat.add_assoc] using q1⟩
    · simp only [Rows.uptoBulk]
      refine Nat.le_trans (Nat.le_trans (Nat.le_of_eq ?_) (bulk_len5 _)) (Nat.le_trans (Nat.le_add_right _ _) (Nat.le_add_right _ _))
      simp
/-- A step of a script, as it lies in memory. -/
structure Opj where
  kd : Int
  on : Int
  i : Int
  s : ByteArray
  l1 : Option Addr
  l2 : Option Addr
  l3 : Option Addr
  m1 : Nat
  m2 : Nat
  m3 : Nat
  wl : List Wr1
  kl : List Int
  tl : List Int
def Opj.cl (x : Opj) : List Value := [.int .i64 x.kd, .int .i64 x.on, .int .i64 x.i, .string x.s, .slice x.l1 x.wl.length x.m1, .slice x.l2 x.kl.length x.m2, .slice x.l3 x.tl.length x.m3]
structure Opj.ok (x : Opj) (w : World) (n : Nat) : Prop where
  kd : I64 x.kd
  on : I64 x.on
  i : I64 x.i
  s : x.s.size ≤ n
  wr : Wls w x.l1 x.wl
  wn : x.wl.length ≤ n
  k : Ints w x.l2 x.kl
  kn : x.kl.length ≤ 9223372036854775807
  t : Ints w x.l3 x.tl
  tB : ∀ j, I64 (x.tl.getD j 0)
  n8 : 8 ≤ n
theorem list7 {α : Type} {l : List α} (h : l.length = 7) : ∃ c0 c1 c2 c3 c4 c5 c6, l = [c0, c1, c2, c3, c4, c5, c6] := by
  match l, h with
  | [c0, c1, c2, c3, c4, c5, c6], _ => exact ⟨c0, c1, c2, c3, c4, c5, c6, rfl⟩
theorem cells5a : Tryz.prog.cellsOf 3 = 1 := by kernel_rfl
theorem cells5b : Tryz.prog.cellsOf 9 = 1 := by kernel_rfl
theorem cells5c : Tryz.prog.cellsOf 38 = 1 := by kernel_rfl
theorem cells5d : Tryz.prog.cellsOf 39 = 1 := by kernel_rfl
theorem open_op5 {H : Type} {enc : TypeId × Value → H} {w : World} {base : Nat} {spare : Nat → Bool} {held : Bool} {fuel : Nat} {cs : List Value} {x : DataW H × List MemPlace} (hl : cs.length = 7) (h : DataW.trod enc Tryz.prog w base spare held fuel 41 cs = some x) : ∃ q : Opj, cs = q.cl ∧ q.ok w (Rows.uptoBulk x.1) := by
  obtain ⟨c0, c1, c2, c3, c4, c5, c6, rfl⟩ := list7 hl
  obtain ⟨xs, n, _, hx, hl, hlen, hfs⟩ := DataW.trod_struct Tryz.underlying41 h
  obtain ⟨y0, y1, y2, y3, y4, y5, y6, rfl⟩ := list7 (show xs.length = 7 from hlen)
  have g0 := hfs 0 _ rfl
  have g1 := hfs 1 _ rfl
  have g2 := hfs 2 _ rfl
  have g3 := hfs 3 _ rfl
  have g4 := hfs 4 _ rfl
  have g5 := hfs 5 _ rfl
  have g6 := hfs 6 _ rfl
  simp [cells5a, cells5b, cells5c, cells5d] at g0 g1 g2 g3 g4 g5 g6
  obtain ⟨k0, e0, _, f0⟩ := DataW.trod_int Tryz.underlying3 g0
  obtain ⟨k1, e1, _, f1⟩ := DataW.trod_int Tryz.underlying3 g1
  obtain ⟨k2, e2, _, f2⟩ := DataW.trod_int Tryz.underlying3 g2
  obtain ⟨k3, e3, d3, _⟩ := DataW.trod_string Tryz.underlying9 g3
  obtain ⟨a4, n4, m4, e4⟩ := Go.Joins.slice_form Tryz.underlying38 g4
  obtain ⟨a5, n5, m5, e5⟩ := Go.Joins.slice_form Tryz.underlying39 g5
  obtain ⟨a6, n6, m6, e6⟩ := Go.Joins.slice_form Tryz.underlying39 g6
  simp at e0 e1 e2 e3 e4 e5 e6
  subst e0 e1 e2 e3 e4 e5 e6
  obtain ⟨wl, rfl, hw, hwn⟩ := open_wl5 g4
  obtain ⟨kl, rfl, hk, _, hkn⟩ := open_il g5
  obtain ⟨tl, rfl, ht, htB, _⟩ := open_il g6
  have b0 := bulk_pos5 y0.1
  have b1 := bulk_pos5 y1.1
  have b2 := bulk_pos5 y2.1
  have b3 := bulk_pos5 y3.1
  have b4 := bulk_pos5 y4.1
  have b5 := bulk_pos5 y5.1
  have b6 := bulk_pos5 y6.1
  have hs : k3.size + 1 = Rows.uptoBulk y3.1 := by
    rw [d3]
    rfl
  have hN : Rows.uptoBulk x.1 = Rows.uptoBulk y0.1 + (Rows.uptoBulk y1.1 + (Rows.uptoBulk y2.1 + (Rows.uptoBulk y3.1 + (Rows.uptoBulk y4.1 + (Rows.uptoBulk y5.1 + (Rows.uptoBulk y6.1 + 0)))))) + 1 := by
    rw [hx]
    rfl
  exact ⟨⟨k0, k1, k2, k3, a4, a5, a6, m4, m5, m6, wl, kl, tl⟩, rfl, wf_I64 f0, wf_I64 f1, wf_I64 f2, by show k3.size ≤ _; omega, hw, by show wl.length ≤ _; omega, hk, hkn, ht, htB, by omega⟩
theorem Opj.ok.mono {x : Opj} {w : World} {n m : Nat} (h : x.ok w n) (hm : n ≤ m) : x.ok w m :=
  ⟨h.kd, h.on, h.i, Nat.le_trans h.s hm, h.wr, Nat.le_trans h.wn hm, h.k, h.kn, h.t, h.tB, Nat.le_trans h.n8 hm⟩
theorem bulk_app5 {H : Type} : ∀ (l m : List (DataW H)), Rows.uptoBulkAll (l ++ m) = Rows.uptoBulkAll l + Rows.uptoBulkAll m
  | [], m => by simp [Rows.uptoBulkAll]
  | d :: l, m => by simp only [List.cons_append, Rows.uptoBulkAll, bulk_app5 l m]; omega
theorem bulk_all5 {H : Type} (D : Nat → DataW H) : ∀ n, (∀ i, i < n → 8 ≤ Rows.uptoBulk (D i)) → 8 * n ≤ Rows.uptoBulkAll ((List.range n).map D)
  | 0, _ => Nat.zero_le _
  | n + 1, h => by
    have h1 := bulk_all5 D n (fun i hi => h i (by omega))
    have h2 := h n (by omega)
    rw [List.range_succ, List.map_append, bulk_app5]
    simp only [List.map_cons, List.map_nil, Rows.uptoBulkAll]
    omega
theorem bulk_each5 {H : Type} (D : Nat → DataW H) : ∀ n i, i < n → Rows.uptoBulk (D i) ≤ Rows.uptoBulkAll ((List.range n).map D)
  | n + 1, i, h => by
    rw [List.range_succ, List.map_append, bulk_app5]
    simp only [List.map_cons, List.map_nil, Rows.uptoBulkAll]
    by_cases hi : i < n
    · have := bulk_each5 D n i hi; omega
    · obtain rfl : i = n := by omega
      omega
/-- A script in memory: so many steps, none of more bulk than N. -/
def OpJ (w : World) (p : Option Addr) (n N : Nat) (f : Nat → Opj) : Prop := ∀ i, i < n → ∃ g o, p = some ⟨g, o, none⟩ ∧ g < w.heap.size ∧ w.rangeAt g (o + i * 7) (f i).cl ∧ (f i).ok w N
def opj0 : Opj := ⟨0, 0, 0, ⟨#[]⟩, none, none, none, 0, 0, 0, [], [], []⟩
instance : Inhabited Opj := ⟨opj0⟩
/-- A script that came in: T is the type []Op, which not every seat has. -/
theorem open_ops5 {H : Type} {enc : TypeId × Value → H} {w : World} {base : Nat} {spare : Nat → Bool} {held : Bool} {fuel : Nat} {a : Option Addr} {len cap : Nat} {x : DataW H × List MemPlace} {T : TypeId} (hT : Tryz.prog.underlying T = some (.slice 41)) (h : DataW.trod enc Tryz.prog w base spare held fuel T [.slice a len cap] = some x) :
    ∃ f : Nat → Opj, OpJ w a len (Rows.uptoBulk x.1) f ∧ 8 * len ≤ Rows.uptoBulk x.1 := by
  rcases Deep.open_slice hT h with ⟨hcs, _⟩ | ⟨ad, ln, cp, m, n, D, Pl, hcs, hb, hl, hm, hmm, rfl, hx⟩
  · simp at hcs
    obtain ⟨rfl, rfl, rfl⟩ := hcs
    exact ⟨fun _ => opj0, fun i hi => absurd hi (Nat.not_lt_zero i), by omega⟩
  · simp at hcs
    obtain ⟨rfl, rfl, rfl⟩ := hcs
    have hlm : len ≤ m := by rw [hmm]; split <;> omega
    have each : ∀ i, i < len → ∃ q : Opj, q.ok w (Rows.uptoBulk (D i)) ∧ ∀ j v, q.cl[j]? = some v → w.cell? (ad.add (i * 7 + j)) = some v := by
      intro i hi
      obtain ⟨cs', h1, h2⟩ := hx i (by omega)
      rw [show Tryz.prog.cellsOf 41 = 7 by kernel_rfl] at h1
      obtain ⟨_, hlen, hcell⟩ := World.cells?_some h1
      obtain ⟨q, rfl, hok⟩ := open_op5 hlen h2
      refine ⟨q, hok, fun j v hv => ?_⟩
      have hj : j < 7 := by
        rcases Nat.lt_or_ge j 7 with h | h
        · exact h
        · rw [List.getElem?_eq_none (by omega)] at hv
          cases hv
      have c0 := hcell j hj
      rw [Deep.add_add, hv] at c0
      exact c0
    obtain ⟨q, hq⟩ := Deep.choose_lt each
    have hN := bulk_all5 D len (fun i hi => (hq i hi).1.n8)
    refine ⟨q, fun i hi => ?_, by simp only [Rows.uptoBulk]; omega⟩
    obtain ⟨hok, hc⟩ := hq i hi
    obtain ⟨b, off, spot⟩ := ad
    have z0 := (hq 0 (by omega)).2 0 _ rfl
    have hspot : spot = none := by simpa [Addr.add] using World.cell?_spot z0
    subst hspot
    have z1 := hc 0 _ rfl
    rw [Addr.add_mid] at z1
    have hE := bulk_each5 D len i hi
    refine ⟨b, off, rfl, World.block_lt_of_cell? w _ z1, fun j v hv => ?_, hok.mono (by simp only [Rows.uptoBulk]; omega)⟩
    have z2 := hc j v hv
    rw [Addr.add_mid] at z2
    simpa [Nat.add_assoc] using z2
end Go.Proofs.YtffiaogbphgmgaaGreatDoor

namespace Go.Proofs.YtffiaogbphgmgaaGreatDoor
open Go.RowKit
/-- the lists of a step that came in -/
theorem Opj.ok.op {x : Opj} {w0 : World} {N : Nat} (h : x.ok w0 N) (hN : N ≤ 7000000) : OpL w0 x.l1 x.l2 x.l3 x.wl x.kl x.tl := by
  refine ⟨fun W hb => h.wr.below hb, fun g o e z => ?_, fun W hb => h.k.below hb, fun g o e z => ?_, fun W hb => h.t.below hb, Nat.le_trans h.wn hN, h.kn, fun z hz => ?_⟩
  · obtain ⟨g', o', e', hg, -⟩ := h.wr 0 z
    rw [e] at e'
    injection e' with e'
    injection e' with e1 _
    omega
  · obtain ⟨g', o', e', hg, -⟩ := h.k 0 z
    rw [e] at e'
    injection e' with e'
    injection e' with e1 _
    omega
  · obtain ⟨j, hj, rfl⟩ := List.getElem_of_mem hz
    have := h.tB j
    rw [List.getD_eq_getElem?_getD, List.getElem?_eq_getElem hj] at this
    exact this
end Go.Proofs.YtffiaogbphgmgaaGreatDoor

namespace Go.Proofs.YtffiaogbphgmgaaGreatDoor
open Go.RowKit
set_option maxRecDepth 100000
/-- The sides of the law, one or two; lb is the block of their list. -/
def Sds (w0 w : World) (lb : Nat) (xs : List Nat) (p : Nat) : Prop :=
  lb < w.heap.size ∧ ((∃ xa s n, xs = [xa] ∧ Se w0 w xa s (fun k => k = lb) ∧ Gd s n p p ∧ 18 ≤ n) ∨
  (∃ xa xb s t n m, xs = [xa, xb] ∧ Two w0 w xa xb s t (fun k => k = lb) ∧ Gd s n p p ∧ Gd t m p p ∧ 18 ≤ n ∧ 18 ≤ m))
theorem Sds.bel {w0 w : World} {lb : Nat} {xs : List Nat} {p : Nat} (h : Sds w0 w lb xs p) : Below w0.heap.size w0 w := by
  obtain ⟨-, h | h⟩ := h
  · obtain ⟨xa, s, n, -, ⟨b, br, p1, p2, p3, p4, q⟩, -⟩ := h
    exact q.sd.bel
  · obtain ⟨xa, xb, s, t, n, m, -, ⟨Z, ⟨b, br, p1, p2, p3, p4, q⟩, -⟩, -⟩ := h
    exact q.sd.bel
theorem Sds.len {w0 w : World} {lb : Nat} {xs : List Nat} {p : Nat} (h : Sds w0 w lb xs p) : xs.length = 1 ∨ xs.length = 2 := by
  obtain ⟨-, h | h⟩ := h
  · obtain ⟨xa, s, n, rfl, -⟩ := h
    exact .inl rfl
  · obtain ⟨xa, xb, s, t, n, m, rfl, -⟩ := h
    exact .inr rfl
theorem Sds.step {w0 w : World} {lb : Nat} {xs : List Nat} {p : Nat} (h : Sds w0 w lb xs p) (hg : ETy w0) (hp : p ≤ 30000000) (j : Nat) (hj : j < xs.length) (kd on i : Int) (hi : I64 i) (x : ByteArray) (hx : x.size ≤ 140737488355328) (l1 l2 l3 : Option Addr) (m1 m2 m3 : Nat) (wl : List Wr1) (kl tl : List Int) (hL : OpL w0 l1 l2 l3 wl kl tl) :
    Calls Tryz.prog 8 #[.pointer (some ⟨xs.getD j 0, 0, none⟩), .agg #[.int .i64 kd, .int .i64 on, .int .i64 i, .string x, .slice l1 wl.length m1, .slice l2 kl.length m2, .slice l3 tl.length m3]] w fun e w' => e = .returned (.bool true) ∧ Sds w0 w' lb xs (p + 40) ∧ Only (fun k => ¬ k = lb) w w' := by
  obtain ⟨hlb, h | h⟩ := h
  · obtain ⟨xa, s, n, rfl, h1, h2, h3⟩ := h
    obtain rfl : j = 0 := by simp only [List.length_cons, List.length_nil] at hj; omega
    refine (step_any h1 hg h2 hp hp h3 kd on i hi x hx l1 l2 l3 m1 m2 m3 wl kl tl hL).mono ?_
    rintro e w' ⟨⟨s', ⟨q1, q2⟩, q3⟩, q4⟩
    have := q4.size
    exact ⟨q1, ⟨by omega, .inl ⟨xa, s', n, rfl, q3, q2, h3⟩⟩, q4⟩
  · obtain ⟨xa, xb, s, t, n, m, rfl, h1, h2, h3, h4, h5⟩ := h
    have hF : ∀ k, k = lb → k < w.heap.size := fun k q => by rw [q]; exact hlb
    have hj' : j = 0 ∨ j = 1 := by simp only [List.length_cons, List.length_nil] at hj; omega
    rcases hj' with rfl | rfl
    · refine (h1.step hF hg h2 hp hp h4 kd on i hi x hx l1 l2 l3 m1 m2 m3 wl kl tl hL).mono ?_
      rintro e w' ⟨⟨s', ⟨q1, q2⟩, q3⟩, q4⟩
      have := q4.size
      exact ⟨q1, ⟨by omega, .inr ⟨xa, xb, s', t, n, m, rfl, q3, q2, h3.more (by omega) (by omega), h4, h5⟩⟩, q4⟩
    · refine (h1.symm.step hF hg h3 hp hp h5 kd on i hi x hx l1 l2 l3 m1 m2 m3 wl kl tl hL).mono ?_
      rintro e w' ⟨⟨s', ⟨q1, q2⟩, q3⟩, q4⟩
      have := q4.size
      exact ⟨q1, ⟨by omega, .inr ⟨xa, xb, s, s', n, m, rfl, q3.symm, h2.more (by omega) (by omega), q2, h4, h5⟩⟩, q4⟩
theorem Sds.alike {w0 w : World} {lb : Nat} {xs : List Nat} {p : Nat} (h : Sds w0 w lb xs p) (hp : p ≤ 40000000) (j : Nat) (hj : j < xs.length) :
    Calls Tryz.prog 9 #[.pointer (some ⟨xs.getD j 0, 0, none⟩)] w fun e w' => e = .returned (.bool true) ∧ Sds w0 w' lb xs p ∧ Below w.heap.size w w' := by
  obtain ⟨hlb, h | h⟩ := h
  · obtain ⟨xa, s, n, rfl, h1, h2, h3⟩ := h
    obtain rfl : j = 0 := by simp only [List.length_cons, List.length_nil] at hj; omega
    refine (alike_se h1 h2 hp).mono ?_
    rintro e w' ⟨q1, q2⟩
    have := q2.size
    obtain ⟨b, br, p1, p2, p3, p4, h1⟩ := h1
    exact ⟨q1, ⟨by omega, .inl ⟨xa, s, n, rfl, ⟨b, br, p1, p2, p3, p4, h1.below q2⟩, h2, h3⟩⟩, q2⟩
  · obtain ⟨xa, xb, s, t, n, m, rfl, h1, h2, h3, h4, h5⟩ := h
    have hF : ∀ k, k = lb → k < w.heap.size := fun k q => by rw [q]; exact hlb
    have hj' : j = 0 ∨ j = 1 := by simp only [List.length_cons, List.length_nil] at hj; omega
    rcases hj' with rfl | rfl
    · refine (h1.alike hF h2 hp).mono ?_
      rintro e w' ⟨q1, q2, q3⟩
      have := q3.size
      exact ⟨q1, ⟨by omega, .inr ⟨xa, xb, s, t, n, m, rfl, q2, h2, h3, h4, h5⟩⟩, q3⟩
    · refine (h1.symm.alike hF h3 hp).mono ?_
      rintro e w' ⟨q1, q2, q3⟩
      have := q3.size
      exact ⟨q1, ⟨by omega, .inr ⟨xa, xb, s, t, n, m, rfl, q2.symm, h2, h3, h4, h5⟩⟩, q3⟩
end Go.Proofs.YtffiaogbphgmgaaGreatDoor
