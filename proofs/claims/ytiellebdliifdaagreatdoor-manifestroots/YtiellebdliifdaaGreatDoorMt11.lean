import Derived.Test.YtiellebdliifdaaGreatDoorMt07
import Derived.Test.YtiellebdliifdaaGreatDoorMt00
import Derived.Laws.CopyOwn
import Derived.Deep.RegionHeld3
import Derived.Test.YtiellebdliifdaaGreatDoorMt03
namespace Go.Proofs.YtiellebdliifdaaGreatDoor
open Go.RowKit
abbrev Wr1 := Int × ByteArray
def wr0 : Wr1 := (0, ⟨#[]⟩)
def Wls (w : World) (p : Option Addr) (l : List Wr1) : Prop := ∀ j, j < l.length → ∃ g o, p = some ⟨g, o, none⟩ ∧ g < w.heap.size ∧ w.cell? ⟨g, o + j * 2, none⟩ = some (.int .i64 (l.getD j wr0).1) ∧ w.cell? ⟨g, o + j * 2 + 1, none⟩ = some (.string (l.getD j wr0).2)
theorem Wls.only {w w' : World} {p : Option Addr} {l : List Wr1} {P : Nat → Prop} (h : Wls w p l) (ho : Only P w w') (hp : ∀ g o, p = some ⟨g, o, none⟩ → ¬ P g) : Wls w' p l := fun j hj => by
 obtain ⟨g, o, e, h1, h2, h3⟩ := h j hj
 have q := ho.2 g h1 (hp g o e)
 exact ⟨g, o, e, Nat.lt_of_lt_of_le h1 ho.size, (World.cell?_of_block (a := ⟨g, o + j * 2, none⟩) q).trans h2, (World.cell?_of_block (a := ⟨g, o + j * 2 + 1, none⟩) q).trans h3⟩
theorem Wls.below {w w' : World} {p : Option Addr} {l : List Wr1} (h : Wls w p l) (hb : Below w.heap.size w w') : Wls w' p l := h.only (Only.of_below (P := fun _ => False) hb) (fun _ _ _ q => q)
theorem Wls.nil (w : World) (p : Option Addr) : Wls w p [] := fun j hj => by cases hj
theorem DPost.belowR {w w1 w2 : World} {base b : Nat} {v : DV} {s : DSt} (h : DPost base b v s w w1) (hb : Below w1.heap.size w1 w2) : DPost base b v s w w2 := by
 obtain ⟨v1, h1, h2, h3⟩ := h
 exact ⟨v1, h1.below hb, h2.trans (Only.of_below (P := fun _ => False) hb) (fun _ _ q => q.elim), h3⟩
theorem DPost.belowL {w w1 w2 : World} {base b : Nat} {v : DV} {s : DSt} (hb : Below w.heap.size w w1) (h : DPost base b v s w1 w2) : DPost base b v s w w2 := by
 obtain ⟨v1, h1, h2, h3⟩ := h
 refine ⟨v1, h1, (Only.of_below (P := fun _ => False) hb |>.mono (fun _ _ q => q.elim)).trans h2 (fun _ _ q => q), fun k hk => ?_⟩
 rcases h3 k hk with q | q
 ·exact .inl q
 ·have := hb.size
  exact .inr (by omega)
theorem DPost.size {w w1 : World} {base b : Nat} {v : DV} {s : DSt} (h : DPost base b v s w w1) : w.heap.size ≤ w1.heap.size := by
 obtain ⟨v1, h1, h2, h3⟩ := h
 exact h2.size
theorem DPost.onlyW {w w1 : World} {base b : Nat} {v : DV} {s : DSt} (h : DPost base b v s w w1) : Only (Fd b v) w w1 := by
 obtain ⟨v1, h1, h2, h3⟩ := h
 exact h2
theorem pend_grow (s : DSt) (i : Int) (t : ByteArray) : (writeS s i t).pend.length ≤ s.pend.length + 1 := by
 unfold writeS
 split
 ·split
  ·split
   ·rw [diesS_pend]; omega
   ·simp
  ·omega
 ·omega
theorem acts_grow (s : DSt) (i : Int) (t : ByteArray) : (writeS s i t).acts.length ≤ s.acts.length + 1 := by
 unfold writeS
 split
 ·split
  ·split
   ·rw [diesS_acts]; omega
   ·simp
  ·omega
 ·omega
def layR : DSt → List Wr1 → Int × DSt
 | s, [] => (flushE s, flushS s)
 | s, p :: r => if writeE s p.1 p.2 = 0 then layR (writeS s p.1 p.2) r else (writeE s p.1 p.2, writeS s p.1 p.2)
theorem layR_drop (s : DSt) (l : List Wr1) (k : Nat) (hk : k < l.length) : layR s (l.drop k) = if writeE s (l.getD k wr0).1 (l.getD k wr0).2 = 0 then layR (writeS s (l.getD k wr0).1 (l.getD k wr0).2) (l.drop (k + 1)) else (writeE s (l.getD k wr0).1 (l.getD k wr0).2, writeS s (l.getD k wr0).1 (l.getD k wr0).2) := by
 rw [List.drop_eq_getElem_cons hk, layR]
 have e : l.getD k wr0 = l[k] := by rw [List.getD_eq_getElem?_getD, List.getElem?_eq_getElem hk]; rfl
 rw [e]
theorem layR_sane (l : List Wr1) : ∀ (s : DSt), Sane s → Sane (layR s l).2 := by
 induction l with
 | nil => intro s h; exact h.flush
 | cons p r ih =>
  intro s h
  unfold layR
  split
  ·exact ih _ (h.write _ _)
  ·exact h.write _ _
theorem layR_acts (l : List Wr1) : ∀ (s : DSt), (layR s l).2.acts.length ≤ s.acts.length + l.length + 1 := by
 induction l with
 | nil =>
  intro s
  show (flushS s).acts.length ≤ _
  unfold flushS
  split
  ·rw [diesS_acts]; simp
  ·simp
 | cons p r ih =>
  intro s
  have h1 := acts_grow s p.1 p.2
  unfold layR
  split
  ·have := ih (writeS s p.1 p.2)
   rw [List.length_cons]
   omega
  ·rw [List.length_cons]
   show (writeS s p.1 p.2).acts.length ≤ _
   omega
theorem layR_pend (l : List Wr1) : ∀ (s : DSt), (layR s l).2.pend.length ≤ s.pend.length + l.length := by
 induction l with
 | nil =>
  intro s
  show (flushS s).pend.length ≤ _
  unfold flushS
  split
  ·rw [diesS_pend]; simp
  ·simp
 | cons p r ih =>
  intro s
  have h1 := pend_grow s p.1 p.2
  unfold layR
  split
  ·have := ih (writeS s p.1 p.2)
   rw [List.length_cons]
   omega
  ·rw [List.length_cons]
   show (writeS s p.1 p.2).pend.length ≤ _
   omega
theorem load_wr (w : World) (g o : Nat) (z : Int) (t : ByteArray) (h0 : w.cell? ⟨g, o, none⟩ = some (.int .i64 z)) (h1 : w.cell? ⟨g, o + 1, none⟩ = some (.string t)) : (loadVar 76 ⟨g, o, none⟩).run Tryz.prog w = .ok (.agg #[.int .i64 z, .string t]) w := by
 have := run_loadVar_mid (P := Tryz.prog) w g o 76 [.int .i64 z, .string t] _ (fun j v hv => by
  match j with
  | 0 => simpa using h0.trans (by simpa using hv)
  | 1 => exact h1.trans (by simpa using hv)
  | j + 2 => simp at hv) Tryz.underlying76 rfl (by kernel_rfl)
 simpa using this
def LyI (base b : Nat) (v : DV) (s : DSt) (l : List Wr1) (w : World) (k : Nat) (wr : World) : Prop :=
 ∃ s', DPost base b v s' w wr ∧ Sane s' ∧ layR s l = layR s' (l.drop k) ∧ s'.pend.length ≤ s.pend.length + k ∧ s'.acts.length ≤ s.acts.length + k
set_option maxRecDepth 100000 in
set_option maxHeartbeats 2000000 in
theorem jlay_any (w : World) (base b : Nat) (v : DV) (s : DSt) (h : Dk w base b v s) (hb : base ≤ w.heap.size) (hS : Sane s) (p : Option Addr) (c : Nat) (l : List Wr1) (n : Nat) (hn : n = l.length) (hl : Wls w p l) (hf : ∀ g o, p = some ⟨g, o, none⟩ → ¬ Fd b v g) (hp : s.pend.length + l.length ≤ 1000000000) (ha : s.acts.length + l.length ≤ 1000000000) :
  Calls Tryz.prog 63 #[.pointer (some ⟨b, 0, none⟩), .slice p n c] w fun e w' => e = .returned (.int .i64 (layR s l).1) ∧ DPost base b v (layR s l).2 w w' := by
 have X0 := hide (show LyI base b v s l w 0 w from ⟨s, DPost.refl h, hS, rfl, Nat.le_refl _, Nat.le_refl _⟩)
 have HL := hide hl
 have HF := hide hf
 have HN := hide hn
 have hp2 : s.pend.length + n ≤ 1000000000 := by omega
 have ha2 : s.acts.length + n ≤ 1000000000 := by omega
 clear h hS hl hf hn hp ha
 go_enter Tryz.func63, Tryz.ntmps63
 go_wp2
 go_loopw [10] (fun i wr => ∃ k : Nat, k ≤ n ∧ i = .int .i64 (k : Int) ∧ LyI base b v s l w k wr) (fun i _ => n - (intOf i).toNat)
 case atStart => exact ⟨0, by omega, rfl, unhide X0⟩
 case round =>
  obtain ⟨k, hk, rfl, s', hP, hS', hE, hp', ha'⟩ := hrel
  obtain ⟨wo, rfl⟩ : ∃ wo, wo = wr := ⟨_, rfl⟩
  clear X0
  by_cases hkl : k < n
  ·have hkl2 : k < l.length := by rw [← unhide HN]; exact hkl
   obtain ⟨g, o, rfl, hg, c0, c1⟩ := (unhide HL).only hP.onlyW (unhide HF) k hkl2
   have hst := layR_drop s' l k hkl2
   obtain ⟨z, hz⟩ : ∃ z, (l.getD k wr0).1 = z := ⟨_, rfl⟩
   obtain ⟨t, ht⟩ : ∃ t, (l.getD k wr0).2 = t := ⟨_, rfl⟩
   rw [hz, ht] at hst
   rw [hz] at c0
   rw [ht] at c1
   have hld := load_wr wo g (o + k * 2) z t c0 c1
   have HST := hide hst
   have HE := hide hE
   have XP := hide (hP.belowR ((Below.refl _ wo).alloc (Nat.le_refl _) (Obj.cells #[.int .i64 z, .string t] 76)))
   have hgz := hide hz
   have hgt := hide ht
   clear hst hE hP hz ht hkl2
   obtain ⟨v', k1, k2, k3⟩ := unhide XP
   have HK := hide (And.intro k1 (And.intro k2 k3))
   have HS' := hide hS'
   clear k1 k2 k3 XP hS'
   go_wp2_with fail
   refine (write_any _ base b v' s' (unhide HK).1 (Nat.le_trans hb (unhide HK).2.1.size) (unhide HS') (by omega) (by omega) z t).mono ?_
   rintro ev x1 ⟨rfl, hP1⟩
   have XP1 := hide (DPost.trans (unhide HK).2.1 (unhide HK).2.2 hP1)
   clear hP1 c0 c1
   by_cases he : writeE s' z t = 0
   ·have XI := hide (show LyI base b v s l w (k + 1) x1 from ⟨_, unhide XP1, (unhide HS').write z t, by rw [unhide HE, unhide HST, if_pos he], by have := pend_grow s' z t; omega, by have := acts_grow s' z t; omega⟩)
    rw [he]
    clear XP1 HK he HE HST
    go_wp2
    go_roundw
    case rel => exact ⟨k + 1, by omega, by go_num, unhide XI⟩
    case measure => simp [intOf]; omega
   ·have XI := hide (show layR s l = (writeE s' z t, writeS s' z t) from by rw [unhide HE, unhide HST, if_neg he])
    have hne : (writeE s' z t != 0) = true := by simp [he]
    clear HK HE HST he
    generalize writeE s' z t = E at *
    generalize writeS s' z t = S at *
    go_wp2
    go_ret
    rw [unhide XI]
    exact ⟨rfl, unhide XP1⟩
  ·have hk' : k = n := by omega
   subst hk'
   have hE2 : layR s l = (flushE s', flushS s') := by rw [hE, unhide HN, List.drop_length]; rfl
   have HE := hide hE2
   obtain ⟨v', k1, k2, k3⟩ := hP
   have HK := hide (And.intro k1 (And.intro k2 k3))
   have HS' := hide hS'
   clear k1 k2 k3 hS' hE hE2 hkl
   go_wp2_with fail
   refine (flush_any _ base b v' s' (unhide HK).1 (Nat.le_trans hb (unhide HK).2.1.size) (unhide HS') (by omega) (by omega)).mono ?_
   rintro ev x1 ⟨rfl, hP1⟩
   have XP1 := hide (DPost.trans (unhide HK).2.1 (unhide HK).2.2 hP1)
   clear hP1 HK
   go_wp2
   go_ret
   rw [unhide HE]
   exact ⟨rfl, unhide XP1⟩
end Go.Proofs.YtiellebdliifdaaGreatDoor
namespace Go.Proofs.YtiellebdliifdaaGreatDoor
open Go.RowKit
def Inl (w : World) (p : Option Addr) (L : List Int) : Prop := L = [] ∨ ∃ lb lo, p = some ⟨lb, lo, none⟩ ∧ lb < w.heap.size ∧ ∀ j, j < L.length → w.cell? ⟨lb, lo + j, none⟩ = some (.int .i64 (L.getD j 0))
theorem Inl.only {w w' : World} {p : Option Addr} {L : List Int} {P : Nat → Prop} (h : Inl w p L) (ho : Only P w w') (hp : 0 < L.length → ∀ k o, p = some ⟨k, o, none⟩ → ¬ P k) : Inl w' p L := by
 by_cases h0 : 0 < L.length
 ·rcases h with h | ⟨lb, lo, e, h1, h2⟩
  ·exact .inl h
  ·exact .inr ⟨lb, lo, e, Nat.lt_of_lt_of_le h1 ho.size, fun j hj => (World.cell?_of_block (a := ⟨lb, lo + j, none⟩) (ho.2 lb h1 (hp h0 lb lo e))).trans (h2 j hj)⟩
 ·exact .inl (List.eq_nil_of_length_eq_zero (by omega))
theorem Inl.below {w w' : World} {B : Nat} {p : Option Addr} {L : List Int} (h : Inl w p L) (hb : Below B w w') (hp : 0 < L.length → ∀ k o, p = some ⟨k, o, none⟩ → k < B) : Inl w' p L := by
 by_cases h0 : 0 < L.length
 ·rcases h with h | ⟨lb, lo, e, h1, h2⟩
  ·exact .inl h
  ·exact .inr ⟨lb, lo, e, Nat.lt_of_lt_of_le h1 hb.size, fun j hj => (hb.cell (p := ⟨lb, lo + j, none⟩) (hp h0 lb lo e)).trans (h2 j hj)⟩
 ·exact .inl (List.eq_nil_of_length_eq_zero (by omega))
theorem infoI3 : (Tryz.prog.info? 3).map (fun i => (i.zero, i.size, i.bytes)) = some (some (.int .i64 0), 1, 8) := by kernel_rfl
set_option maxRecDepth 100000 in
theorem run_make_i64 (l c : Nat) (hlc : l ≤ c) (hc : c ≤ 17592186044416) (w : World) : (Instr.makeSlice 22 (.int .i64 (l : Int)) (.int .i64 (c : Int))).run Tryz.prog w = .ok (.slice (some ⟨w.heap.size, 0, none⟩) l c) (w.alloc (.cells ((List.replicate c (0 : Int)).map (Value.int .i64)).toArray 3)) := by
 obtain ⟨i0, hi, hz0, hz1, hz2⟩ := info_parts infoI3
 have := run_make (P := Tryz.prog) w 22 3 i0 (.int .i64 0) Tryz.underlying22 hi hz0 .i64 .i64 (l : Int) (c : Int) (by omega) (by omega) (by rw [hz2]; omega) (by omega)
 rw [this, hz1]
 simp only [Int.toNat_natCast, Nat.mul_one]
 congr 3
 apply Array.ext
 ·simp [size_madeCells]
 ·intro j h1 h2
  simp [madeCells, Value.cells, Nat.mod_one]
end Go.Proofs.YtiellebdliifdaaGreatDoor
namespace Go.Proofs.YtiellebdliifdaaGreatDoor
open Go.RowKit
def wrv : List Wr1 → List Value
 | [] => []
 | p :: r => .int .i64 p.1 :: .string p.2 :: wrv r
theorem wrv_len : ∀ l : List Wr1, (wrv l).length = l.length * 2
 | [] => rfl
 | _ :: r => by simp [wrv, wrv_len r]; omega
theorem wrv_app : ∀ l m : List Wr1, wrv (l ++ m) = wrv l ++ wrv m
 | [], m => rfl
 | p :: r, m => by simp [wrv, wrv_app r m]
theorem wrv_at : ∀ (l : List Wr1) (k : Nat) (_ : k < l.length), (wrv l)[k * 2]? = some (.int .i64 (l.getD k wr0).1) ∧ (wrv l)[k * 2 + 1]? = some (.string (l.getD k wr0).2)
 | p :: r, 0, _ => by simp [wrv]
 | p :: r, k + 1, hk => by
  have := wrv_at r k (by simpa using hk)
  rw [show (k + 1) * 2 = k * 2 + 1 + 1 by omega]
  simpa [wrv] using this
theorem wrv_set : ∀ (l : List Wr1) (k : Nat) (x : Wr1), k < l.length → ((wrv l).set (k * 2) (.int .i64 x.1)).set (k * 2 + 1) (.string x.2) = wrv (l.set k x)
 | p :: r, 0, x, _ => by simp [wrv]
 | p :: r, k + 1, x, hk => by
  have := wrv_set r k x (by simpa using hk)
  rw [show (k + 1) * 2 = k * 2 + 1 + 1 by omega]
  simp only [wrv, List.set_cons_succ]
  rw [this]
theorem wls_blk {w : World} {g : Nat} {l : List Wr1} (h : Blk w g (wrv l).toArray 76) : Wls w (some ⟨g, 0, none⟩) l := fun j hj => by
 obtain ⟨a1, a2⟩ := wrv_at l j hj
 exact ⟨g, 0, rfl, h.lt, by rw [Nat.zero_add, h.cell]; simpa using a1, by rw [Nat.zero_add, h.cell]; simpa using a2⟩
theorem infoWj : (Tryz.prog.info? 76).map (fun i => (i.zero, i.size, i.bytes)) = some (some (.agg #[.int .i64 0, .string ⟨#[]⟩]), 2, 24) := by kernel_rfl
set_option maxRecDepth 100000 in
theorem run_make_w (l : Nat) (hc : l ≤ 1000000000) (w : World) : (Instr.makeSlice 72 (.int .i64 (l : Int)) (.int .i64 (l : Int))).run Tryz.prog w = .ok (.slice (some ⟨w.heap.size, 0, none⟩) l l) (w.alloc (.cells (wrv (List.replicate l wr0)).toArray 76)) := by
 obtain ⟨i0, hi, hz0, hz1, hz2⟩ := info_parts infoWj
 have := run_make (P := Tryz.prog) w 72 76 i0 (.agg #[.int .i64 0, .string ⟨#[]⟩]) Tryz.underlying72 hi hz0 .i64 .i64 (l : Int) (l : Int) (by omega) (by omega) (by rw [hz2]; omega) (by omega)
 rw [this, hz1]
 simp only [Int.toNat_natCast]
 congr 3
 apply Array.ext
 ·simp [size_madeCells, wrv_len]
 ·intro j h1 h2
  have h2' : j < l * 2 := by simpa [wrv_len] using h2
  have hR : (wrv (List.replicate l wr0))[j]? = some ((wrv (List.replicate l wr0)).toArray[j]) := by simp
  have hq : j / 2 < (List.replicate l wr0).length := by simp; omega
  obtain ⟨a1, a2⟩ := wrv_at (List.replicate l wr0) (j / 2) hq
  have eg : (List.replicate l wr0).getD (j / 2) wr0 = wr0 := by
   rw [List.getD_eq_getElem?_getD, List.getElem?_replicate]
   split <;> rfl
  rw [eg] at a1 a2
  by_cases hm : j % 2 = 0
  ·rw [show j / 2 * 2 = j by omega] at a1
   rw [Option.some.inj (hR.symm.trans a1)]
   simp [madeCells, Value.cells, hm, wr0]
  ·rw [show j / 2 * 2 + 1 = j by omega] at a2
   rw [Option.some.inj (hR.symm.trans a2)]
   have : j % 2 = 1 := by omega
   simp [madeCells, Value.cells, this, wr0]
theorem getD_of {l : List Wr1} {k : Nat} (hk : k < l.length) : l.getD k wr0 = l[k] := by rw [List.getD_eq_getElem?_getD, List.getElem?_eq_getElem hk]; rfl
def prtI (l : List Int) (k : Nat) : List Int := l.take k ++ List.replicate (l.length - k) 0
theorem prtI_len (l : List Int) (k : Nat) (h : k ≤ l.length) : (prtI l k).length = l.length := by simp [prtI]; omega
theorem prtI_step (l : List Int) (k : Nat) (h : k < l.length) : (prtI l k).set k (l.getD k 0) = prtI l (k + 1) := by
 have e1 : l.take (k + 1) = l.take k ++ [l.getD k 0] := by
  rw [List.take_succ_eq_append_getElem h]
  simp [List.getD_eq_getElem?_getD, h]
 have e2 : List.replicate (l.length - k) (0 : Int) = 0 :: List.replicate (l.length - (k + 1)) 0 := by
  rw [show l.length - k = (l.length - (k + 1)) + 1 by omega, List.replicate_succ]
 rw [prtI, prtI, e1, e2, List.set_append]
 have hl : (l.take k).length = k := by simp; omega
 simp [hl]
def prtW (l : List Wr1) (k : Nat) : List Wr1 := l.take k ++ List.replicate (l.length - k) wr0
theorem prtW_len (l : List Wr1) (k : Nat) (h : k ≤ l.length) : (prtW l k).length = l.length := by simp [prtW]; omega
theorem prtW_step (l : List Wr1) (k : Nat) (h : k < l.length) : (prtW l k).set k (l.getD k wr0) = prtW l (k + 1) := by
 have e1 : l.take (k + 1) = l.take k ++ [l.getD k wr0] := by
  rw [List.take_succ_eq_append_getElem h, getD_of h]
 have e2 : List.replicate (l.length - k) wr0 = wr0 :: List.replicate (l.length - (k + 1)) wr0 := by
  rw [show l.length - k = (l.length - (k + 1)) + 1 by omega, List.replicate_succ]
 rw [prtW, prtW, e1, e2, List.set_append]
 have hl : (l.take k).length = k := by simp; omega
 simp [hl]
def secs (l : List Wr1) : List Int := l.map (·.1)
theorem secs_at (l : List Wr1) (k : Nat) (hk : k < l.length) : (secs l).getD k 0 = (l.getD k wr0).1 := by
 rw [getD_of hk]
 simp [secs, List.getD_eq_getElem?_getD, hk]
def recL (l : List Wr1) : List Wr1 := (List.range l.length).map fun i => (((2 + i : Nat) : Int), (l.getD i wr0).2)
theorem recL_len (l : List Wr1) : (recL l).length = l.length := by simp [recL]
theorem recL_at (l : List Wr1) (k : Nat) (hk : k < l.length) : (recL l).getD k wr0 = (((2 + k : Nat) : Int), (l.getD k wr0).2) := by
 simp [recL, List.getD_eq_getElem?_getD, hk]
def SeI (w : World) (l : List Int) (k : Nat) (wr : World) : Prop := Blk wr w.heap.size ((prtI l k).map (Value.int .i64)).toArray 3 ∧ Below w.heap.size w wr
def ReI (w : World) (l : List Wr1) (k : Nat) (wr : World) : Prop := Blk wr w.heap.size (wrv (prtW l k)).toArray 76 ∧ Below w.heap.size w wr
theorem SeI.step {w wr x : World} {l : List Int} {k : Nat} (h : SeI w l k wr) (hk : k < l.length) (hb : Below wr.heap.size wr x) : SeI w l (k + 1) (x.setCell ⟨w.heap.size, k, none⟩ (.int .i64 (l.getD k 0))) := by
 refine ⟨?_, (h.2.trans (hb.mono h.2.size)).setCell (Nat.le_refl _) _⟩
 have := (h.1.below hb h.1.lt).set k (.int .i64 (l.getD k 0))
 have e : ((prtI l k).map (Value.int .i64)).toArray.setIfInBounds k (.int .i64 (l.getD k 0)) = ((prtI l (k + 1)).map (Value.int .i64)).toArray := by
  rw [← prtI_step l k hk]
  simp [List.map_set]
 rw [e] at this
 exact this
theorem ReI.step {w wr x : World} {l : List Wr1} {k : Nat} (h : ReI w l k wr) (hk : k < l.length) (hb : Below wr.heap.size wr x) : ReI w l (k + 1) ((x.setCell ⟨w.heap.size, k * 2, none⟩ (.int .i64 (l.getD k wr0).1)).setCell ⟨w.heap.size, k * 2 + 1, none⟩ (.string (l.getD k wr0).2)) := by
 refine ⟨?_, ((h.2.trans (hb.mono h.2.size)).setCell (Nat.le_refl _) _).setCell (Nat.le_refl _) _⟩
 have := ((h.1.below hb h.1.lt).set (k * 2) (.int .i64 (l.getD k wr0).1)).set (k * 2 + 1) (.string (l.getD k wr0).2)
 have e : ((wrv (prtW l k)).toArray.setIfInBounds (k * 2) (.int .i64 (l.getD k wr0).1)).setIfInBounds (k * 2 + 1) (.string (l.getD k wr0).2) = (wrv (prtW l (k + 1))).toArray := by
  rw [← prtW_step l k hk, ← wrv_set _ k _ (by rw [prtW_len l k (by omega)]; exact hk)]
  simp
 rw [e] at this
 exact this
set_option maxRecDepth 100000 in
set_option maxHeartbeats 2000000 in
theorem sectorsOf_any (w : World) (p : Option Addr) (c : Nat) (l : List Wr1) (n : Nat) (hn : n = l.length) (hl : Wls w p l) (hz : l.length ≤ 1000000) :
  Calls Tryz.prog 132 #[.slice p n c] w fun e w' => e = .returned (.slice (some ⟨w.heap.size, 0, none⟩) n n) ∧ Blk w' w.heap.size ((secs l).map (Value.int .i64)).toArray 3 ∧ Below w.heap.size w w' := by
 have hsl : (secs l).length = n := by rw [hn]; simp [secs]
 have hmk := run_make_i64 n n (Nat.le_refl _) (by omega) w
 have X0 := hide (show SeI w (secs l) 0 (w.alloc (.cells ((List.replicate n (0 : Int)).map (Value.int .i64)).toArray 3)) from ⟨by simpa [prtI, hsl] using Blk.new w 3 ((List.replicate n (0 : Int)).map (Value.int .i64)).toArray, (Below.refl _ _).alloc (Nat.le_refl _) _⟩)
 generalize hx2 : w.alloc (.cells ((List.replicate n (0 : Int)).map (Value.int .i64)).toArray 3) = x2 at *
 clear hx2
 have HL := hide hl
 have HN := hide hn
 have HS := hide hsl
 have hzn : n ≤ 1000000 := by omega
 clear hl hn hsl hz
 go_enter Tryz.func132, Tryz.ntmps132
 go_wp2
 clear hmk
 go_loopw [11] (fun i wr => ∃ k : Nat, k ≤ n ∧ i = .int .i64 (k : Int) ∧ SeI w (secs l) k wr) (fun i _ => n - (intOf i).toNat)
 case atStart => exact ⟨0, by omega, rfl, unhide X0⟩
 case round =>
  obtain ⟨k, hk, rfl, hI⟩ := hrel
  obtain ⟨wo, rfl⟩ : ∃ wo, wo = wr := ⟨_, rfl⟩
  have XI := hide hI
  clear hI X0
  by_cases hkl : k < n
  ·have hkl2 : k < l.length := by rw [← unhide HN]; exact hkl
   obtain ⟨g, o, rfl, hg, c0, c1⟩ := (unhide HL).below (unhide XI).2 k hkl2
   have hse := secs_at l k hkl2
   obtain ⟨z, hz⟩ : ∃ z, (l.getD k wr0).1 = z := ⟨_, rfl⟩
   obtain ⟨t, ht⟩ : ∃ t, (l.getD k wr0).2 = t := ⟨_, rfl⟩
   rw [hz] at c0 hse
   rw [ht] at c1
   have hld := load_wr wo g (o + k * 2) z t c0 c1
   obtain ⟨x1, hx1⟩ : ∃ x, x = wo.alloc (Obj.cells #[.int .i64 z, .string t] 76) := ⟨_, rfl⟩
   have hb1 : Below wo.heap.size wo x1 := by rw [hx1]; exact (Below.refl _ wo).alloc (Nat.le_refl _) _
   have hB1 := (unhide XI).1.below hb1 (unhide XI).1.lt
   have hol : k < (prtI (secs l) k).length := by rw [prtI_len _ _ (by rw [unhide HS]; exact hk), unhide HS]; exact hkl
   have d0 : x1.cell? ⟨w.heap.size, k, none⟩ = some (.int .i64 ((prtI (secs l) k).getD k 0)) := by rw [hB1.cell]; simp [List.getD_eq_getElem?_getD, hol]
   have f0 := hB1.frozen k
   have XR := hide ((unhide XI).step (by rw [unhide HS]; exact hkl) hb1)
   rw [hse] at XR
   generalize (prtI (secs l) k).getD k 0 = old at *
   have HX := hide hx1
   rw [hx1] at d0 f0 XR
   have i0 : 0 ≤ (k : Int) := by omega
   have i1 : (k : Int) < (n : Int) := by omega
   clear hx1 hb1 hB1 hse hz ht XI HX hkl2
   go_wp2
   go_roundw
   case rel => exact ⟨k + 1, by omega, by go_num, unhide XR⟩
   case measure => simp [intOf]; omega
  ·have hk' : k = n := by omega
   subst hk'
   clear hkl
   go_wp2
   go_ret
   refine ⟨rfl, ?_, (unhide XI).2⟩
   have := (unhide XI).1
   rw [prtI, List.take_of_length_le (by rw [unhide HS]; exact Nat.le_refl _), unhide HS] at this
   simpa using this
set_option maxRecDepth 100000 in
set_option maxHeartbeats 2000000 in
theorem recordAt_any (i : Nat) (hi : i ≤ 1000000) (w : World) : Calls Tryz.prog 137 #[.int .i64 (i : Int)] w fun e w' => e = .returned (.int .i64 ((2 + i : Nat) : Int)) ∧ w' = w := by
 have hw : IntKind.i64.wrap (2 + (i : Int)) = 2 + (i : Int) := wrapI_eq _ (by omega) (by omega)
 have e : ((2 + i : Nat) : Int) = 2 + (i : Int) := by omega
 rw [e]
 clear e
 go_enter Tryz.func137, Tryz.ntmps137
 go_wp2
 go_ret
 exact ⟨rfl, rfl⟩
set_option maxRecDepth 100000 in
set_option maxHeartbeats 4000000 in
theorem asRecords_any (w : World) (p : Option Addr) (c : Nat) (l : List Wr1) (n : Nat) (hn : n = l.length) (hl : Wls w p l) (hz : l.length ≤ 1000000) :
  Calls Tryz.prog 85 #[.slice p n c] w fun e w' => e = .returned (.slice (some ⟨w.heap.size, 0, none⟩) n n) ∧ Blk w' w.heap.size (wrv (recL l)).toArray 76 ∧ Below w.heap.size w w' := by
 have hsl : (recL l).length = n := by rw [hn, recL_len]
 have hmk := run_make_w n (by omega) w
 have X0 := hide (show ReI w (recL l) 0 (w.alloc (.cells (wrv (List.replicate n wr0)).toArray 76)) from ⟨by simpa [prtW, hsl] using Blk.new w 76 (wrv (List.replicate n wr0)).toArray, (Below.refl _ _).alloc (Nat.le_refl _) _⟩)
 generalize hx2 : w.alloc (.cells (wrv (List.replicate n wr0)).toArray 76) = x2 at *
 clear hx2
 have HL := hide hl
 have HN := hide hn
 have HS := hide hsl
 have hzn : n ≤ 1000000 := by omega
 clear hl hn hsl hz
 go_enter Tryz.func85, Tryz.ntmps85
 go_wp2
 clear hmk
 go_loopw [11] (fun i wr => ∃ k : Nat, k ≤ n ∧ i = .int .i64 (k : Int) ∧ ReI w (recL l) k wr) (fun i _ => n - (intOf i).toNat)
 case atStart => exact ⟨0, by omega, rfl, unhide X0⟩
 case round =>
  obtain ⟨k, hk, rfl, hI⟩ := hrel
  obtain ⟨wo, rfl⟩ : ∃ wo, wo = wr := ⟨_, rfl⟩
  have XI := hide hI
  clear hI X0
  by_cases hkl : k < n
  ·have hkl2 : k < l.length := by rw [← unhide HN]; exact hkl
   obtain ⟨g, o, rfl, hg, c0, c1⟩ := (unhide HL).below (unhide XI).2 k hkl2
   have hse := recL_at l k hkl2
   obtain ⟨z, hz⟩ : ∃ z, (l.getD k wr0).1 = z := ⟨_, rfl⟩
   obtain ⟨t, ht⟩ : ∃ t, (l.getD k wr0).2 = t := ⟨_, rfl⟩
   rw [hz] at c0
   rw [ht] at c1 hse
   have hld := load_wr wo g (o + k * 2) z t c0 c1
   obtain ⟨x1, hx1⟩ : ∃ x, x = wo.alloc (Obj.cells #[.int .i64 z, .string t] 76) := ⟨_, rfl⟩
   have hb1 : Below wo.heap.size wo x1 := by rw [hx1]; exact (Below.refl _ wo).alloc (Nat.le_refl _) _
   have hB1 := (unhide XI).1.below hb1 (unhide XI).1.lt
   have hol : k < (prtW (recL l) k).length := by rw [prtW_len _ _ (by rw [unhide HS]; exact hk), unhide HS]; exact hkl
   obtain ⟨w0, w1⟩ := wrv_at _ k hol
   have d0 : x1.cell? ⟨w.heap.size, k * 2, none⟩ = some (.int .i64 ((prtW (recL l) k).getD k wr0).1) := by rw [hB1.cell]; simpa using w0
   have d1 : x1.cell? ⟨w.heap.size, k * 2 + 1, none⟩ = some (.string ((prtW (recL l) k).getD k wr0).2) := by rw [hB1.cell]; simpa using w1
   have f0 := hB1.frozen (k * 2)
   have f1 := hB1.frozen (k * 2 + 1)
   have XR := hide ((unhide XI).step (by rw [unhide HS]; exact hkl) hb1)
   rw [hse] at XR
   generalize (prtW (recL l) k).getD k wr0 = old at *
   obtain ⟨oz, ot⟩ := old
   have XC := hide (recordAt_any k (by omega))
   have OB := hide (show Blk x1 wo.heap.size #[.int .i64 z, .string t] 76 from by rw [hx1]; exact Blk.new wo _ _)
   have hnb : w.heap.size ≠ wo.heap.size := by have := (unhide XI).1.lt; omega
   have HX := hide hx1
   have i0 : 0 ≤ (k : Int) := by omega
   have i1 : (k : Int) < (n : Int) := by omega
   clear hb1 hB1 hse hz ht XI HX hkl2 w0 w1 hol
   go_wp2_with fail
   rw [← hx1]
   replace hx1 := hide hx1
   clear hld c0 c1
   generalize hgs : wo.heap.size = ob at *
   clear hgs
   have q1 : x1.cell? ⟨ob, 1, none⟩ = some (.string t) := by rw [(unhide OB).cell 1]; rfl
   refine wp_region_held_drew (S := fun w' => w'.cell? ⟨ob, 1, none⟩ = some (.string t)) (by kernel_rfl) q1 ?_
   intro hS
   refine wpAnyH_takeD 0 (some 16) (.slice (some ⟨w.heap.size, 0, none⟩) n n) rfl rfl (by kernel_rfl) (by kernel_rfl) (by kernel_rfl) (fun _ _ _ h => h) (Or.inl ⟨by rfl, fun w hSw => by have q2 := hSw; go_simp⟩) hS ?_
   simp only [Act.put, List.setIfInBounds_toArray, List.set_cons_zero, List.set_cons_succ]
   refine wpAnyH_takeD 1 (some 17) (.int .i64 (k : Int)) rfl rfl (by kernel_rfl) (by kernel_rfl) (by kernel_rfl) (fun _ _ _ h => h) (Or.inl ⟨by rfl, fun w hSw => by have q2 := hSw; go_simp⟩) hS ?_
   simp only [Act.put, List.setIfInBounds_toArray, List.set_cons_zero, List.set_cons_succ]
   refine wpAnyH_takeD 2 (some 18) (.int .i64 (k : Int)) rfl rfl (by kernel_rfl) (by kernel_rfl) (by kernel_rfl) (fun _ _ _ h => h) (Or.inl ⟨by rfl, fun w hSw => by have q2 := hSw; go_simp⟩) hS ?_
   simp only [Act.put, List.setIfInBounds_toArray, List.set_cons_zero, List.set_cons_succ]
   refine wpAnyH_takeD 4 (some 20) (.pointer (some ⟨ob, 1, none⟩)) rfl rfl (by kernel_rfl) (by kernel_rfl) (by kernel_rfl) (fun _ _ _ h => h) (Or.inl ⟨by rfl, fun w hSw => by have q2 := hSw; go_simp⟩) hS ?_
   simp only [Act.put, List.setIfInBounds_toArray, List.set_cons_zero, List.set_cons_succ]
   refine wpAnyH_takeD 5 (some 21) (.string t) rfl rfl (by kernel_rfl) (by kernel_rfl) (by kernel_rfl) (fun _ _ _ h => h) (Or.inl ⟨by rfl, fun w hSw => by have q2 := hSw; go_simp⟩) hS ?_
   simp only [Act.put, List.setIfInBounds_toArray, List.set_cons_zero, List.set_cons_succ]
   refine wpAnyH_ready (rs := [3]) (by kernel_rfl) (by simp) ?_
   refine AllReadyH.cons rfl (fun K hK => ?_) AllReadyH.nil
   simp only [List.getElem_toArray, List.getElem_cons_succ, List.getElem_cons_zero]
   go_simp
   refine (unhide XC _).mono ?_
   rintro ev x4 ⟨rfl, rfl⟩
   refine hK.out _ _ q1 (fun hS => ?_)
   clear hK K
   refine wpAnyH_takeD 6 (some 22) (.agg #[.int .i64 ((2 + k : Nat) : Int), .string t]) rfl rfl (by kernel_rfl) (by kernel_rfl) (by kernel_rfl) (fun _ _ _ h => h) (Or.inl ⟨by rfl, fun w hSw => by have q2 := hSw; go_simp⟩) hS ?_
   simp only [Act.put, List.setIfInBounds_toArray, List.set_cons_zero, List.set_cons_succ]
   refine wpAnyH_takeD 7 (some 23) (.pointer (some ⟨w.heap.size, k * 2, none⟩)) rfl rfl (by kernel_rfl) (by kernel_rfl) (by kernel_rfl) (fun _ _ _ h => h) (Or.inl ⟨by rfl, fun w hSw => by have q2 := hSw; go_simp⟩) hS ?_
   simp only [Act.put, List.setIfInBounds_toArray, List.set_cons_zero, List.set_cons_succ]
   refine wpAnyH_ready (rs := [8]) (by kernel_rfl) (by simp) ?_
   refine AllReadyH.cons rfl (fun K hK => ?_) AllReadyH.nil
   simp only [List.getElem_toArray, List.getElem_cons_succ, List.getElem_cons_zero]
   go_simp
   have q5 : ((x1.setCell ⟨w.heap.size, k * 2, none⟩ (.int .i64 (2 + (k : Int)))).setCell ⟨w.heap.size, k * 2 + 1, none⟩ (.string t)).drew.cell? ⟨ob, 1, none⟩ = some (.string t) := by
    have := (((unhide OB).other ⟨w.heap.size, k * 2, none⟩ (.int .i64 (2 + (k : Int))) hnb).other ⟨w.heap.size, k * 2 + 1, none⟩ (.string t) hnb).cell 1
    exact this
   refine hK.out _ _ q5 (fun hS => ?_)
   clear hK K
   refine wpAnyH_done (by kernel_rfl) ?_ _
   have XS := hide (show ReI w (recL l) (k + 1) ((x1.setCell ⟨w.heap.size, k * 2, none⟩ (.int .i64 (2 + (k : Int)))).setCell ⟨w.heap.size, k * 2 + 1, none⟩ (.string t)).drew from by
    have := unhide XR
    rw [show ((2 + k : Nat) : Int) = 2 + (k : Int) by omega] at this
    exact ⟨this.1, this.2.drew⟩)
   clear XR d0 d1 f0 f1 q1 q5 OB hS
   go_wp2
   go_roundw
   case rel => exact ⟨k + 1, by omega, by go_num, unhide XS⟩
   case measure => simp [intOf]; omega
  ·have hk' : k = n := by omega
   subst hk'
   clear hkl
   go_wp2
   go_ret
   refine ⟨rfl, ?_, (unhide XI).2⟩
   have := (unhide XI).1
   rw [prtW, List.take_of_length_le (by rw [unhide HS]; exact Nat.le_refl _), unhide HS] at this
   simpa using this
end Go.Proofs.YtiellebdliifdaaGreatDoor
namespace Go.Proofs.YtiellebdliifdaaGreatDoor
open Go.RowKit
def TWr (w : World) (l : List Int) (wr : World) : Prop := ∃ v, Wtr wr w.heap.size w.heap.size v l 0 ∧ Below w.heap.size w wr
theorem TWr.start {w x1 : World} (hR : Wtr x1 w.heap.size w.heap.size (.slice none 0 0) [] 0) (hB : Below w.heap.size w x1) : TWr w [] x1 := ⟨_, hR, hB⟩
theorem TWr.bel {w wr : World} {l : List Int} (h : TWr w l wr) : Below w.heap.size w wr := by obtain ⟨_, _, h⟩ := h; exact h
theorem TWr.below {w wr w2 : World} {l : List Int} (h : TWr w l wr) (hB : Below wr.heap.size wr w2) : TWr w l w2 := by
 obtain ⟨v, h1, h2⟩ := h
 exact ⟨v, h1.only (Only.of_below (P := fun _ => False) hB) (fun _ _ q => q), h2.trans (hB.mono h2.size)⟩
theorem TWr.keep {w x x3 : World} {v : Value} {l l' : List Int} {e : Int} (h : Wtr x w.heap.size w.heap.size v l e) (hb : Below w.heap.size w x) (hP : WPost w.heap.size w.heap.size v l' 0 x x3) : TWr w l' x3 := by
 obtain ⟨v', h1, h2, _⟩ := hP
 refine ⟨v', h1, hb.trans (h2.below hb.size (fun k hk q => ?_))⟩
 rcases q with q | q
 ·omega
 ·have := (h.2.1.lt k q).1
  omega
theorem TWr.num {w W wr : World} {l : List Int} (h : TWr w l W) (hB : Below W.heap.size W wr) (N : Nat) (h1 : 1 ≤ N) (h8 : N ≤ 8) (L : List Int) (hf : ∀ z ∈ L, fitsP z N) (p : Option Addr) (n c : Nat) (hn : n = L.length) (hL : Inl wr p L) (hp : ∀ k o, p = some ⟨k, o, none⟩ → W.heap.size ≤ k ∨ k < w.heap.size) (hsz : l.length + 8 * L.length ≤ 140737488355328) (z : Int) (hz : z = (N : Int)) :
  Calls Tryz.prog 103 #[.pointer (some ⟨w.heap.size, 0, none⟩), .int .i64 z, .slice p n c] wr fun ev w' => ev = .returned (.tuple #[]) ∧ TWr w (l ++ outN N L) w' := by
 subst hn hz
 obtain ⟨v, g1, g2⟩ := h
 have hw : Wtr wr w.heap.size w.heap.size v l 0 := g1.only (Only.of_below (P := fun _ => False) hB) (fun _ _ q => q)
 have hb : Below w.heap.size w wr := g2.trans (hB.mono g2.size)
 have hE : errN (N : Int) L = 0 := by rw [errN, if_neg (by omega), Int.toNat_natCast, if_pos hf]
 have hF : ∀ k o, p = some ⟨k, o, none⟩ → ¬ Fp w.heap.size v k := fun k o e q => by
  have := hp k o e
  rcases q with rfl | q
  ·have := g1.lt; omega
  ·have := (g1.2.1.lt k q); omega
 have hq := num_any wr w.heap.size w.heap.size v l 0 hw hb.size (N : Int) L p c (by
  rcases hL with q | ⟨lb, lo, e, q1, q2⟩
  ·exact .inl q
  ·exact .inr ⟨lb, lo, e, q1, hF lb lo e, q2⟩) hsz
 rw [hE, Int.toNat_natCast, wl_good] at hq
 refine hq.mono ?_
 rintro ev w' ⟨rfl, hP⟩
 exact ⟨rfl, TWr.keep hw hb hP⟩
theorem TWr.done {w wr : World} {l : List Int} (h : TWr w l wr) :
  Calls Tryz.prog 104 #[.pointer (some ⟨w.heap.size, 0, none⟩)] wr fun ev w' => ev = .returned (.tuple #[.string (strOfNums l), .int .i64 0]) ∧ Below wr.heap.size wr w' := by
 obtain ⟨v, hw, hb⟩ := h
 exact (done_any wr w.heap.size w.heap.size v l 0 hw).mono (fun ev w' h => h)
theorem inl_new (x : World) (z : Int) : Inl (x.alloc (Obj.cells #[.int .i64 z] 3)) (some ⟨x.heap.size, 0, none⟩) [z] := by
 refine .inr ⟨_, 0, rfl, (Blk.new x 3 #[.int .i64 z]).lt, fun j hj => ?_⟩
 obtain rfl : j = 0 := by simpa using hj
 rw [Nat.zero_add, (Blk.new x 3 #[.int .i64 z]).cell 0]
 rfl
end Go.Proofs.YtiellebdliifdaaGreatDoor
