import Derived.Test.YtdpnbemagiekoaaGreatDoorMe08
import Derived.Deep.RegionHeld3
set_option maxHeartbeats 4000000
set_option maxRecDepth 100000
namespace Go.Proofs.YtdpnbemagiekoaaGreatDoor
section
open Go.RowKit
abbrev Wr1 := Int × ByteArray
def wr0 : Wr1 := (0, ⟨#[]⟩)
def Wls (w : World) (p : Option Addr) (l : List Wr1) : Prop := ∀ j, j < l.length -> ∃ g o, p = some ⟨g, o, none⟩ /\ g < w.heap.size /\ w.cell? ⟨g, o + j * 2, none⟩ = some (.int .i64 (l.getD j wr0).1) /\ w.cell? ⟨g, o + j * 2 + 1, none⟩ = some (.string (l.getD j wr0).2)
theorem Wls.only {w w' : World} {p : Option Addr} {l : List Wr1} {P : Nat -> Prop} (h : Wls w p l) (ho : Only P w w') (hp : ∀ g o, p = some ⟨g, o, none⟩ -> ¬ P g) : Wls w' p l := fun j hj => by
 obtain ⟨g, o, e, h1, h2, h3⟩ := h j hj
 have q := ho.2 g h1 (hp g o e)
 exact ⟨g, o, e, Nat.lt_of_lt_of_le h1 ho.size, (World.cell?_of_block (a := ⟨g, o + j * 2, none⟩) q).trans h2, (World.cell?_of_block (a := ⟨g, o + j * 2 + 1, none⟩) q).trans h3⟩
theorem Wls.below {w w' : World} {p : Option Addr} {l : List Wr1} (h : Wls w p l) (hb : Below w.heap.size w w') : Wls w' p l := h.only (Only.of_below (P := fun _ => False) hb) (fun _ _ _ q => q)
theorem DPost.belowR {w w1 w2 : World} {base b : Nat} {v : DV} {s : DSt} (h : DPost base b v s w w1) (hb : Below w1.heap.size w1 w2) : DPost base b v s w w2 := by
 obtain ⟨v1, h1, h2, h3⟩ := h
 exact ⟨v1, h1.below hb, h2.trans (Only.of_below (P := fun _ => False) hb) (fun _ _ q => q.elim), h3⟩
theorem DPost.belowL {w w1 w2 : World} {base b : Nat} {v : DV} {s : DSt} (hb : Below w.heap.size w w1) (h : DPost base b v s w1 w2) : DPost base b v s w w2 := by
 obtain ⟨v1, h1, h2, h3⟩ := h
 refine ⟨v1, h1, (Only.of_below (P := fun _ => False) hb |>.mono (fun _ _ q => q.elim)).trans h2 (fun _ _ q => q), fun k hk => ?_⟩
 rcases h3 k hk with q | q
 ·exact .inl q
 ·have := hb.size
  exact .inr (by omega)
theorem DPost.onlyW {w w1 : World} {base b : Nat} {v : DV} {s : DSt} (h : DPost base b v s w w1) : Only (Fd b v) w w1 := by
 obtain ⟨v1, h1, h2, h3⟩ := h
 exact h2
theorem zGv (s : DSt) (i : Int) (t : ByteArray) : (zAP s i t).pend.length <= s.pend.length + 1 := by
 unfold zAP
 split
 ·split
  ·split
   ·rw [zBr]; omega
   ·simp
  ·omega
 ·omega
theorem zGs (s : DSt) (i : Int) (t : ByteArray) : (zAP s i t).acts.length <= s.acts.length + 1 := by
 unfold zAP
 split
 ·split
  ·split
   ·rw [zBo]; omega
   ·simp
  ·omega
 ·omega
def layR : DSt -> List Wr1 -> Int × DSt
 | s, [] => (zCp s, zBw s)
 | s, p :: r => if zBk s p.1 p.2 = 0 then layR (zAP s p.1 p.2) r else (zBk s p.1 p.2, zAP s p.1 p.2)
theorem zLK (s : DSt) (l : List Wr1) (k : Nat) (hk : k < l.length) : layR s (l.drop k) = if zBk s (l.getD k wr0).1 (l.getD k wr0).2 = 0 then layR (zAP s (l.getD k wr0).1 (l.getD k wr0).2) (l.drop (k + 1)) else (zBk s (l.getD k wr0).1 (l.getD k wr0).2, zAP s (l.getD k wr0).1 (l.getD k wr0).2) := by
 rw [List.drop_eq_getElem_cons hk, layR]
 have e : l.getD k wr0 = l[k] := by rw [List.getD_eq_getElem?_getD, List.getElem?_eq_getElem hk]; rfl
 rw [e]
theorem zAX (l : List Wr1) : ∀ (s : DSt), Sane s -> Sane (layR s l).2 := by
 induction l with
 | nil => intro s h; exact h.flush
 | cons p r ih =>
  intro s h
  unfold layR
  split
  ·exact ih _ (h.write _ _)
  ·exact h.write _ _
theorem zCi (l : List Wr1) : ∀ (s : DSt), (layR s l).2.acts.length <= s.acts.length + l.length + 1 := by
 induction l with
 | nil =>
  intro s
  show (zBw s).acts.length <= _
  unfold zBw
  split
  ·rw [zBo]; simp
  ·simp
 | cons p r ih =>
  intro s
  have h1 := zGs s p.1 p.2
  unfold layR
  split
  ·have := ih (zAP s p.1 p.2)
   rw [List.length_cons]
   omega
  ·rw [List.length_cons]
   show (zAP s p.1 p.2).acts.length <= _
   omega
theorem zCg (l : List Wr1) : ∀ (s : DSt), (layR s l).2.pend.length <= s.pend.length + l.length := by
 induction l with
 | nil =>
  intro s
  show (zBw s).pend.length <= _
  unfold zBw
  split
  ·rw [zBr]; simp
  ·simp
 | cons p r ih =>
  intro s
  have h1 := zGv s p.1 p.2
  unfold layR
  split
  ·have := ih (zAP s p.1 p.2)
   rw [List.length_cons]
   omega
  ·rw [List.length_cons]
   show (zAP s p.1 p.2).pend.length <= _
   omega
theorem zEE (w : World) (g o : Nat) (z : Int) (t : ByteArray) (h0 : w.cell? ⟨g, o, none⟩ = some (.int .i64 z)) (h1 : w.cell? ⟨g, o + 1, none⟩ = some (.string t)) : (loadVar 112 ⟨g, o, none⟩).run Tryz.prog w = .ok (.agg #[.int .i64 z, .string t]) w := by
 have := run_loadVar_mid (P := Tryz.prog) w g o 112 [.int .i64 z, .string t] _ (fun j v hv => by
  match j with
  | 0 => simpa using h0.trans (by simpa using hv)
  | 1 => exact h1.trans (by simpa using hv)
  | j + 2 => simp at hv) Tryz.underlying112 rfl (by kernel_rfl)
 simpa using this
def LyI (base b : Nat) (v : DV) (s : DSt) (l : List Wr1) (w : World) (k : Nat) (wr : World) : Prop :=
 ∃ s', DPost base b v s' w wr /\ Sane s' /\ layR s l = layR s' (l.drop k) /\ s'.pend.length <= s.pend.length + k /\ s'.acts.length <= s.acts.length + k
theorem zB4 (w : World) (base b : Nat) (v : DV) (s : DSt) (h : Dk w base b v s) (hb : base <= w.heap.size) (hS : Sane s) (p : Option Addr) (c : Nat) (l : List Wr1) (n : Nat) (hn : n = l.length) (hl : Wls w p l) (hf : ∀ g o, p = some ⟨g, o, none⟩ -> ¬ Fd b v g) (hp : s.pend.length + l.length <= 1000000000) (ha : s.acts.length + l.length <= 1000000000) :
  Calls Tryz.prog 89 #[.pointer (some ⟨b, 0, none⟩), .slice p n c] w fun e w' => e = .returned (.int .i64 (layR s l).1) /\ DPost base b v (layR s l).2 w w' := by
 have X0 := uB (show LyI base b v s l w 0 w from ⟨s, DPost.refl h, hS, rfl, Nat.le_refl _, Nat.le_refl _⟩)
 have HL := uB hl
 have HF := uB hf
 have HN := uB hn
 have hp2 : s.pend.length + n <= 1000000000 := by omega
 have ha2 : s.acts.length + n <= 1000000000 := by omega
 clear h hS hl hf hn hp ha
 go_enter Tryz.func89, Tryz.ntmps89
 go_wp2
 go_loopw [10] (fun i wr => ∃ k : Nat, k <= n /\ i = .int .i64 (k : Int) /\ LyI base b v s l w k wr) (fun i _ => n - (intOf i).toNat)
 case atStart => exact ⟨0, by omega, rfl, uA X0⟩
 case round =>
  obtain ⟨k, hk, rfl, s', hP, hS', hE, hp', ha'⟩ := hrel
  obtain ⟨wo, rfl⟩ : ∃ wo, wo = wr := ⟨_, rfl⟩
  clear X0
  by_cases hkl : k < n
  ·have hkl2 : k < l.length := by rw [<- uA HN]; exact hkl
   obtain ⟨g, o, rfl, hg, c0, c1⟩ := (uA HL).only hP.onlyW (uA HF) k hkl2
   have hst := zLK s' l k hkl2
   obtain ⟨z, hz⟩ : ∃ z, (l.getD k wr0).1 = z := ⟨_, rfl⟩
   obtain ⟨t, ht⟩ : ∃ t, (l.getD k wr0).2 = t := ⟨_, rfl⟩
   rw [hz, ht] at hst
   rw [hz] at c0
   rw [ht] at c1
   have hld := zEE wo g (o + k * 2) z t c0 c1
   have HST := uB hst
   have HE := uB hE
   have XP := uB (hP.belowR ((Below.refl _ wo).alloc (Nat.le_refl _) (Obj.cells #[.int .i64 z, .string t] 112)))
   have hgz := uB hz
   have hgt := uB ht
   clear hst hE hP hz ht hkl2
   obtain ⟨v', k1, k2, k3⟩ := uA XP
   have HK := uB (And.intro k1 (And.intro k2 k3))
   have HS' := uB hS'
   clear k1 k2 k3 XP hS'
   go_wp2_with fail
   refine (zGT _ base b v' s' (uA HK).1 (Nat.le_trans hb (uA HK).2.1.size) (uA HS') (by omega) (by omega) z t).mono ?_
   rintro ev x1 ⟨rfl, hP1⟩
   have XP1 := uB (DPost.trans (uA HK).2.1 (uA HK).2.2 hP1)
   clear hP1 c0 c1
   by_cases he : zBk s' z t = 0
   ·have XI := uB (show LyI base b v s l w (k + 1) x1 from ⟨_, uA XP1, (uA HS').write z t, by rw [uA HE, uA HST, if_pos he], by have := zGv s' z t; omega, by have := zGs s' z t; omega⟩)
    rw [he]
    clear XP1 HK he HE HST
    go_wp2
    go_roundw
    case rel => exact ⟨k + 1, by omega, by go_num, uA XI⟩
    case measure => simp [intOf]; omega
   ·have XI := uB (show layR s l = (zBk s' z t, zAP s' z t) from by rw [uA HE, uA HST, if_neg he])
    have hne : (zBk s' z t != 0) = true := by simp [he]
    clear HK HE HST he
    generalize zBk s' z t = E at *
    generalize zAP s' z t = S at *
    go_wp2
    go_ret
    rw [uA XI]
    exact ⟨rfl, uA XP1⟩
  ·have hk' : k = n := by omega
   subst hk'
   have hE2 : layR s l = (zCp s', zBw s') := by rw [hE, uA HN, List.drop_length]; rfl
   have HE := uB hE2
   obtain ⟨v', k1, k2, k3⟩ := hP
   have HK := uB (And.intro k1 (And.intro k2 k3))
   have HS' := uB hS'
   clear k1 k2 k3 hS' hE hE2 hkl
   go_wp2_with fail
   refine (zGS _ base b v' s' (uA HK).1 (Nat.le_trans hb (uA HK).2.1.size) (uA HS') (by omega) (by omega)).mono ?_
   rintro ev x1 ⟨rfl, hP1⟩
   have XP1 := uB (DPost.trans (uA HK).2.1 (uA HK).2.2 hP1)
   clear hP1 HK
   go_wp2
   go_ret
   rw [uA HE]
   exact ⟨rfl, uA XP1⟩
end
section
open Go.RowKit
def wrv : List Wr1 -> List Value
 | [] => []
 | p :: r => .int .i64 p.1 :: .string p.2 :: wrv r
theorem zCO : ∀ l : List Wr1, (wrv l).length = l.length * 2
 | [] => rfl
 | _ :: r => by simp [wrv, zCO r]; omega
theorem zHK : ∀ l m : List Wr1, wrv (l ++ m) = wrv l ++ wrv m
 | [], m => rfl
 | p :: r, m => by simp [wrv, zHK r m]
theorem zDX : ∀ (l : List Wr1) (k : Nat) (_ : k < l.length), (wrv l)[k * 2]? = some (.int .i64 (l.getD k wr0).1) /\ (wrv l)[k * 2 + 1]? = some (.string (l.getD k wr0).2)
 | p :: r, 0, _ => by simp [wrv]
 | p :: r, k + 1, hk => by
  have := zDX r k (by simpa using hk)
  rw [show (k + 1) * 2 = k * 2 + 1 + 1 by omega]
  simpa [wrv] using this
theorem zLo : ∀ (l : List Wr1) (k : Nat) (x : Wr1), k < l.length -> ((wrv l).set (k * 2) (.int .i64 x.1)).set (k * 2 + 1) (.string x.2) = wrv (l.set k x)
 | p :: r, 0, x, _ => by simp [wrv]
 | p :: r, k + 1, x, hk => by
  have := zLo r k x (by simpa using hk)
  rw [show (k + 1) * 2 = k * 2 + 1 + 1 by omega]
  simp only [wrv, List.set_cons_succ]
  rw [this]
theorem zBS {w : World} {g : Nat} {l : List Wr1} (h : Blk w g (wrv l).toArray 112) : Wls w (some ⟨g, 0, none⟩) l := fun j hj => by
 obtain ⟨a1, a2⟩ := zDX l j hj
 exact ⟨g, 0, rfl, h.lt, by rw [Nat.zero_add, h.cell]; simpa using a1, by rw [Nat.zero_add, h.cell]; simpa using a2⟩
theorem zNo : (Tryz.prog.info? 112).map (fun i => (i.zero, i.size, i.bytes)) = some (some (.agg #[.int .i64 0, .string ⟨#[]⟩]), 2, 24) := by kernel_rfl
theorem zDW (l : Nat) (hc : l <= 1000000000) (w : World) : (Instr.makeSlice 63 (.int .i64 (l : Int)) (.int .i64 (l : Int))).run Tryz.prog w = .ok (.slice (some ⟨w.heap.size, 0, none⟩) l l) (w.alloc (.cells (wrv (List.replicate l wr0)).toArray 112)) := by
 obtain ⟨i0, hi, hz0, hz1, hz2⟩ := info_parts zNo
 have := run_make (P := Tryz.prog) w 63 112 i0 (.agg #[.int .i64 0, .string ⟨#[]⟩]) Tryz.underlying63 hi hz0 .i64 .i64 (l : Int) (l : Int) (by omega) (by omega) (by rw [hz2]; omega) (by omega)
 rw [this, hz1]
 simp only [Int.toNat_natCast]
 congr 3
 apply Array.ext
 ·simp [size_madeCells, zCO]
 ·intro j h1 h2
  have h2' : j < l * 2 := by simpa [zCO] using h2
  have hR : (wrv (List.replicate l wr0))[j]? = some ((wrv (List.replicate l wr0)).toArray[j]) := by simp
  have hq : j / 2 < (List.replicate l wr0).length := by simp; omega
  obtain ⟨a1, a2⟩ := zDX (List.replicate l wr0) (j / 2) hq
  have eg : (List.replicate l wr0).getD (j / 2) wr0 = wr0 := by
   rw [List.getD_eq_getElem?_getD, List.getElem?_replicate]
   split <;> rfl
  rw [eg] at a1 a2
  by_cases hm : j % 2 = 0
  ·rw [show j / 2 * 2 = j by omega] at a1
   rw [Option.some.inj (hR.symm.trans a1)]
   simp [madeCells, Value.cells, hm, wr0]
  ·rw [show j / 2 * 2 + 1 = j by omega] at a2
   rw [Option.some.inj (hR.symm.trans a2)]
   have : j % 2 = 1 := by omega
   simp [madeCells, Value.cells, this, wr0]
theorem zC2 {l : List Wr1} {k : Nat} (hk : k < l.length) : l.getD k wr0 = l[k] := by rw [List.getD_eq_getElem?_getD, List.getElem?_eq_getElem hk]; rfl
def prtI (l : List Int) (k : Nat) : List Int := l.take k ++ List.replicate (l.length - k) 0
theorem zMF (l : List Int) (k : Nat) (h : k <= l.length) : (prtI l k).length = l.length := by simp [prtI]; omega
theorem zLI (l : List Int) (k : Nat) (h : k < l.length) : (prtI l k).set k (l.getD k 0) = prtI l (k + 1) := by
 have e1 : l.take (k + 1) = l.take k ++ [l.getD k 0] := by
  rw [List.take_succ_eq_append_getElem h]
  simp [List.getD_eq_getElem?_getD, h]
 have e2 : List.replicate (l.length - k) (0 : Int) = 0 :: List.replicate (l.length - (k + 1)) 0 := by
  rw [show l.length - k = (l.length - (k + 1)) + 1 by omega, List.replicate_succ]
 rw [prtI, prtI, e1, e2, List.set_append]
 have hl : (l.take k).length = k := by simp; omega
 simp [hl]
def prtW (l : List Wr1) (k : Nat) : List Wr1 := l.take k ++ List.replicate (l.length - k) wr0
theorem zF0 (l : List Wr1) (k : Nat) (h : k <= l.length) : (prtW l k).length = l.length := by simp [prtW]; omega
theorem zJ2 (l : List Wr1) (k : Nat) (h : k < l.length) : (prtW l k).set k (l.getD k wr0) = prtW l (k + 1) := by
 have e1 : l.take (k + 1) = l.take k ++ [l.getD k wr0] := by
  rw [List.take_succ_eq_append_getElem h, zC2 h]
 have e2 : List.replicate (l.length - k) wr0 = wr0 :: List.replicate (l.length - (k + 1)) wr0 := by
  rw [show l.length - k = (l.length - (k + 1)) + 1 by omega, List.replicate_succ]
 rw [prtW, prtW, e1, e2, List.set_append]
 have hl : (l.take k).length = k := by simp; omega
 simp [hl]
def secs (l : List Wr1) : List Int := l.map (·.1)
theorem zLi (l : List Wr1) (k : Nat) (hk : k < l.length) : (secs l).getD k 0 = (l.getD k wr0).1 := by
 rw [zC2 hk]
 simp [secs, List.getD_eq_getElem?_getD, hk]
def recL (l : List Wr1) : List Wr1 := (List.range l.length).map fun i => (((2 + i : Nat) : Int), (l.getD i wr0).2)
theorem zBu (l : List Wr1) : (recL l).length = l.length := by simp [recL]
theorem zJP (l : List Wr1) (k : Nat) (hk : k < l.length) : (recL l).getD k wr0 = (((2 + k : Nat) : Int), (l.getD k wr0).2) := by
 simp [recL, List.getD_eq_getElem?_getD, hk]
def SeI (w : World) (l : List Int) (k : Nat) (wr : World) : Prop := Blk wr w.heap.size ((prtI l k).map (Value.int .i64)).toArray 3 /\ Below w.heap.size w wr
def ReI (w : World) (l : List Wr1) (k : Nat) (wr : World) : Prop := Blk wr w.heap.size (wrv (prtW l k)).toArray 112 /\ Below w.heap.size w wr
theorem SeI.step {w wr x : World} {l : List Int} {k : Nat} (h : SeI w l k wr) (hk : k < l.length) (hb : Below wr.heap.size wr x) : SeI w l (k + 1) (x.setCell ⟨w.heap.size, k, none⟩ (.int .i64 (l.getD k 0))) := by
 refine ⟨?_, (h.2.trans (hb.mono h.2.size)).setCell (Nat.le_refl _) _⟩
 have := (h.1.below hb h.1.lt).set k (.int .i64 (l.getD k 0))
 have e : ((prtI l k).map (Value.int .i64)).toArray.setIfInBounds k (.int .i64 (l.getD k 0)) = ((prtI l (k + 1)).map (Value.int .i64)).toArray := by
  rw [<- zLI l k hk]
  simp [List.map_set]
 rw [e] at this
 exact this
theorem ReI.step {w wr x : World} {l : List Wr1} {k : Nat} (h : ReI w l k wr) (hk : k < l.length) (hb : Below wr.heap.size wr x) : ReI w l (k + 1) ((x.setCell ⟨w.heap.size, k * 2, none⟩ (.int .i64 (l.getD k wr0).1)).setCell ⟨w.heap.size, k * 2 + 1, none⟩ (.string (l.getD k wr0).2)) := by
 refine ⟨?_, ((h.2.trans (hb.mono h.2.size)).setCell (Nat.le_refl _) _).setCell (Nat.le_refl _) _⟩
 have := ((h.1.below hb h.1.lt).set (k * 2) (.int .i64 (l.getD k wr0).1)).set (k * 2 + 1) (.string (l.getD k wr0).2)
 have e : ((wrv (prtW l k)).toArray.setIfInBounds (k * 2) (.int .i64 (l.getD k wr0).1)).setIfInBounds (k * 2 + 1) (.string (l.getD k wr0).2) = (wrv (prtW l (k + 1))).toArray := by
  rw [<- zJ2 l k hk, <- zLo _ k _ (by rw [zF0 l k (by omega)]; exact hk)]
  simp
 rw [e] at this
 exact this
theorem zDy (w : World) (p : Option Addr) (c : Nat) (l : List Wr1) (n : Nat) (hn : n = l.length) (hl : Wls w p l) (hz : l.length <= 1000000) :
  Calls Tryz.prog 181 #[.slice p n c] w fun e w' => e = .returned (.slice (some ⟨w.heap.size, 0, none⟩) n n) /\ Blk w' w.heap.size ((secs l).map (Value.int .i64)).toArray 3 /\ Below w.heap.size w w' := by
 have hsl : (secs l).length = n := by rw [hn]; simp [secs]
 have hmk := zGw n n (Nat.le_refl _) (by omega) w
 have X0 := uB (show SeI w (secs l) 0 (w.alloc (.cells ((List.replicate n (0 : Int)).map (Value.int .i64)).toArray 3)) from ⟨by simpa [prtI, hsl] using Blk.new w 3 ((List.replicate n (0 : Int)).map (Value.int .i64)).toArray, (Below.refl _ _).alloc (Nat.le_refl _) _⟩)
 generalize hx2 : w.alloc (.cells ((List.replicate n (0 : Int)).map (Value.int .i64)).toArray 3) = x2 at *
 clear hx2
 have HL := uB hl
 have HN := uB hn
 have HS := uB hsl
 have hzn : n <= 1000000 := by omega
 clear hl hn hsl hz
 go_enter Tryz.func181, Tryz.ntmps181
 go_wp2
 clear hmk
 go_loopw [11] (fun i wr => ∃ k : Nat, k <= n /\ i = .int .i64 (k : Int) /\ SeI w (secs l) k wr) (fun i _ => n - (intOf i).toNat)
 case atStart => exact ⟨0, by omega, rfl, uA X0⟩
 case round =>
  obtain ⟨k, hk, rfl, hI⟩ := hrel
  obtain ⟨wo, rfl⟩ : ∃ wo, wo = wr := ⟨_, rfl⟩
  have XI := uB hI
  clear hI X0
  by_cases hkl : k < n
  ·have hkl2 : k < l.length := by rw [<- uA HN]; exact hkl
   obtain ⟨g, o, rfl, hg, c0, c1⟩ := (uA HL).below (uA XI).2 k hkl2
   have hse := zLi l k hkl2
   obtain ⟨z, hz⟩ : ∃ z, (l.getD k wr0).1 = z := ⟨_, rfl⟩
   obtain ⟨t, ht⟩ : ∃ t, (l.getD k wr0).2 = t := ⟨_, rfl⟩
   rw [hz] at c0 hse
   rw [ht] at c1
   have hld := zEE wo g (o + k * 2) z t c0 c1
   obtain ⟨x1, hx1⟩ : ∃ x, x = wo.alloc (Obj.cells #[.int .i64 z, .string t] 112) := ⟨_, rfl⟩
   have hb1 : Below wo.heap.size wo x1 := by rw [hx1]; exact (Below.refl _ wo).alloc (Nat.le_refl _) _
   have hB1 := (uA XI).1.below hb1 (uA XI).1.lt
   have hol : k < (prtI (secs l) k).length := by rw [zMF _ _ (by rw [uA HS]; exact hk), uA HS]; exact hkl
   have d0 : x1.cell? ⟨w.heap.size, k, none⟩ = some (.int .i64 ((prtI (secs l) k).getD k 0)) := by rw [hB1.cell]; simp [List.getD_eq_getElem?_getD, hol]
   have f0 := hB1.frozen k
   have XR := uB ((uA XI).step (by rw [uA HS]; exact hkl) hb1)
   rw [hse] at XR
   generalize (prtI (secs l) k).getD k 0 = old at *
   have HX := uB hx1
   rw [hx1] at d0 f0 XR
   have i0 : 0 <= (k : Int) := by omega
   have i1 : (k : Int) < (n : Int) := by omega
   clear hx1 hb1 hB1 hse hz ht XI HX hkl2
   go_wp2
   go_roundw
   case rel => exact ⟨k + 1, by omega, by go_num, uA XR⟩
   case measure => simp [intOf]; omega
  ·have hk' : k = n := by omega
   subst hk'
   clear hkl
   go_wp2
   go_ret
   refine ⟨rfl, ?_, (uA XI).2⟩
   have := (uA XI).1
   rw [prtI, List.take_of_length_le (by rw [uA HS]; exact Nat.le_refl _), uA HS] at this
   simpa using this
theorem zDY (i : Nat) (hi : i <= 1000000) (w : World) : Calls Tryz.prog 186 #[.int .i64 (i : Int)] w fun e w' => e = .returned (.int .i64 ((2 + i : Nat) : Int)) /\ w' = w := by
 have hw : IntKind.i64.wrap (2 + (i : Int)) = 2 + (i : Int) := zAB _ (by omega) (by omega)
 have e : ((2 + i : Nat) : Int) = 2 + (i : Int) := by omega
 rw [e]
 clear e
 go_enter Tryz.func186, Tryz.ntmps186
 go_wp2
 go_ret
 exact ⟨rfl, rfl⟩
theorem zGc (w : World) (p : Option Addr) (c : Nat) (l : List Wr1) (n : Nat) (hn : n = l.length) (hl : Wls w p l) (hz : l.length <= 1000000) :
  Calls Tryz.prog 118 #[.slice p n c] w fun e w' => e = .returned (.slice (some ⟨w.heap.size, 0, none⟩) n n) /\ Blk w' w.heap.size (wrv (recL l)).toArray 112 /\ Below w.heap.size w w' := by
 have hsl : (recL l).length = n := by rw [hn, zBu]
 have hmk := zDW n (by omega) w
 have X0 := uB (show ReI w (recL l) 0 (w.alloc (.cells (wrv (List.replicate n wr0)).toArray 112)) from ⟨by simpa [prtW, hsl] using Blk.new w 112 (wrv (List.replicate n wr0)).toArray, (Below.refl _ _).alloc (Nat.le_refl _) _⟩)
 generalize hx2 : w.alloc (.cells (wrv (List.replicate n wr0)).toArray 112) = x2 at *
 clear hx2
 have HL := uB hl
 have HN := uB hn
 have HS := uB hsl
 have hzn : n <= 1000000 := by omega
 clear hl hn hsl hz
 go_enter Tryz.func118, Tryz.ntmps118
 go_wp2
 clear hmk
 go_loopw [11] (fun i wr => ∃ k : Nat, k <= n /\ i = .int .i64 (k : Int) /\ ReI w (recL l) k wr) (fun i _ => n - (intOf i).toNat)
 case atStart => exact ⟨0, by omega, rfl, uA X0⟩
 case round =>
  obtain ⟨k, hk, rfl, hI⟩ := hrel
  obtain ⟨wo, rfl⟩ : ∃ wo, wo = wr := ⟨_, rfl⟩
  have XI := uB hI
  clear hI X0
  by_cases hkl : k < n
  ·have hkl2 : k < l.length := by rw [<- uA HN]; exact hkl
   obtain ⟨g, o, rfl, hg, c0, c1⟩ := (uA HL).below (uA XI).2 k hkl2
   have hse := zJP l k hkl2
   obtain ⟨z, hz⟩ : ∃ z, (l.getD k wr0).1 = z := ⟨_, rfl⟩
   obtain ⟨t, ht⟩ : ∃ t, (l.getD k wr0).2 = t := ⟨_, rfl⟩
   rw [hz] at c0
   rw [ht] at c1 hse
   have hld := zEE wo g (o + k * 2) z t c0 c1
   obtain ⟨x1, hx1⟩ : ∃ x, x = wo.alloc (Obj.cells #[.int .i64 z, .string t] 112) := ⟨_, rfl⟩
   have hb1 : Below wo.heap.size wo x1 := by rw [hx1]; exact (Below.refl _ wo).alloc (Nat.le_refl _) _
   have hB1 := (uA XI).1.below hb1 (uA XI).1.lt
   have hol : k < (prtW (recL l) k).length := by rw [zF0 _ _ (by rw [uA HS]; exact hk), uA HS]; exact hkl
   obtain ⟨w0, w1⟩ := zDX _ k hol
   have d0 : x1.cell? ⟨w.heap.size, k * 2, none⟩ = some (.int .i64 ((prtW (recL l) k).getD k wr0).1) := by rw [hB1.cell]; simpa using w0
   have d1 : x1.cell? ⟨w.heap.size, k * 2 + 1, none⟩ = some (.string ((prtW (recL l) k).getD k wr0).2) := by rw [hB1.cell]; simpa using w1
   have f0 := hB1.frozen (k * 2)
   have f1 := hB1.frozen (k * 2 + 1)
   have XR := uB ((uA XI).step (by rw [uA HS]; exact hkl) hb1)
   rw [hse] at XR
   generalize (prtW (recL l) k).getD k wr0 = old at *
   obtain ⟨oz, ot⟩ := old
   have XC := uB (zDY k (by omega))
   have OB := uB (show Blk x1 wo.heap.size #[.int .i64 z, .string t] 112 from by rw [hx1]; exact Blk.new wo _ _)
   have hnb : w.heap.size ≠ wo.heap.size := by have := (uA XI).1.lt; omega
   have HX := uB hx1
   have i0 : 0 <= (k : Int) := by omega
   have i1 : (k : Int) < (n : Int) := by omega
   clear hb1 hB1 hse hz ht XI HX hkl2 w0 w1 hol
   go_wp2_with fail
   rw [<- hx1]
   replace hx1 := uB hx1
   clear hld c0 c1
   generalize hgs : wo.heap.size = ob at *
   clear hgs
   have q1 : x1.cell? ⟨ob, 1, none⟩ = some (.string t) := by rw [(uA OB).cell 1]; rfl
   refine wp_region_held_drew (S := fun w' => w'.cell? ⟨ob, 1, none⟩ = some (.string t)) (by kernel_rfl) q1 ?_
   intro hS
   refine yL 0 (some 16) (.slice (some ⟨w.heap.size, 0, none⟩) n n) rfl (fun w hSw => by have q2 := hSw; go_simp) hS ?_
   refine yL 1 (some 17) (.int .i64 (k : Int)) rfl (fun w hSw => by have q2 := hSw; go_simp) hS ?_
   refine yL 2 (some 18) (.int .i64 (k : Int)) rfl (fun w hSw => by have q2 := hSw; go_simp) hS ?_
   refine yL 4 (some 20) (.pointer (some ⟨ob, 1, none⟩)) rfl (fun w hSw => by have q2 := hSw; go_simp) hS ?_
   refine yL 5 (some 21) (.string t) rfl (fun w hSw => by have q2 := hSw; go_simp) hS ?_
   refine wpAnyH_ready (rs := [3]) (by kernel_rfl) (by simp) ?_
   refine AllReadyH.cons rfl (fun K hK => ?_) AllReadyH.nil
   simp only [List.getElem_toArray, List.getElem_cons_succ, List.getElem_cons_zero]
   go_simp
   refine (uA XC _).mono ?_
   rintro ev x4 ⟨rfl, rfl⟩
   refine hK.out _ _ q1 (fun hS => ?_)
   clear hK K
   refine yL 6 (some 22) (.agg #[.int .i64 ((2 + k : Nat) : Int), .string t]) rfl (fun w hSw => by have q2 := hSw; go_simp) hS ?_
   refine yL 7 (some 23) (.pointer (some ⟨w.heap.size, k * 2, none⟩)) rfl (fun w hSw => by have q2 := hSw; go_simp) hS ?_
   refine wpAnyH_ready (rs := [8]) (by kernel_rfl) (by simp) ?_
   refine AllReadyH.cons rfl (fun K hK => ?_) AllReadyH.nil
   simp only [List.getElem_toArray, List.getElem_cons_succ, List.getElem_cons_zero]
   go_simp
   have q5 : ((x1.setCell ⟨w.heap.size, k * 2, none⟩ (.int .i64 (2 + (k : Int)))).setCell ⟨w.heap.size, k * 2 + 1, none⟩ (.string t)).drew.cell? ⟨ob, 1, none⟩ = some (.string t) := by
    have := (((uA OB).other ⟨w.heap.size, k * 2, none⟩ (.int .i64 (2 + (k : Int))) hnb).other ⟨w.heap.size, k * 2 + 1, none⟩ (.string t) hnb).cell 1
    exact this
   refine hK.out _ _ q5 (fun hS => ?_)
   clear hK K
   refine wpAnyH_done (by kernel_rfl) ?_ _
   have XS := uB (show ReI w (recL l) (k + 1) ((x1.setCell ⟨w.heap.size, k * 2, none⟩ (.int .i64 (2 + (k : Int)))).setCell ⟨w.heap.size, k * 2 + 1, none⟩ (.string t)).drew from by
    have := uA XR
    rw [show ((2 + k : Nat) : Int) = 2 + (k : Int) by omega] at this
    exact ⟨this.1, this.2.drew⟩)
   clear XR d0 d1 f0 f1 q1 q5 OB hS
   go_wp2
   go_roundw
   case rel => exact ⟨k + 1, by omega, by go_num, uA XS⟩
   case measure => simp [intOf]; omega
  ·have hk' : k = n := by omega
   subst hk'
   clear hkl
   go_wp2
   go_ret
   refine ⟨rfl, ?_, (uA XI).2⟩
   have := (uA XI).1
   rw [prtW, List.take_of_length_le (by rw [uA HS]; exact Nat.le_refl _), uA HS] at this
   simpa using this
end
section
open Go.RowKit
def TWr (w : World) (l : List Int) (wr : World) : Prop := ∃ v, Wtr wr w.heap.size w.heap.size v l 0 /\ Below w.heap.size w wr
theorem TWr.start {w x1 : World} (hR : Wtr x1 w.heap.size w.heap.size (.slice none 0 0) [] 0) (hB : Below w.heap.size w x1) : TWr w [] x1 := ⟨_, hR, hB⟩
theorem TWr.bel {w wr : World} {l : List Int} (h : TWr w l wr) : Below w.heap.size w wr := by obtain ⟨_, _, h⟩ := h; exact h
theorem TWr.below {w wr w2 : World} {l : List Int} (h : TWr w l wr) (hB : Below wr.heap.size wr w2) : TWr w l w2 := by
 obtain ⟨v, h1, h2⟩ := h
 exact ⟨v, h1.only (Only.of_below (P := fun _ => False) hB) (fun _ _ q => q), h2.trans (hB.mono h2.size)⟩
theorem TWr.keep {w x x3 : World} {v : Value} {l l' : List Int} {e : Int} (h : Wtr x w.heap.size w.heap.size v l e) (hb : Below w.heap.size w x) (hP : WPost w.heap.size w.heap.size v l' 0 x x3) : TWr w l' x3 := by
 obtain ⟨v', h1, h2, _⟩ := hP
 refine ⟨v', h1, hb.trans (h2.below hb.size (fun k hk q => ?_))⟩
 rcases q with q | q
 ·omega
 ·have := (h.2.1.lt k q).1
  omega
theorem TWr.num {w W wr : World} {l : List Int} (h : TWr w l W) (hB : Below W.heap.size W wr) (N : Nat) (h1 : 1 <= N) (h8 : N <= 8) (L : List Int) (hf : ∀ z ∈ L, zAJ z N) (p : Option Addr) (n c : Nat) (hn : n = L.length) (hL : Inl wr p L) (hp : ∀ k o, p = some ⟨k, o, none⟩ -> W.heap.size <= k ∨ k < w.heap.size) (hsz : l.length + 8 * L.length <= 140737488355328) (z : Int) (hz : z = (N : Int)) :
  Calls Tryz.prog 167 #[.pointer (some ⟨w.heap.size, 0, none⟩), .int .i64 z, .slice p n c] wr fun ev w' => ev = .returned (.tuple #[]) /\ TWr w (l ++ outN N L) w' := by
 subst hn hz
 obtain ⟨v, g1, g2⟩ := h
 have hw : Wtr wr w.heap.size w.heap.size v l 0 := g1.only (Only.of_below (P := fun _ => False) hB) (fun _ _ q => q)
 have hb : Below w.heap.size w wr := g2.trans (hB.mono g2.size)
 have hE : errN (N : Int) L = 0 := by rw [errN, if_neg (by omega), Int.toNat_natCast, if_pos hf]
 have hF : ∀ k o, p = some ⟨k, o, none⟩ -> ¬ Fp w.heap.size v k := fun k o e q => by
  have := hp k o e
  rcases q with rfl | q
  ·have := g1.lt; omega
  ·have := (g1.2.1.lt k q); omega
 have hq := zJY wr w.heap.size w.heap.size v l 0 hw hb.size (N : Int) L p c (by
  rcases hL with q | ⟨lb, lo, e, q1, q2⟩
  ·exact .inl q
  ·exact .inr ⟨lb, lo, e, q1, hF lb lo e, q2⟩) hsz
 rw [hE, Int.toNat_natCast, zB5] at hq
 refine hq.mono ?_
 rintro ev w' ⟨rfl, hP⟩
 exact ⟨rfl, TWr.keep hw hb hP⟩
theorem TWr.done {w wr : World} {l : List Int} (h : TWr w l wr) :
  Calls Tryz.prog 168 #[.pointer (some ⟨w.heap.size, 0, none⟩)] wr fun ev w' => ev = .returned (.tuple #[.string (strOfNums l), .int .i64 0]) /\ Below wr.heap.size wr w' := by
 obtain ⟨v, hw, hb⟩ := h
 exact (zIF wr w.heap.size w.heap.size v l 0 hw).mono (fun ev w' h => h)
theorem zKB (x : World) (z : Int) : Inl (x.alloc (Obj.cells #[.int .i64 z] 3)) (some ⟨x.heap.size, 0, none⟩) [z] := by
 refine .inr ⟨_, 0, rfl, (Blk.new x 3 #[.int .i64 z]).lt, fun j hj => ?_⟩
 obtain rfl : j = 0 := by simpa using hj
 rw [Nat.zero_add, (Blk.new x 3 #[.int .i64 z]).cell 0]
 rfl
end
section
open Go.RowKit
def zBT (H : List Int) : List Int := if H.length = 0 then [0] else [1] ++ outN 4 H
def zAq (n : Nat) (H : List Int) : ByteArray := strOfNums (zCH 2 (n : Int) (zBT H))
theorem num1 (z : Int) (h0 : 0 <= z) (h1 : z < 256) : numB z 1 = [z] := by
 simp [numB]
 omega
theorem zEB (z : Int) (h0 : 0 <= z) (h1 : z < 256) : zAJ z 1 := ⟨h0, by
 have e : (2 : Int) ^ (8 * 1) = 256 := by decide
 rw [e]
 omega⟩
theorem zFb (z : Int) (h0 : 0 <= z) (h1 : z < 4294967296) : zAJ z 4 := ⟨h0, by
 have e : (2 : Int) ^ (8 * 4) = 4294967296 := by decide
 rw [e]
 omega⟩
theorem zFS {l : List Int} (h : ∀ x ∈ l, 0 <= x /\ x < 256) : Bytes l := by
 intro j
 rw [List.getD_eq_getElem?_getD]
 cases e : l[j]? with
 | none => simp
 | some x => exact h x (List.mem_of_getElem? e)
theorem zGM (v : Int) (k : Nat) : ∀ x ∈ numB v k, 0 <= x /\ x < 256 := fun x hx => by
 obtain ⟨j, hj, e⟩ := List.getElem_of_mem hx
 have := zA9 v k j
 rw [List.getD_eq_getElem?_getD, List.getElem?_eq_getElem hj, e] at this
 simpa using this
theorem zCM (H : List Int) : Bytes (zBT H) := zFS (fun x hx => by
 unfold zBT at hx
 split at hx
 ·simp at hx; omega
 ·rcases List.mem_append.1 hx with hx | hx
  ·simp at hx; omega
  ·obtain ⟨n, _, h⟩ := List.mem_flatMap.1 hx
   exact zGM n 4 x h)
theorem zDp (H : List Int) (h : H.length <= 60) : (zBT H).length <= 244 := by
 unfold zBT
 split
 ·simp
 ·rw [List.length_append, zDz]
  simp
  omega
theorem zBG (n : Nat) (H : List Int) (h : H.length <= 60) : (zAq n H).size = 256 := by
 rw [zAq, strOfNums_size, zGY _ _ _ (zDp H h)]
theorem zIR (z : Int) (h0 : 0 <= z) (h1 : z < 256) : [] ++ outN 1 [z] = [z] := by
 rw [List.nil_append]
 show numB z 1 ++ [] = [z]
 rw [List.append_nil, num1 z h0 h1]
theorem zG0 : zBT [] = [0] := by simp [zBT]
theorem zIA (n : Nat) (H : List Int) (bd : ByteArray) (h : strOfNums (zBT H) = bd) : strOfNums (zCH 2 (n : Int) (nums bd)) = zAq n H := by
 subst h
 unfold zAq
 rw [zAd _ (zCM H)]
theorem zEW (n : Int) (p : Option Addr) (k c : Nat) (w : World) :
  Calls Tryz.prog 166 #[.agg #[.int .u32 n, .slice p k c]] w fun e w' => e = .returned (.bool (decide (0 < k))) /\ Below w.heap.size w w' := by
 go_enter Tryz.func166, Tryz.ntmps166
 go_wp2
 go_ret
 exact ⟨rfl, (Below.refl _ _).alloc (Nat.le_refl _) _⟩
theorem zBD (n : Int) (w : World) :
  Calls Tryz.prog 90 #[.int .u32 n] w fun e w' => e = .returned (.agg #[.int .u32 n, .slice none 0 0]) /\ Below w.heap.size w w' := by
 go_enter Tryz.func90, Tryz.ntmps90
 go_wp2
 have B := Blk.new w 151 #[.int .u32 n, .slice none 0 0]
 have hld := zAK 151 _ B Tryz.underlying151 rfl (by kernel_rfl)
 refine bodyPost_ret (v := .agg #[.int .u32 n, .slice none 0 0]) (zAv rfl _ _ _ ⟨w.heap.size, 0, none⟩ rfl _ hld) rfl ⟨rfl, ?_⟩
 exact (Below.refl _ w).alloc (Nat.le_refl _) _
theorem zHl (n : Int) (w : World) (p : Option Addr) (c : Nat) (l : List Wr1) (m : Nat) (hm : m = l.length) (hl : Wls w p l) (hz : l.length <= 1000000) :
  Calls Tryz.prog 119 #[.int .u32 n, .slice p m c] w fun e w' => e = .returned (.agg #[.int .u32 n, .slice (some ⟨w.heap.size + 1, 0, none⟩) m m]) /\ Blk w' (w.heap.size + 1) ((secs l).map (Value.int .i64)).toArray 3 /\ Below w.heap.size w w' := by
 obtain ⟨x0, hx0⟩ : ∃ x, x = w.alloc (Obj.cells #[.int .u32 0, .slice none 0 0] 151) := ⟨_, rfl⟩
 have hs0 : x0.heap.size = w.heap.size + 1 := by rw [hx0]; simp
 have hb0 : Below w.heap.size w x0 := by rw [hx0]; exact (Below.refl _ w).alloc (Nat.le_refl _) _
 have B0 : Blk x0 w.heap.size #[.int .u32 0, .slice none 0 0] 151 := by rw [hx0]; exact Blk.new w _ _
 have HC := uB (zDy x0 p c l m hm (hl.below hb0) hz)
 have HX := uB (And.intro hs0 (And.intro hb0 B0))
 clear hs0 hb0 B0 hl hz hm
 go_enter Tryz.func119, Tryz.ntmps119
 go_wp2_with fail
 rw [<- hx0]
 replace hx0 := uB hx0
 refine (uA HC).mono ?_
 rintro e x1 ⟨rfl, hB1, hb1⟩
 have hs1 := (uA HX).1
 have hlt : w.heap.size < x0.heap.size := by omega
 have BH := (uA HX).2.2.below hb1 hlt
 have q0 : x1.cell? ⟨w.heap.size, 0, none⟩ = some (.int .u32 0) := BH.cell 0
 have q1 : x1.cell? ⟨w.heap.size, 1, none⟩ = some (.slice none 0 0) := BH.cell 1
 have p0 := BH.frozen 0
 have p1 := BH.frozen 1
 have HB := uB (And.intro BH (And.intro hB1 hb1))
 have hg : x0.heap.size = w.heap.size + 1 := hs1
 have HG := uB hg
 rw [hg]
 clear BH hB1 hb1 hs1 hlt hg
 go_wp2
 have B := ((uA HB).1.set 0 (.int .u32 n)).set 1 (.slice (some ⟨w.heap.size + 1, 0, none⟩) m m)
 have hld := zAK 151 _ B Tryz.underlying151 rfl (by kernel_rfl)
 refine bodyPost_ret (v := .agg #[.int .u32 n, .slice (some ⟨w.heap.size + 1, 0, none⟩) m m]) (zAv rfl _ _ _ ⟨w.heap.size, 0, none⟩ rfl _ hld) rfl ⟨rfl, ?_, ?_⟩
 ·have := (uA HB).2.1
  rw [uA HG] at this
  exact (this.other _ _ (by show w.heap.size ≠ w.heap.size + 1; omega)).other _ _ (by show w.heap.size ≠ w.heap.size + 1; omega)
 ·exact (((uA HX).2.1.trans ((uA HB).2.2.mono (uA HX).2.1.size)).setCell (Nat.le_refl _) _).setCell (Nat.le_refl _) _
theorem zCm (n : Nat) (hn : n < 4294967296) (p : Option Addr) (c : Nat) (w : World) :
  Calls Tryz.prog 91 #[.agg #[.int .u32 (n : Int), .slice p 0 c]] w fun e w' => e = .returned (.agg #[.int .i64 1, .string (zAq n [])]) /\ Below w.heap.size w w' := by
 obtain ⟨x0, hx0⟩ : ∃ x, x = (w.alloc (Obj.cells #[.int .u32 (n : Int), .slice p 0 c] 151)).alloc (Obj.cells #[.int .i64 0, .string ⟨#[]⟩] 112) := ⟨_, rfl⟩
 have hs0 : x0.heap.size = w.heap.size + 1 + 1 := by rw [hx0]; simp
 have hb0 : Below w.heap.size w x0 := by rw [hx0]; exact ((Below.refl _ w).alloc (Nat.le_refl _) _).alloc (by simp) _
 have BH0 : Blk x0 w.heap.size #[.int .u32 (n : Int), .slice p 0 c] 151 := by rw [hx0]; exact (Blk.new w _ _).alloc _
 have BW0 : Blk x0 (w.heap.size + 1) #[.int .i64 0, .string ⟨#[]⟩] 112 := by
  rw [hx0]
  have := Blk.new (w.alloc (Obj.cells #[.int .u32 (n : Int), .slice p 0 c] 151)) 112 #[.int .i64 0, .string ⟨#[]⟩]
  simpa using this
 have HX := uB (And.intro hs0 (And.intro hb0 (And.intro BH0 BW0)))
 have HNW := uB (zBE x0)
 have HIS := uB (fun W => zEW (n : Int) p 0 c W)
 have HMK := uB (fun (W : World) => zHg zCv 2 (n : Int) (strOfNums (zBT [])) (zEB 2 (by decide) (by decide)) (zFb _ (by omega) (by omega)) (by rw [strOfNums_size]; exact zDp [] (by simp)) W)
 obtain ⟨bd, hbd⟩ : ∃ bd, strOfNums (zBT []) = bd := ⟨_, rfl⟩
 have hhb := zIA n [] bd hbd
 rw [hbd, hhb] at HMK
 have HBD := uB hbd
 generalize zAq n [] = hb at *
 clear hs0 hb0 BH0 BW0 hbd hhb
 go_enter Tryz.func91, Tryz.ntmps91
 go_wp2_with fail
 rw [<- hx0]
 replace hx0 := uB hx0
 refine (uA HNW).mono ?_
 rintro e x1 ⟨rfl, hR1, hB1, hz1⟩
 have X1 := uB (TWr.start hR1 hB1)
 clear hR1 hB1 HNW hz1
 have hl0 : w.heap.size < x0.heap.size /\ w.heap.size + 1 < x0.heap.size := by have := (uA HX).1; omega
 have HL0 := uB hl0
 have BH1 := (uA HX).2.2.1.below (uA X1).bel hl0.1
 have c0 : x1.cell? ⟨w.heap.size, 0, none⟩ = some (.int .u32 (n : Int)) := BH1.cell 0
 have c1 : x1.cell? ⟨w.heap.size, 1, none⟩ = some (.slice p 0 c) := BH1.cell 1
 clear BH1 hl0
 go_wp2_with fail
 refine (uA HIS _).mono ?_
 rintro e x2 ⟨rfl, hB2⟩
 have X2 := uB ((uA X1).below hB2)
 clear hB2 X1 c0 c1
 go_wp2_with fail
 refine ((uA X2).num ((Below.refl _ x2).alloc (Nat.le_refl _) _) 1 (by decide) (by decide) [0] (fun z hz => by simp at hz; subst hz; exact zEB 0 (by decide) (by decide)) _ 1 1 rfl (zKB x2 0) (fun k o q => by cases q; exact .inl (Nat.le_refl _)) (by decide) 1 rfl).mono ?_
 rintro e x4 ⟨rfl, h4⟩
 rw [zIR 0 (by decide) (by decide), <- zG0] at h4
 have X4 := uB h4
 clear h4 X2
 go_wp2_with fail
 refine ((uA X4).done).mono ?_
 rintro e x5 ⟨rfl, hB5⟩
 rw [uA HBD]
 have X5 := uB ((uA X4).below hB5)
 clear hB5 X4
 have BH5 := (uA HX).2.2.1.below (uA X5).bel (uA HL0).1
 have c0 : x5.cell? ⟨w.heap.size, 0, none⟩ = some (.int .u32 (n : Int)) := BH5.cell 0
 have hcv : IntKind.i64.wrap (n : Int) = (n : Int) := zAB _ (by omega) (by omega)
 clear BH5
 go_wp2_with fail
 refine (uA HMK _).mono ?_
 rintro e x6 ⟨rfl, hB6⟩
 have X6 := uB ((uA X5).below hB6)
 clear hB6 X5 c0
 have BW6 := (uA HX).2.2.2.below (uA X6).bel (uA HL0).2
 have q0 : x6.cell? ⟨w.heap.size + 1, 0, none⟩ = some (.int .i64 0) := BW6.cell 0
 have q1 : x6.cell? ⟨w.heap.size + 1, 1, none⟩ = some (.string ⟨#[]⟩) := BW6.cell 1
 have p0 := BW6.frozen 0
 have p1 := BW6.frozen 1
 have HB := uB BW6
 clear BW6
 go_wp2
 have B := ((uA HB).set 0 (.int .i64 1)).set 1 (.string hb)
 have hld := zAK 112 _ B Tryz.underlying112 rfl (by kernel_rfl)
 refine bodyPost_ret (v := .agg #[.int .i64 1, .string hb]) (zAv rfl _ _ _ ⟨w.heap.size + 1, 0, none⟩ rfl _ hld) rfl ⟨rfl, ?_⟩
 exact (((uA HX).2.1.trans ((uA X6).bel.mono (uA HX).2.1.size)).setCell (by show w.heap.size <= w.heap.size + 1; omega) _).setCell (by show w.heap.size <= w.heap.size + 1; omega) _
theorem zJc (n : Nat) (hn : n < 4294967296) (p : Option Addr) (c : Nat) (w : World) (H : List Int) (m : Nat) (hm : m = H.length) (h0 : 0 < m) (hH : Inl w p H) (hlt : ∀ k o, p = some ⟨k, o, none⟩ -> k < w.heap.size) (hf : ∀ z ∈ H, zAJ z 4) (hl : H.length <= 60) :
  Calls Tryz.prog 91 #[.agg #[.int .u32 (n : Int), .slice p m c]] w fun e w' => e = .returned (.agg #[.int .i64 1, .string (zAq n H)]) /\ Below w.heap.size w w' := by
 obtain ⟨x0, hx0⟩ : ∃ x, x = (w.alloc (Obj.cells #[.int .u32 (n : Int), .slice p m c] 151)).alloc (Obj.cells #[.int .i64 0, .string ⟨#[]⟩] 112) := ⟨_, rfl⟩
 have hs0 : x0.heap.size = w.heap.size + 1 + 1 := by rw [hx0]; simp
 have hb0 : Below w.heap.size w x0 := by rw [hx0]; exact ((Below.refl _ w).alloc (Nat.le_refl _) _).alloc (by simp) _
 have BH0 : Blk x0 w.heap.size #[.int .u32 (n : Int), .slice p m c] 151 := by rw [hx0]; exact (Blk.new w _ _).alloc _
 have BW0 : Blk x0 (w.heap.size + 1) #[.int .i64 0, .string ⟨#[]⟩] 112 := by
  rw [hx0]
  have := Blk.new (w.alloc (Obj.cells #[.int .u32 (n : Int), .slice p m c] 151)) 112 #[.int .i64 0, .string ⟨#[]⟩]
  simpa using this
 have HX := uB (And.intro hs0 (And.intro hb0 (And.intro BH0 BW0)))
 have HNW := uB (zBE x0)
 have HIS := uB (fun W => zEW (n : Int) p m c W)
 have HMK := uB (fun (W : World) => zHg zCv 2 (n : Int) (strOfNums (zBT H)) (zEB 2 (by decide) (by decide)) (zFb _ (by omega) (by omega)) (by rw [strOfNums_size]; exact zDp H hl) W)
 obtain ⟨bd, hbd⟩ : ∃ bd, strOfNums (zBT H) = bd := ⟨_, rfl⟩
 have hhb := zIA n H bd hbd
 rw [hbd, hhb] at HMK
 have HBD := uB hbd
 generalize zAq n H = hb at *
 clear hs0 hb0 BH0 BW0 hbd hhb
 have hm0 : (decide (0 < m)) = true := by simp; omega
 rw [hm0] at HIS
 have HHH := uB (And.intro hH (And.intro hlt (And.intro hf (And.intro hl hm))))
 clear hH hlt hf hl hm0 hm
 go_enter Tryz.func91, Tryz.ntmps91
 go_wp2_with fail
 rw [<- hx0]
 replace hx0 := uB hx0
 refine (uA HNW).mono ?_
 rintro e x1 ⟨rfl, hR1, hB1, hz1⟩
 have X1 := uB (TWr.start hR1 hB1)
 clear hR1 hB1 HNW hz1
 have hl0 : w.heap.size < x0.heap.size /\ w.heap.size + 1 < x0.heap.size := by have := (uA HX).1; omega
 have HL0 := uB hl0
 have BH1 := (uA HX).2.2.1.below (uA X1).bel hl0.1
 have c0 : x1.cell? ⟨w.heap.size, 0, none⟩ = some (.int .u32 (n : Int)) := BH1.cell 0
 have c1 : x1.cell? ⟨w.heap.size, 1, none⟩ = some (.slice p m c) := BH1.cell 1
 clear BH1 hl0
 go_wp2_with fail
 refine (uA HIS _).mono ?_
 rintro e x2 ⟨rfl, hB2⟩
 have X2 := uB ((uA X1).below hB2)
 clear hB2 X1 c0 c1
 go_wp2_with fail
 refine ((uA X2).num ((Below.refl _ x2).alloc (Nat.le_refl _) _) 1 (by decide) (by decide) [1] (fun z hz => by simp at hz; subst hz; exact zEB 1 (by decide) (by decide)) _ 1 1 rfl (zKB x2 1) (fun k o q => by cases q; exact .inl (Nat.le_refl _)) (by decide) 1 rfl).mono ?_
 rintro e x3 ⟨rfl, h3⟩
 rw [zIR 1 (by decide) (by decide)] at h3
 have X3 := uB h3
 clear h3 X2
 have BH3 := (uA HX).2.2.1.below (uA X3).bel (uA HL0).1
 have c1 : x3.cell? ⟨w.heap.size, 1, none⟩ = some (.slice p m c) := BH3.cell 1
 have hI3 : Inl x3 p H := (uA HHH).1.below ((uA HX).2.1.trans ((uA X3).bel.mono (uA HX).2.1.size)) (fun _ => (uA HHH).2.1)
 have HI3 := uB hI3
 clear BH3 hI3
 go_wp2_with fail
 refine ((uA X3).num (Below.refl _ x3) 4 (by decide) (by decide) H (uA HHH).2.2.1 p m c (uA HHH).2.2.2.2 (uA HI3) (fun k o q => .inr (by have := (uA HHH).2.1 k o q; have := (uA HL0).1; omega)) (by have := (uA HHH).2.2.2.1; show 1 + 8 * H.length <= _; omega) 4 rfl).mono ?_
 rintro e x4 ⟨rfl, h4⟩
 have X4 := uB (show TWr x0 (zBT H) x4 from by
  rw [zBT, if_neg (by have := (uA HHH).2.2.2.2; omega)]
  exact h4)
 clear h4 X3 c1 HI3
 go_wp2_with fail
 refine ((uA X4).done).mono ?_
 rintro e x5 ⟨rfl, hB5⟩
 rw [uA HBD]
 have X5 := uB ((uA X4).below hB5)
 clear hB5 X4
 have BH5 := (uA HX).2.2.1.below (uA X5).bel (uA HL0).1
 have c0 : x5.cell? ⟨w.heap.size, 0, none⟩ = some (.int .u32 (n : Int)) := BH5.cell 0
 have hcv : IntKind.i64.wrap (n : Int) = (n : Int) := zAB _ (by omega) (by omega)
 clear BH5
 go_wp2_with fail
 refine (uA HMK _).mono ?_
 rintro e x6 ⟨rfl, hB6⟩
 have X6 := uB ((uA X5).below hB6)
 clear hB6 X5 c0
 have BW6 := (uA HX).2.2.2.below (uA X6).bel (uA HL0).2
 have q0 : x6.cell? ⟨w.heap.size + 1, 0, none⟩ = some (.int .i64 0) := BW6.cell 0
 have q1 : x6.cell? ⟨w.heap.size + 1, 1, none⟩ = some (.string ⟨#[]⟩) := BW6.cell 1
 have p0 := BW6.frozen 0
 have p1 := BW6.frozen 1
 have HB := uB BW6
 clear BW6
 go_wp2
 have B := ((uA HB).set 0 (.int .i64 1)).set 1 (.string hb)
 have hld := zAK 112 _ B Tryz.underlying112 rfl (by kernel_rfl)
 refine bodyPost_ret (v := .agg #[.int .i64 1, .string hb]) (zAv rfl _ _ _ ⟨w.heap.size + 1, 0, none⟩ rfl _ hld) rfl ⟨rfl, ?_⟩
 exact (((uA HX).2.1.trans ((uA X6).bel.mono (uA HX).2.1.size)).setCell (by show w.heap.size <= w.heap.size + 1; omega) _).setCell (by show w.heap.size <= w.heap.size + 1; omega) _
end
end Go.Proofs.YtdpnbemagiekoaaGreatDoor
