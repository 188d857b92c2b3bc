import Derived.Test.YtiellebdliifdaaGreatDoorMt07
import Derived.Test.YtiellebdliifdaaGreatDoorMt04
import Derived.Laws.BytesArg
import Derived.Laws.Tables
import Derived.Deep.MidRow
import Derived.BigQuiet
import Derived.WalkMore
namespace Go.Proofs.YtiellebdliifdaaGreatDoor
open Go.RowKit
theorem num_step (k : Nat) (h1 : 1 ≤ k) (h8 : k ≤ 8) (A : Int) (hf : fitsP A k) (hA : A ≤ 9223372036854775807) (L : List Int) (hL : Bytes L) (t : Int) :
  numE (k : Int) (strOfNums (numB A k ++ L)) = 0 ∧ numV (k : Int) (strOfNums (numB A k ++ L)) = A ∧ stepR ⟨strOfNums (numB A k ++ L), t, 0⟩ (numE (k : Int) (strOfNums (numB A k ++ L))) ((k : Int).toNat) = ⟨strOfNums L, t + (k : Int), 0⟩ := by
 have hb : Bytes (numB A k ++ L) := bytes_app (numB_bytes A k) hL
 have hn : nums (strOfNums (numB A k ++ L)) = numB A k ++ L := nums_strOfNums _ hb
 have hs : (strOfNums (numB A k ++ L)).size = k + L.length := by rw [strOfNums_size, List.length_append, numB_len]
 have ht : (nums (strOfNums (numB A k ++ L))).take k = numB A k := by rw [hn, List.take_left' (numB_len A k)]
 have hE : numE (k : Int) (strOfNums (numB A k ++ L)) = 0 := by
  rw [numE, if_neg (by omega), if_neg (by omega), Int.toNat_natCast, ht, be_numB A k hf, if_neg (by omega)]
 refine ⟨hE, ?_, ?_⟩
 ·rw [numV, if_pos hE, Int.toNat_natCast, ht, be_numB A k hf]
 ·unfold stepR
  rw [hE, Int.toNat_natCast]
  simp only [if_true, rRest, rTak]
  congr 1
  apply nums_inj
  rw [nums_tail, hn, nums_strOfNums L hL, List.drop_left' (numB_len A k)]
theorem wnumK {w wr : World} {base b : Nat} {v : Value} {l : List Int} (h : WPost base b v l 0 w wr) (hb : base ≤ w.heap.size) (k : Nat) (h1 : 1 ≤ k) (h8 : k ≤ 8) (n : Int) (hf : fitsP n k) (hsz : l.length ≤ 1000) (K : Int) (hK : K = (k : Int)) (l' : List Int) (hl : l ++ numB n k = l') :
  Calls Tryz.prog 103 #[.pointer (some ⟨b, 0, none⟩), .int .i64 K, .slice (some ⟨wr.heap.size, 0, none⟩) 1 1] (wr.alloc (Obj.cells #[.int .i64 n] 3)) fun ev w' => ev = .returned (.tuple #[]) ∧ WPost base b v l' 0 w w' := by
 subst hK
 refine (numK h hb (k : Int) [n] #[.int .i64 n] rfl (by simp; omega) 1 rfl).mono ?_
 rintro ev w' ⟨rfl, hp⟩
 have hE : errN (k : Int) [n] = 0 := by
  rw [errN, if_neg (by omega), if_pos]
  intro m hm
  simp at hm
  subst hm
  exact hf
 rw [hE, wl_good, we_good] at hp
 have ho : outN ((k : Int).toNat) [n] = numB n k := by simp [outN]
 rw [ho, hl] at hp
 exact ⟨rfl, hp⟩
theorem rnumK {w : World} {b : Nat} {k : Nat} {A : Int} {L : List Int} {t : Int} (h : Rds w b ⟨strOfNums (numB A k ++ L), t, 0⟩) (hg : ETy w) (h1 : 1 ≤ k) (h8 : k ≤ 8) (hf : fitsP A k) (hA : A ≤ 9223372036854775807) (hL : Bytes L) (ht : 0 ≤ t) (hs : t + ((k + L.length : Nat) : Int) ≤ 9223372036854775807) (K : Int) (hK : K = (k : Int)) (t' : Int) (ht' : t + (k : Int) = t') :
  Calls Tryz.prog 145 #[.pointer (some ⟨b, 0, none⟩), .int .i64 K] w fun ev w' => ev = .returned (.int .i64 A) ∧ Rds w' b ⟨strOfNums L, t', 0⟩ ∧ Only (fun k => k = b) w w' := by
 subst hK
 obtain ⟨q1, q2, q3⟩ := num_step k h1 h8 A hf hA L hL t
 refine (numS w b ⟨strOfNums (numB A k ++ L), t, 0⟩ h hg ⟨ht, by show t + (((strOfNums (numB A k ++ L)).size : Nat) : Int) ≤ _; rw [strOfNums_size, List.length_append, numB_len]; exact hs⟩ (k : Int)).mono ?_
 rintro ev w' ⟨rfl, g1, g2⟩
 refine ⟨by simp only [if_true]; rw [q2], ?_, g2⟩
 rw [q3, ht'] at g1
 exact g1
theorem iload_blk {W : World} {b : Nat} {cur : Array Value} {T : TypeId} (ty : TypeId) (d : TypeDesc) (h : Blk W b cur T) (hu : Tryz.prog.underlying ty = some d) (hd : d.isRow = true) (hi : (Tryz.prog.info? ty).map (·.size) = some cur.size) : (loadVar ty ⟨b, 0, none⟩).run Tryz.prog W = .ok (.agg cur) W := by
 have := run_loadVar_mid (P := Tryz.prog) W b 0 ty cur.toList d (fun j v hv => by rw [Nat.zero_add, h.cell j]; simpa using hv) hu hd (by simpa using hi)
 simpa using this
theorem results_cell2 {fn : Func} {p q : Tmp} {ty : TypeId} (h : fn.results = #[.cell p ty, .tmp q]) (tmps : Array Value) (P : Program) (w : World) (ad : Addr) (ha : tmps.getD p undef = .pointer (some ad)) (v : Value) (hl : (loadVar ty ad).run P w = .ok v w) :
  (results fn tmps).run P w = .ok (.tuple #[v, tmps.getD q undef]) w := by
 have ha' : tmps[p]?.getD undef = .pointer (some ad) := by simpa using ha
 simp only [results, h]
 simp [ha', asAddr, hl]
theorem blk_there {W : World} {g : Nat} {cur : Array Value} {T : TypeId} (h : Blk W g cur T) (n : Nat) (hn : n = cur.size) : W.there g 0 n := fun j hj => ⟨by rw [h.cell, Nat.zero_add]; simp; omega, h.frozen _⟩
theorem setCells_blk : ∀ (vs pre post : List Value) {w : World} {b : Nat} {cur : Array Value} {T : TypeId} (_ : Blk w b cur T) (mid : List Value) (_ : mid.length = vs.length) (_ : cur = (pre ++ mid ++ post).toArray), Blk (w.setCells b pre.length vs) b (pre ++ vs ++ post).toArray T
 | [], pre, post, w, b, cur, T, h, mid, hm, hc => by
  have : mid = [] := List.length_eq_zero_iff.1 hm
  subst this
  rw [World.setCells, ← hc]
  exact h
 | v :: r, pre, post, w, b, cur, T, h, mid, hm, hc => by
  cases mid with
  | nil => simp at hm
  | cons x m =>
   rw [World.setCells]
   have h1 := h.set pre.length v
   have e1 : cur.setIfInBounds pre.length v = ((pre ++ [v]) ++ m ++ post).toArray := by
    rw [hc]
    apply Array.ext'
    simp
   have := setCells_blk r (pre ++ [v]) post h1 m (by simpa using hm) e1
   simpa using this
theorem blk_cells_other : ∀ (vs : List Value) (o : Nat) {w : World} {b : Nat} {cur : Array Value} {T : TypeId} (_ : Blk w b cur T) (b' : Nat) (_ : b' ≠ b), Blk (w.setCells b' o vs) b cur T
 | [], _, _, _, _, _, h, _, _ => h
 | v :: r, o, w, b, cur, T, h, b', hb => by
  rw [World.setCells]
  exact blk_cells_other r (o + 1) (h.other _ v hb) b' hb
theorem only_cells {w : World} (b o : Nat) (vs : List Value) {P : Nat → Prop} (hP : P b) : Only P w (w.setCells b o vs) := by
 induction vs generalizing w o with
 | nil => exact Only.refl _ _
 | cons v r ih =>
  rw [World.setCells]
  exact ((Only.refl P w).setCell ⟨b, o, none⟩ v (fun _ => hP)).trans (ih _) (fun _ _ q => q)
theorem raw_stepL (A : List Int) (hA : Bytes A) (k : Nat) (hk : A.length = k) (L : List Int) (hL : Bytes L) (t : Int) :
  rawE (k : Int) (strOfNums (A ++ L)) = 0 ∧ rawV (k : Int) (strOfNums (A ++ L)) = strOfNums A ∧ stepR ⟨strOfNums (A ++ L), t, 0⟩ (rawE (k : Int) (strOfNums (A ++ L))) ((k : Int).toNat) = ⟨strOfNums L, t + (k : Int), 0⟩ := by
 have hb : Bytes (A ++ L) := bytes_app hA hL
 have hn : nums (strOfNums (A ++ L)) = A ++ L := nums_strOfNums _ hb
 have hs : (strOfNums (A ++ L)).size = k + L.length := by rw [strOfNums_size, List.length_append, hk]
 have hE : rawE (k : Int) (strOfNums (A ++ L)) = 0 := by rw [rawE, if_neg (by omega), if_neg (by omega)]
 refine ⟨hE, ?_, ?_⟩
 ·rw [rawV, if_pos hE]
  apply nums_inj
  rw [nums_extract, hn, List.drop_zero, Int.toNat_natCast, nums_strOfNums A hA]
  exact List.take_left' hk
 ·unfold stepR
  rw [hE, Int.toNat_natCast]
  simp only [if_true, rRest, rTak]
  congr 1
  apply nums_inj
  rw [nums_tail, hn, nums_strOfNums L hL]
  exact List.drop_left' hk
theorem rrawK {w : World} {b : Nat} {A L : List Int} {t : Int} (h : Rds w b ⟨strOfNums (A ++ L), t, 0⟩) (hg : ETy w) (hA : Bytes A) (k : Nat) (hk : A.length = k) (hL : Bytes L) (ht : 0 ≤ t) (hs : t + ((k + L.length : Nat) : Int) ≤ 9223372036854775807) (K : Int) (hK : K = (k : Int)) (t' : Int) (ht' : t + (k : Int) = t') :
  Calls Tryz.prog 146 #[.pointer (some ⟨b, 0, none⟩), .int .i64 K] w fun ev w' => ev = .returned (.string (strOfNums A)) ∧ Rds w' b ⟨strOfNums L, t', 0⟩ ∧ Only (fun k => k = b) w w' := by
 subst hK
 obtain ⟨q1, q2, q3⟩ := raw_stepL A hA k hk L hL t
 refine (rawS w b ⟨strOfNums (A ++ L), t, 0⟩ h hg ⟨ht, by show t + (((strOfNums (A ++ L)).size : Nat) : Int) ≤ _; rw [strOfNums_size, List.length_append, hk]; exact hs⟩ (k : Int)).mono ?_
 rintro ev w' ⟨rfl, g1, g2⟩
 refine ⟨by simp only [if_true]; rw [q2], ?_, g2⟩
 rw [q3, ht'] at g1
 exact g1
theorem sizeTree : (Tryz.prog.info? 69).map (·.size) = some 22 := by kernel_rfl
theorem sizeLeaf : (Tryz.prog.info? 89).map (·.size) = some 6 := by kernel_rfl
theorem sizeEntr : (Tryz.prog.info? 47).map (·.size) = some 2 := by kernel_rfl
def trC (r num : Int) (lf : Nat → Nat) : List Value := .int .i64 r :: .int .i64 num :: (lvL lf).map (Value.int .i64)
theorem trC_len (r num : Int) (lf : Nat → Nat) : (trC r num lf).length = 22 := by simp [trC, lvL_len]
theorem trC_0 (r num : Int) (lf : Nat → Nat) : (trC r num lf).toArray[0]? = some (.int .i64 r) := by simp [trC]
theorem trC_1 (r num : Int) (lf : Nat → Nat) : (trC r num lf).toArray[1]? = some (.int .i64 num) := by simp [trC]
theorem trC_at (r num : Int) (lf : Nat → Nat) (l : Nat) (h : l < 20) : (trC r num lf).toArray[2 + l]? = some (.int .i64 (lf l : Int)) := by
 rw [Nat.add_comm]
 simp [trC, lvL_get lf l h]
theorem trC_one (r num : Int) (lf : Nat → Nat) : (trC r num lf).toArray.all (·.oneCell') = true := all_oneCell_toArray (fun v hv => by
 simp only [trC, List.mem_cons, List.mem_map] at hv
 rcases hv with rfl | rfl | ⟨x, _, rfl⟩ <;> rfl)
theorem trC_set (r num : Int) (lf : Nat → Nat) (l : Nat) (h : l < 20) (x : Nat) : (trC r num lf).toArray.setIfInBounds (2 + l) (.int .i64 (x : Int)) = (trC r num (ups lf l x)).toArray := by
 apply Array.ext'
 rw [Array.toList_setIfInBounds]
 show (trC r num lf).set (2 + l) (.int .i64 (x : Int)) = trC r num (ups lf l x)
 apply List.ext_getElem?
 intro i
 rw [List.getElem?_set, trC_len]
 by_cases e : 2 + l = i
 ·subst e
  rw [if_pos rfl, if_pos (by omega)]
  have := trC_at r num (ups lf l x) l h
  rw [ups_same] at this
  simpa using this.symm
 ·rw [if_neg e]
  by_cases e0 : i = 0
  ·subst e0; simp [trC]
  by_cases e1 : i = 1
  ·subst e1; simp [trC]
  by_cases e2 : i < 22
  ·obtain ⟨j, rfl⟩ : ∃ j, i = 2 + j := ⟨i - 2, by omega⟩
   have a := trC_at r num lf j (by omega)
   have b := trC_at r num (ups lf l x) j (by omega)
   rw [ups_other _ _ (by omega)] at b
   have a' : (trC r num lf)[2 + j]? = some (.int .i64 (lf j : Int)) := by simpa using a
   have b' : (trC r num (ups lf l x))[2 + j]? = some (.int .i64 (lf j : Int)) := by simpa using b
   rw [a', b']
  ·rw [List.getElem?_eq_none (by rw [trC_len]; omega), List.getElem?_eq_none (by rw [trC_len]; omega)]
def lfC (f : Nat → Ent) : List Value := [.string (vtD (f 0)), .string (vtW (f 0)), .string (vtD (f 1)), .string (vtW (f 1)), .string (vtD (f 2)), .string (vtW (f 2))]
theorem lfC_one (f : Nat → Ent) : (lfC f).toArray.all (·.oneCell') = true := by simp [lfC, Value.oneCell']
theorem lfC_len (f : Nat → Ent) : (lfC f).length = 6 := rfl
theorem lfC_at (f : Nat → Ent) (j : Nat) (h : j < 3) : (lfC f).toArray[2 * j]? = some (.string (vtD (f j))) ∧ (lfC f).toArray[2 * j + 1]? = some (.string (vtW (f j))) := by
 have : j = 0 ∨ j = 1 ∨ j = 2 := by omega
 rcases this with rfl | rfl | rfl <;> simp [lfC]
theorem lfC_set (f : Nat → Ent) (j : Nat) (h : j < 3) (e : Ent) : ((lfC f).toArray.setIfInBounds (2 * j) (.string (vtD e))).setIfInBounds (2 * j + 1) (.string (vtW e)) = (lfC (ups f j e)).toArray := by
 have : j = 0 ∨ j = 1 ∨ j = 2 := by omega
 rcases this with rfl | rfl | rfl <;> simp [lfC, ups]
theorem blk_range {W : World} {g : Nat} {cs : List Value} {T : TypeId} (h : Blk W g cs.toArray T) : W.rangeAt g 0 cs := fun j v hv => by
 rw [h.cell, Nat.zero_add]
 simpa using hv
theorem setCells_all {w : World} {b : Nat} {cur : Array Value} {T : TypeId} (h : Blk w b cur T) (vs : List Value) (hl : cur.size = vs.length) : Blk (w.setCells b 0 vs) b vs.toArray T := by
 have := setCells_blk vs [] [] h cur.toList (by simpa using hl) (by simp)
 simpa using this
end Go.Proofs.YtiellebdliifdaaGreatDoor
namespace Go.Proofs.YtiellebdliifdaaGreatDoor
open Go.RowKit
set_option maxRecDepth 100000
theorem bIsBlock_any (z : Int) (w : World) : Calls Tryz.prog 38 #[.int .i64 z] w fun e w' => e = .returned (.bool (decide (0 ≤ z) && decide (z < 60))) ∧ w' = w := by
 by_cases h0 : 0 ≤ z
 ·have hd : decide ((0 : Int) ≤ z) = true := by simpa using h0
  rw [hd, Bool.true_and]
  clear h0
  generalize hdz : decide (z < 60) = dz at *
  go_enter Tryz.func38, Tryz.ntmps38
  go_wp2
  go_ret
  exact ⟨rfl, rfl⟩
 ·have hd : decide ((0 : Int) ≤ z) = false := by simpa using h0
  rw [hd, Bool.false_and]
  clear h0
  go_enter Tryz.func38, Tryz.ntmps38
  go_wp2
  go_ret
  exact ⟨rfl, rfl⟩
theorem isBlock_ok (b : Nat) (hb : b < 60) (w : World) : Calls Tryz.prog 38 #[.int .i64 (b : Int)] w fun e w' => e = .returned (.bool true) ∧ w' = w := by
 have := bIsBlock_any (b : Int) w
 rwa [show (decide (0 ≤ (b : Int)) && decide ((b : Int) < 60)) = true by simp; omega] at this
theorem leafOf_any (b : Nat) (hb : b < 60) (w : World) : Calls Tryz.prog 41 #[.int .i64 (b : Int)] w fun e w' => e = .returned (.int .i64 ((b / 3 : Nat) : Int)) ∧ w' = w := by
 have e1 : (b : Int).tdiv 3 = ((b / 3 : Nat) : Int) := by
  rw [Int.tdiv_eq_ediv_of_nonneg (by omega)]; omega
 have hq : b / 3 < 20 := by omega
 generalize b / 3 = q at *
 go_enter Tryz.func41, Tryz.ntmps41
 go_wp2
 go_ret
 exact ⟨rfl, rfl⟩
theorem seatOf_any (b : Nat) (hb : b < 60) (w : World) : Calls Tryz.prog 43 #[.int .i64 (b : Int)] w fun e w' => e = .returned (.int .i64 ((b % 3 : Nat) : Int)) ∧ w' = w := by
 have e1 : (b : Int).tmod 3 = ((b % 3 : Nat) : Int) := by
  rw [Int.tmod_eq_emod_of_nonneg (by omega)]; omega
 have hq : b % 3 < 3 := by omega
 generalize b % 3 = q at *
 go_enter Tryz.func43, Tryz.ntmps43
 go_wp2
 go_ret
 exact ⟨rfl, rfl⟩
theorem isEntry_ok (d t : ByteArray) (hd : d.size = 32) (ht : t.size = 48) (w : World) : Calls Tryz.prog 51 #[.agg #[.string d, .string t]] w fun e w' => e = .returned (.bool true) ∧ Below w.heap.size w w' := by
 have h1 : ((d.size : Int) == 32) = true := by rw [hd]; rfl
 have h2 : ((t.size : Int) == 48) = true := by rw [ht]; rfl
 clear hd ht
 go_enter Tryz.func51, Tryz.ntmps51
 go_wp2
 go_ret
 exact ⟨rfl, (Below.refl _ _).alloc (Nat.le_refl _) _⟩
theorem isMapped_any (e : Ent) (he : EOk e) (w : World) : Calls Tryz.prog 44 #[.agg #[.string (vtD e), .string (vtW e)]] w fun ev w' => ev = .returned (.bool e.isSome) ∧ Below w.heap.size w w' := by
 cases e with
 | none =>
  show Calls Tryz.prog 44 #[.agg #[.string ⟨#[]⟩, .string ⟨#[]⟩]] w fun ev w' => ev = .returned (.bool false) ∧ Below w.heap.size w w'
  go_enter Tryz.func44, Tryz.ntmps44
  go_wp2
  go_ret
  exact ⟨rfl, (Below.refl _ _).alloc (Nat.le_refl _) _⟩
 | some p =>
  have hd := (he p.1 p.2 rfl).1
  have h1 : ¬ p.1.toList = [] := fun q => by
   rw [ByteArray.toList_eq] at q
   have := congrArg List.length q
   rw [show p.1.data.toList.length = p.1.size from rfl, hd] at this
   cases this
  clear hd he
  show Calls Tryz.prog 44 #[.agg #[.string p.1, .string p.2]] w fun ev w' => ev = .returned (.bool true) ∧ Below w.heap.size w w'
  generalize p.1 = d at *
  generalize p.2 = t at *
  go_enter Tryz.func44, Tryz.ntmps44
  go_wp2
  go_ret
  exact ⟨rfl, (Below.refl _ _).alloc (Nat.le_refl _) _⟩
theorem isTenant_ok (z : Nat) (h1 : 1 ≤ z) (h8 : z ≤ 8) (w : World) : Calls Tryz.prog 45 #[.int .i64 (z : Int)] w fun e w' => e = .returned (.bool true) ∧ w' = w := by
 have hd : decide ((1 : Int) ≤ (z : Int)) = true := by simp; omega
 have hd2 : decide ((z : Int) ≤ 8) = true := by simp; omega
 clear h1 h8
 go_enter Tryz.func45, Tryz.ntmps45
 go_wp2
 go_ret
 exact ⟨rfl, rfl⟩
theorem isVolume_ok (z : Nat) (h8 : z ≤ 99) (w : World) : Calls Tryz.prog 46 #[.int .i64 (z : Int)] w fun e w' => e = .returned (.bool true) ∧ w' = w := by
 have hd : decide ((0 : Int) ≤ (z : Int)) = true := by simp
 have hd2 : decide ((z : Int) ≤ 99) = true := by simp; omega
 clear h8
 go_enter Tryz.func46, Tryz.ntmps46
 go_wp2
 go_ret
 exact ⟨rfl, rfl⟩
theorem tHas_any (r num : Int) (lf : Nat → Nat) (l : Nat) (hl : l < 20) (w : World) : Calls Tryz.prog 40 #[.agg (trC r num lf).toArray, .int .i64 (l : Int)] w fun e w' => e = .returned (.bool ((lf l : Int) != 0)) ∧ Below w.heap.size w w' := by
 have hx := trC_at r num lf l hl
 generalize (trC r num lf).toArray = xs at *
 have hc : (w.alloc (.cells xs 69)).cell? ⟨w.heap.size, 2 + l, none⟩ = some (.int .i64 (lf l : Int)) := by rw [World.cell?_alloc_at (hn := rfl)]; exact hx
 have h1 : (0 : Int) ≤ (l : Int) := by omega
 have h2 : (l : Int) < 20 := by omega
 generalize hz : ((lf l : Int) != 0) = z at *
 go_enter Tryz.func40, Tryz.ntmps40
 go_wp2
 go_ret
 exact ⟨rfl, (Below.refl _ _).alloc (Nat.le_refl _) _⟩
theorem tPlace_any (r num : Int) (lf : Nat → Nat) (l : Nat) (hl : l < 20) (p : Nat) (hp : lf l = p + 1) (hp2 : p < 1000) (w : World) : Calls Tryz.prog 53 #[.agg (trC r num lf).toArray, .int .i64 (l : Int)] w fun e w' => e = .returned (.int .i64 (p : Int)) ∧ Below w.heap.size w w' := by
 have hx := trC_at r num lf l hl
 rw [hp] at hx
 generalize (trC r num lf).toArray = xs at *
 have hc : (w.alloc (.cells xs 69)).cell? ⟨w.heap.size, 2 + l, none⟩ = some (.int .i64 ((p + 1 : Nat) : Int)) := by rw [World.cell?_alloc_at (hn := rfl)]; exact hx
 have h1 : (0 : Int) ≤ (l : Int) := by omega
 have h2 : (l : Int) < 20 := by omega
 have e1 : ((p + 1 : Nat) : Int) - 1 = (p : Int) := by omega
 generalize ((p + 1 : Nat) : Int) = q at *
 clear hp hx
 go_enter Tryz.func53, Tryz.ntmps53
 go_wp2
 go_ret
 exact ⟨rfl, (Below.refl _ _).alloc (Nat.le_refl _) _⟩
theorem tNumber_any (r : Int) (num : Nat) (hn : num ≤ 1000000) (lf : Nat → Nat) (l : Nat) (hl : l < 20) (w : World) : Calls Tryz.prog 96 #[.agg (trC r (num : Int) lf).toArray, .int .i64 (l : Int)] w fun e w' => e = .returned (.int .i64 ((32 * num + l : Nat) : Int)) ∧ Below w.heap.size w w' := by
 have hx := trC_1 r (num : Int) lf
 generalize (trC r (num : Int) lf).toArray = xs at *
 have hc : (w.alloc (.cells xs 69)).cell? ⟨w.heap.size, 1, none⟩ = some (.int .i64 (num : Int)) := by rw [World.cell?_alloc_at (hn := rfl)]; exact hx
 have e1 : 32 * (num : Int) + (l : Int) = ((32 * num + l : Nat) : Int) := by omega
 have h2 : 32 * num + l ≤ 100000000 := by omega
 generalize 32 * num + l = q at *
 clear hx
 go_enter Tryz.func96, Tryz.ntmps96
 go_wp2
 go_ret
 exact ⟨rfl, (Below.refl _ _).alloc (Nat.le_refl _) _⟩
theorem answerOf_ok (w : World) : Calls Tryz.prog 77 #[.int .i64 0] w fun e w' => e = .returned (.int .i64 0) ∧ w' = w := by
 go_enter Tryz.func77, Tryz.ntmps77
 go_wp2
 go_ret
 exact ⟨rfl, rfl⟩
theorem answerOf_place (w : World) : Calls Tryz.prog 77 #[.int .i64 72] w fun e w' => e = .returned (.int .i64 102) ∧ w' = w := by
 go_enter Tryz.func77, Tryz.ntmps77
 go_wp2
 go_ret
 exact ⟨rfl, rfl⟩
end Go.Proofs.YtiellebdliifdaaGreatDoor
namespace Go.Proofs.YtiellebdliifdaaGreatDoor
open Go.RowKit
set_option maxRecDepth 100000 in
set_option maxHeartbeats 2000000 in
theorem tWith_any (r num : Int) (lf : Nat → Nat) (l : Nat) (hl : l < 20) (p : Nat) (hp : p < 1000) (w : World) : Calls Tryz.prog 106 #[.agg (trC r num lf).toArray, .int .i64 (l : Int), .int .i64 (p : Int)] w fun e w' => e = .returned (.agg (trC r num (ups lf l (p + 1))).toArray) ∧ Below w.heap.size w w' := by
 obtain ⟨g, hg⟩ : ∃ g, w.heap.size = g := ⟨_, rfl⟩
 have hx := trC_at r num lf l hl
 have hset := trC_set r num lf l hl (p + 1)
 have hyl := trC_len r num (ups lf l (p + 1))
 have hyo := trC_one r num (ups lf l (p + 1))
 generalize (trC r num lf).toArray = xs at *
 generalize trC r num (ups lf l (p + 1)) = ys at *
 obtain ⟨x2, hx2⟩ : ∃ q, (w.alloc (.cells xs 69)).alloc (.cells #[.int .i64 0, .int .i64 0, .int .i64 0, .int .i64 0, .int .i64 0, .int .i64 0, .int .i64 0, .int .i64 0, .int .i64 0, .int .i64 0, .int .i64 0, .int .i64 0, .int .i64 0, .int .i64 0, .int .i64 0, .int .i64 0, .int .i64 0, .int .i64 0, .int .i64 0, .int .i64 0, .int .i64 0, .int .i64 0] 69) = q := ⟨_, rfl⟩
 have B : Blk x2 g xs 69 := by rw [← hx2, ← hg]; exact (Blk.new w _ _).alloc _
 have BZ : Blk x2 (g + 1) #[.int .i64 0, .int .i64 0, .int .i64 0, .int .i64 0, .int .i64 0, .int .i64 0, .int .i64 0, .int .i64 0, .int .i64 0, .int .i64 0, .int .i64 0, .int .i64 0, .int .i64 0, .int .i64 0, .int .i64 0, .int .i64 0, .int .i64 0, .int .i64 0, .int .i64 0, .int .i64 0, .int .i64 0, .int .i64 0] 69 := by
  rw [← hx2]
  have := Blk.new (w.alloc (.cells xs 69)) 69 #[.int .i64 0, .int .i64 0, .int .i64 0, .int .i64 0, .int .i64 0, .int .i64 0, .int .i64 0, .int .i64 0, .int .i64 0, .int .i64 0, .int .i64 0, .int .i64 0, .int .i64 0, .int .i64 0, .int .i64 0, .int .i64 0, .int .i64 0, .int .i64 0, .int .i64 0, .int .i64 0, .int .i64 0, .int .i64 0]
  rw [show (w.alloc (.cells xs 69)).heap.size = g + 1 by simp [hg]] at this
  exact this
 have hb : Below g w x2 := by rw [← hx2, ← hg]; exact ((Below.refl _ w).alloc (Nat.le_refl _) _).alloc (by simp) _
 have hc : x2.cell? ⟨g, 2 + l, none⟩ = some (.int .i64 (lf l : Int)) := by rw [B.cell]; exact hx
 have hf := B.frozen (2 + l)
 obtain ⟨x3, hx3⟩ : ∃ q, x2.setCell ⟨g, 2 + l, none⟩ (.int .i64 ((p + 1 : Nat) : Int)) = q := ⟨_, rfl⟩
 have B3 : Blk x3 g ys.toArray 69 := by rw [← hx3, ← hset]; exact B.set _ _
 have Z3 : Blk x3 (g + 1) #[.int .i64 0, .int .i64 0, .int .i64 0, .int .i64 0, .int .i64 0, .int .i64 0, .int .i64 0, .int .i64 0, .int .i64 0, .int .i64 0, .int .i64 0, .int .i64 0, .int .i64 0, .int .i64 0, .int .i64 0, .int .i64 0, .int .i64 0, .int .i64 0, .int .i64 0, .int .i64 0, .int .i64 0, .int .i64 0] 69 := by rw [← hx3]; exact BZ.other _ _ (by simp)
 have hb3 : Below g w x3 := by rw [← hx3]; exact hb.setCell (Nat.le_refl _) _
 have R3 := hide (blk_range B3)
 have TH := hide (blk_there Z3 ys.toArray.size (by simp [hyl]))
 have B4 := setCells_all Z3 ys (by simp [hyl])
 have HLD := hide (iload_blk 69 _ B4 Tryz.underlying69 rfl (by rw [sizeTree]; simp [hyl]))
 have HB4 := hide (below_setCells (Nat.le_succ _) ys 0 hb3)
 have HYL := hide hyl
 have HYO := hide hyo
 have h1 : (0 : Int) ≤ (l : Int) := by omega
 have h2 : (l : Int) < 20 := by omega
 have e1 : (p : Int) + 1 = ((p + 1 : Nat) : Int) := by omega
 generalize ((p + 1 : Nat) : Int) = q at *
 clear hx hset hyl hyo B BZ hb B3 Z3 hb3 B4 hl
 rw [hg]
 go_enter Tryz.func106, Tryz.ntmps106
 go_wp2_with (first | refine wpList_load_mid rfl 69 (.tmp 3) rfl g 0 rfl _ _ (unhide R3) Tryz.underlying69 rfl (by rw [sizeTree, unhide HYL]) ?_ | refine wpList_store_mid rfl 69 (.tmp 6) (.tmp 12) rfl (g + 1) 0 ys.toArray rfl rfl (unhide TH) (by rw [sizeTree]; simp [unhide HYL]) (unhide HYO) ?_)
 refine bodyPost_ret (v := .agg ys.toArray) (results_cell rfl _ _ _ ⟨g + 1, 0, none⟩ rfl _ (unhide HLD)) rfl ⟨rfl, unhide HB4⟩
set_option maxRecDepth 100000 in
set_option maxHeartbeats 2000000 in
theorem tWithout_any (r num : Int) (lf : Nat → Nat) (l : Nat) (hl : l < 20) (w : World) : Calls Tryz.prog 121 #[.agg (trC r num lf).toArray, .int .i64 (l : Int)] w fun e w' => e = .returned (.agg (trC r num (ups lf l 0)).toArray) ∧ Below w.heap.size w w' := by
 obtain ⟨g, hg⟩ : ∃ g, w.heap.size = g := ⟨_, rfl⟩
 have hx := trC_at r num lf l hl
 have hset := trC_set r num lf l hl 0
 have hyl := trC_len r num (ups lf l 0)
 have hyo := trC_one r num (ups lf l 0)
 generalize (trC r num lf).toArray = xs at *
 generalize trC r num (ups lf l 0) = ys at *
 obtain ⟨x2, hx2⟩ : ∃ q, (w.alloc (.cells xs 69)).alloc (.cells #[.int .i64 0, .int .i64 0, .int .i64 0, .int .i64 0, .int .i64 0, .int .i64 0, .int .i64 0, .int .i64 0, .int .i64 0, .int .i64 0, .int .i64 0, .int .i64 0, .int .i64 0, .int .i64 0, .int .i64 0, .int .i64 0, .int .i64 0, .int .i64 0, .int .i64 0, .int .i64 0, .int .i64 0, .int .i64 0] 69) = q := ⟨_, rfl⟩
 have B : Blk x2 g xs 69 := by rw [← hx2, ← hg]; exact (Blk.new w _ _).alloc _
 have BZ : Blk x2 (g + 1) #[.int .i64 0, .int .i64 0, .int .i64 0, .int .i64 0, .int .i64 0, .int .i64 0, .int .i64 0, .int .i64 0, .int .i64 0, .int .i64 0, .int .i64 0, .int .i64 0, .int .i64 0, .int .i64 0, .int .i64 0, .int .i64 0, .int .i64 0, .int .i64 0, .int .i64 0, .int .i64 0, .int .i64 0, .int .i64 0] 69 := by
  rw [← hx2]
  have := Blk.new (w.alloc (.cells xs 69)) 69 #[.int .i64 0, .int .i64 0, .int .i64 0, .int .i64 0, .int .i64 0, .int .i64 0, .int .i64 0, .int .i64 0, .int .i64 0, .int .i64 0, .int .i64 0, .int .i64 0, .int .i64 0, .int .i64 0, .int .i64 0, .int .i64 0, .int .i64 0, .int .i64 0, .int .i64 0, .int .i64 0, .int .i64 0, .int .i64 0]
  rw [show (w.alloc (.cells xs 69)).heap.size = g + 1 by simp [hg]] at this
  exact this
 have hb : Below g w x2 := by rw [← hx2, ← hg]; exact ((Below.refl _ w).alloc (Nat.le_refl _) _).alloc (by simp) _
 have hc : x2.cell? ⟨g, 2 + l, none⟩ = some (.int .i64 (lf l : Int)) := by rw [B.cell]; exact hx
 have hf := B.frozen (2 + l)
 obtain ⟨x3, hx3⟩ : ∃ q, x2.setCell ⟨g, 2 + l, none⟩ (.int .i64 ((0 : Nat) : Int)) = q := ⟨_, rfl⟩
 have B3 : Blk x3 g ys.toArray 69 := by rw [← hx3, ← hset]; exact B.set _ _
 have Z3 : Blk x3 (g + 1) #[.int .i64 0, .int .i64 0, .int .i64 0, .int .i64 0, .int .i64 0, .int .i64 0, .int .i64 0, .int .i64 0, .int .i64 0, .int .i64 0, .int .i64 0, .int .i64 0, .int .i64 0, .int .i64 0, .int .i64 0, .int .i64 0, .int .i64 0, .int .i64 0, .int .i64 0, .int .i64 0, .int .i64 0, .int .i64 0] 69 := by rw [← hx3]; exact BZ.other _ _ (by simp)
 have hb3 : Below g w x3 := by rw [← hx3]; exact hb.setCell (Nat.le_refl _) _
 have R3 := hide (blk_range B3)
 have TH := hide (blk_there Z3 ys.toArray.size (by simp [hyl]))
 have B4 := setCells_all Z3 ys (by simp [hyl])
 have HLD := hide (iload_blk 69 _ B4 Tryz.underlying69 rfl (by rw [sizeTree]; simp [hyl]))
 have HB4 := hide (below_setCells (Nat.le_succ _) ys 0 hb3)
 have HYL := hide hyl
 have HYO := hide hyo
 have h1 : (0 : Int) ≤ (l : Int) := by omega
 have h2 : (l : Int) < 20 := by omega
 have e1 : ((0 : Nat) : Int) = 0 := rfl
 rw [e1] at hx3
 clear e1
 clear hx hset hyl hyo B BZ hb B3 Z3 hb3 B4 hl
 rw [hg]
 go_enter Tryz.func121, Tryz.ntmps121
 go_wp2_with (first | refine wpList_load_mid rfl 69 (.tmp 2) rfl g 0 rfl _ _ (unhide R3) Tryz.underlying69 rfl (by rw [sizeTree, unhide HYL]) ?_ | refine wpList_store_mid rfl 69 (.tmp 4) (.tmp 8) rfl (g + 1) 0 ys.toArray rfl rfl (unhide TH) (by rw [sizeTree]; simp [unhide HYL]) (unhide HYO) ?_)
 refine bodyPost_ret (v := .agg ys.toArray) (results_cell rfl _ _ _ ⟨g + 1, 0, none⟩ rfl _ (unhide HLD)) rfl ⟨rfl, unhide HB4⟩
end Go.Proofs.YtiellebdliifdaaGreatDoor
