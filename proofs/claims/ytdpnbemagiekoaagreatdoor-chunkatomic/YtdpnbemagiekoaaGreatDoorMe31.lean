import Derived.Test.YtdpnbemagiekoaaGreatDoorMe25
import Derived.Test.YtdpnbemagiekoaaGreatDoorMe30
set_option maxHeartbeats 2000000
set_option maxRecDepth 100000
namespace Go.Proofs.YtdpnbemagiekoaaGreatDoor
open List renaming getElem_toArray -> lD, getElem_cons_succ -> lE, getElem_cons_zero -> lF
section
open Go.RowKit Go.Maps Go.Sort Go.Shelf
def ib0 : ByteArray := strOfNums (List.replicate 222 0)
theorem zIu : ib0.size = 222 := by rw [ib0, strOfNums_size, List.length_replicate]
theorem zN0 (k : Nat) : ibd (fun _ => none) k = ib0 := by
 refine (zHA _ 6 ib0 zIu (fun i hi => ?_)).symm
 apply zBi
 rw [zAs, ib0, zAd _ (zBH 222), zF2]
 show _ = List.replicate 37 0
 rw [List.take_replicate, List.drop_replicate]
 congr 1
 omega
def pgZI (m : Nat) : List ByteArray := (List.range m).map fun k => pgI k ib0
theorem zEa (m : Nat) : (pgZI m).length = m := by simp [pgZI]
theorem zKi (m : Nat) : strs (pgZI (m + 1)) = strs (pgZI m) ++ [.string (pgI m ib0)] := by simp [pgZI, strs, List.range_succ]
theorem zKN (m k : Nat) (h : k < m) : (pgZI m).getD k ByteArray.empty = pgI k ib0 := by simp [pgZI, List.getD_eq_getElem?_getD, h]
def InII (w : World) (m : Nat) (u : Value) (wr : World) : Prop := wr.ownsRow w.heap.size 9 1 u m (strs (pgZI m)) /\ Below w.heap.size w wr
theorem zGt (n : Nat) (hn1 : 1 <= n) (hn2 : n <= 1024) (w : World) : Calls Tryz.prog 39 #[.int .i64 (n : Int)] w fun e w' => ∃ v, e = .returned (.tuple #[v, .int .i64 0]) /\ InII w (ipgs n) v w' := by
 obtain ⟨i0, hi, hz0, hz1, hz2⟩ := info_parts zNx
 have HI := uB (And.intro hi (And.intro hz0 (And.intro hz1 hz2)))
 clear hi hz0 hz1 hz2
 have HCN := uB (fun W => zD0 (n : Int) W)
 rw [decide_eq_true (show (1 : Int) <= (n : Int) by omega), decide_eq_true (show (n : Int) <= 1024 by omega)] at HCN
 have HPO := uB (fun W => zCr n hn2 W)
 have h4 := zEt hn2
 have HRP := uB (fun W => zCv 222 W (by decide))
 have HZB := uB (show strOfNums (List.replicate 222 0) = ib0 from rfl)
 obtain ⟨Z, hZ⟩ : ∃ Z, strOfNums (List.replicate 222 0) = Z := ⟨_, rfl⟩
 rw [hZ] at HRP HZB
 clear hZ
 simp only [Int.cast_ofNat_Int] at HRP
 generalize ipgs n = P0 at *
 go_enter Tryz.func39, Tryz.ntmps39
 go_wp2_with (first | (go_at_call 95; refine (uA HCN _).mono ?_; rintro e w' ⟨rfl, hw'⟩; subst w') | (go_at_call 60; refine (uA HPO _).mono ?_; rintro e w' ⟨rfl, hw'⟩; subst w'))
 go_loopw [4, 11] (fun u i wr => ∃ k : Nat, k <= P0 /\ i = .int .i64 (k : Int) /\ InII w k u wr) (fun _ i _ => P0 - (intOf i).toNat)
 case atStart => exact ⟨0, by omega, rfl, World.ownsRow_nil _ _ _ _, Below.refl _ _⟩
 case round =>
  obtain ⟨k, hk, rfl, hR, hB⟩ := hrel
  obtain ⟨wo, rfl⟩ : ∃ wo, wo = wr := ⟨_, rfl⟩
  obtain ⟨pv, cv, rfl, hcv⟩ := zAy hR
  by_cases hkn : k < P0
  ·have hkn' : (k : Int) < (P0 : Int) := by omega
   have HR := uB hR
   have HB := uB hB
   clear hR hB hcv
   go_wp2_with fail
   refine (uA HRP _).mono ?_
   rintro e y1 ⟨rfl, hb1⟩
   have HSE := uB (zC9 k Z y1)
   have HB1 := uB hb1
   obtain ⟨t, ht⟩ : ∃ t, pgI k Z = t := ⟨_, rfl⟩
   rw [ht] at HSE
   have HT := uB (show pgI k ib0 = t from by rw [<- ht, uA HZB])
   clear hb1 ht
   go_wp2_with fail
   refine (uA HSE).mono ?_
   rintro e y2 ⟨rfl, hb2⟩
   have hB2 : Below wo.heap.size wo y2 := (uA HB1).trans (hb2.mono (uA HB1).size)
   have HRA := uB (show (y2.alloc (.cells #[.string t] 9)).ownsRow w.heap.size 9 1 (.slice pv k cv) k (strs (pgZI k)) from (zAh (uA HR) (Only.of_below (P := fun _ => False) hB2) (fun _ _ q => q)).alloc _)
   have HXB := uB ((uA HB).trans ((hB2.alloc hB2.size (.cells #[.string t] 9)).mono (uA HB).size))
   clear hb2 hB2 HSE HB1
   go_wp2_with (refine wpList_append_own _ rfl (.tmp 14) (.tmp 18) 62 rfl w.heap.size 9 i0 (.string ⟨#[]⟩) 1 16 Tryz.underlying62 (uA HI).1 (uA HI).2.1 (uA HI).2.2.1 (uA HI).2.2.2 rfl (by decide) _ k (strs (pgZI k)) rfl (uA HRA) ⟨y2.heap.size, 0, none⟩ 1 1 [.string t] rfl rfl (fun q u hu => zB7 y2 9 _ q u hu) (by simp [Value.oneCell']) (by unfold maxLen; omega) (by omega) (uA HXB).size ?_)
   intro v5 x5 ho5 hg5 _
   have HRR := uB (show InII w (k + 1) v5 x5 from ⟨by rw [zKi, uA HT]; exact ho5, (uA HXB).grown hg5 (uA HXB).size (fun q hq => ((uA HRA).lt q hq).1)⟩)
   clear ho5 hg5 HRA HXB HT
   go_wp2
   go_roundw
   case rel => exact ⟨k + 1, by omega, by go_num, uA HRR⟩
   case measure => simp [intOf]; omega
  ·have hke : k = P0 := by omega
   have hkn' : ¬ (k : Int) < (P0 : Int) := by omega
   subst hke
   have HF := uB (show InII w k (.slice pv k cv) wo from ⟨hR, hB⟩)
   clear hR hB hcv
   go_wp2
   go_ret2
   exact ⟨_, rfl, uA HF⟩
end
section
open Go.RowKit Go.Maps Go.Sort Go.Shelf
structure Snt (w : World) (e0 e1 e2 : Addr) : Prop where
 g0 : w.cell? ⟨0, 0, none⟩ = some (eP e0)
 g1 : w.cell? ⟨1, 0, none⟩ = some (eP e1)
 g2 : w.cell? ⟨2, 0, none⟩ = some (eP e2)
 h0 : ∃ c t, w.heap[e0.block]? = some (.cells c t (0, 0))
 h1 : ∃ c t, w.heap[e1.block]? = some (.cells c t (0, 0))
 h2 : ∃ c t, w.heap[e2.block]? = some (.cells c t (0, 0))
 n01 : e0 ≠ e1
 n02 : e0 ≠ e2
 n12 : e1 ≠ e2
theorem zHn {w : World} {k : Nat} {o : Obj} (h : w.heap[k]? = some o) : k < w.heap.size := by
 rcases Nat.lt_or_ge k w.heap.size with q | q
 ·exact q
 ·rw [Array.getElem?_eq_none q] at h
  cases h
theorem Snt.below {w w' : World} {e0 e1 e2 : Addr} (h : Snt w e0 e1 e2) (hb : Below w.heap.size w w') : Snt w' e0 e1 e2 := by
 obtain ⟨c0, t0, k0⟩ := h.h0
 obtain ⟨c1, t1, k1⟩ := h.h1
 obtain ⟨c2, t2, k2⟩ := h.h2
 exact ⟨(hb.cell (World.block_lt_of_cell? w _ h.g0)).trans h.g0, (hb.cell (World.block_lt_of_cell? w _ h.g1)).trans h.g1, (hb.cell (World.block_lt_of_cell? w _ h.g2)).trans h.g2, ⟨c0, t0, (hb.block _ (zHn k0)).trans k0⟩, ⟨c1, t1, (hb.block _ (zHn k1)).trans k1⟩, ⟨c2, t2, (hb.block _ (zHn k2)).trans k2⟩, h.n01, h.n02, h.n12⟩
def Scs (pb mb xb : Nat) : Array Value := #[.pointer (some ⟨pb, 0, none⟩), .pointer (some ⟨mb, 0, none⟩), .pointer (some ⟨xb, 0, none⟩), .int .i64 30]
structure CG (w0 w : World) (b jb pb xb eb bm mb sb : Nat) (Y : Nat -> Prop) (n : Nat) (S : PS) (L : List ByteArray) (A : List (Nat × Nat)) (hn : Nat) (Mw Mn : List ByteArray) (T U : Nat -> En) (B : Nat -> Bool) : Prop where
 ig : IG w0 w b jb pb xb eb bm Y 20 n S L A hn Mw Mn T U
 mp : MB w mb pb 19 n
 ms : MS Mn 19 n B
 ym : Y mb
 ys : Y sb
 st : Blk w sb (Scs pb mb xb) 125
 n24 : n <= 24
theorem CG.bel {w0 w : World} {b jb pb xb eb bm mb sb : Nat} {Y : Nat -> Prop} {n : Nat} {S : PS} {L : List ByteArray} {A : List (Nat × Nat)} {hn : Nat} {Mw Mn : List ByteArray} {T U : Nat -> En} {B : Nat -> Bool} (h : CG w0 w b jb pb xb eb bm mb sb Y n S L A hn Mw Mn T U B) : Below w0.heap.size w0 w := h.ig.pk.bel
theorem CG.bg {w0 w : World} {b jb pb xb eb bm mb sb : Nat} {Y : Nat -> Prop} {n : Nat} {S : PS} {L : List ByteArray} {A : List (Nat × Nat)} {hn : Nat} {Mw Mn : List ByteArray} {T U : Nat -> En} {B : Nat -> Bool} (h : CG w0 w b jb pb xb eb bm mb sb Y n S L A hn Mw Mn T U B) : BG w0 w b jb pb mb (Xf Y xb eb bm) 19 n S L A hn Mw Mn B :=
 ⟨h.ig.pk, h.mp, .inl h.ym, h.ig.ety, h.ig.seen, h.ms, by decide, by have := h.n24; unfold pgs; omega, h.ig.n1, by have := h.n24; omega⟩
theorem CG.below {w0 w : World} {b jb pb xb eb bm mb sb : Nat} {Y : Nat -> Prop} {n : Nat} {S : PS} {L : List ByteArray} {A : List (Nat × Nat)} {hn : Nat} {Mw Mn : List ByteArray} {T U : Nat -> En} {B : Nat -> Bool} (h : CG w0 w b jb pb xb eb bm mb sb Y n S L A hn Mw Mn T U B) {w' : World} (hb : Below w.heap.size w w') : CG w0 w' b jb pb xb eb bm mb sb Y n S L A hn Mw Mn T U B :=
 ⟨h.ig.below hb, h.mp.below hb, h.ms, h.ym, h.ys, h.st.only (Only.of_below (P := fun _ => False) hb) (fun q => q), h.n24⟩
theorem CG.c {w0 w : World} {b jb pb xb eb bm mb sb : Nat} {Y : Nat -> Prop} {n : Nat} {S : PS} {L : List ByteArray} {A : List (Nat × Nat)} {hn : Nat} {Mw Mn : List ByteArray} {T U : Nat -> En} {B : Nat -> Bool} (h : CG w0 w b jb pb xb eb bm mb sb Y n S L A hn Mw Mn T U B) : w.cell? ⟨sb, 0, none⟩ = some (.pointer (some ⟨pb, 0, none⟩)) /\ w.cell? ⟨sb, 1, none⟩ = some (.pointer (some ⟨mb, 0, none⟩)) /\ w.cell? ⟨sb, 2, none⟩ = some (.pointer (some ⟨xb, 0, none⟩)) /\ w.cell? ⟨sb, 3, none⟩ = some (.int .i64 30) :=
 ⟨by rw [h.st.cell]; rfl, by rw [h.st.cell]; rfl, by rw [h.st.cell]; rfl, by rw [h.st.cell]; rfl⟩
theorem CG.next {w0 w : World} {b jb pb xb eb bm mb sb : Nat} {Y : Nat -> Prop} {n : Nat} {S : PS} {L : List ByteArray} {A : List (Nat × Nat)} {hn : Nat} {Mw Mn : List ByteArray} {T U : Nat -> En} {B : Nat -> Bool} (h : CG w0 w b jb pb xb eb bm mb sb Y n S L A hn Mw Mn T U B) {w' : World} {S' : PS} {L' : List ByteArray} {A' : List (Nat × Nat)} {hn' : Nat} {Mw' Mn' : List ByteArray} {T' : Nat -> En} {B' : Nat -> Bool} (K : PK w0 w' b jb pb S' (Xf Y xb eb bm)) (ho : Only (fun x => ¬ Xf Y xb eb bm x) w w') (hs : Seen S' L' A' hn' Mw' Mn') (hi : IS Mn' 20 n T') (hT : TOk n T') (hm : MS Mn' 19 n B') : CG w0 w' b jb pb xb eb bm mb sb Y n S' L' A' hn' Mw' Mn' T' U B' :=
 ⟨h.ig.next K ho hs hi hT, h.mp.only ho (fun q => q (.inl h.ym)), hm, h.ym, h.ys, h.st.only ho (fun q => q (.inl h.ys)), h.n24⟩
theorem CG.turn {w0 w : World} {b jb pb xb eb bm mb sb : Nat} {Y : Nat -> Prop} {n : Nat} {S : PS} {L : List ByteArray} {A : List (Nat × Nat)} {hn : Nat} {Mw Mn : List ByteArray} {T U : Nat -> En} {B : Nat -> Bool} (h : CG w0 w b jb pb xb eb bm mb sb Y n S L A hn Mw Mn T U B) {w' : World} {S' : PS} {eb' bm' : Nat} {Mn' : List ByteArray} {T' U' : Nat -> En} (k : IG w0 w' b jb pb xb eb' bm' Y 20 n S' L A hn Mw Mn' T' U') (ho : Only (fun x => ¬ Y x) w w') (hm : MS Mn' 19 n B) : CG w0 w' b jb pb xb eb' bm' mb sb Y n S' L A hn Mw Mn' T' U' B :=
 ⟨k, h.mp.only ho (fun q => q h.ym), hm, h.ym, h.ys, h.st.only ho (fun q => q h.ys), h.n24⟩
theorem CG.srt {w0 w : World} {b jb pb xb eb bm mb sb : Nat} {Y : Nat -> Prop} {n : Nat} {S : PS} {L : List ByteArray} {A : List (Nat × Nat)} {hn : Nat} {Mw Mn : List ByteArray} {T U : Nat -> En} {B : Nat -> Bool} (h : CG w0 w b jb pb xb eb bm mb sb Y n S L A hn Mw Mn T U B) : Srt S.tx := h.bg.srt
theorem zEm {S S' : PS} {L : List ByteArray} {A : List (Nat × Nat)} {hn : Nat} {Mw Mn Mn' : List ByteArray} (h : Seen S L A hn Mw Mn) (h' : Seen S' L A hn Mw Mn') (hs : Srt S.tx) {q : Nat} {t : ByteArray} (e : S'.tx = zBU (q : Int) t S.tx) (k : Nat) (h1 : 19 <= k) (h2 : k < 128) (hk : k ≠ q) : Mn'.getD k ByteArray.empty = Mn.getD k ByteArray.empty := by
 rw [h.now k h1 h2, h'.now k h1 h2, e, zNt hs, if_neg (by omega)]
theorem zHk {M M' : List ByteArray} {n : Nat} {B : Nat -> Bool} (h : MS M 19 n B) (hn : n <= 24) (e : M'.getD 19 ByteArray.empty = M.getD 19 ByteArray.empty) : MS M' 19 n B := fun k hk => by
 have : k = 0 := by unfold pgs at hk; omega
 subst this
 obtain ⟨d, hd⟩ := h 0 hk
 exact ⟨d, by rw [show M'.getD (19 + 0) ByteArray.empty = M.getD (19 + 0) ByteArray.empty from e]; exact hd⟩
theorem zJv {M M' : List ByteArray} {n : Nat} {T : Nat -> En} (h : IS M 20 n T) (hn : n <= 24) (e : ∀ k, 20 <= k -> k < 24 -> M'.getD k ByteArray.empty = M.getD k ByteArray.empty) : IS M' 20 n T := fun k hk => by
 have : k < 4 := by unfold ipgs at hk; omega
 rw [e (20 + k) (by omega) (by omega)]
 exact h k hk
theorem CG.more {w0 w : World} {b jb pb xb eb bm mb sb : Nat} {Y : Nat -> Prop} {n : Nat} {S : PS} {L : List ByteArray} {A : List (Nat × Nat)} {hn : Nat} {Mw Mn : List ByteArray} {T U : Nat -> En} {B : Nat -> Bool} (h : CG w0 w b jb pb xb eb bm mb sb Y n S L A hn Mw Mn T U B) {w' : World} {Z : Nat -> Prop} (hb : Below w.heap.size w w') (hz : ∀ x, Z x -> Y x ∨ (w.heap.size <= x /\ x < w'.heap.size)) (hm : Z mb) (hs : Z sb) : CG w0 w' b jb pb xb eb bm mb sb Z n S L A hn Mw Mn T U B :=
 ⟨h.ig.more hb hz, h.mp.below hb, h.ms, hm, hs, h.st.only (Only.of_below (P := fun _ => False) hb) (fun q => q), h.n24⟩
def zHx (w0 w : World) (b jb pb xb eb bm mb sb : Nat) (Y : Nat -> Prop) (n : Nat) (S : PS) (L : List ByteArray) (A : List (Nat × Nat)) (hn : Nat) (Mw Mn : List ByteArray) (T U : Nat -> En) (B : Nat -> Bool) (w' : World) : Prop :=
 ∃ S', CG w0 w' b jb pb xb eb bm mb sb Y n S' L A hn Mw Mn T U B /\ S'.op = S.op /\ Tk S' S /\ Only (fun x => ¬ Xf Y xb eb bm x) w w'
def CChg (w0 w : World) (b jb pb xb eb bm mb sb : Nat) (Y : Nat -> Prop) (n : Nat) (S : PS) (L : List ByteArray) (A : List (Nat × Nat)) (hn : Nat) (Mw Mn : List ByteArray) (Q : List Nat) (T' U' : Nat -> En) (B' : Nat -> Bool) (R : List ByteArray -> Prop) (w' : World) : Prop :=
 ∃ S' Mn', CG w0 w' b jb pb xb eb bm mb sb Y n S' L A hn Mw Mn' T' U' B' /\ S'.op = true /\ S'.keep = S.keep /\ (∀ p ∈ S'.tx, p ∈ S.tx ∨ ∃ q ∈ Q, p.1 = ((q : Nat) : Int)) /\ (∀ k, 19 <= k -> k < 128 -> k ∉ Q -> Mn'.getD k ByteArray.empty = Mn.getD k ByteArray.empty) /\ R Mn' /\ Only (fun x => ¬ Y x) w w'
theorem CChg.less {w0 w : World} {b jb pb xb eb bm mb sb : Nat} {Y Z : Nat -> Prop} {n : Nat} {S : PS} {L : List ByteArray} {A : List (Nat × Nat)} {hn : Nat} {Mw Mn : List ByteArray} {Q : List Nat} {T' U' : Nat -> En} {B' : Nat -> Bool} {R : List ByteArray -> Prop} {w' : World} (h : CChg w0 w b jb pb xb eb bm mb sb Z n S L A hn Mw Mn Q T' U' B' R w') (hz : ∀ x, Y x -> Z x) (hm : Y mb) (hs : Y sb) : CChg w0 w b jb pb xb eb bm mb sb Y n S L A hn Mw Mn Q T' U' B' R w' := by
 obtain ⟨S', Mn', k1, k2, k3, k4, k5, k6, k7⟩ := h
 exact ⟨S', Mn', k1.more (Below.refl _ _) (fun x q => .inl (hz x q)) hm hs, k2, k3, k4, k5, k6, k7.mono (fun x _ q r => q (hz x r))⟩
theorem CG.put {w0 w : World} {b jb pb xb eb bm mb sb : Nat} {Y : Nat -> Prop} {n : Nat} {S : PS} {L : List ByteArray} {A : List (Nat × Nat)} {hn : Nat} {Mw Mn : List ByteArray} {T : Nat -> En} {B : Nat -> Bool} (h : CG w0 w b jb pb xb eb bm mb sb Y n S L A hn Mw Mn T T B) (ho : S.op = true) (i : Nat) (hi : i < n) (d : ByteArray) (hd : d.size = 32) (c : Nat) (hc1 : 1 <= c) (hc2 : c <= 65535) (hf : ∀ j c', T j = some (d, c') -> j = i) (hr : zAQ S ((20 + i / 6 : Nat) : Int) = true) : Calls Tryz.prog 14 #[.pointer (some ⟨xb, 0, none⟩), .agg #[.int .i64 (i : Int), .string d, .int .i64 (c : Int)]] w fun e w' => e = .returned (.int .i64 0) /\ CChg w0 w b jb pb xb eb bm mb sb Y n S L A hn Mw Mn [20 + i / 6] (upd T i (some (d, c))) (upd T i (some (d, c))) B (fun _ => True) w' := by
 have key : ∀ w', IChg w0 w b jb pb xb eb bm Y 20 n S L A hn Mw (upd T i (some (d, c))) i w' -> CChg w0 w b jb pb xb eb bm mb sb Y n S L A hn Mw Mn [20 + i / 6] (upd T i (some (d, c))) (upd T i (some (d, c))) B (fun _ => True) w' := by
  rintro w' ⟨S', Mn', k1, k2, ⟨⟨t, _, k3⟩, k5⟩, k4⟩
  have e := fun k h1 h2 hk => zEm h.ig.seen k1.seen h.srt k3 k h1 h2 hk
  refine ⟨S', Mn', h.turn k1 k4 (zHk h.ms h.n24 (e 19 (by omega) (by omega) (by omega))), k2, k5, fun p hp => ?_, fun k h1 h2 hk => e k h1 h2 (by simpa using hk), trivial, k4⟩
  rw [k3] at hp
  rcases zEO hp with q | q
  ·exact .inr ⟨_, List.mem_singleton.2 rfl, by rw [q]⟩
  ·exact .inl q
 by_cases q : ∃ c', T i = some (d, c')
 ·obtain ⟨c', hT⟩ := q
  refine (zMx h.ig ho i hi d hd c hc1 hc2 c' hT hr).mono ?_
  rintro e w' ⟨rfl, k⟩
  exact ⟨rfl, key w' k⟩
 ·refine (zJ1 h.ig ho i hi d hd c hc1 hc2 (fun j c' hj => q ⟨c', by rw [<- hf j c' hj]; exact hj⟩) hr).mono ?_
  rintro e w' ⟨rfl, k⟩
  exact ⟨rfl, key w' k⟩
theorem CG.clear {w0 w : World} {b jb pb xb eb bm mb sb : Nat} {Y : Nat -> Prop} {n : Nat} {S : PS} {L : List ByteArray} {A : List (Nat × Nat)} {hn : Nat} {Mw Mn : List ByteArray} {T : Nat -> En} {B : Nat -> Bool} (h : CG w0 w b jb pb xb eb bm mb sb Y n S L A hn Mw Mn T T B) (ho : S.op = true) (i : Nat) (hi : i < n) (d : ByteArray) (c : Nat) (hT : T i = some (d, c)) (hr : zAQ S ((20 + i / 6 : Nat) : Int) = true) : Calls Tryz.prog 128 #[.pointer (some ⟨xb, 0, none⟩), .int .i64 (i : Int)] w fun e w' => e = .returned (.int .i64 0) /\ CChg w0 w b jb pb xb eb bm mb sb Y n S L A hn Mw Mn [20 + i / 6] (upd T i none) (upd T i none) B (fun _ => True) w' := by
 refine (zLw h.ig ho i hi d c hT hr).mono ?_
 rintro e w' ⟨rfl, S', Mn', k1, k2, ⟨⟨t, _, k3⟩, k5⟩, k4⟩
 have e := fun k h1 h2 hk => zEm h.ig.seen k1.seen h.srt k3 k h1 h2 hk
 refine ⟨rfl, S', Mn', h.turn k1 k4 (zHk h.ms h.n24 (e 19 (by omega) (by omega) (by omega))), k2, k5, fun p hp => ?_, fun k h1 h2 hk => e k h1 h2 (by simpa using hk), trivial, k4⟩
 rw [k3] at hp
 rcases zEO hp with q | q
 ·exact .inr ⟨_, List.mem_singleton.2 rfl, by rw [q]⟩
 ·exact .inl q
theorem CG.turned {w0 w : World} {b jb pb xb eb bm mb sb : Nat} {Y : Nat -> Prop} {n : Nat} {S : PS} {L : List ByteArray} {A : List (Nat × Nat)} {hn : Nat} {Mw Mn : List ByteArray} {T U : Nat -> En} {B : Nat -> Bool} (h : CG w0 w b jb pb xb eb bm mb sb Y n S L A hn Mw Mn T U B) (p : Nat) (hp : p < n) {w' : World} (k : zID w0 w b jb pb mb (Xf Y xb eb bm) 19 n S L A hn Mw B p w') : CChg w0 w b jb pb xb eb bm mb sb Y n S L A hn Mw Mn [19] T U (flp B p) (fun _ => True) w' /\ Only (fun x => ¬ Xf Y xb eb bm x) w w' := by
 obtain ⟨S', Mn', k1, k2, ⟨⟨t, _, k3⟩, k5⟩, k4⟩ := k
 have e19 : 19 + p / 256 = 19 := by have := h.n24; omega
 rw [e19] at k3
 have e := fun k h1 h2 hk => zEm h.ig.seen k1.seen h.srt k3 k h1 h2 hk
 refine ⟨⟨S', Mn', h.next k1.pk k4 k1.seen (zJv h.ig.is h.n24 (fun k h1 h2 => e k (by omega) (by omega) (by omega))) h.ig.ok k1.ms, k2, k5, fun p hp => ?_, fun k h1 h2 hk => e k h1 h2 (by simpa using hk), trivial, k4.mono (fun x _ q r => q (.inl r))⟩, k4⟩
 rw [k3] at hp
 rcases zEO hp with q | q
 ·exact .inr ⟨_, List.mem_singleton.2 rfl, by rw [q]⟩
 ·exact .inl q
theorem CG.alloc {w0 w : World} {b jb pb xb eb bm mb sb : Nat} {Y : Nat -> Prop} {n : Nat} {S : PS} {L : List ByteArray} {A : List (Nat × Nat)} {hn : Nat} {Mw Mn : List ByteArray} {T U : Nat -> En} {B : Nat -> Bool} (h : CG w0 w b jb pb xb eb bm mb sb Y n S L A hn Mw Mn T U B) (ho : S.op = true) (p : Nat) (hl : Lea B n p) (hr : zAQ S 19 = true) : Calls Tryz.prog 172 #[.pointer (some ⟨mb, 0, none⟩)] w fun e w' => e = .returned (.tuple #[.int .i64 (p : Int), .int .i64 0]) /\ CChg w0 w b jb pb xb eb bm mb sb Y n S L A hn Mw Mn [19] T U (flp B p) (fun _ => True) w' /\ Only (fun x => ¬ Xf Y xb eb bm x) w w' := by
 have hp := hl.1
 have e19 : ((19 + p / 256 : Nat) : Int) = 19 := by have := h.n24; omega
 refine (zKC h.bg ho p hl (by rw [e19]; exact hr)).mono ?_
 rintro e w' ⟨rfl, k⟩
 exact ⟨rfl, h.turned p hp k⟩
theorem CG.free {w0 w : World} {b jb pb xb eb bm mb sb : Nat} {Y : Nat -> Prop} {n : Nat} {S : PS} {L : List ByteArray} {A : List (Nat × Nat)} {hn : Nat} {Mw Mn : List ByteArray} {T U : Nat -> En} {B : Nat -> Bool} (h : CG w0 w b jb pb xb eb bm mb sb Y n S L A hn Mw Mn T U B) (ho : S.op = true) (i : Nat) (hi : i < n) (hB : B i = true) (hr : zAQ S 19 = true) : Calls Tryz.prog 129 #[.pointer (some ⟨mb, 0, none⟩), .int .i64 (i : Int)] w fun e w' => e = .returned (.int .i64 0) /\ CChg w0 w b jb pb xb eb bm mb sb Y n S L A hn Mw Mn [19] T U (flp B i) (fun _ => True) w' /\ Only (fun x => ¬ Xf Y xb eb bm x) w w' := by
 have e19 : ((19 + i / 256 : Nat) : Int) = 19 := by have := h.n24; omega
 refine (zLU h.bg ho i hi hB (by rw [e19]; exact hr)).mono ?_
 rintro e w' ⟨rfl, k⟩
 exact ⟨rfl, h.turned i hi k⟩
theorem CG.write {w0 w : World} {b jb pb xb eb bm mb sb : Nat} {Y : Nat -> Prop} {n : Nat} {S : PS} {L : List ByteArray} {A : List (Nat × Nat)} {hn : Nat} {Mw Mn : List ByteArray} {T U : Nat -> En} {B : Nat -> Bool} (h : CG w0 w b jb pb xb eb bm mb sb Y n S L A hn Mw Mn T U B) (ho : S.op = true) (i : Nat) (hi : i < n) (t : ByteArray) (ht : t.size = 256) (hr : zAQ S ((30 + i : Nat) : Int) = true) : Calls Tryz.prog 23 #[.pointer (some ⟨pb, 0, none⟩), .int .i64 ((30 + i : Nat) : Int), .string t] w fun e w' => e = .returned (.int .i64 0) /\ CChg w0 w b jb pb xb eb bm mb sb Y n S L A hn Mw Mn [30 + i] T U B (fun M => M.getD (30 + i) ByteArray.empty = t) w' /\ Only (fun x => ¬ Xf Y xb eb bm x) w w' := by
 have hn24 := h.n24
 obtain ⟨r1, r2, r3, r4⟩ := h.ig.seen.write h.srt ho (30 + i) (by omega) (by omega) t ht hr
 have hc := zDQ h.ig.pk ((30 + i : Nat) : Int) t (by omega)
 rw [r1] at hc
 refine hc.mono ?_
 rintro e w' ⟨rfl, K, hO⟩
 have e := fun k h1 h2 hk => zEm h.ig.seen r2 h.srt r4 k h1 h2 hk
 refine ⟨rfl, ⟨_, _, h.next K hO r2 (zJv h.ig.is h.n24 (fun k h1 h2 => e k (by omega) (by omega) (by omega))) h.ig.ok (zHk h.ms h.n24 (e 19 (by omega) (by omega) (by omega))), r3, (zDP h.ig.seen.rst _ _).2.2, fun p hp => ?_, fun k h1 h2 hk => e k h1 h2 (by simpa using hk), zIi _ _ _ (by rw [h.ig.seen.ln]; omega), hO.mono (fun x _ q r => q (.inl r))⟩, hO⟩
 rw [r4] at hp
 rcases zEO hp with q | q
 ·exact .inr ⟨_, List.mem_singleton.2 rfl, by rw [q]⟩
 ·exact .inl q
end
section
open Go.RowKit Go.Maps Go.Sort Go.Shelf
theorem zCz {w0 w : World} {b jb pb xb eb bm mb sb : Nat} {Y : Nat -> Prop} {n : Nat} {S : PS} {L : List ByteArray} {A : List (Nat × Nat)} {hn : Nat} {Mw Mn : List ByteArray} {T U : Nat -> En} {B : Nat -> Bool} (h : CG w0 w b jb pb xb eb bm mb sb Y n S L A hn Mw Mn T U B) : Calls Tryz.prog 68 #[.pointer (some ⟨sb, 0, none⟩)] w fun e w' => e = .returned (.bool true) /\ w' = w := by
 obtain ⟨c0, c1, c2, c3⟩ := h.c
 clear h
 go_enter Tryz.func68, Tryz.ntmps68
 go_wp2
 go_ret
 exact ⟨rfl, rfl⟩
theorem zBZ (t : ByteArray) (w : World) : Calls Tryz.prog 102 #[.string t, .int .i64 0] w fun e w' => e = .returned .nilIface /\ w' = w := by
 go_enter Tryz.func102, Tryz.ntmps102
 go_wp2
 go_ret
 exact ⟨rfl, rfl⟩
theorem zHP {w0 w : World} {b jb pb : Nat} {S : PS} {X : Nat -> Prop} (K : PK w0 w b jb pb S X) (ho : S.op = true) : Calls Tryz.prog 175 #[.pointer (some ⟨pb, 0, none⟩)] w fun e w' => e = .returned (.bool true) /\ PK w0 w' b jb pb S X /\ Only (fun x => ¬ X x) w w' := by
 have HB := uB (zCC K)
 rw [show zAU S = 60 from by simp [zAU, ho], show zAG S = S from by simp [zAG, ho]] at HB
 clear K ho
 go_enter Tryz.func175, Tryz.ntmps175
 go_wp2_with (go_at_call 11; refine (uA HB).mono ?_; rintro e x1 ⟨rfl, K1, hO1⟩)
 go_ret
 exact ⟨rfl, K1, hO1⟩
theorem zDf {w0 w : World} {b jb pb xb eb bm mb sb : Nat} {Y : Nat -> Prop} {n : Nat} {S : PS} {L : List ByteArray} {A : List (Nat × Nat)} {hn : Nat} {Mw Mn : List ByteArray} {T U : Nat -> En} {B : Nat -> Bool} (h : CG w0 w b jb pb xb eb bm mb sb Y n S L A hn Mw Mn T U B) (ho : S.op = true) : Calls Tryz.prog 111 #[.pointer (some ⟨sb, 0, none⟩)] w fun e w' => e = .returned .nilIface /\ CG w0 w' b jb pb xb eb bm mb sb Y n S L A hn Mw Mn T U B /\ Only (fun x => ¬ Xf Y xb eb bm x) w w' := by
 have HW := uB (zCz h)
 have HO := uB (zHP h.ig.pk ho)
 obtain ⟨c0, c1, c2, c3⟩ := h.c
 have HC := uB h
 clear h ho
 go_enter Tryz.func111, Tryz.ntmps111
 go_wp2_with (first | (go_at_call 68; refine (uA HW).mono ?_; rintro e w' ⟨rfl, hw'⟩; subst w') | (go_at_call 175; refine (uA HO).mono ?_; rintro e x1 ⟨rfl, K1, hO1⟩))
 go_ret
 exact ⟨rfl, (uA HC).next K1 hO1 (uA HC).ig.seen (uA HC).ig.is (uA HC).ig.ok (uA HC).ms, hO1⟩
theorem CG.find {w0 w : World} {b jb pb xb eb bm mb sb : Nat} {Y : Nat -> Prop} {n : Nat} {S : PS} {L : List ByteArray} {A : List (Nat × Nat)} {hn : Nat} {Mw Mn : List ByteArray} {T U : Nat -> En} {B : Nat -> Bool} (h : CG w0 w b jb pb xb eb bm mb sb Y n S L A hn Mw Mn T U B) (i : Nat) (d : ByteArray) (c : Nat) (hU : U i = some (d, c)) : Calls Tryz.prog 13 #[.pointer (some ⟨xb, 0, none⟩), .string d] w fun e w' => e = .returned (.tuple #[.int .i64 (i : Int), .bool true]) /\ Below w.heap.size w w' := by
 have hd : d.size = 32 := (h.ig.oku.ok i d c hU).1
 exact zFv h.ig.im d hd (i : Int) true (fun _ hW => hW.hit hU hd)
theorem CG.find_no {w0 w : World} {b jb pb xb eb bm mb sb : Nat} {Y : Nat -> Prop} {n : Nat} {S : PS} {L : List ByteArray} {A : List (Nat × Nat)} {hn : Nat} {Mw Mn : List ByteArray} {T U : Nat -> En} {B : Nat -> Bool} (h : CG w0 w b jb pb xb eb bm mb sb Y n S L A hn Mw Mn T U B) (d : ByteArray) (hd : d.size = 32) (hU : ∀ j c, U j ≠ some (d, c)) : Calls Tryz.prog 13 #[.pointer (some ⟨xb, 0, none⟩), .string d] w fun e w' => e = .returned (.tuple #[.int .i64 0, .bool false]) /\ Below w.heap.size w w' :=
 zFv h.ig.im d hd 0 false (fun _ hW => hW.miss hd hU)
theorem zEC {w0 w : World} {b jb pb xb eb bm mb sb : Nat} {Y : Nat -> Prop} {n : Nat} {S : PS} {L : List ByteArray} {A : List (Nat × Nat)} {hn : Nat} {Mw Mn : List ByteArray} {T U : Nat -> En} {B : Nat -> Bool} (h : CG w0 w b jb pb xb eb bm mb sb Y n S L A hn Mw Mn T U B) (i : Nat) (hi : i < n) (d : ByteArray) (c : Nat) (hU : U i = some (d, c)) : Calls Tryz.prog 58 #[.pointer (some ⟨sb, 0, none⟩), .string d] w fun e w' => e = .returned (.tuple #[.agg #[.int .i64 (i : Int), .string d, .int .i64 (c : Int)], .nilIface]) /\ Below w.heap.size w w' := by
 obtain ⟨g, hg⟩ : ∃ q, w.heap.size = q := ⟨_, rfl⟩
 obtain ⟨x1, hx1⟩ : ∃ q, w.alloc (.cells #[.int .i64 0, .string ⟨#[]⟩, .int .i64 0] 40) = q := ⟨_, rfl⟩
 have hb1 : Below g w x1 := by rw [<- hx1, <- hg]; exact (Below.refl _ w).alloc (Nat.le_refl _) _
 have B1 : Blk x1 g #[.int .i64 0, .string ⟨#[]⟩, .int .i64 0] 40 := by rw [<- hx1, <- hg]; exact Blk.new w _ _
 have G1 : CG w0 x1 b jb pb xb eb bm mb sb Y n S L A hn Mw Mn T U B := h.below (by rw [hg]; exact hb1)
 have HW := uB (zCz G1)
 have HF := uB (G1.find i d c hU)
 obtain ⟨c0, c1, c2, c3⟩ := G1.c
 have X1 := uB (And.intro G1 (And.intro B1 (And.intro hb1 (And.intro hi hU))))
 have HWH := uB (fun t W => zBZ t W)
 clear h hi hU hb1 B1 G1
 rw [hg]
 go_enter Tryz.func58, Tryz.ntmps58
 go_wp2_with (go_at_call 68; refine (uA HW).mono ?_; rintro e w' ⟨rfl, hw'⟩; subst w')
 refine (uA HF).mono ?_
 rintro e y2 ⟨rfl, hb2⟩
 obtain ⟨G1, B1, hb1, hi, hU⟩ := uA X1
 have G2 := G1.below hb2
 have B2 := B1.below hb2 B1.lt
 have hb12 : Below g w y2 := hb1.trans (hb2.mono (by rw [<- hg]; exact hb1.size))
 obtain ⟨d0, d1, d2, d3⟩ := G2.c
 have HG := uB (zKY G2.ig.im G2.ig.oku (by have := G2.n24; omega) i hi d c hU)
 have X2 := uB (And.intro B2 hb12)
 clear G1 B1 hb1 hi hU G2 B2 hb2 hb12 HF HW X1 c0 c1 c2 c3
 go_wp2_with fail
 refine (uA HG).mono ?_
 rintro e y3 ⟨rfl, hb3⟩
 have B3 := (uA X2).1.below hb3 (uA X2).1.lt
 have hb13 : Below g w y3 := (uA X2).2.trans (hb3.mono (by rw [<- hg]; exact (uA X2).2.size))
 obtain ⟨g2, hg2⟩ : ∃ q, y3.heap.size = q := ⟨_, rfl⟩
 have hne : g ≠ g2 := by rw [<- hg2]; exact Nat.ne_of_lt B3.lt
 have X3 := uB (And.intro B3 (And.intro hb13 hne))
 clear hb3 B3 hb13 hne HG X2 d0 d1 d2 d3
 go_wp2
 obtain ⟨y4, hy4⟩ : ∃ q, y3.alloc (.cells #[.int .i64 (i : Int), .string d, .int .i64 (c : Int)] 40) = q := ⟨_, rfl⟩
 rw [hy4]
 obtain ⟨B3, hb13, hne⟩ := uA X3
 have hb4 : Below y3.heap.size y3 y4 := by rw [<- hy4]; exact (Below.refl _ y3).alloc (Nat.le_refl _) _
 have C4 : Blk y4 g2 #[.int .i64 (i : Int), .string d, .int .i64 (c : Int)] 40 := by rw [<- hy4, <- hg2]; exact Blk.new y3 _ _
 have B4 : Blk y4.drew g #[.int .i64 0, .string ⟨#[]⟩, .int .i64 0] 40 := (B3.below hb4 B3.lt).below ((Below.refl _ y4).drew) (B3.below hb4 B3.lt).lt
 have C4' : Blk y4.drew g2 #[.int .i64 (i : Int), .string d, .int .i64 (c : Int)] 40 := C4.below ((Below.refl _ y4).drew) C4.lt
 have hb14 : Below g w y4.drew := (hb13.trans (hb4.mono (by rw [<- hg]; exact hb13.size))).drew
 have q0 : y4.drew.cell? ⟨g, 0, none⟩ = some (.int .i64 0) := B4.cell 0
 have q1 : y4.drew.cell? ⟨g, 1, none⟩ = some (.string ⟨#[]⟩) := B4.cell 1
 have q2 : y4.drew.cell? ⟨g, 2, none⟩ = some (.int .i64 0) := B4.cell 2
 have p0 := B4.frozen 0
 have p1 := B4.frozen 1
 have p2 := B4.frozen 2
 have X4 := uB (And.intro B4 (And.intro C4' (And.intro hb14 hne)))
 clear B3 hb13 hne hb4 B4 hb14 X3 hy4 hg2 hx1
 refine wp_region_held_drew (S := fun w' => Blk w' g2 #[.int .i64 (i : Int), .string d, .int .i64 (c : Int)] 40) (by kernel_rfl) C4 ?_
 intro hS
 generalize y4.drew = y5 at *
 refine yL 0 (some 37) (.agg #[.int .i64 (i : Int), .string d, .int .i64 (c : Int)]) rfl (fun w hSw => by have a0 : w.cell? ⟨g2, 0, none⟩ = some (.int .i64 (i : Int)) := Blk.cell hSw 0; have a1 : w.cell? ⟨g2, 1, none⟩ = some (.string d) := Blk.cell hSw 1; have a2 : w.cell? ⟨g2, 2, none⟩ = some (.int .i64 (c : Int)) := Blk.cell hSw 2; go_simp) hS ?_
 refine yL 1 (some 38) (.int .i64 0) rfl (fun w hSw => by go_simp) hS ?_
 refine wpAnyH_ready (rs := [2]) (by kernel_rfl) (by simp) ?_
 refine AllReadyH.cons rfl (fun K hK => ?_) AllReadyH.nil
 simp only [lD, lE, lF]
 go_simp
 refine (uA HWH _ _).mono ?_
 rintro e w' ⟨rfl, hw'⟩
 subst w'
 refine hK.out _ _ C4' (fun hS => ?_)
 clear hK K
 refine wpAnyH_ready (rs := [3]) (by kernel_rfl) (by simp) ?_
 refine AllReadyH.cons rfl (fun K hK => ?_) AllReadyH.nil
 simp only [lD, lE, lF]
 go_simp
 have B5 := (((uA X4).1.set 0 (.int .i64 (i : Int))).set 1 (.string d)).set 2 (.int .i64 (c : Int))
 have C5 := (uA X4).2.1.only ((((Only.refl (fun x => x = g) y5).setCell ⟨g, 0, none⟩ (.int .i64 (i : Int)) (fun _ => rfl)).setCell ⟨g, 1, none⟩ (.string d) (fun _ => rfl)).setCell ⟨g, 2, none⟩ (.int .i64 (c : Int)) (fun _ => rfl)) (fun e => (uA X4).2.2.2 e.symm)
 have hb5 : Below g w (((y5.setCell ⟨g, 0, none⟩ (.int .i64 (i : Int))).setCell ⟨g, 1, none⟩ (.string d)).setCell ⟨g, 2, none⟩ (.int .i64 (c : Int))) := (((uA X4).2.2.1.setCell (p := ⟨g, 0, none⟩) (Nat.le_refl _) _).setCell (p := ⟨g, 1, none⟩) (Nat.le_refl _) _).setCell (p := ⟨g, 2, none⟩) (Nat.le_refl _) _
 have X5 := uB (And.intro B5 hb5)
 clear B5 hb5 X4 q0 q1 q2 p0 p1 p2 C4 C4'
 refine hK.out _ _ C5 (fun hS => ?_)
 clear hK K
 refine yL 4 (some 5) (.nilIface) rfl (fun w hSw => by go_simp) hS ?_
 refine wpAnyH_done (by kernel_rfl) ?_ _
 clear hS C5
 go_wp2
 have hld := zBd 40 _ (uA X5).1 Tryz.underlying40 rfl (by kernel_rfl)
 refine bodyPost_ret (v := .tuple #[.agg #[.int .i64 (i : Int), .string d, .int .i64 (c : Int)], .nilIface]) (zAS (p := 4) (q := 5) (ty := 40) rfl _ _ _ ⟨g, 0, none⟩ rfl _ hld) rfl ⟨rfl, (uA X5).2⟩
theorem zDE {w0 w : World} {b jb pb xb eb bm mb sb : Nat} {Y : Nat -> Prop} {n : Nat} {S : PS} {L : List ByteArray} {A : List (Nat × Nat)} {hn : Nat} {Mw Mn : List ByteArray} {T U : Nat -> En} {B : Nat -> Bool} {e0 e1 e2 : Addr} (h : CG w0 w b jb pb xb eb bm mb sb Y n S L A hn Mw Mn T U B) (hs : Snt w e0 e1 e2) (d : ByteArray) (hd : d.size = 32) (hU : ∀ j c, U j ≠ some (d, c)) : Calls Tryz.prog 58 #[.pointer (some ⟨sb, 0, none⟩), .string d] w fun e w' => e = .returned (.tuple #[.agg #[.int .i64 0, .string ⟨#[]⟩, .int .i64 0], eP e0]) /\ Below w.heap.size w w' := by
 obtain ⟨g, hg⟩ : ∃ q, w.heap.size = q := ⟨_, rfl⟩
 obtain ⟨x1, hx1⟩ : ∃ q, w.alloc (.cells #[.int .i64 0, .string ⟨#[]⟩, .int .i64 0] 40) = q := ⟨_, rfl⟩
 have hb1 : Below g w x1 := by rw [<- hx1, <- hg]; exact (Below.refl _ w).alloc (Nat.le_refl _) _
 have B1 : Blk x1 g #[.int .i64 0, .string ⟨#[]⟩, .int .i64 0] 40 := by rw [<- hx1, <- hg]; exact Blk.new w _ _
 have G1 : CG w0 x1 b jb pb xb eb bm mb sb Y n S L A hn Mw Mn T U B := h.below (by rw [hg]; exact hb1)
 have HW := uB (zCz G1)
 have HF := uB (G1.find_no d hd hU)
 obtain ⟨c0, c1, c2, c3⟩ := G1.c
 have X1 := uB (And.intro hs (And.intro B1 hb1))
 clear h hs hd hU hb1 B1 G1
 rw [hg]
 go_enter Tryz.func58, Tryz.ntmps58
 go_wp2_with (go_at_call 68; refine (uA HW).mono ?_; rintro e w' ⟨rfl, hw'⟩; subst w')
 refine (uA HF).mono ?_
 rintro e y2 ⟨rfl, hb2⟩
 obtain ⟨hs, B1, hb1⟩ := uA X1
 have hb12 : Below g w y2 := hb1.trans (hb2.mono (by rw [<- hg]; exact hb1.size))
 have hs2 : Snt y2 e0 e1 e2 := hs.below (by rw [hg]; exact hb12)
 have hs4 : Snt y2.drew e0 e1 e2 := hs.below (by rw [hg]; exact hb12.drew)
 have B4 : Blk y2.drew g #[.int .i64 0, .string ⟨#[]⟩, .int .i64 0] 40 := (B1.below hb2 B1.lt).below ((Below.refl _ y2).drew) (B1.below hb2 B1.lt).lt
 have hlt : 0 < g := by rw [<- hg]; exact World.block_lt_of_cell? w _ hs.g0
 have gg := hs2.g0
 have q0 : y2.drew.cell? ⟨g, 0, none⟩ = some (.int .i64 0) := B4.cell 0
 have q1 : y2.drew.cell? ⟨g, 1, none⟩ = some (.string ⟨#[]⟩) := B4.cell 1
 have q2 : y2.drew.cell? ⟨g, 2, none⟩ = some (.int .i64 0) := B4.cell 2
 have p0 := B4.frozen 0
 have p1 := B4.frozen 1
 have p2 := B4.frozen 2
 have X4 := uB (And.intro B4 (And.intro hb12.drew (And.intro hs4 hlt)))
 clear hs B1 hb1 hb2 hb12 hs2 hs4 B4 hlt HF HW X1 c0 c1 c2 c3 hx1
 go_wp2
 refine wp_region_held_drew (S := fun w' => w'.cell? ⟨0, 0, none⟩ = some (eP e0)) (by kernel_rfl) gg ?_
 intro hS
 generalize y2.drew = y5 at *
 refine yL 0 (some 26) (.agg #[.int .i64 0, .string ⟨#[]⟩, .int .i64 0]) rfl (fun w hSw => by go_simp) hS ?_
 refine yL 1 (some 27) (eP e0) rfl (fun w hSw => by go_simp) hS ?_
 refine wpAnyH_ready (rs := [2]) (by kernel_rfl) (by simp) ?_
 refine AllReadyH.cons rfl (fun K hK => ?_) AllReadyH.nil
 simp only [lD, lE, lF]
 go_simp
 have B5 := (((uA X4).1.set 0 (.int .i64 0)).set 1 (.string ⟨#[]⟩)).set 2 (.int .i64 0)
 have O5 := (((Only.refl (fun x => x = g) y5).setCell ⟨g, 0, none⟩ (.int .i64 0) (fun _ => rfl)).setCell ⟨g, 1, none⟩ (.string ⟨#[]⟩) (fun _ => rfl)).setCell ⟨g, 2, none⟩ (.int .i64 0) (fun _ => rfl)
 have C5 := (World.cell?_of_block (a := ⟨0, 0, none⟩) (O5.2 0 (World.block_lt_of_cell? y5 _ (uA X4).2.2.1.g0) (Nat.ne_of_lt (uA X4).2.2.2))).trans (uA X4).2.2.1.g0
 have hb5 := (((uA X4).2.1.setCell (p := ⟨g, 0, none⟩) (Nat.le_refl _) (.int .i64 0)).setCell (p := ⟨g, 1, none⟩) (Nat.le_refl _) (.string ⟨#[]⟩)).setCell (p := ⟨g, 2, none⟩) (Nat.le_refl _) (.int .i64 0)
 have X5 := uB (And.intro B5 hb5)
 clear B5 hb5 O5 X4 q0 q1 q2 p0 p1 p2 gg
 refine hK.out _ _ C5 (fun hS => ?_)
 clear hK K
 refine yL 3 (some 5) (eP e0) rfl (fun w hSw => by go_simp) hS ?_
 refine wpAnyH_done (by kernel_rfl) ?_ _
 clear hS C5
 go_wp2
 have hld := zBd 40 _ (uA X5).1 Tryz.underlying40 rfl (by kernel_rfl)
 refine bodyPost_ret (v := .tuple #[.agg #[.int .i64 0, .string ⟨#[]⟩, .int .i64 0], eP e0]) (zAS (p := 4) (q := 5) (ty := 40) rfl _ _ _ ⟨g, 0, none⟩ rfl _ hld) rfl ⟨rfl, (uA X5).2⟩
end
end Go.Proofs.YtdpnbemagiekoaaGreatDoor
