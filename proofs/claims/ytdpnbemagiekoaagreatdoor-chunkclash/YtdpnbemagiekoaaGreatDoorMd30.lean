import Derived.Test.YtdpnbemagiekoaaGreatDoorMd24
import Derived.Test.YtdpnbemagiekoaaGreatDoorMd29
import Derived.Test.YtdpnbemagiekoaaGreatDoorMd28
import Derived.Test.YtdpnbemagiekoaaGreatDoorMd00
namespace Go.Proofs.YtdpnbemagiekoaaGreatDoor
open Go.RowKit Go.Maps Go.Sort Go.Shelf
def ib0 : ByteArray := strOfNums (List.replicate 222 0)
theorem ib0_size : ib0.size = 222 := by rw [ib0, strOfNums_size, List.length_replicate]
theorem ib0_ibd (k : Nat) : ibd (fun _ => none) k = ib0 := by
  refine (cat_one _ 6 ib0 ib0_size (fun i hi => ?_)).symm
  apply nums_inj
  rw [nums_extract, ib0, nums_strOfNums _ (zeros_byte 222), slB_nums]
  show _ = List.replicate 37 0
  rw [List.take_replicate, List.drop_replicate]
  congr 1
  omega
def pgZI (m : Nat) : List ByteArray := (List.range m).map fun k => pgI k ib0
theorem pgZI_len (m : Nat) : (pgZI m).length = m := by simp [pgZI]
theorem pgZI_succ (m : Nat) : strs (pgZI (m + 1)) = strs (pgZI m) ++ [.string (pgI m ib0)] := by simp [pgZI, strs, List.range_succ]
theorem pgZI_at (m k : Nat) (h : k < m) : (pgZI m).getD k ByteArray.empty = pgI k ib0 := by simp [pgZI, List.getD_eq_getElem?_getD, h]
def InII (w : World) (m : Nat) (u : Value) (wr : World) : Prop := wr.ownsRow w.heap.size 9 1 u m (strs (pgZI m)) ∧ Below w.heap.size w wr
set_option maxRecDepth 100000 in
set_option maxHeartbeats 2000000 in
theorem iinitial_any (n : Nat) (hn1 : 1 ≤ n) (hn2 : n ≤ 1024) (w : World) : Calls Tryz.prog 39 #[.int .i64 (n : Int)] w fun e w' => ∃ v, e = .returned (.tuple #[v, .int .i64 0]) ∧ InII w (ipgs n) v w' := by
  obtain ⟨i0, hi, hz0, hz1, hz2⟩ := info_parts infoS
  have HI := hide (And.intro hi (And.intro hz0 (And.intro hz1 hz2)))
  clear hi hz0 hz1 hz2
  have HCN := hide (fun W => iisCount_any (n : Int) W)
  rw [decide_eq_true (show (1 : Int) ≤ (n : Int) by omega), decide_eq_true (show (n : Int) ≤ 1024 by omega)] at HCN
  have HPO := hide (fun W => ipagesOf_any n hn2 W)
  have h4 := ipgs_le hn2
  have HRP := hide (fun W => rep_ok 222 W (by decide))
  have HZB := hide (show strOfNums (List.replicate 222 0) = ib0 from rfl)
  obtain ⟨Z, hZ⟩ : ∃ Z, strOfNums (List.replicate 222 0) = Z := ⟨_, rfl⟩
  rw [hZ] at HRP HZB
  clear hZ
  simp only [Int.cast_ofNat_Int] at HRP
  generalize ipgs n = P0 at *
  go_enter Tryz.func39, Tryz.ntmps39
  go_wp2_with (first | (go_at_call 95; refine (unhide HCN _).mono ?_; rintro e w' ⟨rfl, hw'⟩; subst w') | (go_at_call 60; refine (unhide HPO _).mono ?_; rintro e w' ⟨rfl, hw'⟩; subst w'))
  go_loopw [4, 11] (fun u i wr => ∃ k : Nat, k ≤ P0 ∧ i = .int .i64 (k : Int) ∧ InII w k u wr) (fun _ i _ => P0 - (intOf i).toNat)
  case atStart => exact ⟨0, by omega, rfl, World.ownsRow_nil _ _ _ _, Below.refl _ _⟩
  case round =>
    obtain ⟨k, hk, rfl, hR, hB⟩ := hrel
    obtain ⟨wo, rfl⟩ : ∃ wo, wo = wr := ⟨_, rfl⟩
    obtain ⟨pv, cv, rfl, hcv⟩ := row_form hR
    by_cases hkn : k < P0
    · have hkn' : (k : Int) < (P0 : Int) := by omega
      have HR := hide hR
      have HB := hide hB
      clear hR hB hcv
      go_wp2_with fail
      refine (unhide HRP _).mono ?_
      rintro e y1 ⟨rfl, hb1⟩
      have HSE := hide (isectorOf_any k Z y1)
      have HB1 := hide hb1
      obtain ⟨t, ht⟩ : ∃ t, pgI k Z = t := ⟨_, rfl⟩
      rw [ht] at HSE
      have HT := hide (show pgI k ib0 = t from by rw [← ht, unhide HZB])
      clear hb1 ht
      go_wp2_with fail
      refine (unhide HSE).mono ?_
      rintro e y2 ⟨rfl, hb2⟩
      have hB2 : Below wo.heap.size wo y2 := (unhide HB1).trans (hb2.mono (unhide HB1).size)
      have HRA := hide (show (y2.alloc (.cells #[.string t] 9)).ownsRow w.heap.size 9 1 (.slice pv k cv) k (strs (pgZI k)) from (owns_only (unhide HR) (Only.of_below (P := fun _ => False) hB2) (fun _ _ q => q)).alloc _)
      have HXB := hide ((unhide HB).trans ((hB2.alloc hB2.size (.cells #[.string t] 9)).mono (unhide HB).size))
      clear hb2 hB2 HSE HB1
      go_wp2_with (refine wpList_append_own _ rfl (.tmp 14) (.tmp 18) 62 rfl w.heap.size 9 i0 (.string ⟨#[]⟩) 1 16 Tryz.underlying62 (unhide HI).1 (unhide HI).2.1 (unhide HI).2.2.1 (unhide HI).2.2.2 rfl (by decide) _ k (strs (pgZI k)) rfl (unhide HRA) ⟨y2.heap.size, 0, none⟩ 1 1 [.string t] rfl rfl (fun q u hu => news_one y2 9 _ q u hu) (by simp [Value.oneCell']) (by unfold maxLen; omega) (by omega) (unhide HXB).size ?_)
      intro v5 x5 ho5 hg5 _
      have HRR := hide (show InII w (k + 1) v5 x5 from ⟨by rw [pgZI_succ, unhide HT]; exact ho5, (unhide HXB).grown hg5 (unhide HXB).size (fun q hq => ((unhide HRA).lt q hq).1)⟩)
      clear ho5 hg5 HRA HXB HT
      go_wp2
      go_roundw
      case rel => exact ⟨k + 1, by omega, by go_num, unhide HRR⟩
      case measure => simp [intOf]; omega
    · have hke : k = P0 := by omega
      have hkn' : ¬ (k : Int) < (P0 : Int) := by omega
      subst hke
      have HF := hide (show InII w k (.slice pv k cv) wo from ⟨hR, hB⟩)
      clear hR hB hcv
      go_wp2
      go_ret2
      exact ⟨_, rfl, unhide HF⟩
end Go.Proofs.YtdpnbemagiekoaaGreatDoor

namespace Go.Proofs.YtdpnbemagiekoaaGreatDoor
open Go.RowKit Go.Maps Go.Sort Go.Shelf
/-- The three errors of package chunk. -/
structure Snt (w : World) (e0 e1 e2 : Addr) : Prop where
  g0 : w.cell? ⟨0, 0, none⟩ = some (eP e0)
  g1 : w.cell? ⟨1, 0, none⟩ = some (eP e1)
  g2 : w.cell? ⟨2, 0, none⟩ = some (eP e2)
  h0 : ∃ c t, w.heap[e0.block]? = some (.cells c t (0, 0))
  h1 : ∃ c t, w.heap[e1.block]? = some (.cells c t (0, 0))
  h2 : ∃ c t, w.heap[e2.block]? = some (.cells c t (0, 0))
  n01 : e0 ≠ e1
  n02 : e0 ≠ e2
  n12 : e1 ≠ e2
theorem some_lt {w : World} {k : Nat} {o : Obj} (h : w.heap[k]? = some o) : k < w.heap.size := by
  rcases Nat.lt_or_ge k w.heap.size with q | q
  · exact q
  · rw [Array.getElem?_eq_none q] at h
    cases h
theorem Snt.below {w w' : World} {e0 e1 e2 : Addr} (h : Snt w e0 e1 e2) (hb : Below w.heap.size w w') : Snt w' e0 e1 e2 := by
  obtain ⟨c0, t0, k0⟩ := h.h0
  obtain ⟨c1, t1, k1⟩ := h.h1
  obtain ⟨c2, t2, k2⟩ := h.h2
  exact ⟨(hb.cell (World.block_lt_of_cell? w _ h.g0)).trans h.g0, (hb.cell (World.block_lt_of_cell? w _ h.g1)).trans h.g1, (hb.cell (World.block_lt_of_cell? w _ h.g2)).trans h.g2, ⟨c0, t0, (hb.block _ (some_lt k0)).trans k0⟩, ⟨c1, t1, (hb.block _ (some_lt k1)).trans k1⟩, ⟨c2, t2, (hb.block _ (some_lt k2)).trans k2⟩, h.n01, h.n02, h.n12⟩
/-- A store's cells. -/
def Scs (pb mb xb : Nat) : Array Value := #[.pointer (some ⟨pb, 0, none⟩), .pointer (some ⟨mb, 0, none⟩), .pointer (some ⟨xb, 0, none⟩), .int .i64 30]
/-- A store over a pool whose disk lives: B is taken and T stands in the pages as the transaction sees them, U in the index's memory. -/
structure CG (w0 w : World) (b jb pb xb eb bm mb sb : Nat) (Y : Nat → Prop) (n : Nat) (S : PS) (L : List ByteArray) (A : List (Nat × Nat)) (hn : Nat) (Mw Mn : List ByteArray) (T U : Nat → En) (B : Nat → Bool) : Prop where
  ig : IG w0 w b jb pb xb eb bm Y 20 n S L A hn Mw Mn T U
  mp : MB w mb pb 19 n
  ms : MS Mn 19 n B
  ym : Y mb
  ys : Y sb
  st : Blk w sb (Scs pb mb xb) 125
  n24 : n ≤ 24
theorem CG.bel {w0 w : World} {b jb pb xb eb bm mb sb : Nat} {Y : Nat → Prop} {n : Nat} {S : PS} {L : List ByteArray} {A : List (Nat × Nat)} {hn : Nat} {Mw Mn : List ByteArray} {T U : Nat → En} {B : Nat → Bool} (h : CG w0 w b jb pb xb eb bm mb sb Y n S L A hn Mw Mn T U B) : Below w0.heap.size w0 w := h.ig.pk.bel
theorem CG.bg {w0 w : World} {b jb pb xb eb bm mb sb : Nat} {Y : Nat → Prop} {n : Nat} {S : PS} {L : List ByteArray} {A : List (Nat × Nat)} {hn : Nat} {Mw Mn : List ByteArray} {T U : Nat → En} {B : Nat → Bool} (h : CG w0 w b jb pb xb eb bm mb sb Y n S L A hn Mw Mn T U B) : BG w0 w b jb pb mb (Xf Y xb eb bm) 19 n S L A hn Mw Mn B :=
  ⟨h.ig.pk, h.mp, .inl h.ym, h.ig.ety, h.ig.seen, h.ms, by decide, by have := h.n24; unfold pgs; omega, h.ig.n1, by have := h.n24; omega⟩
theorem CG.below {w0 w : World} {b jb pb xb eb bm mb sb : Nat} {Y : Nat → Prop} {n : Nat} {S : PS} {L : List ByteArray} {A : List (Nat × Nat)} {hn : Nat} {Mw Mn : List ByteArray} {T U : Nat → En} {B : Nat → Bool} (h : CG w0 w b jb pb xb eb bm mb sb Y n S L A hn Mw Mn T U B) {w' : World} (hb : Below w.heap.size w w') : CG w0 w' b jb pb xb eb bm mb sb Y n S L A hn Mw Mn T U B :=
  ⟨h.ig.below hb, h.mp.below hb, h.ms, h.ym, h.ys, h.st.only (Only.of_below (P := fun _ => False) hb) (fun q => q), h.n24⟩
theorem CG.c {w0 w : World} {b jb pb xb eb bm mb sb : Nat} {Y : Nat → Prop} {n : Nat} {S : PS} {L : List ByteArray} {A : List (Nat × Nat)} {hn : Nat} {Mw Mn : List ByteArray} {T U : Nat → En} {B : Nat → Bool} (h : CG w0 w b jb pb xb eb bm mb sb Y n S L A hn Mw Mn T U B) : w.cell? ⟨sb, 0, none⟩ = some (.pointer (some ⟨pb, 0, none⟩)) ∧ w.cell? ⟨sb, 1, none⟩ = some (.pointer (some ⟨mb, 0, none⟩)) ∧ w.cell? ⟨sb, 2, none⟩ = some (.pointer (some ⟨xb, 0, none⟩)) ∧ w.cell? ⟨sb, 3, none⟩ = some (.int .i64 30) :=
  ⟨by rw [h.st.cell]; rfl, by rw [h.st.cell]; rfl, by rw [h.st.cell]; rfl, by rw [h.st.cell]; rfl⟩
/-- The pool's part has gone on, nothing within the fence was touched. -/
theorem CG.next {w0 w : World} {b jb pb xb eb bm mb sb : Nat} {Y : Nat → Prop} {n : Nat} {S : PS} {L : List ByteArray} {A : List (Nat × Nat)} {hn : Nat} {Mw Mn : List ByteArray} {T U : Nat → En} {B : Nat → Bool} (h : CG w0 w b jb pb xb eb bm mb sb Y n S L A hn Mw Mn T U B) {w' : World} {S' : PS} {L' : List ByteArray} {A' : List (Nat × Nat)} {hn' : Nat} {Mw' Mn' : List ByteArray} {T' : Nat → En} {B' : Nat → Bool} (K : PK w0 w' b jb pb S' (Xf Y xb eb bm)) (ho : Only (fun x => ¬ Xf Y xb eb bm x) w w') (hs : Seen S' L' A' hn' Mw' Mn') (hi : IS Mn' 20 n T') (hT : TOk n T') (hm : MS Mn' 19 n B') : CG w0 w' b jb pb xb eb bm mb sb Y n S' L' A' hn' Mw' Mn' T' U B' :=
  ⟨h.ig.next K ho hs hi hT, h.mp.only ho (fun q => q (.inl h.ym)), hm, h.ym, h.ys, h.st.only ho (fun q => q (.inl h.ys)), h.n24⟩
/-- Another index over the same: what lies within the fence alone is as it was. -/
theorem CG.turn {w0 w : World} {b jb pb xb eb bm mb sb : Nat} {Y : Nat → Prop} {n : Nat} {S : PS} {L : List ByteArray} {A : List (Nat × Nat)} {hn : Nat} {Mw Mn : List ByteArray} {T U : Nat → En} {B : Nat → Bool} (h : CG w0 w b jb pb xb eb bm mb sb Y n S L A hn Mw Mn T U B) {w' : World} {S' : PS} {eb' bm' : Nat} {Mn' : List ByteArray} {T' U' : Nat → En} (k : IG w0 w' b jb pb xb eb' bm' Y 20 n S' L A hn Mw Mn' T' U') (ho : Only (fun x => ¬ Y x) w w') (hm : MS Mn' 19 n B) : CG w0 w' b jb pb xb eb' bm' mb sb Y n S' L A hn Mw Mn' T' U' B :=
  ⟨k, h.mp.only ho (fun q => q h.ym), hm, h.ym, h.ys, h.st.only ho (fun q => q h.ys), h.n24⟩
theorem CG.srt {w0 w : World} {b jb pb xb eb bm mb sb : Nat} {Y : Nat → Prop} {n : Nat} {S : PS} {L : List ByteArray} {A : List (Nat × Nat)} {hn : Nat} {Mw Mn : List ByteArray} {T U : Nat → En} {B : Nat → Bool} (h : CG w0 w b jb pb xb eb bm mb sb Y n S L A hn Mw Mn T U B) : Srt S.tx := h.bg.srt
/-- A page that was written: all others are as they were. -/
theorem seen_put {S S' : PS} {L : List ByteArray} {A : List (Nat × Nat)} {hn : Nat} {Mw Mn Mn' : List ByteArray} (h : Seen S L A hn Mw Mn) (h' : Seen S' L A hn Mw Mn') (hs : Srt S.tx) {q : Nat} {t : ByteArray} (e : S'.tx = txPut (q : Int) t S.tx) (k : Nat) (h1 : 19 ≤ k) (h2 : k < 128) (hk : k ≠ q) : Mn'.getD k ByteArray.empty = Mn.getD k ByteArray.empty := by
  rw [h.now k h1 h2, h'.now k h1 h2, e, at_put hs, if_neg (by omega)]
theorem ms_eq {M M' : List ByteArray} {n : Nat} {B : Nat → Bool} (h : MS M 19 n B) (hn : n ≤ 24) (e : M'.getD 19 ByteArray.empty = M.getD 19 ByteArray.empty) : MS M' 19 n B := fun k hk => by
  have : k = 0 := by unfold pgs at hk; omega
  subst this
  obtain ⟨d, hd⟩ := h 0 hk
  exact ⟨d, by rw [show M'.getD (19 + 0) ByteArray.empty = M.getD (19 + 0) ByteArray.empty from e]; exact hd⟩
theorem is_eq {M M' : List ByteArray} {n : Nat} {T : Nat → En} (h : IS M 20 n T) (hn : n ≤ 24) (e : ∀ k, 20 ≤ k → k < 24 → M'.getD k ByteArray.empty = M.getD k ByteArray.empty) : IS M' 20 n T := fun k hk => by
  have : k < 4 := by unfold ipgs at hk; omega
  rw [e (20 + k) (by omega) (by omega)]
  exact h k hk
theorem CG.more {w0 w : World} {b jb pb xb eb bm mb sb : Nat} {Y : Nat → Prop} {n : Nat} {S : PS} {L : List ByteArray} {A : List (Nat × Nat)} {hn : Nat} {Mw Mn : List ByteArray} {T U : Nat → En} {B : Nat → Bool} (h : CG w0 w b jb pb xb eb bm mb sb Y n S L A hn Mw Mn T U B) {w' : World} {Z : Nat → Prop} (hb : Below w.heap.size w w') (hz : ∀ x, Z x → Y x ∨ (w.heap.size ≤ x ∧ x < w'.heap.size)) (hm : Z mb) (hs : Z sb) : CG w0 w' b jb pb xb eb bm mb sb Z n S L A hn Mw Mn T U B :=
  ⟨h.ig.more hb hz, h.mp.below hb, h.ms, hm, hs, h.st.only (Only.of_below (P := fun _ => False) hb) (fun q => q), h.n24⟩
/-- What a call that changes nothing leaves. -/
def CKept (w0 w : World) (b jb pb xb eb bm mb sb : Nat) (Y : Nat → Prop) (n : Nat) (S : PS) (L : List ByteArray) (A : List (Nat × Nat)) (hn : Nat) (Mw Mn : List ByteArray) (T U : Nat → En) (B : Nat → Bool) (w' : World) : Prop :=
  ∃ S', CG w0 w' b jb pb xb eb bm mb sb Y n S' L A hn Mw Mn T U B ∧ S'.op = S.op ∧ Tk S' S ∧ Only (fun x => ¬ Xf Y xb eb bm x) w w'
/-- What a change leaves: the pages of the list Q were written. -/
def CChg (w0 w : World) (b jb pb xb eb bm mb sb : Nat) (Y : Nat → Prop) (n : Nat) (S : PS) (L : List ByteArray) (A : List (Nat × Nat)) (hn : Nat) (Mw Mn : List ByteArray) (Q : List Nat) (T' U' : Nat → En) (B' : Nat → Bool) (R : List ByteArray → Prop) (w' : World) : Prop :=
  ∃ S' Mn', CG w0 w' b jb pb xb eb bm mb sb Y n S' L A hn Mw Mn' T' U' B' ∧ S'.op = true ∧ S'.keep = S.keep ∧ (∀ p ∈ S'.tx, p ∈ S.tx ∨ ∃ q ∈ Q, p.1 = ((q : Nat) : Int)) ∧ (∀ k, 19 ≤ k → k < 128 → k ∉ Q → Mn'.getD k ByteArray.empty = Mn.getD k ByteArray.empty) ∧ R Mn' ∧ Only (fun x => ¬ Y x) w w'
theorem CG.put {w0 w : World} {b jb pb xb eb bm mb sb : Nat} {Y : Nat → Prop} {n : Nat} {S : PS} {L : List ByteArray} {A : List (Nat × Nat)} {hn : Nat} {Mw Mn : List ByteArray} {T : Nat → En} {B : Nat → Bool} (h : CG w0 w b jb pb xb eb bm mb sb Y n S L A hn Mw Mn T T B) (ho : S.op = true) (i : Nat) (hi : i < n) (d : ByteArray) (hd : d.size = 32) (c : Nat) (hc1 : 1 ≤ c) (hc2 : c ≤ 65535) (hf : ∀ j c', T j = some (d, c') → j = i) (hr : roomB S ((20 + i / 6 : Nat) : Int) = true) : Calls Tryz.prog 14 #[.pointer (some ⟨xb, 0, none⟩), .agg #[.int .i64 (i : Int), .string d, .int .i64 (c : Int)]] w fun e w' => e = .returned (.int .i64 0) ∧ CChg w0 w b jb pb xb eb bm mb sb Y n S L A hn Mw Mn [20 + i / 6] (upd T i (some (d, c))) (upd T i (some (d, c))) B (fun _ => True) w' := by
  have key : ∀ w', IChg w0 w b jb pb xb eb bm Y 20 n S L A hn Mw (upd T i (some (d, c))) i w' → CChg w0 w b jb pb xb eb bm mb sb Y n S L A hn Mw Mn [20 + i / 6] (upd T i (some (d, c))) (upd T i (some (d, c))) B (fun _ => True) w' := by
    rintro w' ⟨S', Mn', k1, k2, ⟨⟨t, _, k3⟩, k5⟩, k4⟩
    have e := fun k h1 h2 hk => seen_put h.ig.seen k1.seen h.srt k3 k h1 h2 hk
    refine ⟨S', Mn', h.turn k1 k4 (ms_eq h.ms h.n24 (e 19 (by omega) (by omega) (by omega))), k2, k5, fun p hp => ?_, fun k h1 h2 hk => e k h1 h2 (by simpa using hk), trivial, k4⟩
    rw [k3] at hp
    rcases mem_put hp with q | q
    · exact .inr ⟨_, List.mem_singleton.2 rfl, by rw [q]⟩
    · exact .inl q
  by_cases q : ∃ c', T i = some (d, c')
  · obtain ⟨c', hT⟩ := q
    refine (iput_hit h.ig ho i hi d hd c hc1 hc2 c' hT hr).mono ?_
    rintro e w' ⟨rfl, k⟩
    exact ⟨rfl, key w' k⟩
  · refine (iput_miss h.ig ho i hi d hd c hc1 hc2 (fun j c' hj => q ⟨c', by rw [← hf j c' hj]; exact hj⟩) hr).mono ?_
    rintro e w' ⟨rfl, k⟩
    exact ⟨rfl, key w' k⟩
theorem CG.turned {w0 w : World} {b jb pb xb eb bm mb sb : Nat} {Y : Nat → Prop} {n : Nat} {S : PS} {L : List ByteArray} {A : List (Nat × Nat)} {hn : Nat} {Mw Mn : List ByteArray} {T U : Nat → En} {B : Nat → Bool} (h : CG w0 w b jb pb xb eb bm mb sb Y n S L A hn Mw Mn T U B) (p : Nat) (hp : p < n) {w' : World} (k : Turned w0 w b jb pb mb (Xf Y xb eb bm) 19 n S L A hn Mw B p w') : CChg w0 w b jb pb xb eb bm mb sb Y n S L A hn Mw Mn [19] T U (flp B p) (fun _ => True) w' ∧ Only (fun x => ¬ Xf Y xb eb bm x) w w' := by
  obtain ⟨S', Mn', k1, k2, ⟨⟨t, _, k3⟩, k5⟩, k4⟩ := k
  have e19 : 19 + p / 256 = 19 := by have := h.n24; omega
  rw [e19] at k3
  have e := fun k h1 h2 hk => seen_put h.ig.seen k1.seen h.srt k3 k h1 h2 hk
  refine ⟨⟨S', Mn', h.next k1.pk k4 k1.seen (is_eq h.ig.is h.n24 (fun k h1 h2 => e k (by omega) (by omega) (by omega))) h.ig.ok k1.ms, k2, k5, fun p hp => ?_, fun k h1 h2 hk => e k h1 h2 (by simpa using hk), trivial, k4.mono (fun x _ q r => q (.inl r))⟩, k4⟩
  rw [k3] at hp
  rcases mem_put hp with q | q
  · exact .inr ⟨_, List.mem_singleton.2 rfl, by rw [q]⟩
  · exact .inl q
theorem CG.alloc {w0 w : World} {b jb pb xb eb bm mb sb : Nat} {Y : Nat → Prop} {n : Nat} {S : PS} {L : List ByteArray} {A : List (Nat × Nat)} {hn : Nat} {Mw Mn : List ByteArray} {T U : Nat → En} {B : Nat → Bool} (h : CG w0 w b jb pb xb eb bm mb sb Y n S L A hn Mw Mn T U B) (ho : S.op = true) (p : Nat) (hl : Lea B n p) (hr : roomB S 19 = true) : Calls Tryz.prog 172 #[.pointer (some ⟨mb, 0, none⟩)] w fun e w' => e = .returned (.tuple #[.int .i64 (p : Int), .int .i64 0]) ∧ CChg w0 w b jb pb xb eb bm mb sb Y n S L A hn Mw Mn [19] T U (flp B p) (fun _ => True) w' ∧ Only (fun x => ¬ Xf Y xb eb bm x) w w' := by
  have hp := hl.1
  have e19 : ((19 + p / 256 : Nat) : Int) = 19 := by have := h.n24; omega
  refine (malloc_ok h.bg ho p hl (by rw [e19]; exact hr)).mono ?_
  rintro e w' ⟨rfl, k⟩
  exact ⟨rfl, h.turned p hp k⟩
/-- A data sector is written. -/
theorem CG.write {w0 w : World} {b jb pb xb eb bm mb sb : Nat} {Y : Nat → Prop} {n : Nat} {S : PS} {L : List ByteArray} {A : List (Nat × Nat)} {hn : Nat} {Mw Mn : List ByteArray} {T U : Nat → En} {B : Nat → Bool} (h : CG w0 w b jb pb xb eb bm mb sb Y n S L A hn Mw Mn T U B) (ho : S.op = true) (i : Nat) (hi : i < n) (t : ByteArray) (ht : t.size = 256) (hr : roomB S ((30 + i : Nat) : Int) = true) : Calls Tryz.prog 23 #[.pointer (some ⟨pb, 0, none⟩), .int .i64 ((30 + i : Nat) : Int), .string t] w fun e w' => e = .returned (.int .i64 0) ∧ CChg w0 w b jb pb xb eb bm mb sb Y n S L A hn Mw Mn [30 + i] T U B (fun M => M.getD (30 + i) ByteArray.empty = t) w' ∧ Only (fun x => ¬ Xf Y xb eb bm x) w w' := by
  have hn24 := h.n24
  obtain ⟨r1, r2, r3, r4⟩ := h.ig.seen.write h.srt ho (30 + i) (by omega) (by omega) t ht hr
  have hc := pwrite_any h.ig.pk ((30 + i : Nat) : Int) t (by omega)
  rw [r1] at hc
  refine hc.mono ?_
  rintro e w' ⟨rfl, K, hO⟩
  have e := fun k h1 h2 hk => seen_put h.ig.seen r2 h.srt r4 k h1 h2 hk
  refine ⟨rfl, ⟨_, _, h.next K hO r2 (is_eq h.ig.is h.n24 (fun k h1 h2 => e k (by omega) (by omega) (by omega))) h.ig.ok (ms_eq h.ms h.n24 (e 19 (by omega) (by omega) (by omega))), r3, (write_rest h.ig.seen.rst _ _).2.2, fun p hp => ?_, fun k h1 h2 hk => e k h1 h2 (by simpa using hk), igd_same _ _ _ (by rw [h.ig.seen.ln]; omega), hO.mono (fun x _ q r => q (.inl r))⟩, hO⟩
  rw [r4] at hp
  rcases mem_put hp with q | q
  · exact .inr ⟨_, List.mem_singleton.2 rfl, by rw [q]⟩
  · exact .inl q
end Go.Proofs.YtdpnbemagiekoaaGreatDoor

namespace Go.Proofs.YtdpnbemagiekoaaGreatDoor
open Go.RowKit Go.Maps Go.Sort Go.Shelf
set_option maxRecDepth 100000 in
set_option maxHeartbeats 2000000 in
theorem cwhole_any {w0 w : World} {b jb pb xb eb bm mb sb : Nat} {Y : Nat → Prop} {n : Nat} {S : PS} {L : List ByteArray} {A : List (Nat × Nat)} {hn : Nat} {Mw Mn : List ByteArray} {T U : Nat → En} {B : Nat → Bool} (h : CG w0 w b jb pb xb eb bm mb sb Y n S L A hn Mw Mn T U B) : Calls Tryz.prog 68 #[.pointer (some ⟨sb, 0, none⟩)] w fun e w' => e = .returned (.bool true) ∧ w' = w := by
  obtain ⟨c0, c1, c2, c3⟩ := h.c
  clear h
  go_enter Tryz.func68, Tryz.ntmps68
  go_wp2
  go_ret
  exact ⟨rfl, rfl⟩
set_option maxRecDepth 100000 in
set_option maxHeartbeats 2000000 in
theorem cwhile_ok (t : ByteArray) (w : World) : Calls Tryz.prog 102 #[.string t, .int .i64 0] w fun e w' => e = .returned .nilIface ∧ w' = w := by
  go_enter Tryz.func102, Tryz.ntmps102
  go_wp2
  go_ret
  exact ⟨rfl, rfl⟩
set_option maxRecDepth 100000 in
set_option maxHeartbeats 2000000 in
theorem cisOpen_any {w0 w : World} {b jb pb : Nat} {S : PS} {X : Nat → Prop} (K : PK w0 w b jb pb S X) (ho : S.op = true) : Calls Tryz.prog 175 #[.pointer (some ⟨pb, 0, none⟩)] w fun e w' => e = .returned (.bool true) ∧ PK w0 w' b jb pb S X ∧ Only (fun x => ¬ X x) w w' := by
  have HB := hide (pbegin_any K)
  rw [show beginE S = 60 from by simp [beginE, ho], show beginS S = S from by simp [beginS, ho]] at HB
  clear K ho
  go_enter Tryz.func175, Tryz.ntmps175
  go_wp2_with (go_at_call 11; refine (unhide HB).mono ?_; rintro e x1 ⟨rfl, K1, hO1⟩)
  go_ret
  exact ⟨rfl, K1, hO1⟩
set_option maxRecDepth 100000 in
set_option maxHeartbeats 2000000 in
theorem cwantOpen_any {w0 w : World} {b jb pb xb eb bm mb sb : Nat} {Y : Nat → Prop} {n : Nat} {S : PS} {L : List ByteArray} {A : List (Nat × Nat)} {hn : Nat} {Mw Mn : List ByteArray} {T U : Nat → En} {B : Nat → Bool} (h : CG w0 w b jb pb xb eb bm mb sb Y n S L A hn Mw Mn T U B) (ho : S.op = true) : Calls Tryz.prog 111 #[.pointer (some ⟨sb, 0, none⟩)] w fun e w' => e = .returned .nilIface ∧ CG w0 w' b jb pb xb eb bm mb sb Y n S L A hn Mw Mn T U B ∧ Only (fun x => ¬ Xf Y xb eb bm x) w w' := by
  have HW := hide (cwhole_any h)
  have HO := hide (cisOpen_any h.ig.pk ho)
  obtain ⟨c0, c1, c2, c3⟩ := h.c
  have HC := hide h
  clear h ho
  go_enter Tryz.func111, Tryz.ntmps111
  go_wp2_with (first | (go_at_call 68; refine (unhide HW).mono ?_; rintro e w' ⟨rfl, hw'⟩; subst w') | (go_at_call 175; refine (unhide HO).mono ?_; rintro e x1 ⟨rfl, K1, hO1⟩))
  go_ret
  exact ⟨rfl, (unhide HC).next K1 hO1 (unhide HC).ig.seen (unhide HC).ig.is (unhide HC).ig.ok (unhide HC).ms, hO1⟩
theorem CG.find {w0 w : World} {b jb pb xb eb bm mb sb : Nat} {Y : Nat → Prop} {n : Nat} {S : PS} {L : List ByteArray} {A : List (Nat × Nat)} {hn : Nat} {Mw Mn : List ByteArray} {T U : Nat → En} {B : Nat → Bool} (h : CG w0 w b jb pb xb eb bm mb sb Y n S L A hn Mw Mn T U B) (i : Nat) (d : ByteArray) (c : Nat) (hU : U i = some (d, c)) : Calls Tryz.prog 13 #[.pointer (some ⟨xb, 0, none⟩), .string d] w fun e w' => e = .returned (.tuple #[.int .i64 (i : Int), .bool true]) ∧ Below w.heap.size w w' := by
  have hd : d.size = 32 := (h.ig.oku.ok i d c hU).1
  exact ifindx_gen h.ig.im d hd (i : Int) true (fun _ hW => hW.hit hU hd)
theorem CG.find_no {w0 w : World} {b jb pb xb eb bm mb sb : Nat} {Y : Nat → Prop} {n : Nat} {S : PS} {L : List ByteArray} {A : List (Nat × Nat)} {hn : Nat} {Mw Mn : List ByteArray} {T U : Nat → En} {B : Nat → Bool} (h : CG w0 w b jb pb xb eb bm mb sb Y n S L A hn Mw Mn T U B) (d : ByteArray) (hd : d.size = 32) (hU : ∀ j c, U j ≠ some (d, c)) : Calls Tryz.prog 13 #[.pointer (some ⟨xb, 0, none⟩), .string d] w fun e w' => e = .returned (.tuple #[.int .i64 0, .bool false]) ∧ Below w.heap.size w w' :=
  ifindx_gen h.ig.im d hd 0 false (fun _ hW => hW.miss hd hU)
set_option maxRecDepth 100000 in
set_option maxHeartbeats 2000000 in
theorem cfind_hit {w0 w : World} {b jb pb xb eb bm mb sb : Nat} {Y : Nat → Prop} {n : Nat} {S : PS} {L : List ByteArray} {A : List (Nat × Nat)} {hn : Nat} {Mw Mn : List ByteArray} {T U : Nat → En} {B : Nat → Bool} (h : CG w0 w b jb pb xb eb bm mb sb Y n S L A hn Mw Mn T U B) (i : Nat) (hi : i < n) (d : ByteArray) (c : Nat) (hU : U i = some (d, c)) : Calls Tryz.prog 58 #[.pointer (some ⟨sb, 0, none⟩), .string d] w fun e w' => e = .returned (.tuple #[.agg #[.int .i64 (i : Int), .string d, .int .i64 (c : Int)], .nilIface]) ∧ Below w.heap.size w w' := by
  obtain ⟨g, hg⟩ : ∃ q, w.heap.size = q := ⟨_, rfl⟩
  obtain ⟨x1, hx1⟩ : ∃ q, w.alloc (.cells #[.int .i64 0, .string ⟨#[]⟩, .int .i64 0] 40) = q := ⟨_, rfl⟩
  have hb1 : Below g w x1 := by rw [← hx1, ← hg]; exact (Below.refl _ w).alloc (Nat.le_refl _) _
  have B1 : Blk x1 g #[.int .i64 0, .string ⟨#[]⟩, .int .i64 0] 40 := by rw [← hx1, ← hg]; exact Blk.new w _ _
  have G1 : CG w0 x1 b jb pb xb eb bm mb sb Y n S L A hn Mw Mn T U B := h.below (by rw [hg]; exact hb1)
  have HW := hide (cwhole_any G1)
  have HF := hide (G1.find i d c hU)
  obtain ⟨c0, c1, c2, c3⟩ := G1.c
  have X1 := hide (And.intro G1 (And.intro B1 (And.intro hb1 (And.intro hi hU))))
  have HWH := hide (fun t W => cwhile_ok t W)
  clear h hi hU hb1 B1 G1
  rw [hg]
  go_enter Tryz.func58, Tryz.ntmps58
  go_wp2_with (go_at_call 68; refine (unhide HW).mono ?_; rintro e w' ⟨rfl, hw'⟩; subst w')
  refine (unhide HF).mono ?_
  rintro e y2 ⟨rfl, hb2⟩
  obtain ⟨G1, B1, hb1, hi, hU⟩ := unhide X1
  have G2 := G1.below hb2
  have B2 := B1.below hb2 B1.lt
  have hb12 : Below g w y2 := hb1.trans (hb2.mono (by rw [← hg]; exact hb1.size))
  obtain ⟨d0, d1, d2, d3⟩ := G2.c
  have HG := hide (iget_some G2.ig.im G2.ig.oku (by have := G2.n24; omega) i hi d c hU)
  have X2 := hide (And.intro B2 hb12)
  clear G1 B1 hb1 hi hU G2 B2 hb2 hb12 HF HW X1 c0 c1 c2 c3
  go_wp2_with fail
  refine (unhide HG).mono ?_
  rintro e y3 ⟨rfl, hb3⟩
  have B3 := (unhide X2).1.below hb3 (unhide X2).1.lt
  have hb13 : Below g w y3 := (unhide X2).2.trans (hb3.mono (by rw [← hg]; exact (unhide X2).2.size))
  obtain ⟨g2, hg2⟩ : ∃ q, y3.heap.size = q := ⟨_, rfl⟩
  have hne : g ≠ g2 := by rw [← hg2]; exact Nat.ne_of_lt B3.lt
  have X3 := hide (And.intro B3 (And.intro hb13 hne))
  clear hb3 B3 hb13 hne HG X2 d0 d1 d2 d3
  go_wp2
  obtain ⟨y4, hy4⟩ : ∃ q, y3.alloc (.cells #[.int .i64 (i : Int), .string d, .int .i64 (c : Int)] 40) = q := ⟨_, rfl⟩
  rw [hy4]
  obtain ⟨B3, hb13, hne⟩ := unhide X3
  have hb4 : Below y3.heap.size y3 y4 := by rw [← hy4]; exact (Below.refl _ y3).alloc (Nat.le_refl _) _
  have C4 : Blk y4 g2 #[.int .i64 (i : Int), .string d, .int .i64 (c : Int)] 40 := by rw [← hy4, ← hg2]; exact Blk.new y3 _ _
  have B4 : Blk y4.drew g #[.int .i64 0, .string ⟨#[]⟩, .int .i64 0] 40 := (B3.below hb4 B3.lt).below ((Below.refl _ y4).drew) (B3.below hb4 B3.lt).lt
  have C4' : Blk y4.drew g2 #[.int .i64 (i : Int), .string d, .int .i64 (c : Int)] 40 := C4.below ((Below.refl _ y4).drew) C4.lt
  have hb14 : Below g w y4.drew := (hb13.trans (hb4.mono (by rw [← hg]; exact hb13.size))).drew
  have q0 : y4.drew.cell? ⟨g, 0, none⟩ = some (.int .i64 0) := B4.cell 0
  have q1 : y4.drew.cell? ⟨g, 1, none⟩ = some (.string ⟨#[]⟩) := B4.cell 1
  have q2 : y4.drew.cell? ⟨g, 2, none⟩ = some (.int .i64 0) := B4.cell 2
  have p0 := B4.frozen 0
  have p1 := B4.frozen 1
  have p2 := B4.frozen 2
  have X4 := hide (And.intro B4 (And.intro C4' (And.intro hb14 hne)))
  clear B3 hb13 hne hb4 B4 hb14 X3 hy4 hg2 hx1
  refine wp_region_held_drew (S := fun w' => Blk w' g2 #[.int .i64 (i : Int), .string d, .int .i64 (c : Int)] 40) (by kernel_rfl) C4 ?_
  intro hS
  generalize y4.drew = y5 at *
  refine wpAnyH_takeD 0 (some 37) (.agg #[.int .i64 (i : Int), .string d, .int .i64 (c : Int)]) rfl rfl (by kernel_rfl) (by kernel_rfl) (by kernel_rfl) (fun _ _ _ h => h) (Or.inl ⟨by rfl, fun w hSw => by have a0 : w.cell? ⟨g2, 0, none⟩ = some (.int .i64 (i : Int)) := Blk.cell hSw 0; have a1 : w.cell? ⟨g2, 1, none⟩ = some (.string d) := Blk.cell hSw 1; have a2 : w.cell? ⟨g2, 2, none⟩ = some (.int .i64 (c : Int)) := Blk.cell hSw 2; go_simp⟩) hS ?_
  simp only [Act.put, List.setIfInBounds_toArray, List.set_cons_zero, List.set_cons_succ]
  refine wpAnyH_takeD 1 (some 38) (.int .i64 0) rfl rfl (by kernel_rfl) (by kernel_rfl) (by kernel_rfl) (fun _ _ _ h => h) (Or.inl ⟨by rfl, fun w hSw => by go_simp⟩) hS ?_
  simp only [Act.put, List.setIfInBounds_toArray, List.set_cons_zero, List.set_cons_succ]
  refine wpAnyH_ready (rs := [2]) (by kernel_rfl) (by simp) ?_
  refine AllReadyH.cons rfl (fun K hK => ?_) AllReadyH.nil
  simp only [List.getElem_toArray, List.getElem_cons_succ, List.getElem_cons_zero]
  go_simp
  refine (unhide HWH _ _).mono ?_
  rintro e w' ⟨rfl, hw'⟩
  subst w'
  refine hK.out _ _ C4' (fun hS => ?_)
  clear hK K
  refine wpAnyH_ready (rs := [3]) (by kernel_rfl) (by simp) ?_
  refine AllReadyH.cons rfl (fun K hK => ?_) AllReadyH.nil
  simp only [List.getElem_toArray, List.getElem_cons_succ, List.getElem_cons_zero]
  go_simp
  have B5 := (((unhide X4).1.set 0 (.int .i64 (i : Int))).set 1 (.string d)).set 2 (.int .i64 (c : Int))
  have C5 := (unhide X4).2.1.only ((((Only.refl (fun x => x = g) y5).setCell ⟨g, 0, none⟩ (.int .i64 (i : Int)) (fun _ => rfl)).setCell ⟨g, 1, none⟩ (.string d) (fun _ => rfl)).setCell ⟨g, 2, none⟩ (.int .i64 (c : Int)) (fun _ => rfl)) (fun e => (unhide X4).2.2.2 e.symm)
  have hb5 : Below g w (((y5.setCell ⟨g, 0, none⟩ (.int .i64 (i : Int))).setCell ⟨g, 1, none⟩ (.string d)).setCell ⟨g, 2, none⟩ (.int .i64 (c : Int))) := (((unhide X4).2.2.1.setCell (p := ⟨g, 0, none⟩) (Nat.le_refl _) _).setCell (p := ⟨g, 1, none⟩) (Nat.le_refl _) _).setCell (p := ⟨g, 2, none⟩) (Nat.le_refl _) _
  have X5 := hide (And.intro B5 hb5)
  clear B5 hb5 X4 q0 q1 q2 p0 p1 p2 C4 C4'
  refine hK.out _ _ C5 (fun hS => ?_)
  clear hK K
  refine wpAnyH_takeD 4 (some 5) (.nilIface) rfl rfl (by kernel_rfl) (by kernel_rfl) (by kernel_rfl) (fun _ _ _ h => h) (Or.inl ⟨by rfl, fun w hSw => by go_simp⟩) hS ?_
  simp only [Act.put, List.setIfInBounds_toArray, List.set_cons_zero, List.set_cons_succ]
  refine wpAnyH_done (by kernel_rfl) ?_ _
  clear hS C5
  go_wp2
  have hld := iload_blk 40 _ (unhide X5).1 Tryz.underlying40 rfl (by kernel_rfl)
  refine bodyPost_ret (v := .tuple #[.agg #[.int .i64 (i : Int), .string d, .int .i64 (c : Int)], .nilIface]) (results_cell2 (p := 4) (q := 5) (ty := 40) rfl _ _ _ ⟨g, 0, none⟩ rfl _ hld) rfl ⟨rfl, (unhide X5).2⟩
set_option maxRecDepth 100000 in
set_option maxHeartbeats 2000000 in
theorem cfind_miss {w0 w : World} {b jb pb xb eb bm mb sb : Nat} {Y : Nat → Prop} {n : Nat} {S : PS} {L : List ByteArray} {A : List (Nat × Nat)} {hn : Nat} {Mw Mn : List ByteArray} {T U : Nat → En} {B : Nat → Bool} {e0 e1 e2 : Addr} (h : CG w0 w b jb pb xb eb bm mb sb Y n S L A hn Mw Mn T U B) (hs : Snt w e0 e1 e2) (d : ByteArray) (hd : d.size = 32) (hU : ∀ j c, U j ≠ some (d, c)) : Calls Tryz.prog 58 #[.pointer (some ⟨sb, 0, none⟩), .string d] w fun e w' => e = .returned (.tuple #[.agg #[.int .i64 0, .string ⟨#[]⟩, .int .i64 0], eP e0]) ∧ Below w.heap.size w w' := by
  obtain ⟨g, hg⟩ : ∃ q, w.heap.size = q := ⟨_, rfl⟩
  obtain ⟨x1, hx1⟩ : ∃ q, w.alloc (.cells #[.int .i64 0, .string ⟨#[]⟩, .int .i64 0] 40) = q := ⟨_, rfl⟩
  have hb1 : Below g w x1 := by rw [← hx1, ← hg]; exact (Below.refl _ w).alloc (Nat.le_refl _) _
  have B1 : Blk x1 g #[.int .i64 0, .string ⟨#[]⟩, .int .i64 0] 40 := by rw [← hx1, ← hg]; exact Blk.new w _ _
  have G1 : CG w0 x1 b jb pb xb eb bm mb sb Y n S L A hn Mw Mn T U B := h.below (by rw [hg]; exact hb1)
  have HW := hide (cwhole_any G1)
  have HF := hide (G1.find_no d hd hU)
  obtain ⟨c0, c1, c2, c3⟩ := G1.c
  have X1 := hide (And.intro hs (And.intro B1 hb1))
  clear h hs hd hU hb1 B1 G1
  rw [hg]
  go_enter Tryz.func58, Tryz.ntmps58
  go_wp2_with (go_at_call 68; refine (unhide HW).mono ?_; rintro e w' ⟨rfl, hw'⟩; subst w')
  refine (unhide HF).mono ?_
  rintro e y2 ⟨rfl, hb2⟩
  obtain ⟨hs, B1, hb1⟩ := unhide X1
  have hb12 : Below g w y2 := hb1.trans (hb2.mono (by rw [← hg]; exact hb1.size))
  have hs2 : Snt y2 e0 e1 e2 := hs.below (by rw [hg]; exact hb12)
  have hs4 : Snt y2.drew e0 e1 e2 := hs.below (by rw [hg]; exact hb12.drew)
  have B4 : Blk y2.drew g #[.int .i64 0, .string ⟨#[]⟩, .int .i64 0] 40 := (B1.below hb2 B1.lt).below ((Below.refl _ y2).drew) (B1.below hb2 B1.lt).lt
  have hlt : 0 < g := by rw [← hg]; exact World.block_lt_of_cell? w _ hs.g0
  have gg := hs2.g0
  have q0 : y2.drew.cell? ⟨g, 0, none⟩ = some (.int .i64 0) := B4.cell 0
  have q1 : y2.drew.cell? ⟨g, 1, none⟩ = some (.string ⟨#[]⟩) := B4.cell 1
  have q2 : y2.drew.cell? ⟨g, 2, none⟩ = some (.int .i64 0) := B4.cell 2
  have p0 := B4.frozen 0
  have p1 := B4.frozen 1
  have p2 := B4.frozen 2
  have X4 := hide (And.intro B4 (And.intro hb12.drew (And.intro hs4 hlt)))
  clear hs B1 hb1 hb2 hb12 hs2 hs4 B4 hlt HF HW X1 c0 c1 c2 c3 hx1
  go_wp2
  refine wp_region_held_drew (S := fun w' => w'.cell? ⟨0, 0, none⟩ = some (eP e0)) (by kernel_rfl) gg ?_
  intro hS
  generalize y2.drew = y5 at *
  refine wpAnyH_takeD 0 (some 26) (.agg #[.int .i64 0, .string ⟨#[]⟩, .int .i64 0]) rfl rfl (by kernel_rfl) (by kernel_rfl) (by kernel_rfl) (fun _ _ _ h => h) (Or.inl ⟨by rfl, fun w hSw => by go_simp⟩) hS ?_
  simp only [Act.put, List.setIfInBounds_toArray, List.set_cons_zero, List.set_cons_succ]
  refine wpAnyH_takeD 1 (some 27) (eP e0) rfl rfl (by kernel_rfl) (by kernel_rfl) (by kernel_rfl) (fun _ _ _ h => h) (Or.inl ⟨by rfl, fun w hSw => by go_simp⟩) hS ?_
  simp only [Act.put, List.setIfInBounds_toArray, List.set_cons_zero, List.set_cons_succ]
  refine wpAnyH_ready (rs := [2]) (by kernel_rfl) (by simp) ?_
  refine AllReadyH.cons rfl (fun K hK => ?_) AllReadyH.nil
  simp only [List.getElem_toArray, List.getElem_cons_succ, List.getElem_cons_zero]
  go_simp
  have B5 := (((unhide X4).1.set 0 (.int .i64 0)).set 1 (.string ⟨#[]⟩)).set 2 (.int .i64 0)
  have O5 := (((Only.refl (fun x => x = g) y5).setCell ⟨g, 0, none⟩ (.int .i64 0) (fun _ => rfl)).setCell ⟨g, 1, none⟩ (.string ⟨#[]⟩) (fun _ => rfl)).setCell ⟨g, 2, none⟩ (.int .i64 0) (fun _ => rfl)
  have C5 := (World.cell?_of_block (a := ⟨0, 0, none⟩) (O5.2 0 (World.block_lt_of_cell? y5 _ (unhide X4).2.2.1.g0) (Nat.ne_of_lt (unhide X4).2.2.2))).trans (unhide X4).2.2.1.g0
  have hb5 := (((unhide X4).2.1.setCell (p := ⟨g, 0, none⟩) (Nat.le_refl _) (.int .i64 0)).setCell (p := ⟨g, 1, none⟩) (Nat.le_refl _) (.string ⟨#[]⟩)).setCell (p := ⟨g, 2, none⟩) (Nat.le_refl _) (.int .i64 0)
  have X5 := hide (And.intro B5 hb5)
  clear B5 hb5 O5 X4 q0 q1 q2 p0 p1 p2 gg
  refine hK.out _ _ C5 (fun hS => ?_)
  clear hK K
  refine wpAnyH_takeD 3 (some 5) (eP e0) rfl rfl (by kernel_rfl) (by kernel_rfl) (by kernel_rfl) (fun _ _ _ h => h) (Or.inl ⟨by rfl, fun w hSw => by go_simp⟩) hS ?_
  simp only [Act.put, List.setIfInBounds_toArray, List.set_cons_zero, List.set_cons_succ]
  refine wpAnyH_done (by kernel_rfl) ?_ _
  clear hS C5
  go_wp2
  have hld := iload_blk 40 _ (unhide X5).1 Tryz.underlying40 rfl (by kernel_rfl)
  refine bodyPost_ret (v := .tuple #[.agg #[.int .i64 0, .string ⟨#[]⟩, .int .i64 0], eP e0]) (results_cell2 (p := 4) (q := 5) (ty := 40) rfl _ _ _ ⟨g, 0, none⟩ rfl _ hld) rfl ⟨rfl, (unhide X5).2⟩
end Go.Proofs.YtdpnbemagiekoaaGreatDoor

namespace Go.Proofs.YtdpnbemagiekoaaGreatDoor
open Go.RowKit Go.Maps Go.Sort Go.Shelf
/-- A change that began a little later. -/
theorem CChg.from {w0 w x : World} {b jb pb xb eb bm mb sb : Nat} {Y : Nat → Prop} {n : Nat} {S : PS} {L : List ByteArray} {A : List (Nat × Nat)} {hn : Nat} {Mw Mn : List ByteArray} {Q : List Nat} {T' U' : Nat → En} {B' : Nat → Bool} {R : List ByteArray → Prop} {w' : World} (ho : Only (fun x => ¬ Y x) w x) (h : CChg w0 x b jb pb xb eb bm mb sb Y n S L A hn Mw Mn Q T' U' B' R w') : CChg w0 w b jb pb xb eb bm mb sb Y n S L A hn Mw Mn Q T' U' B' R w' := by
  obtain ⟨S', Mn', k1, k2, k3, k4, k5, k6, k7⟩ := h
  exact ⟨S', Mn', k1, k2, k3, k4, k5, k6, ho.trans k7 (fun _ _ q => q)⟩
set_option maxRecDepth 100000 in
set_option maxHeartbeats 2000000 in
theorem cread_any {w0 w : World} {b jb pb xb eb bm mb sb : Nat} {Y : Nat → Prop} {n : Nat} {S : PS} {L : List ByteArray} {A : List (Nat × Nat)} {hn : Nat} {Mw Mn : List ByteArray} {T U : Nat → En} {B : Nat → Bool} (h : CG w0 w b jb pb xb eb bm mb sb Y n S L A hn Mw Mn T U B) (i : Nat) (hi : i < n) : Calls Tryz.prog 67 #[.pointer (some ⟨sb, 0, none⟩), .int .i64 (i : Int)] w fun e w' => e = .returned (.tuple #[.string (Mn.getD (30 + i) ByteArray.empty), .nilIface]) ∧ CKept w0 w b jb pb xb eb bm mb sb Y n S L A hn Mw Mn T U B w' := by
  have hn24 := h.n24
  have hd : Below w.heap.size w w.drew := (Below.refl _ w).drew
  have hG := h.below hd
  obtain ⟨r1, r2, r3, r4, r5⟩ := h.ig.seen.read (30 + i) (by omega) (by omega)
  have hc := pread_any hG.ig.pk ((30 + i : Nat) : Int) (readT_rest h.ig.seen.rst (30 + i) (by rw [h.ig.seen.len]; omega) h.ig.seen.siz)
  rw [r1, r2] at hc
  have HR := hide hc
  have HF := hide (fun W (K : PK w0 W b jb pb (readP S ((30 + i : Nat) : Int)).2.2 (Xf Y xb eb bm)) (ho : Only (fun x => ¬ Xf Y xb eb bm x) w.drew W) => (show CG w0 W b jb pb xb eb bm mb sb Y n (readP S ((30 + i : Nat) : Int)).2.2 L A hn Mw Mn T U B ∧ Only (fun x => ¬ Xf Y xb eb bm x) w W ∧ ((readP S ((30 + i : Nat) : Int)).2.2.op = S.op ∧ Tk (readP S ((30 + i : Nat) : Int)).2.2 S) from ⟨hG.next K ho r3 h.ig.is h.ig.ok h.ms, (Only.of_below (P := fun x => ¬ Xf Y xb eb bm x) hd).trans ho (fun _ _ q => q), r4, r5, (read_rest h.ig.seen.rst (30 + i) (by rw [h.ig.seen.len]; omega)).2.2.2.2⟩))
  have e1 : (30 : Int) + (i : Int) = ((30 + i : Nat) : Int) := by omega
  have hwq : IntKind.i64.wrap ((30 + i : Nat) : Int) = ((30 + i : Nat) : Int) := wrapI_eq _ (by omega) (by omega)
  have HWH := hide (fun t W => cwhile_ok t W)
  obtain ⟨c0, c1, c2, c3⟩ := h.c
  generalize Mn.getD (30 + i) ByteArray.empty = t at *
  generalize hk : (30 + i : Nat) = ik at *
  clear h hG hc r1 r2 r3 r4 r5 hn24 hd hi hk
  go_enter Tryz.func67, Tryz.ntmps67
  go_wp2
  refine wp_region_held_drew (S := fun w' => w'.cell? ⟨sb, 0, none⟩ = some (.pointer (some ⟨pb, 0, none⟩)) ∧ w'.cell? ⟨sb, 3, none⟩ = some (.int .i64 30)) (by kernel_rfl) ⟨c0, c3⟩ ?_
  intro hS
  refine wpAnyH_takeD 0 (some 9) (.pointer (some ⟨sb, 0, none⟩)) rfl rfl (by kernel_rfl) (by kernel_rfl) (by kernel_rfl) (fun _ _ _ h => h) (Or.inl ⟨by rfl, fun w hSw => by obtain ⟨q1, q2⟩ := hSw; go_simp⟩) hS ?_
  simp only [Act.put, List.setIfInBounds_toArray, List.set_cons_zero, List.set_cons_succ]
  refine wpAnyH_takeD 1 (some 10) (.pointer (some ⟨sb, 0, none⟩)) rfl rfl (by kernel_rfl) (by kernel_rfl) (by kernel_rfl) (fun _ _ _ h => h) (Or.inl ⟨by rfl, fun w hSw => by obtain ⟨q1, q2⟩ := hSw; go_simp⟩) hS ?_
  simp only [Act.put, List.setIfInBounds_toArray, List.set_cons_zero, List.set_cons_succ]
  refine wpAnyH_takeD 2 (some 11) (.pointer (some ⟨sb, 0, none⟩)) rfl rfl (by kernel_rfl) (by kernel_rfl) (by kernel_rfl) (fun _ _ _ h => h) (Or.inl ⟨by rfl, fun w hSw => by obtain ⟨q1, q2⟩ := hSw; go_simp⟩) hS ?_
  simp only [Act.put, List.setIfInBounds_toArray, List.set_cons_zero, List.set_cons_succ]
  refine wpAnyH_takeD 3 (some 12) (.pointer (some ⟨pb, 0, none⟩)) rfl rfl (by kernel_rfl) (by kernel_rfl) (by kernel_rfl) (fun _ _ _ h => h) (Or.inl ⟨by rfl, fun w hSw => by obtain ⟨q1, q2⟩ := hSw; go_simp⟩) hS ?_
  simp only [Act.put, List.setIfInBounds_toArray, List.set_cons_zero, List.set_cons_succ]
  refine wpAnyH_takeD 4 (some 13) (.pointer (some ⟨sb, 0, none⟩)) rfl rfl (by kernel_rfl) (by kernel_rfl) (by kernel_rfl) (fun _ _ _ h => h) (Or.inl ⟨by rfl, fun w hSw => by obtain ⟨q1, q2⟩ := hSw; go_simp⟩) hS ?_
  simp only [Act.put, List.setIfInBounds_toArray, List.set_cons_zero, List.set_cons_succ]
  refine wpAnyH_takeD 5 (some 14) (.pointer (some ⟨sb, 0, none⟩)) rfl rfl (by kernel_rfl) (by kernel_rfl) (by kernel_rfl) (fun _ _ _ h => h) (Or.inl ⟨by rfl, fun w hSw => by obtain ⟨q1, q2⟩ := hSw; go_simp⟩) hS ?_
  simp only [Act.put, List.setIfInBounds_toArray, List.set_cons_zero, List.set_cons_succ]
  refine wpAnyH_takeD 6 (some 15) (.pointer (some ⟨sb, 3, none⟩)) rfl rfl (by kernel_rfl) (by kernel_rfl) (by kernel_rfl) (fun _ _ _ h => h) (Or.inl ⟨by rfl, fun w hSw => by obtain ⟨q1, q2⟩ := hSw; go_simp⟩) hS ?_
  simp only [Act.put, List.setIfInBounds_toArray, List.set_cons_zero, List.set_cons_succ]
  refine wpAnyH_takeD 7 (some 16) (.int .i64 30) rfl rfl (by kernel_rfl) (by kernel_rfl) (by kernel_rfl) (fun _ _ _ h => h) (Or.inl ⟨by rfl, fun w hSw => by obtain ⟨q1, q2⟩ := hSw; go_simp⟩) hS ?_
  simp only [Act.put, List.setIfInBounds_toArray, List.set_cons_zero, List.set_cons_succ]
  refine wpAnyH_takeD 8 (some 17) (.int .i64 (i : Int)) rfl rfl (by kernel_rfl) (by kernel_rfl) (by kernel_rfl) (fun _ _ _ h => h) (Or.inl ⟨by rfl, fun w hSw => by obtain ⟨q1, q2⟩ := hSw; go_simp⟩) hS ?_
  simp only [Act.put, List.setIfInBounds_toArray, List.set_cons_zero, List.set_cons_succ]
  refine wpAnyH_takeD 9 (some 18) (.int .i64 (ik : Int)) rfl rfl (by kernel_rfl) (by kernel_rfl) (by kernel_rfl) (fun _ _ _ h => h) (Or.inl ⟨by rfl, fun w hSw => by obtain ⟨q1, q2⟩ := hSw; go_simp⟩) hS ?_
  simp only [Act.put, List.setIfInBounds_toArray, List.set_cons_zero, List.set_cons_succ]
  refine wpAnyH_ready (rs := [10]) (by kernel_rfl) (by simp) ?_
  refine AllReadyH.cons rfl (fun K hK => ?_) AllReadyH.nil
  simp only [List.getElem_toArray, List.getElem_cons_succ, List.getElem_cons_zero]
  go_simp
  refine (unhide HR).mono ?_
  rintro e x1 ⟨rfl, K1, hO1⟩
  obtain ⟨G1, O1, t1⟩ := unhide HF x1 K1 hO1
  obtain ⟨d0, d1, d2, d3⟩ := G1.c
  have X1 := hide (And.intro G1 (And.intro O1 t1))
  clear K1 hO1 G1 O1 t1 HR HF c0 c1 c2 c3
  refine hK.out _ _ ⟨d0, d3⟩ (fun hS => ?_)
  clear hK K
  refine wpAnyH_takeD 11 (some 8) (.tuple #[.string t, .int .i64 0]) rfl rfl (by kernel_rfl) (by kernel_rfl) (by kernel_rfl) (fun _ _ _ h => h) (Or.inl ⟨by rfl, fun w hSw => by obtain ⟨q1, q2⟩ := hSw; go_simp⟩) hS ?_
  simp only [Act.put, List.setIfInBounds_toArray, List.set_cons_zero, List.set_cons_succ]
  refine wpAnyH_takeD 12 (some 20) (.string t) rfl rfl (by kernel_rfl) (by kernel_rfl) (by kernel_rfl) (fun _ _ _ h => h) (Or.inl ⟨by rfl, fun w hSw => by obtain ⟨q1, q2⟩ := hSw; go_simp⟩) hS ?_
  simp only [Act.put, List.setIfInBounds_toArray, List.set_cons_zero, List.set_cons_succ]
  refine wpAnyH_takeD 13 (some 21) (.int .i64 0) rfl rfl (by kernel_rfl) (by kernel_rfl) (by kernel_rfl) (fun _ _ _ h => h) (Or.inl ⟨by rfl, fun w hSw => by obtain ⟨q1, q2⟩ := hSw; go_simp⟩) hS ?_
  simp only [Act.put, List.setIfInBounds_toArray, List.set_cons_zero, List.set_cons_succ]
  refine wpAnyH_takeD 14 (some 6) (.string t) rfl rfl (by kernel_rfl) (by kernel_rfl) (by kernel_rfl) (fun _ _ _ h => h) (Or.inl ⟨by rfl, fun w hSw => by obtain ⟨q1, q2⟩ := hSw; go_simp⟩) hS ?_
  simp only [Act.put, List.setIfInBounds_toArray, List.set_cons_zero, List.set_cons_succ]
  refine wpAnyH_takeD 15 (some 7) (.int .i64 0) rfl rfl (by kernel_rfl) (by kernel_rfl) (by kernel_rfl) (fun _ _ _ h => h) (Or.inl ⟨by rfl, fun w hSw => by obtain ⟨q1, q2⟩ := hSw; go_simp⟩) hS ?_
  simp only [Act.put, List.setIfInBounds_toArray, List.set_cons_zero, List.set_cons_succ]
  refine wpAnyH_done (by kernel_rfl) ?_ _
  clear hS d0 d1 d2 d3
  go_wp2_with (go_at_call 102; refine (unhide HWH _ _).mono ?_; rintro e w' ⟨rfl, hw'⟩; subst w')
  go_ret2
  exact ⟨rfl, _, (unhide X1).1, (unhide X1).2.2.1, (unhide X1).2.2.2, (unhide X1).2.1⟩
end Go.Proofs.YtdpnbemagiekoaaGreatDoor
