import Derived.Test.YtnfcnpolflfpfaaGreatDoorMr07
import Derived.Laws.CopyOwn
import Derived.Shelf.LaysM
import Derived.Shelf.Strconv.Clone
import Derived.Shelf.Bits.Mul64
import Derived.Shelf.Strings.Repeat
import Derived.Ground.Names2Prog
import Derived.Shelf.Slices.Clone
import Derived.Test.YtnfcnpolflfpfaaGreatDoorProg
import Derived.Test.YtnfcnpolflfpfaaGreatDoorMr00
namespace Go.Proofs.YtnfcnpolflfpfaaGreatDoor
open Go.RowKit
def keepP : List (Nat × ByteArray) → List Bool → List (Nat × ByteArray)
  | p :: r, true :: k => p :: keepP r k
  | _ :: r, false :: k => keepP r k
  | _, _ => []
theorem keepP_snoc (p : Nat × ByteArray) (x : Bool) : ∀ (l : List (Nat × ByteArray)) (k : List Bool), l.length = k.length → keepP (l ++ [p]) (k ++ [x]) = keepP l k ++ (if x then [p] else [])
  | [], [], _ => by cases x <;> rfl
  | q :: r, true :: k, h => by simp [keepP]; exact keepP_snoc p x r k (by simpa using h)
  | q :: r, false :: k, h => by simp [keepP]; exact keepP_snoc p x r k (by simpa using h)
theorem keepP_mem : ∀ (l : List (Nat × ByteArray)) (k : List Bool) (p : Nat × ByteArray), p ∈ keepP l k → p ∈ l
  | [], _, p, h => by simp [keepP] at h
  | q :: r, [], p, h => by simp [keepP] at h
  | q :: r, true :: k, p, h => by
    simp [keepP] at h
    rcases h with rfl | h
    · simp
    · exact List.mem_cons_of_mem _ (keepP_mem r k p h)
  | q :: r, false :: k, p, h => by
    simp [keepP] at h
    exact List.mem_cons_of_mem _ (keepP_mem r k p h)
theorem keepP_len : ∀ (l : List (Nat × ByteArray)) (k : List Bool), (keepP l k).length ≤ l.length
  | [], _ => by simp [keepP]
  | q :: r, [] => by simp [keepP]
  | q :: r, true :: k => by simp [keepP]; exact keepP_len r k
  | q :: r, false :: k => by simp [keepP]; have := keepP_len r k; omega
def Bools (w : World) (g : Nat) (kl : List Bool) : Prop := ∀ j, j < kl.length → w.cell? ⟨g, j, none⟩ = some (.bool (kl.getD j false))
theorem owns_base {w : World} {B B' : Nat} {e : TypeId} {k n : Nat} {v : Value} {xs : List Value} (h : w.ownsRow B e k v n xs) (hb : B' ≤ B) : w.ownsRow B' e k v n xs := by
  refine ⟨h.1, ?_⟩
  rcases h.2 with hn | ⟨g, cap, cur, rfl, hg, rest⟩
  · exact .inl hn
  · exact .inr ⟨g, cap, cur, rfl, by omega, rest⟩
theorem Dk.setP {w : World} {base b : Nat} {v : DV} {s : DSt} (h : Dk w base b v s) (vl : Value) (ps : List (Nat × ByteArray)) (hr : w.ownsRow base 107 2 vl ps.length (wrs ps)) : Dk (w.setCell ⟨b, 2, none⟩ vl) base b { v with p := vl } { s with pend := ps } :=
  h.cells 2 _ _ _ rfl (owns_setO h.rl _ _ h.nb.1) (owns_setO h.rn _ _ h.nb.2.1) (owns_setO hr _ _ (h.blk.not_row (by decide) hr)) (owns_setO h.ra _ _ h.nb.2.2.2) h.ne
theorem setRow_only (w : World) (g : Nat) (cs : Array Value) : Only (fun k => k = g) w (w.setRow g cs) :=
  ⟨⟨rfl, rfl, rfl, by simp [World.setRow], fun k hk => absurd hk (Nat.not_lt_zero k)⟩, fun k _ hn => setRow_other w g k cs hn⟩
theorem Dk.copyNow {w : World} {base b : Nat} {v : DV} {s : DSt} (h : Dk w base b v s) (g : Nat) (hg : v.n.ownBlock = some g) (cur : Array Value) (hc : w.heap[g]? = some (.cells cur 9 (0, 0))) (hln : s.now.length = s.last.length) :
    Dk (w.setRow g (cur.toList.take 0 ++ (strs s.last ++ cur.toList.drop (0 + (strs s.last).length))).toArray) base b v { s with now := s.last } ∧ Only (Fd b v) w (w.setRow g (cur.toList.take 0 ++ (strs s.last ++ cur.toList.drop (0 + (strs s.last).length))).toArray) := by
  have hO := setRow_only w g (cur.toList.take 0 ++ (strs s.last ++ cur.toList.drop (0 + (strs s.last).length))).toArray
  refine ⟨⟨h.blk.only hO (fun q => h.nb.2.1 (q ▸ hg)), owns_only h.rl hO (fun k hk q => h.ne k hk (q ▸ hg)), ?_, owns_only h.rp hO (fun k hk q => rows_ne h.rn h.rp (by decide) g hg (q ▸ hk)), owns_only h.ra hO (fun k hk q => rows_ne h.rn h.ra (by decide) g hg (q ▸ hk)), h.ne, h.lo⟩, hO.mono (fun k _ q => .inr (.inr (.inl (q ▸ hg))))⟩
  refine ⟨by simp [strs_len], ?_⟩
  rcases h.rn.2 with ⟨h1, h2⟩ | ⟨g', cap, cur', e, hb, hh, hn, hc', hs, hx⟩
  · rw [h1] at hg; cases hg
  · obtain rfl : g' = g := by rw [e] at hg; simpa [Value.ownBlock] using hg
    have ecur : cur' = cur := by have := hh.symm.trans hc; simpa using this
    subst ecur
    refine .inr ⟨g', cap, _, by rw [e, hln], hb, setRow_heap w g' cur' _ 9 _ hc, by show s.last.length ≤ cap; omega, hc', ?_, ?_⟩
    · simp [strs_len]; omega
    · simp [strs_len]
set_option maxRecDepth 100000 in
set_option maxHeartbeats 2000000 in
theorem lose_any (w : World) (base b : Nat) (v : DV) (s : DSt) (h : Dk w base b v s) (hb : base ≤ w.heap.size) (hk : pendOk s) (hz : s.pend.length ≤ 1000000000) (hl : 0 < s.last.length) (hln : s.now.length = s.last.length) (gk : Nat) (hgk : gk < w.heap.size) (kl : List Bool) (hkl : kl.length = s.pend.length) (hB : Bools w gk kl) (ck : Nat) :
    Calls Tryz.prog 72 #[.pointer (some ⟨b, 0, none⟩), .slice (some ⟨gk, 0, none⟩) s.pend.length ck] w fun e w' => e = .returned (.tuple #[]) ∧ DPost base b v { s with last := layP s.last (keepP s.pend kl), now := layP s.last (keepP s.pend kl), pend := [] } w w' := by
  obtain ⟨p, cap, ev, hcap⟩ := row_form h.rp
  have c2 : w.cell? ⟨b, 2, none⟩ = some (.slice p s.pend.length cap) := by rw [h.blk.cell 2, ← ev]; rfl
  have H := hide h
  have HE := hide ev
  have HK := hide hk
  have HB := hide hB
  clear h ev hk hB
  go_enter Tryz.func72, Tryz.ntmps72
  go_wp2
  go_loopw [4, 12] (fun u i wr => ∃ k : Nat, k ≤ s.pend.length ∧ i = .int .i64 (k : Int) ∧ wr.ownsRow w.heap.size 107 2 u (keepP (s.pend.take k) (kl.take k)).length (wrs (keepP (s.pend.take k) (kl.take k))) ∧ Below w.heap.size w wr) (fun _ i _ => s.pend.length - (intOf i).toNat)
  case atStart => exact ⟨0, by omega, rfl, by simpa [keepP, wrs] using World.ownsRow_nil _ _ _ _, Below.refl _ _⟩
  case round =>
    obtain ⟨k, hk, rfl, hrow, hbel⟩ := hrel
    obtain ⟨vl, rfl⟩ : ∃ v, v = u4 := ⟨_, rfl⟩
    have XD := hide ((unhide H).below hbel)
    have XB := hide hbel
    have XR := hide hrow
    have hsz := hbel.size
    clear hrow hbel
    by_cases hkk : k < s.pend.length
    · obtain ⟨gp, rfl⟩ : ∃ gp, p = some ⟨gp, 0, none⟩ := by
        obtain ⟨g, cap', e, _⟩ := (unhide XD).rp.form (by omega)
        rw [unhide HE] at e
        simp at e
        exact ⟨g, e.1⟩
      have hgp : v.p.ownBlock = some gp := by rw [unhide HE]; rfl
      obtain ⟨w0, w1⟩ := wrs_at s.pend k hkk
      have cp0 : wr.cell? ⟨gp, k * 2, none⟩ = some (.int .i64 ((s.pend[k].1 : Nat) : Int)) := by rw [(own_at2 (unhide XD).rp hgp (k * 2) (by omega)).1]; exact w0
      have cp1 : wr.cell? ⟨gp, k * 2 + 1, none⟩ = some (.string s.pend[k].2) := by rw [(own_at2 (unhide XD).rp hgp (k * 2 + 1) (by omega)).1]; exact w1
      have hlen : (keepP (s.pend.take k) (kl.take k)).length ≤ s.pend.length := Nat.le_trans (keepP_len _ _) (by simp; omega)
      have ckk : wr.cell? ⟨gk, k, none⟩ = some (.bool (kl.getD k false)) := by rw [(unhide XB).cell (p := ⟨gk, k, none⟩) hgk]; exact unhide HB k (by omega)
      have HT := hide (show keepP (s.pend.take (k + 1)) (kl.take (k + 1)) = keepP (s.pend.take k) (kl.take k) ++ (if kl.getD k false then [s.pend[k]] else []) by
        have e1 : s.pend.take (k + 1) = s.pend.take k ++ [s.pend[k]] := by simp
        have e2 : kl.take (k + 1) = kl.take k ++ [kl.getD k false] := by
          rw [List.take_succ_eq_append_getElem (by omega)]
          simp [List.getD_eq_getElem?_getD, show k < kl.length by omega]
        rw [e1, e2]
        exact keepP_snoc _ _ _ _ (by simp; omega))
      obtain ⟨j, hj⟩ : ∃ j, j = s.pend[k].1 := ⟨_, rfl⟩
      obtain ⟨t, ht⟩ : ∃ t, t = s.pend[k].2 := ⟨_, rfl⟩
      have HP := hide (show s.pend[k] = (j, t) by rw [hj, ht])
      rw [← hj] at cp0
      rw [← ht] at cp1
      have hgl : gk < wr.heap.size := by omega
      clear w0 w1 hj ht hgp XD
      generalize kl.getD k false = kb at *
      cases kb with
      | false =>
        go_wp2
        go_roundw
        case rel =>
          refine ⟨k + 1, by omega, by go_num, ?_, (unhide XB).alloc hsz _⟩
          rw [unhide HT]
          simpa using (unhide XR).alloc _
        case measure => simp [intOf]; omega
      | true =>
        obtain ⟨i0, hi0, hz0, hz1, hz2⟩ := info_parts infoW
        have HI := hide (And.intro hi0 (And.intro hz0 (And.intro hz1 hz2)))
        clear hi0 hz0 hz1 hz2
        go_wp2_with (refine wpList_append_own _ rfl (.tmp 21) (.tmp 23) 37 rfl w.heap.size 107 i0 (.agg #[.int .i64 0, .string ⟨#[]⟩]) 2 24 Tryz.underlying37 (unhide HI).1 (unhide HI).2.1 (unhide HI).2.2.1 (unhide HI).2.2.2 rfl (by decide) _ _ (wrs (keepP (s.pend.take k) (kl.take k))) rfl (((unhide XR).alloc _).alloc _) ⟨wr.heap.size + 1, 0, none⟩ 1 1 (wrs [(j, t)]) rfl rfl (fun q u hu => by have := news_two (wr.alloc (.cells #[.int .i64 (j : Int), .string t] 107)) 107 _ _ q u hu; simpa using this) (by simp [wrs, Value.oneCell']) (by unfold maxLen; omega) (by omega) (by simp; omega) ?_)
        intro v' x1 ho hg _
        have HO := hide ho
        have HB1 := hide (show Below w.heap.size w x1 from (((unhide XB).alloc hsz _).alloc (by simp; omega) _).grown hg (by simp; omega) (fun q hq => ((unhide XR).lt q hq).1))
        clear ho hg
        go_wp2
        go_roundw
        case rel =>
          refine ⟨k + 1, by omega, by go_num, ?_, unhide HB1⟩
          rw [unhide HT, unhide HP]
          have := unhide HO
          simpa [wrs_app] using this
        case measure => simp [intOf]; omega
    · have hk' : k = s.pend.length := by omega
      subst hk'
      rw [List.take_length, List.take_of_length_le (by omega)] at XR
      have f2 := (unhide XD).blk.frozen 2
      have c2' : wr.cell? ⟨b, 2, none⟩ = some v.p := by rw [(unhide XD).blk.cell 2]; rfl
      have D1 := (unhide XD).setP vl (keepP s.pend kl) (owns_base (unhide XR) hb)
      have hO1 : Only (Fd b v) w (wr.setCell ⟨b, 2, none⟩ vl) := (Only.of_below (unhide XB)).setCell _ _ (fun _ => .inl rfl)
      have hF1 : ∀ q, Fd b { v with p := vl } q → Fd b v q ∨ w.heap.size ≤ q := fun q hq => by
        rcases hq with hq | hq | hq | hq | hq
        · exact .inl (.inl hq)
        · exact .inl (.inr (.inl hq))
        · exact .inl (.inr (.inr (.inl hq)))
        · exact .inr ((unhide XR).lt q hq).1
        · exact .inl (.inr (.inr (.inr (.inr hq))))
      have hk2 : pendOk { s with pend := keepP s.pend kl } := fun q hq => unhide HK q (keepP_mem _ _ _ hq)
      have hz2 := keepP_len s.pend kl
      obtain ⟨pp, cc, evl, _⟩ := row_form (unhide XR)
      subst evl
      have X1 := hide D1
      have XO := hide hO1
      have XF := hide hF1
      have XK := hide hk2
      clear D1 hO1 hF1 hk2 XD XR XB H HK HB hkk hk hsz
      go_wp2_with fail
      refine (settle_any _ base b _ _ (unhide X1) (unhide XK) (by show (keepP s.pend kl).length ≤ _; omega) (by exact hl)).mono ?_
      rintro ev x2 ⟨rfl, v2, hD2, hO2, hF2⟩
      have hll : (layP s.last (keepP s.pend kl)).length = s.last.length := layP_len _ _
      obtain ⟨gn, capn, evn, _⟩ := hD2.rn.form (by show 0 < s.now.length; omega)
      obtain ⟨gl, capl, evl, _⟩ := hD2.rl.form (by show 0 < (layP s.last (keepP s.pend kl)).length; omega)
      have hgn : v2.n.ownBlock = some gn := by rw [evn]; rfl
      have hgl : v2.l.ownBlock = some gl := by rw [evl]; rfl
      have d1 : x2.cell? ⟨b, 1, none⟩ = some (.slice (some ⟨gn, 0, none⟩) s.now.length capn) := by rw [hD2.blk.cell 1, ← evn]; rfl
      have d0 : x2.cell? ⟨b, 0, none⟩ = some (.slice (some ⟨gl, 0, none⟩) (layP s.last (keepP s.pend kl)).length capl) := by rw [hD2.blk.cell 0, ← evl]; rfl
      obtain ⟨cur, hcur, hcz⟩ : ∃ cur, x2.heap[gn]? = some (.cells cur 9 (0, 0)) ∧ s.now.length ≤ cur.size := by
        rcases hD2.rn.2 with ⟨h1, h2⟩ | ⟨g', cap', cur', e, _, hh, hn, _, hs, _⟩
        · rw [h1] at hgn; cases hgn
        · obtain rfl : g' = gn := by rw [e] at hgn; simpa [Value.ownBlock] using hgn
          exact ⟨cur', hh, by have hn : s.now.length ≤ cap' := hn; omega⟩
      have HL := hide (show ∀ j u, (strs (layP s.last (keepP s.pend kl)))[j]? = some u → x2.cell? (Addr.add ⟨gl, 0, none⟩ j) = some u from fun j u hu => by
        have hjl : j < (layP s.last (keepP s.pend kl)).length := by
          have := (List.getElem?_eq_some_iff.1 hu).1
          rwa [strs_len] at this
        rw [Addr.add_mid, Nat.zero_add, (own_at hD2.rl hgl j hjl).1]
        exact hu)
      have HC := hide (hD2.copyNow gn hgn cur hcur (by show s.now.length = (layP s.last (keepP s.pend kl)).length; omega))
      have HCU := hide hcur
      have XO2 := hide hO2
      have XF2 := hide hF2
      have HLL := hide hll
      clear hD2 hO2 hF2 evn evl hgn hgl hcur X1 XK hll
      generalize hLe : layP s.last (keepP s.pend kl) = L at *
      have HLE := hide hLe
      clear hLe
      go_wp2_with fail
      go_still_tail 8, (by kernel_rfl)
      change wpList _ _ _ _ _ x2.drew
      refine wpList_copy_own rfl (.tmp 35) (.tmp 39) 35 35 rfl 9 Tryz.underlying35 (by kernel_rfl) gn 0 s.last.length capn ⟨gl, 0, none⟩ L.length capl rfl rfl cur 9 (unhide HCU) (strs L) (by rw [strs_len]; have := unhide HLL; simp only [Nat.min_def]; split <;> omega) (unhide HL) (by rw [strs_len]; have := unhide HLL; omega) (by simp [strs, Value.oneCell']) ?_
      have HC2 := hide (show Dk _ base b v2 _ ∧ Only (Fd b v2) x2 _ from unhide HC)
      clear HC
      generalize hcw : (cur.toList.take 0 ++ (strs L ++ cur.toList.drop (0 + (strs L).length))).toArray = cw at *
      clear hcw HL HCU
      go_wp2
      go_end0
      obtain ⟨g1, g2⟩ := unhide HC2
      obtain rfl := unhide HLE
      have g3 : Only (Fd b v2) x2 (x2.drew.setRow gn cw) := g2.drew
      have g4 : Dk (x2.drew.setRow gn cw) base b v2 _ := g1.drew
      exact ⟨rfl, DPost.trans (unhide XO) (unhide XF) (DPost.trans (unhide XO2) (unhide XF2) ⟨v2, g4, g3, fun _ q => .inl q⟩)⟩
end Go.Proofs.YtnfcnpolflfpfaaGreatDoor

/-
  DERIVED: THE SHELF's CONTRACTS AT THIS DUMP, IN PLAIN WORDS (tools/lay-plain.mjs out of 'TryzShelf.lean', which tools/lay-shelf.mjs wrote): THE SAME DECLARATIONS UNDER THE SAME NAMES: 'import', 'namespace', 'open', 'def', 'theorem' AND NOTHING ELSE: no command of the shelf's: FOR A HAND-IN. Each laying: the table of numbers ('.._ren') and one theorem, a field a fact of the dump's own or the kernel's comparison; each contract: ONE APPLICATION.
-/
namespace Go.Proofs.YtnfcnpolflfpfaaGreatDoor
open Go.Shelf
def Tryz.laysM316_ren : Go.Shelf.Ren := ⟨fun | 316 => 182 | n => n, fun | 9 => 9 | 3 => 3 | 4 => 4 | 37 => 49 | 0 => 0 | 127 => 230 | 5 => 5 | n => n, fun | n => n⟩
theorem Tryz.laysM316 : Go.Proofs.LaysM.n316 Tryz.prog Tryz.laysM316_ren := {
  mixed := by kernel_rfl
  f316 := Tryz.func182.trans (congrArg some (by kernel_rfl))
  t0 := Tryz.underlying0
  a0 := Tryz.isAgg0
  z0 := Tryz.sizeOf0
  v0 := Tryz.zeroValue0
  t3 := Tryz.underlying3
  a3 := Tryz.isAgg3
  z3 := Tryz.sizeOf3
  v3 := Tryz.zeroValue3
  t4 := Tryz.underlying4
  a4 := Tryz.isAgg4
  z4 := Tryz.sizeOf4
  v4 := Tryz.zeroValue4
  t9 := Tryz.underlying9
  a9 := Tryz.isAgg9
  z9 := Tryz.sizeOf9
  v9 := Tryz.zeroValue9
  t37 := Tryz.underlying49
  a37 := Tryz.isAgg49
  z37 := Tryz.sizeOf49
  v37 := Tryz.zeroValue49
  t127 := Tryz.underlying230
  a127 := Tryz.isAgg230
  z127 := Tryz.sizeOf230
  v127 := Tryz.zeroValue230
  t5 := Tryz.underlying5
  a5 := Tryz.isAgg5
  z5 := Tryz.sizeOf5
  v5 := Tryz.zeroValue5
  i0 := by kernel_rfl
  i3 := by kernel_rfl
  i4 := by kernel_rfl
  i5 := by kernel_rfl
  i9 := by kernel_rfl
  i37 := by kernel_rfl
  i127 := by kernel_rfl }
open Go.RowKit in
/-- internal/stringslite.Clone (what strings.Clone calls): "Clone returns a fresh copy of s.": THE SAME BYTES. Of what was there nothing has turned (a new row is laid, and frozen, where s is not empty). (LAID: no walk: one application.) -/
theorem Tryz.stringslite_Clone (s : ByteArray) (w : World) (hlim : s.size ≤ 281474976710656) :
    Calls Tryz.prog 182 #[.string s] w fun e w' => e = .returned (.string s) ∧ Below w.heap.size w w' := Any.stringslite_Clone Tryz.laysM316 s w hlim
def Tryz.lays264_ren : Go.Shelf.Ren := ⟨fun | 264 => 167 | n => n, fun | 53 => 227 | 46 => 118 | n => n, fun | n => n⟩
theorem Tryz.lays264 : Go.Proofs.Lays.n264 Tryz.prog Tryz.lays264_ren := {
  mixed := by kernel_rfl
  f264 := Tryz.func167.trans (congrArg some (by kernel_rfl))
  t46 := Tryz.underlying118
  a46 := Tryz.isAgg118
  z46 := Tryz.sizeOf118
  v46 := Tryz.zeroValue118
  t53 := Tryz.underlying227
  a53 := Tryz.isAgg227
  z53 := Tryz.sizeOf227
  v53 := Tryz.zeroValue227 }
open Go.RowKit Go.Lib in
theorem Tryz.bits_Mul64 (x y : Nat) (hx : x < 18446744073709551616) (hy : y < 18446744073709551616) (w : World) :
    Calls Tryz.prog 167 #[.int .u64 x, .int .u64 y] w fun e w' => e = .returned (.tuple #[.int .u64 ((x * y / 18446744073709551616 : Nat) : Int), .int .u64 ((x * y % 18446744073709551616 : Nat) : Int)]) ∧ w' = w := Any.bits_Mul64 Tryz.lays264 x y hx hy w
def Tryz.lays212_ren : Go.Shelf.Ren := ⟨fun | 212 => 108 | 263 => 166 | 264 => 167 | n => n, fun | 46 => 118 | 51 => 161 | 146 => 225 | 53 => 227 | 148 => 228 | n => n, fun | n => n⟩
theorem Tryz.lays212 : Go.Proofs.Lays.n212 Tryz.prog Tryz.lays212_ren := {
  mixed := by kernel_rfl
  f212 := Tryz.func108.trans (congrArg some (by kernel_rfl))
  f263 := Tryz.func166.trans (congrArg some (by kernel_rfl))
  f264 := Tryz.func167.trans (congrArg some (by kernel_rfl))
  t46 := Tryz.underlying118
  a46 := Tryz.isAgg118
  z46 := Tryz.sizeOf118
  v46 := Tryz.zeroValue118
  t51 := Tryz.underlying161
  a51 := Tryz.isAgg161
  z51 := Tryz.sizeOf161
  v51 := Tryz.zeroValue161
  t53 := Tryz.underlying227
  a53 := Tryz.isAgg227
  z53 := Tryz.sizeOf227
  v53 := Tryz.zeroValue227
  t146 := Tryz.underlying225
  a146 := Tryz.isAgg225
  z146 := Tryz.sizeOf225
  v146 := Tryz.zeroValue225
  t148 := Tryz.underlying228
  a148 := Tryz.isAgg228
  z148 := Tryz.sizeOf228
  v148 := Tryz.zeroValue228 }
open Go.RowKit Go.Lib in
/-- math/bits.Mul: "Mul returns the full-width product of x and y": on a machine of 64 bits: Mul64's. (LAID: no walk: one application.) -/
theorem Tryz.bits_Mul (x y : Nat) (hx : x < 18446744073709551616) (hy : y < 18446744073709551616) (w : World) :
    Calls Tryz.prog 108 #[.int .u64 x, .int .u64 y] w fun e w' => e = .returned (.tuple #[.int .u64 ((x * y / 18446744073709551616 : Nat) : Int), .int .u64 ((x * y % 18446744073709551616 : Nat) : Int)]) ∧ w' = w := Any.bits_Mul Tryz.lays212 x y hx hy w
def Tryz.lays105_ren : Go.Shelf.Ren := ⟨fun | 105 => 54 | 212 => 108 | 99 => 109 | 165 => 110 | 166 => 111 | 170 => 112 | 169 => 113 | 263 => 166 | 264 => 167 | 206 => 168 | 240 => 169 | 241 => 170 | 276 => 212 | 277 => 213 | n => n, fun | 9 => 9 | 3 => 3 | 4 => 4 | 20 => 20 | 0 => 0 | 46 => 118 | 109 => 176 | 5 => 5 | 72 => 181 | 76 => 184 | 51 => 161 | 146 => 225 | 53 => 227 | 148 => 228 | 70 => 179 | 37 => 49 | 75 => 183 | 127 => 230 | 164 => 257 | 80 => 186 | n => n, fun | n => n⟩
theorem Tryz.lays105 : Go.Proofs.Lays.n105 Tryz.prog Tryz.lays105_ren := {
  mixed := by kernel_rfl
  f99 := Tryz.func109.trans (congrArg some (by kernel_rfl))
  f105 := Tryz.func54.trans (congrArg some (by kernel_rfl))
  f165 := Tryz.func110.trans (congrArg some (by kernel_rfl))
  f166 := Tryz.func111.trans (congrArg some (by kernel_rfl))
  f169 := Tryz.func113.trans (congrArg some (by kernel_rfl))
  f170 := Tryz.func112.trans (congrArg some (by kernel_rfl))
  f206 := Tryz.func168.trans (congrArg some (by kernel_rfl))
  f212 := Tryz.func108.trans (congrArg some (by kernel_rfl))
  f240 := Tryz.func169.trans (congrArg some (by kernel_rfl))
  f241 := Tryz.func170.trans (congrArg some (by kernel_rfl))
  f263 := Tryz.func166.trans (congrArg some (by kernel_rfl))
  f264 := Tryz.func167.trans (congrArg some (by kernel_rfl))
  f276 := Tryz.func212.trans (congrArg some (by kernel_rfl))
  f277 := Tryz.func213.trans (congrArg some (by kernel_rfl))
  t0 := Tryz.underlying0
  a0 := Tryz.isAgg0
  z0 := Tryz.sizeOf0
  v0 := Tryz.zeroValue0
  t3 := Tryz.underlying3
  a3 := Tryz.isAgg3
  z3 := Tryz.sizeOf3
  v3 := Tryz.zeroValue3
  t4 := Tryz.underlying4
  a4 := Tryz.isAgg4
  z4 := Tryz.sizeOf4
  v4 := Tryz.zeroValue4
  t5 := Tryz.underlying5
  a5 := Tryz.isAgg5
  z5 := Tryz.sizeOf5
  v5 := Tryz.zeroValue5
  t9 := Tryz.underlying9
  a9 := Tryz.isAgg9
  z9 := Tryz.sizeOf9
  v9 := Tryz.zeroValue9
  t20 := Tryz.underlying20
  a20 := Tryz.isAgg20
  z20 := Tryz.sizeOf20
  v20 := Tryz.zeroValue20
  t37 := Tryz.underlying49
  a37 := Tryz.isAgg49
  z37 := Tryz.sizeOf49
  v37 := Tryz.zeroValue49
  t46 := Tryz.underlying118
  a46 := Tryz.isAgg118
  z46 := Tryz.sizeOf118
  v46 := Tryz.zeroValue118
  t51 := Tryz.underlying161
  a51 := Tryz.isAgg161
  z51 := Tryz.sizeOf161
  v51 := Tryz.zeroValue161
  t53 := Tryz.underlying227
  a53 := Tryz.isAgg227
  z53 := Tryz.sizeOf227
  v53 := Tryz.zeroValue227
  t70 := Tryz.underlying179
  a70 := Tryz.isAgg179
  z70 := Tryz.sizeOf179
  v70 := Tryz.zeroValue179
  t72 := Tryz.underlying181
  a72 := Tryz.isAgg181
  z72 := Tryz.sizeOf181
  v72 := Tryz.zeroValue181
  t75 := Tryz.underlying183
  a75 := Tryz.isAgg183
  z75 := Tryz.sizeOf183
  v75 := Tryz.zeroValue183
  t76 := Tryz.underlying184
  a76 := Tryz.isAgg184
  z76 := Tryz.sizeOf184
  v76 := Tryz.zeroValue184
  t109 := Tryz.underlying176
  a109 := Tryz.isAgg176
  z109 := Tryz.sizeOf176
  v109 := Tryz.zeroValue176
  t127 := Tryz.underlying230
  a127 := Tryz.isAgg230
  z127 := Tryz.sizeOf230
  v127 := Tryz.zeroValue230
  t146 := Tryz.underlying225
  a146 := Tryz.isAgg225
  z146 := Tryz.sizeOf225
  v146 := Tryz.zeroValue225
  t148 := Tryz.underlying228
  a148 := Tryz.isAgg228
  z148 := Tryz.sizeOf228
  v148 := Tryz.zeroValue228
  t164 := Tryz.underlying257
  a164 := Tryz.isAgg257
  z164 := Tryz.sizeOf257
  v164 := Tryz.zeroValue257 }
theorem Tryz.Builder_Extra_105 : Builder.Extra Tryz.prog Tryz.lays105_ren := {
  sizeBuilder := by kernel_rfl
  liesBuilder := by kernel_rfl
  t5 := Tryz.underlying5
  a5 := Tryz.isAgg5
  z5 := Tryz.sizeOf5
  v5 := Tryz.zeroValue5
  infoByte := by kernel_rfl
  cellsByte := by kernel_rfl
  sizeByte := by kernel_rfl
  neB5 := by decide }
open Go.RowKit Go.Lib in
/-- THE MAIN CASE: at least two copies of a string that is not empty. (LAID: no walk: one application.) -/
theorem Tryz.strings_Repeat_main (s : ByteArray) (c : Nat) (w : World) (hc2 : 2 ≤ c) (hc : c ≤ 9223372036854775807) (hlen : s.size * c ≤ 140737488355328) (h0 : 0 < s.size) :
    Calls Tryz.prog 54 #[.string s, .int .i64 c] w fun e w' => e = .returned (.string ⟨(Lib.repeatL s.data.toList c).toArray⟩) ∧ Below w.heap.size w w' := Any.strings_Repeat_main Tryz.lays105 Tryz.Builder_Extra_105 s c w hc2 hc hlen h0
open Go.RowKit Go.Lib in
theorem Tryz.strings_Repeat_zero (s : ByteArray) (w : World) :
    Calls Tryz.prog 54 #[.string s, .int .i64 0] w fun e w' => e = .returned (.string ⟨#[]⟩) ∧ w' = w := Any.strings_Repeat_zero Tryz.lays105 s w
open Go.RowKit Go.Lib in
theorem Tryz.strings_Repeat_one (s : ByteArray) (w : World) :
    Calls Tryz.prog 54 #[.string s, .int .i64 1] w fun e w' => e = .returned (.string s) ∧ w' = w := Any.strings_Repeat_one Tryz.lays105 s w
open Go.RowKit Go.Lib in
/-- Copies of the empty string. (LAID: no walk: one application.) -/
theorem Tryz.strings_Repeat_empty (s : ByteArray) (c : Nat) (w : World) (hc2 : 2 ≤ c) (hc : c ≤ 9223372036854775807) (h0 : s.size = 0) :
    Calls Tryz.prog 54 #[.string s, .int .i64 c] w fun e w' => e = .returned (.string ⟨#[]⟩) ∧ w' = w := Any.strings_Repeat_empty Tryz.lays105 s c w hc2 hc h0
open Go.RowKit Go.Lib in
/-- count < 0: "It panics if count is negative". (LAID: no walk: one application.) -/
theorem Tryz.strings_Repeat_negative (s : ByteArray) (c : Int) (w : World) (hc : c < 0) :
    Calls Tryz.prog 54 #[.string s, .int .i64 c] w fun e w' => e = .panicked [{ v := repeatPanic Tryz.lays105_ren "strings: negative Repeat count", recovered := false }] ∧ w' = w := Any.strings_Repeat_negative Tryz.lays105 s c w hc
open Go.RowKit Go.Lib in
/-- len(s) * count is no int: ".. or if the result of (len(s) * count) overflows". (LAID: no walk: one application.) -/
theorem Tryz.strings_Repeat_overflow (s : ByteArray) (c : Nat) (w : World) (hc : c ≤ 9223372036854775807) (hs : s.size ≤ 9223372036854775807) (hbig : 9223372036854775807 < s.size * c) :
    Calls Tryz.prog 54 #[.string s, .int .i64 c] w fun e w' => e = .panicked [{ v := repeatPanic Tryz.lays105_ren "strings: Repeat output length overflow", recovered := false }] ∧ w' = w := Any.strings_Repeat_overflow Tryz.lays105 s c w hc hs hbig
open Go.RowKit Go.Lib in
/-- **strings.Repeat: count ≥ 0, the result within one allocation: count copies of s.** (LAID: no walk: one application.) -/
theorem Tryz.strings_Repeat (s : ByteArray) (c : Nat) (w : World) (hc : c ≤ 9223372036854775807) (hlen : s.size * c ≤ 140737488355328) :
    Calls Tryz.prog 54 #[.string s, .int .i64 c] w fun e w' => e = .returned (.string ⟨(Lib.repeatL s.data.toList c).toArray⟩) ∧ Below w.heap.size w w' := Any.strings_Repeat Tryz.lays105 Tryz.Builder_Extra_105 s c w hc hlen
def Tryz.laysNm216_ren : Go.Shelf.Ren := ⟨fun | 16 => 49 | n => n, fun | 24 => 35 | 9 => 9 | 4 => 4 | n => n, fun | n => n⟩
theorem Tryz.laysNm216 : Go.Proofs.Lays2.n16 Tryz.prog Tryz.laysNm216_ren := {
  mixed := by kernel_rfl
  f16 := Tryz.func49.trans (congrArg some (by kernel_rfl))
  t4 := Tryz.underlying4
  a4 := Tryz.isAgg4
  z4 := Tryz.sizeOf4
  v4 := Tryz.zeroValue4
  t9 := Tryz.underlying9
  a9 := Tryz.isAgg9
  z9 := Tryz.sizeOf9
  v9 := Tryz.zeroValue9
  t24 := Tryz.underlying35
  a24 := Tryz.isAgg35
  z24 := Tryz.sizeOf35
  v24 := Tryz.zeroValue35
  i9 := by kernel_rfl }
open Go.RowKit Go.Lib in
/-- slices.Clone at []string: "Clone returns a copy of the slice. The elements are copied using assignment, so this is a shallow clone. The result may have additional unused capacity. The result preserves the nilness of s.": OF A SLICE THAT IS NOT nil IT RETURNS A SLICE THAT IS NOT nil, OF THE SAME ELEMENTS, IN MEMORY OF THE CALL's OWN: in the how-to's words (6f): 'w'.ownsRow B e 1 v' n cells': v' begins at the head of a row among the blocks from B on (B: the heap's size at the call), not frozen, whose first cells are the elements · 'Below B w w'': below B all is as it was. The capacity is whatever the run-time gives. 'zs': what the cells behind the slice's address hold; 'zs.take n': its elements. (LAID: no walk: one application.) -/
theorem Tryz.slices_Clone_string (b off n c : Nat) (zs : List ByteArray) (w : World) (hz : n ≤ zs.length) (hbig : n * 16 ≤ 140737488355328) (hc : ∀ j, j < zs.length → w.cell? ⟨b, off + j, none⟩ = some (.string (zs.getD j ByteArray.empty))) :
    Calls Tryz.prog 49 #[.slice (some ⟨b, off, none⟩) n c] w fun e w' => ∃ v', e = .returned v' ∧ w'.ownsRow w.heap.size 9 1 v' n ((zs.take n).map (Value.string)) ∧ v' ≠ .slice none 0 0 ∧ Below w.heap.size w w' := Any.slices_Clone_string Tryz.laysNm216 b off n c zs w hz hbig hc
open Go.RowKit Go.Lib in
/-- The same at nil: nil comes back; the world is as it was. (LAID: no walk: one application.) -/
theorem Tryz.slices_Clone_string_nil (n c : Nat) (w : World) :
    Calls Tryz.prog 49 #[.slice none n c] w fun e w' => e = .returned (.slice none 0 0) ∧ w' = w := Any.slices_Clone_string_nil Tryz.laysNm216 n c w
open Go.RowKit Go.Lib in
/-- The same at a slice of length 0 that is not nil, WHATEVER ITS ADDRESS (no cell is asked for): a slice that is not nil and owns nothing comes back. (LAID: no walk: one application.) -/
theorem Tryz.slices_Clone_string_zero (a : Addr) (c : Nat) (w : World) :
    Calls Tryz.prog 49 #[.slice (some a) 0 c] w fun e w' => ∃ v', e = .returned v' ∧ w'.ownsRow w.heap.size 9 1 v' 0 [] ∧ v' ≠ .slice none 0 0 ∧ Below w.heap.size w w' := Any.slices_Clone_string_zero Tryz.laysNm216 a c w
end Go.Proofs.YtnfcnpolflfpfaaGreatDoor

namespace Go.Proofs.YtnfcnpolflfpfaaGreatDoor
open Go.RowKit
theorem wpAnyH_takeD {P : Program} {ops : Array Oper} {Q : Exit → Act → World → Prop} {md : Region.Mode} {S : World → Prop} (i : Nat) (d : Option Tmp) (v : Value) {oi : Oper} {fuel : Nat} {listed : Array Bool} {a : Act} {w : World} (hi : ops[i]? = some oi) (hd : oi.dst = d)
    (hs : Region.noSelect ops = true) (hf : Region.free md ops listed i = true) (hr : (Region.ready md ops listed).contains i = true)
    (hQ : ∀ c a w, Q (.panic c) (a.put d v) w → Q (.panic c) a w) (hy : YieldsIf P ops S oi v a) (hS : S w)
    (h : wpAnyH P md ops Q S fuel (listed.setIfInBounds i true) (a.put d v) w) : wpAnyH P md ops Q S (fuel + 1) listed a w := by
  subst hd
  exact wpAnyH_take hi hs hf hr hQ hy hS h
end Go.Proofs.YtnfcnpolflfpfaaGreatDoor
