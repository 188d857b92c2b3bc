import Derived.Test.YtnkaooafenakdaaGreatDoorMr02
import Derived.Laws.CopyOwn
namespace Go.Proofs.YtnkaooafenakdaaGreatDoor
open Go.RowKit
def keepP : List (Nat × ByteArray) → List Bool → List (Nat × ByteArray)
  | p :: r, true :: k => p :: keepP r k
  | _ :: r, false :: k => keepP r k
  | _, _ => []
theorem keepP_snoc (p : Nat × ByteArray) (x : Bool) : ∀ (l : List (Nat × ByteArray)) (k : List Bool), l.length = k.length → keepP (l ++ [p]) (k ++ [x]) = keepP l k ++ (if x then [p] else [])
  | [], [], _ => by cases x <;> rfl
  | q :: r, true :: k, h => by simp [keepP]; exact keepP_snoc p x r k (by simpa using h)
  | q :: r, false :: k, h => by simp [keepP]; exact keepP_snoc p x r k (by simpa using h)
theorem keepP_mem : ∀ (l : List (Nat × ByteArray)) (k : List Bool) (p : Nat × ByteArray), p ∈ keepP l k → p ∈ l
  | [], _, p, h => by simp [keepP] at h
  | q :: r, [], p, h => by simp [keepP] at h
  | q :: r, true :: k, p, h => by
    simp [keepP] at h
    rcases h with rfl | h
    · simp
    · exact List.mem_cons_of_mem _ (keepP_mem r k p h)
  | q :: r, false :: k, p, h => by
    simp [keepP] at h
    exact List.mem_cons_of_mem _ (keepP_mem r k p h)
theorem keepP_len : ∀ (l : List (Nat × ByteArray)) (k : List Bool), (keepP l k).length ≤ l.length
  | [], _ => by simp [keepP]
  | q :: r, [] => by simp [keepP]
  | q :: r, true :: k => by simp [keepP]; exact keepP_len r k
  | q :: r, false :: k => by simp [keepP]; have := keepP_len r k; omega
def Bools (w : World) (g : Nat) (kl : List Bool) : Prop := ∀ j, j < kl.length → w.cell? ⟨g, j, none⟩ = some (.bool (kl.getD j false))
theorem owns_base {w : World} {B B' : Nat} {e : TypeId} {k n : Nat} {v : Value} {xs : List Value} (h : w.ownsRow B e k v n xs) (hb : B' ≤ B) : w.ownsRow B' e k v n xs := by
  refine ⟨h.1, ?_⟩
  rcases h.2 with hn | ⟨g, cap, cur, rfl, hg, rest⟩
  · exact .inl hn
  · exact .inr ⟨g, cap, cur, rfl, by omega, rest⟩
theorem Dk.setP {w : World} {base b : Nat} {v : DV} {s : DSt} (h : Dk w base b v s) (vl : Value) (ps : List (Nat × ByteArray)) (hr : w.ownsRow base 75 2 vl ps.length (wrs ps)) : Dk (w.setCell ⟨b, 2, none⟩ vl) base b { v with p := vl } { s with pend := ps } :=
  h.cells 2 _ _ _ rfl (owns_setO h.rl _ _ h.nb.1) (owns_setO h.rn _ _ h.nb.2.1) (owns_setO hr _ _ (h.blk.not_row (by decide) hr)) (owns_setO h.ra _ _ h.nb.2.2.2) h.ne
theorem setRow_only (w : World) (g : Nat) (cs : Array Value) : Only (fun k => k = g) w (w.setRow g cs) :=
  ⟨⟨rfl, rfl, rfl, by simp [World.setRow], fun k hk => absurd hk (Nat.not_lt_zero k)⟩, fun k _ hn => setRow_other w g k cs hn⟩
theorem Dk.copyNow {w : World} {base b : Nat} {v : DV} {s : DSt} (h : Dk w base b v s) (g : Nat) (hg : v.n.ownBlock = some g) (cur : Array Value) (hc : w.heap[g]? = some (.cells cur 9 (0, 0))) (hln : s.now.length = s.last.length) :
    Dk (w.setRow g (cur.toList.take 0 ++ (strs s.last ++ cur.toList.drop (0 + (strs s.last).length))).toArray) base b v { s with now := s.last } ∧ Only (Fd b v) w (w.setRow g (cur.toList.take 0 ++ (strs s.last ++ cur.toList.drop (0 + (strs s.last).length))).toArray) := by
  have hO := setRow_only w g (cur.toList.take 0 ++ (strs s.last ++ cur.toList.drop (0 + (strs s.last).length))).toArray
  refine ⟨⟨h.blk.only hO (fun q => h.nb.2.1 (q ▸ hg)), owns_only h.rl hO (fun k hk q => h.ne k hk (q ▸ hg)), ?_, owns_only h.rp hO (fun k hk q => rows_ne h.rn h.rp (by decide) g hg (q ▸ hk)), owns_only h.ra hO (fun k hk q => rows_ne h.rn h.ra (by decide) g hg (q ▸ hk)), h.ne, h.lo⟩, hO.mono (fun k _ q => .inr (.inr (.inl (q ▸ hg))))⟩
  refine ⟨by simp [strs_len], ?_⟩
  rcases h.rn.2 with ⟨h1, h2⟩ | ⟨g', cap, cur', e, hb, hh, hn, hc', hs, hx⟩
  · rw [h1] at hg; cases hg
  · obtain rfl : g' = g := by rw [e] at hg; simpa [Value.ownBlock] using hg
    have ecur : cur' = cur := by have := hh.symm.trans hc; simpa using this
    subst ecur
    refine .inr ⟨g', cap, _, by rw [e, hln], hb, setRow_heap w g' cur' _ 9 _ hc, by show s.last.length ≤ cap; omega, hc', ?_, ?_⟩
    · simp [strs_len]; omega
    · simp [strs_len]
set_option maxRecDepth 100000 in
set_option maxHeartbeats 2000000 in
theorem lose_any (w : World) (base b : Nat) (v : DV) (s : DSt) (h : Dk w base b v s) (hb : base ≤ w.heap.size) (hk : pendOk s) (hz : s.pend.length ≤ 1000000000) (hl : 0 < s.last.length) (hln : s.now.length = s.last.length) (gk : Nat) (hgk : gk < w.heap.size) (kl : List Bool) (hkl : kl.length = s.pend.length) (hB : Bools w gk kl) (ck : Nat) :
    Calls Tryz.prog 58 #[.pointer (some ⟨b, 0, none⟩), .slice (some ⟨gk, 0, none⟩) s.pend.length ck] w fun e w' => e = .returned (.tuple #[]) ∧ DPost base b v { s with last := layP s.last (keepP s.pend kl), now := layP s.last (keepP s.pend kl), pend := [] } w w' := by
  obtain ⟨p, cap, ev, hcap⟩ := row_form h.rp
  have c2 : w.cell? ⟨b, 2, none⟩ = some (.slice p s.pend.length cap) := by rw [h.blk.cell 2, ← ev]; rfl
  have H := hide h
  have HE := hide ev
  have HK := hide hk
  have HB := hide hB
  clear h ev hk hB
  go_enter Tryz.func58, Tryz.ntmps58
  go_wp2
  go_loopw [4, 12] (fun u i wr => ∃ k : Nat, k ≤ s.pend.length ∧ i = .int .i64 (k : Int) ∧ wr.ownsRow w.heap.size 75 2 u (keepP (s.pend.take k) (kl.take k)).length (wrs (keepP (s.pend.take k) (kl.take k))) ∧ Below w.heap.size w wr) (fun _ i _ => s.pend.length - (intOf i).toNat)
  case atStart => exact ⟨0, by omega, rfl, by simpa [keepP, wrs] using World.ownsRow_nil _ _ _ _, Below.refl _ _⟩
  case round =>
    obtain ⟨k, hk, rfl, hrow, hbel⟩ := hrel
    obtain ⟨vl, rfl⟩ : ∃ v, v = u4 := ⟨_, rfl⟩
    have XD := hide ((unhide H).below hbel)
    have XB := hide hbel
    have XR := hide hrow
    have hsz := hbel.size
    clear hrow hbel
    by_cases hkk : k < s.pend.length
    · obtain ⟨gp, rfl⟩ : ∃ gp, p = some ⟨gp, 0, none⟩ := by
        obtain ⟨g, cap', e, _⟩ := (unhide XD).rp.form (by omega)
        rw [unhide HE] at e
        simp at e
        exact ⟨g, e.1⟩
      have hgp : v.p.ownBlock = some gp := by rw [unhide HE]; rfl
      obtain ⟨w0, w1⟩ := wrs_at s.pend k hkk
      have cp0 : wr.cell? ⟨gp, k * 2, none⟩ = some (.int .i64 ((s.pend[k].1 : Nat) : Int)) := by rw [(own_at2 (unhide XD).rp hgp (k * 2) (by omega)).1]; exact w0
      have cp1 : wr.cell? ⟨gp, k * 2 + 1, none⟩ = some (.string s.pend[k].2) := by rw [(own_at2 (unhide XD).rp hgp (k * 2 + 1) (by omega)).1]; exact w1
      have hlen : (keepP (s.pend.take k) (kl.take k)).length ≤ s.pend.length := Nat.le_trans (keepP_len _ _) (by simp; omega)
      have ckk : wr.cell? ⟨gk, k, none⟩ = some (.bool (kl.getD k false)) := by rw [(unhide XB).cell (p := ⟨gk, k, none⟩) hgk]; exact unhide HB k (by omega)
      have HT := hide (show keepP (s.pend.take (k + 1)) (kl.take (k + 1)) = keepP (s.pend.take k) (kl.take k) ++ (if kl.getD k false then [s.pend[k]] else []) by
        have e1 : s.pend.take (k + 1) = s.pend.take k ++ [s.pend[k]] := by simp
        have e2 : kl.take (k + 1) = kl.take k ++ [kl.getD k false] := by
          rw [List.take_succ_eq_append_getElem (by omega)]
          simp [List.getD_eq_getElem?_getD, show k < kl.length by omega]
        rw [e1, e2]
        exact keepP_snoc _ _ _ _ (by simp; omega))
      obtain ⟨j, hj⟩ : ∃ j, j = s.pend[k].1 := ⟨_, rfl⟩
      obtain ⟨t, ht⟩ : ∃ t, t = s.pend[k].2 := ⟨_, rfl⟩
      have HP := hide (show s.pend[k] = (j, t) by rw [hj, ht])
      rw [← hj] at cp0
      rw [← ht] at cp1
      have hgl : gk < wr.heap.size := by omega
      clear w0 w1 hj ht hgp XD
      generalize kl.getD k false = kb at *
      cases kb with
      | false =>
        go_wp2
        go_roundw
        case rel =>
          refine ⟨k + 1, by omega, by go_num, ?_, (unhide XB).alloc hsz _⟩
          rw [unhide HT]
          simpa using (unhide XR).alloc _
        case measure => simp [intOf]; omega
      | true =>
        obtain ⟨i0, hi0, hz0, hz1, hz2⟩ := info_parts infoW
        have HI := hide (And.intro hi0 (And.intro hz0 (And.intro hz1 hz2)))
        clear hi0 hz0 hz1 hz2
        go_wp2_with (refine wpList_append_own _ rfl (.tmp 21) (.tmp 23) 57 rfl w.heap.size 75 i0 (.agg #[.int .i64 0, .string ⟨#[]⟩]) 2 24 Tryz.underlying57 (unhide HI).1 (unhide HI).2.1 (unhide HI).2.2.1 (unhide HI).2.2.2 rfl (by decide) _ _ (wrs (keepP (s.pend.take k) (kl.take k))) rfl (((unhide XR).alloc _).alloc _) ⟨wr.heap.size + 1, 0, none⟩ 1 1 (wrs [(j, t)]) rfl rfl (fun q u hu => by have := news_two (wr.alloc (.cells #[.int .i64 (j : Int), .string t] 75)) 75 _ _ q u hu; simpa using this) (by simp [wrs, Value.oneCell']) (by unfold maxLen; omega) (by omega) (by simp; omega) ?_)
        intro v' x1 ho hg _
        have HO := hide ho
        have HB1 := hide (show Below w.heap.size w x1 from (((unhide XB).alloc hsz _).alloc (by simp; omega) _).grown hg (by simp; omega) (fun q hq => ((unhide XR).lt q hq).1))
        clear ho hg
        go_wp2
        go_roundw
        case rel =>
          refine ⟨k + 1, by omega, by go_num, ?_, unhide HB1⟩
          rw [unhide HT, unhide HP]
          have := unhide HO
          simpa [wrs_app] using this
        case measure => simp [intOf]; omega
    · have hk' : k = s.pend.length := by omega
      subst hk'
      rw [List.take_length, List.take_of_length_le (by omega)] at XR
      have f2 := (unhide XD).blk.frozen 2
      have c2' : wr.cell? ⟨b, 2, none⟩ = some v.p := by rw [(unhide XD).blk.cell 2]; rfl
      have D1 := (unhide XD).setP vl (keepP s.pend kl) (owns_base (unhide XR) hb)
      have hO1 : Only (Fd b v) w (wr.setCell ⟨b, 2, none⟩ vl) := (Only.of_below (unhide XB)).setCell _ _ (fun _ => .inl rfl)
      have hF1 : ∀ q, Fd b { v with p := vl } q → Fd b v q ∨ w.heap.size ≤ q := fun q hq => by
        rcases hq with hq | hq | hq | hq | hq
        · exact .inl (.inl hq)
        · exact .inl (.inr (.inl hq))
        · exact .inl (.inr (.inr (.inl hq)))
        · exact .inr ((unhide XR).lt q hq).1
        · exact .inl (.inr (.inr (.inr (.inr hq))))
      have hk2 : pendOk { s with pend := keepP s.pend kl } := fun q hq => unhide HK q (keepP_mem _ _ _ hq)
      have hz2 := keepP_len s.pend kl
      obtain ⟨pp, cc, evl, _⟩ := row_form (unhide XR)
      subst evl
      have X1 := hide D1
      have XO := hide hO1
      have XF := hide hF1
      have XK := hide hk2
      clear D1 hO1 hF1 hk2 XD XR XB H HK HB hkk hk hsz
      go_wp2_with fail
      refine (settle_any _ base b _ _ (unhide X1) (unhide XK) (by show (keepP s.pend kl).length ≤ _; omega) (by exact hl)).mono ?_
      rintro ev x2 ⟨rfl, v2, hD2, hO2, hF2⟩
      have hll : (layP s.last (keepP s.pend kl)).length = s.last.length := layP_len _ _
      obtain ⟨gn, capn, evn, _⟩ := hD2.rn.form (by show 0 < s.now.length; omega)
      obtain ⟨gl, capl, evl, _⟩ := hD2.rl.form (by show 0 < (layP s.last (keepP s.pend kl)).length; omega)
      have hgn : v2.n.ownBlock = some gn := by rw [evn]; rfl
      have hgl : v2.l.ownBlock = some gl := by rw [evl]; rfl
      have d1 : x2.cell? ⟨b, 1, none⟩ = some (.slice (some ⟨gn, 0, none⟩) s.now.length capn) := by rw [hD2.blk.cell 1, ← evn]; rfl
      have d0 : x2.cell? ⟨b, 0, none⟩ = some (.slice (some ⟨gl, 0, none⟩) (layP s.last (keepP s.pend kl)).length capl) := by rw [hD2.blk.cell 0, ← evl]; rfl
      obtain ⟨cur, hcur, hcz⟩ : ∃ cur, x2.heap[gn]? = some (.cells cur 9 (0, 0)) ∧ s.now.length ≤ cur.size := by
        rcases hD2.rn.2 with ⟨h1, h2⟩ | ⟨g', cap', cur', e, _, hh, hn, _, hs, _⟩
        · rw [h1] at hgn; cases hgn
        · obtain rfl : g' = gn := by rw [e] at hgn; simpa [Value.ownBlock] using hgn
          exact ⟨cur', hh, by have hn : s.now.length ≤ cap' := hn; omega⟩
      have HL := hide (show ∀ j u, (strs (layP s.last (keepP s.pend kl)))[j]? = some u → x2.cell? (Addr.add ⟨gl, 0, none⟩ j) = some u from fun j u hu => by
        have hjl : j < (layP s.last (keepP s.pend kl)).length := by
          have := (List.getElem?_eq_some_iff.1 hu).1
          rwa [strs_len] at this
        rw [Addr.add_mid, Nat.zero_add, (own_at hD2.rl hgl j hjl).1]
        exact hu)
      have HC := hide (hD2.copyNow gn hgn cur hcur (by show s.now.length = (layP s.last (keepP s.pend kl)).length; omega))
      have HCU := hide hcur
      have XO2 := hide hO2
      have XF2 := hide hF2
      have HLL := hide hll
      clear hD2 hO2 hF2 evn evl hgn hgl hcur X1 XK hll
      generalize hLe : layP s.last (keepP s.pend kl) = L at *
      have HLE := hide hLe
      clear hLe
      go_wp2_with fail
      go_still_tail 8, (by kernel_rfl)
      change wpList _ _ _ _ _ x2.drew
      refine wpList_copy_own rfl (.tmp 35) (.tmp 39) 37 37 rfl 9 Tryz.underlying37 (by kernel_rfl) gn 0 s.last.length capn ⟨gl, 0, none⟩ L.length capl rfl rfl cur 9 (unhide HCU) (strs L) (by rw [strs_len]; have := unhide HLL; simp only [Nat.min_def]; split <;> omega) (unhide HL) (by rw [strs_len]; have := unhide HLL; omega) (by simp [strs, Value.oneCell']) ?_
      have HC2 := hide (show Dk _ base b v2 _ ∧ Only (Fd b v2) x2 _ from unhide HC)
      clear HC
      generalize hcw : (cur.toList.take 0 ++ (strs L ++ cur.toList.drop (0 + (strs L).length))).toArray = cw at *
      clear hcw HL HCU
      go_wp2
      go_end0
      obtain ⟨g1, g2⟩ := unhide HC2
      obtain rfl := unhide HLE
      have g3 : Only (Fd b v2) x2 (x2.drew.setRow gn cw) := g2.drew
      have g4 : Dk (x2.drew.setRow gn cw) base b v2 _ := g1.drew
      exact ⟨rfl, DPost.trans (unhide XO) (unhide XF) (DPost.trans (unhide XO2) (unhide XF2) ⟨v2, g4, g3, fun _ q => .inl q⟩)⟩
end Go.Proofs.YtnkaooafenakdaaGreatDoor
