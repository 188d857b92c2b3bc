import Derived.Test.YthnlggbnielgdaaDoorPlk
import Derived.Test.YthnlggbnielgdaaDoorPls
namespace Go.Proofs.YthnlggbnielgdaaDoor
open Go.RowKit Go.Conc
set_option maxRecDepth 100000
theorem own_base {w : World} {base base' : Nat} {e : TypeId} {k n : Nat} {v : Value} {xs : List Value} (h : w.ownsRow base e k v n xs) (hb : base' ≤ base) : w.ownsRow base' e k v n xs :=
  ⟨h.1, h.2.imp id (fun ⟨g, cap, cur, e, h1, r⟩ => ⟨g, cap, cur, e, Nat.le_trans hb h1, r⟩)⟩
/-- What the list's owner writes over it. -/
def rl (c : Int) (k : Nat) : Int := ((pickP (wrap64 (c + (k : Int))) 256 : Nat) : Int)
def rL (c : Int) (n : Nat) : List Int := (List.range n).map (rl c)
theorem rL_len (c : Int) (n : Nat) : (rL c n).length = n := by simp [rL]
theorem rL_succ (c : Int) (n : Nat) : rL c (n + 1) = rL c n ++ [rl c n] := by simp [rL, List.range_succ]
theorem rL_at (c : Int) (n j : Nat) (h : j < n) : (rL c n).getD j 0 = rl c j := by simp [rL, h]
set_option maxHeartbeats 4000000 in
theorem samples13 (s : ByteArray) (l : List Int) (ad : Addr) (cap : Nat) (c : Int) (w : World) (hK : KTab w) (hl : Ils w (some ad) l) (hll : l.length ≤ 17592186043904) :
    Calls Tryd.prog 6 #[.string s, .slice (some ad) l.length cap, .int .i64 c] w fun e w' => e = .returned (.bool true) ∧ Below w.heap.size w w' := by
  obtain ⟨N, hn⟩ : ∃ N, w.heap.size = N := ⟨_, rfl⟩
  have HKN := hide (known13_any w hK)
  rw [hn] at HKN
  have HLW := hide (show ∀ z, Below N w z → Ils z (some ad) l from fun z hz => hl.below (by rw [hn]; exact hz))
  have HBN := hide (show 0 < l.length → ad.block < N from fun h => by
    obtain ⟨g, o, e, hg, _⟩ := hl 0 h
    cases e
    rw [← hn]
    exact hg)
  clear hK hl
  rw [hn]
  go_enter Tryd.func6, Tryd.ntmps6
  go_wp2_with fail
  refine (unhide HKN).mono ?_
  rintro e z1 ⟨rfl, hb1⟩
  have HL1 := hide hb1
  have HC1 := hide (rsampled_any s l (some ad) cap (unhide HLW z1 hb1) (by omega))
  clear hb1 HKN
  go_wp2_with fail
  refine (unhide HC1).mono ?_
  rintro e z2 ⟨rfl, hb⟩
  have hL2 := (unhide HL1).trans (hb.mono (by have := (unhide HL1).size; omega))
  have HL2 := hide hL2
  have HC2 := hide (lent_any z2 l ad cap (unhide HLW z2 hL2) hll)
  clear hb hL2 HL1 HC1
  go_wp2_with fail
  refine (unhide HC2).mono ?_
  rintro e z3 ⟨g, cap2, rfl, hcap, hrow, hb⟩
  have hN2 : N ≤ z2.heap.size := by have h9 := (unhide HL2).size; rw [hn] at h9; exact h9
  have hL3 := (unhide HL2).trans (hb.mono hN2)
  have hgN : N ≤ g := by have := (hrow.lt g rfl).1; omega
  have hrow3 := own_base hrow hN2
  have hI3 : Ils z3 (some ⟨g, 0, none⟩) l := fun j hj => by
    refine ⟨g, 0, rfl, (hrow.lt g rfl).2, ?_⟩
    rw [Nat.zero_add, (own_at hrow rfl j (by omega)).1, ints, List.getElem?_map, List.getElem?_eq_getElem (by simp [lentL]; omega)]
    have := lentL_lt l j hj
    rw [List.getD_eq_getElem?_getD, List.getElem?_eq_getElem (by simp [lentL]; omega)] at this
    simp only [Option.map_some]
    rw [← this]
    rfl
  have HC3 := hide (sampleB_any s l (some ⟨g, 0, none⟩) cap2 hI3 (by omega))
  have HL3 := hide hL3
  have HR3 := hide hrow3
  have HGN := hide hgN
  clear hb hN2 hL3 hgN hrow3 hI3 hrow HL2 HC2
  go_wp2_with fail
  refine (unhide HC3).mono ?_
  rintro e z4 ⟨rfl, hb⟩
  have hN3 : N ≤ z3.heap.size := by have h9 := (unhide HL3).size; rw [hn] at h9; exact h9
  have hL4 := (unhide HL3).trans (hb.mono hN3)
  have hR4 := own_only (unhide HR3) (Only.of_below (P := fun _ => False) hb) (fun _ _ q => q)
  have HC4 := hide (asLent_any z4 N g cap2 l (some ad) cap (unhide HLW z4 hL4) hll (fun e => by cases e) hcap (fun h o e => by
    have h8 := unhide HBN h
    cases e
    have h9 : g < N := h8
    have := unhide HGN
    omega) hR4)
  have HL4 := hide hL4
  clear hb hN3 hL4 hR4 HL3 HR3 HC3
  go_wp2_with fail
  refine (unhide HC4).mono ?_
  rintro e z5 ⟨rfl, hO5, ys0, hR5⟩
  have HL5 := hide (show Below N w z5 from (unhide HL4).trans (hO5.below (by have h9 := (unhide HL4).size; rw [hn] at h9; exact h9) (fun k hk => by have := unhide HGN; omega)))
  have HR5 := hide hR5
  clear hO5 hR5 HL4 HC4
  go_wp2
  go_loopw [14, 15] (fun v i wr => ∃ k : Nat, k ≤ l.length ∧ i = .int .i64 (k : Int) ∧ (∃ ys, wr.ownsRow N 3 1 (.slice (some ⟨g, 0, none⟩) (l.length + 8) cap2) (l.length + 8) ys ∧ ∀ j, j < k → ys[j]? = some (.int .i64 (rl c j))) ∧ wr.ownsRow N 3 1 v (rL c k).length ((rL c k).map (Value.int .i64)) ∧ v.ownBlock ≠ some g ∧ Below N w wr) (fun _ i _ => l.length - (intOf i).toNat)
  case atStart => exact ⟨0, by omega, rfl, ⟨ys0, unhide HR5, fun j hj => by omega⟩, World.ownsRow_nil _ _ _ _, by simp [Value.ownBlock], unhide HL5⟩
  case round =>
    obtain ⟨k, hk, rfl, ⟨ys, hR, hys⟩, hV, hvg, hlo⟩ := hrel
    by_cases hlt : k < l.length
    · have i1 : (k : Int) < (l.length : Int) := by omega
      have i2 : 0 ≤ (k : Int) := by omega
      have hp := fun W => pick13_any (wrap64 (c + (k : Int))) 256 (by omega) (i64_wrap _) W
      simp only [Int.cast_ofNat_Int] at hp
      have HP := hide hp
      have hrk : rl c k = ((pickP (wrap64 (c + (k : Int))) 256 : Nat) : Int) := rfl
      obtain ⟨x, hx⟩ : ∃ x, ((pickP (wrap64 (c + (k : Int))) 256 : Nat) : Int) = x := ⟨_, rfl⟩
      simp only [hx] at HP
      have HX := hide (show rl c k = x from hrk.trans hx)
      obtain ⟨i0, hi, hz0, hz1, hz2⟩ := info_parts info3
      have HI := hide (And.intro hi (And.intro hz0 (And.intro hz1 hz2)))
      have c0 : ∃ v, wr.cell? ⟨g, k, none⟩ = some v := by
        rw [(own_at hR rfl k (by omega)).1]
        have hyl : ys.length = (l.length + 8) * 1 := hR.1
        exact ⟨_, List.getElem?_eq_getElem (by omega)⟩
      obtain ⟨v0, c0⟩ := c0
      have f0 := (own_at hR rfl k (by omega)).2
      have hR2 := owns_set hR rfl k (.int .i64 x)
      have ho2 : Only (fun q => q = g) wr (wr.setCell ⟨g, k, none⟩ (.int .i64 x)) := (Only.refl _ _).setCell _ _ (fun _ => rfl)
      have hV2 := own_only hV ho2 (fun q hq e => hvg (by rw [hq, e]))
      have hL2 := hlo.setCell (p := ⟨g, k, none⟩) (unhide HGN) (.int .i64 x)
      have cg : (wr.setCell ⟨g, k, none⟩ (.int .i64 x)).cell? ⟨g, k, none⟩ = some (.int .i64 x) := by
        have hyl : ys.length = (l.length + 8) * 1 := hR.1
        rw [(own_at hR2 rfl k (by omega)).1, List.getElem?_set_self (by omega)]
      have hys2 : ∀ j, j < k + 1 → (ys.set k (.int .i64 x))[j]? = some (.int .i64 (rl c j)) := fun j hj => by
        have hyl : ys.length = (l.length + 8) * 1 := hR.1
        by_cases e : j = k
        · subst e; rw [List.getElem?_set_self (by omega), unhide HX]
        · rw [List.getElem?_set_ne (by omega)]; exact hys j (by omega)
      have HS := hide (And.intro hR2 (And.intro hV2 (And.intro hL2 hys2)))
      have hgs : g < wr.heap.size := (hR.lt g rfl).2
      have HGS := hide hgs
      have HVG := hide hvg
      clear hp hrk hx hi hz0 hz1 hz2 hR hV hlo hR2 hV2 hL2 hys hys2 ho2 hvg hgs HR5 HL5
      go_wp2_with fail
      refine (unhide HP _).mono ?_
      rintro e y1 ⟨rfl, rfl⟩
      simp only []
      rename_i K8 a8 K9 a9
      have A8 := hide a8
      clear a8
      go_step
      go_wp2
      refine unhide A8 _ _ ?_
      clear A8 K8 c0 f0
      generalize y1.setCell ⟨g, k, none⟩ (.int .i64 x) = y2 at *
      have HRA := hide ((unhide HS).2.1.alloc (.cells #[.int .i64 x] 3))
      have hNy : N ≤ y2.heap.size := by have h9 := (unhide HS).2.2.1.size; rw [hn] at h9; exact h9
      have HLE := hide (show N ≤ (y2.alloc (.cells #[.int .i64 x] 3)).heap.size from by rw [World.size_alloc]; omega)
      have HLA := hide ((unhide HS).2.2.1.alloc hNy (.cells #[.int .i64 x] 3))
      have HRB := hide ((unhide HS).1.alloc (.cells #[.int .i64 x] 3))
      clear hNy
      go_wp2_with (refine wpList_append_lies _ rfl (.tmp 51) (.tmp 56) 26 rfl N 3 i0 (.int .i64 0) 1 8 Tryd.underlying26 (unhide HI).1 (unhide HI).2.1 (unhide HI).2.2.1 (unhide HI).2.2.2 rfl (by decide) _ (rL c k).length ((rL c k).map (Value.int .i64)) rfl (unhide HRA) ⟨y2.heap.size, 0, none⟩ 1 1 [.int .i64 x] rfl rfl (fun q u hu => news_one y2 3 _ q u hu) (by simp [Value.oneCell']) (by omega) (by rw [rL_len]; unfold maxLen; omega) (by rw [rL_len]; omega) (unhide HLE) _ rfl ?_)
      intro g1 cap1 y3 ho3 hg3 hor hlt3
      have HN1 := hide (show (Value.slice (some ⟨g1, 0, none⟩) ((rL c k).length + 1) cap1).ownBlock ≠ some g from fun e => by
        have e1 : g1 = g := by simpa [Value.ownBlock] using e
        rcases hor with hor | hor
        · exact unhide HVG (by rw [hor, e1])
        · have h9 := ((unhide HRB).lt g rfl).2
          rw [World.size_alloc] at h9
          omega)
      have HR3 := hide (own_only (unhide HRB) (grown_only hg3) (fun q hq e => by
        have e1 : g = q := by simpa [Value.ownBlock] using hq
        exact unhide HVG (by rw [e, e1])))
      have HL3 := hide ((unhide HLA).grown hg3 (unhide HLE) (fun q hq => ((unhide HRA).lt q hq).1))
      have HV3 := hide ho3
      clear ho3 hg3 hor hlt3 cg HRA HLE HLA HRB
      go_wp2
      go_roundw
      case rel =>
        refine ⟨k + 1, by omega, by go_num, ⟨_, unhide HR3, (unhide HS).2.2.2⟩, ?_, unhide HN1, unhide HL3⟩
        rw [rL_succ, unhide HX, List.length_append, List.length_singleton, List.map_append]
        exact unhide HV3
      case measure => simp [intOf]; omega
    · have hk' : k = l.length := by omega
      subst hk'
      have i1 : ¬ ((l.length : Int) < (l.length : Int)) := by omega
      have hIr : Ils wr (some ⟨g, 0, none⟩) (rL c l.length) := fun j hj => by
        rw [rL_len] at hj
        refine ⟨g, 0, rfl, (hR.lt g rfl).2, ?_⟩
        rw [Nat.zero_add, (own_at hR rfl j (by omega)).1, hys j hj, rL_at _ _ _ hj]
      obtain ⟨ao, cp, hv, hIn, _⟩ := own_ils hV
      subst hv
      have HS1 := hide (sampleB_any s (rL c l.length) (some ⟨g, 0, none⟩) cap2 hIr (by rw [rL_len]; omega))
      rw [rL_len] at HS1
      have HS2 := hide (fun (z : World) (hz : Below wr.heap.size wr z) => rsampled_any s (rL c l.length) ao cp (hIn.below hz) (by rw [rL_len]; omega))
      have HLO := hide hlo
      have hse1 : ((smS s l).toList == (smS s l).toList) = true := by simp
      have hse2 : ((smS s (rL c l.length)).toList == (smS s (rL c l.length)).toList) = true := by simp
      clear hR hys hV hvg hlo hIr hIn hlt HR5 HL5
      go_wp2_with fail
      refine (unhide HS1).mono ?_
      rintro e y1 ⟨rfl, hb1⟩
      have HB1 := hide hb1
      clear hb1 HS1
      go_wp2_with fail
      refine (unhide HS2 _ (unhide HB1)).mono ?_
      rintro e y2 ⟨rfl, hb2⟩
      have HB2 := hide ((unhide HLO).trans (((unhide HB1).trans (hb2.mono (unhide HB1).size)).mono (by have h9 := (unhide HLO).size; rw [hn] at h9; exact h9)))
      clear hb2 HB1 HS2 HLO
      generalize smS s (rL c l.length) = t2 at *
      generalize smE s (rL c l.length) = e2 at *
      generalize smS s l = t1 at *
      generalize smE s l = e1 at *
      go_wp2
      go_ret
      exact ⟨rfl, unhide HB2⟩
set_option maxHeartbeats 1000000 in
theorem samples13_nil (s : ByteArray) (c : Int) (w : World) (hK : KTab w) :
    Calls Tryd.prog 6 #[.string s, .slice none 0 0, .int .i64 c] w fun e w' => e = .returned (.bool true) ∧ Below w.heap.size w w' := by
  obtain ⟨N, hn⟩ : ∃ N, w.heap.size = N := ⟨_, rfl⟩
  have HKN := hide (known13_any w hK)
  rw [hn] at HKN
  have HRS := hide (fun z : World => rsampled_any (w := z) s [] none 0 (fun j hj => absurd hj (by simp)) (by simp))
  have HSS := hide (fun z : World => sampleB_any (w := z) s [] none 0 (fun j hj => absurd hj (by simp)) (by simp))
  simp only [List.length_nil] at HRS HSS
  have hse : ((smS s []).toList == (smS s []).toList) = true := by simp
  generalize smS s [] = t1 at *
  generalize smE s [] = e1 at *
  clear hK
  rw [hn]
  go_enter Tryd.func6, Tryd.ntmps6
  go_wp2_with fail
  refine (unhide HKN).mono ?_
  rintro e z1 ⟨rfl, hb1⟩
  have HL1 := hide hb1
  clear hb1 HKN
  go_wp2_with fail
  refine (unhide HRS _).mono ?_
  rintro e z2 ⟨rfl, hb⟩
  have HL2 := hide ((unhide HL1).trans (hb.mono (by have := (unhide HL1).size; omega)))
  clear hb HL1
  go_wp2_with fail
  refine (lent_nil _).mono ?_
  rintro e z3 ⟨rfl, rfl⟩
  go_wp2_with fail
  refine (unhide HSS _).mono ?_
  rintro e z4 ⟨rfl, hb⟩
  have HL4 := hide ((unhide HL2).trans (hb.mono (by have := (unhide HL2).size; omega)))
  clear hb HL2
  go_wp2_with fail
  refine (asLent_nil _ _).mono ?_
  rintro e z5 ⟨rfl, rfl⟩
  go_wp2
  go_loopw [14, 15] (fun v i wr => wr = z5 ∧ v = .slice none 0 0 ∧ i = .int .i64 0) (fun _ _ _ => 0)
  case atStart => exact ⟨rfl, rfl, rfl⟩
  case round =>
    obtain ⟨rfl, rfl, rfl⟩ := hrel
    go_wp2_with fail
    refine (unhide HSS _).mono ?_
    rintro e z6 ⟨rfl, hb⟩
    have HL6 := hide ((unhide HL4).trans (hb.mono (by have := (unhide HL4).size; omega)))
    clear hb HL4
    go_wp2_with fail
    refine (unhide HRS _).mono ?_
    rintro e z7 ⟨rfl, hb⟩
    have HL7 := hide ((unhide HL6).trans (hb.mono (by have := (unhide HL6).size; omega)))
    clear hb HL6
    go_wp2
    go_ret
    exact ⟨rfl, unhide HL7⟩
end Go.Proofs.YthnlggbnielgdaaDoor
