import Derived.Test.YtabgcgdpeikieaaDoorMpb
import Derived.Test.YtabgcgdpeikieaaDoorPlh
import Derived.ArgAppend
import Derived.Laws.OwnMore
import Derived.Test.YtabgcgdpeikieaaDoorPlc
namespace Go.Proofs.YtabgcgdpeikieaaDoor
open Go.RowKit Go.Conc
set_option maxRecDepth 100000
theorem info26 : (Tryd.prog.info? 26).map (fun i => (i.zero, i.size, i.bytes)) = some (some (.slice none 0 0), 1, 24) := by kernel_rfl
/-- The law's book: its three rows of lists. -/
structure Bb (z : World) (N b : Nat) (vl vf vw : Value) (nl nf nw : Nat) (Ll Lf Lw : List Value) : Prop where
  blk : Blk z b #[vl, vf, vw] 56
  rl : z.ownsRow N 26 1 vl nl Ll
  rf : z.ownsRow N 26 1 vf nf Lf
  rw : z.ownsRow N 26 1 vw nw Lw
  fw : ∀ q, vf.ownBlock = some q → vw.ownBlock ≠ some q
  fl : ∀ q, vf.ownBlock = some q → vl.ownBlock ≠ some q
  wl : ∀ q, vw.ownBlock = some q → vl.ownBlock ≠ some q
  hN : N ≤ z.heap.size
theorem Bb.nb {z : World} {N b : Nat} {vl vf vw : Value} {nl nf nw : Nat} {Ll Lf Lw : List Value} (h : Bb z N b vl vf vw nl nf nw Ll Lf Lw) : vl.ownBlock ≠ some b ∧ vf.ownBlock ≠ some b ∧ vw.ownBlock ≠ some b := by
  refine ⟨fun e => ?_, fun e => ?_, fun e => ?_⟩
  · obtain ⟨cur, hc⟩ := own_blk h.rl e
    exact absurd (blk_ty hc h.blk) (by decide)
  · obtain ⟨cur, hc⟩ := own_blk h.rf e
    exact absurd (blk_ty hc h.blk) (by decide)
  · obtain ⟨cur, hc⟩ := own_blk h.rw e
    exact absurd (blk_ty hc h.blk) (by decide)
theorem Bb.only {z z' : World} {N b : Nat} {vl vf vw : Value} {nl nf nw : Nat} {Ll Lf Lw : List Value} {P : Nat → Prop} (h : Bb z N b vl vf vw nl nf nw Ll Lf Lw) (ho : Only P z z') (hb : ¬ P b) (h1 : ∀ q, vl.ownBlock = some q → ¬ P q) (h2 : ∀ q, vf.ownBlock = some q → ¬ P q) (h3 : ∀ q, vw.ownBlock = some q → ¬ P q) : Bb z' N b vl vf vw nl nf nw Ll Lf Lw :=
  ⟨h.blk.only ho hb, own_only h.rl ho h1, own_only h.rf ho h2, own_only h.rw ho h3, h.fw, h.fl, h.wl, Nat.le_trans h.hN ho.size⟩
theorem Bb.low {z z' : World} {N b : Nat} {vl vf vw : Value} {nl nf nw : Nat} {Ll Lf Lw : List Value} (h : Bb z N b vl vf vw nl nf nw Ll Lf Lw) (hb : Below z.heap.size z z') : Bb z' N b vl vf vw nl nf nw Ll Lf Lw :=
  h.only (P := fun _ => False) (Only.of_below hb) (fun q => q) (fun _ _ q => q) (fun _ _ q => q) (fun _ _ q => q)
theorem nw_ne {z : World} {N : Nat} {v u : Value} {T : TypeId} {n gg nn cc : Nat} {L : List Value} (hu : z.ownsRow N T 1 u n L) (hor : v.ownBlock = some gg ∨ gg = z.heap.size) (hd : ∀ q, v.ownBlock = some q → u.ownBlock ≠ some q) : ∀ q, (Value.slice (some ⟨gg, 0, none⟩) nn cc).ownBlock = some q → u.ownBlock ≠ some q := fun q hq e => by
  have e9 : gg = q := by simpa [Value.ownBlock] using hq
  subst e9
  rcases hor with hor | hor
  · exact hd gg hor e
  · have := (hu.lt gg e).2
    omega
theorem Bb.putF {z y : World} {N b : Nat} {vl vf vw : Value} {nl nf nw : Nat} {Ll Lf Lw : List Value} (h : Bb z N b vl vf vw nl nf nw Ll Lf Lw) {gg cc nn : Nat} {LL : List Value} (ho : y.ownsRow N 26 1 (.slice (some ⟨gg, 0, none⟩) nn cc) nn LL) (hg : z.grownBy y vf.ownBlock) (hor : vf.ownBlock = some gg ∨ gg = z.heap.size) :
    Blk y b #[vl, vf, vw] 56 ∧ Bb (y.setCell ⟨b, 1, none⟩ (.slice (some ⟨gg, 0, none⟩) nn cc)) N b vl (.slice (some ⟨gg, 0, none⟩) nn cc) vw nl nn nw Ll LL Lw ∧ Only (fun q => q = b ∨ vf.ownBlock = some q) z (y.setCell ⟨b, 1, none⟩ (.slice (some ⟨gg, 0, none⟩) nn cc)) := by
  have hOn := grown_only hg
  obtain ⟨nl, nf, nw⟩ := h.nb
  have hb2 : Blk y b #[vl, vf, vw] 56 := h.blk.only hOn nf
  have ho3 : Only (fun q => q = b) y (y.setCell ⟨b, 1, none⟩ (.slice (some ⟨gg, 0, none⟩) nn cc)) := (Only.refl _ _).setCell _ _ (fun _ => rfl)
  have hgb : gg ≠ b := fun e => by
    obtain ⟨cur, hc⟩ := own_blk ho (k := gg) rfl
    rw [e] at hc
    exact absurd (blk_ty hc hb2) (by decide)
  have hr := own_only ho ho3 (fun q hq e => by
    have e9 : gg = q := by simpa [Value.ownBlock] using hq
    exact hgb (e9.trans e))
  refine ⟨hb2, ⟨hb2.set 1 _, (own_only (own_only h.rl hOn (fun q hq e => h.fl q e hq)) ho3 (fun q hq e => nl (by rw [hq, e]))), hr, (own_only (own_only h.rw hOn (fun q hq e => h.fw q e hq)) ho3 (fun q hq e => nw (by rw [hq, e]))), (nw_ne h.rw hor h.fw), (nw_ne h.rl hor h.fl), h.wl, ?_⟩, (hOn.mono (fun _ _ e => .inr e)).trans ho3 (fun _ _ e => .inl e)⟩
  have h1 := hOn.size
  have h2 := ho3.size
  have h3 := h.hN
  omega
theorem Bb.putW {z y : World} {N b : Nat} {vl vf vw : Value} {nl nf nw : Nat} {Ll Lf Lw : List Value} (h : Bb z N b vl vf vw nl nf nw Ll Lf Lw) {gg cc nn : Nat} {LL : List Value} (ho : y.ownsRow N 26 1 (.slice (some ⟨gg, 0, none⟩) nn cc) nn LL) (hg : z.grownBy y vw.ownBlock) (hor : vw.ownBlock = some gg ∨ gg = z.heap.size) :
    Blk y b #[vl, vf, vw] 56 ∧ Bb (y.setCell ⟨b, 2, none⟩ (.slice (some ⟨gg, 0, none⟩) nn cc)) N b vl vf (.slice (some ⟨gg, 0, none⟩) nn cc) nl nf nn Ll Lf LL ∧ Only (fun q => q = b ∨ vw.ownBlock = some q) z (y.setCell ⟨b, 2, none⟩ (.slice (some ⟨gg, 0, none⟩) nn cc)) := by
  have hOn := grown_only hg
  obtain ⟨nl, nf, nw⟩ := h.nb
  have hb2 : Blk y b #[vl, vf, vw] 56 := h.blk.only hOn nw
  have ho3 : Only (fun q => q = b) y (y.setCell ⟨b, 2, none⟩ (.slice (some ⟨gg, 0, none⟩) nn cc)) := (Only.refl _ _).setCell _ _ (fun _ => rfl)
  have hgb : gg ≠ b := fun e => by
    obtain ⟨cur, hc⟩ := own_blk ho (k := gg) rfl
    rw [e] at hc
    exact absurd (blk_ty hc hb2) (by decide)
  have hr := own_only ho ho3 (fun q hq e => by
    have e9 : gg = q := by simpa [Value.ownBlock] using hq
    exact hgb (e9.trans e))
  refine ⟨hb2, ⟨hb2.set 2 _, (own_only (own_only h.rl hOn (fun q hq e => h.wl q e hq)) ho3 (fun q hq e => nl (by rw [hq, e]))), (own_only (own_only h.rf hOn (fun q hq e => (fun q hq e => h.fw q e hq) q e hq)) ho3 (fun q hq e => nf (by rw [hq, e]))), hr, (fun q hq e => (nw_ne h.rf hor (fun q hq e => h.fw q e hq)) q e hq), h.fl, (nw_ne h.rl hor h.wl), ?_⟩, (hOn.mono (fun _ _ e => .inr e)).trans ho3 (fun _ _ e => .inl e)⟩
  have h1 := hOn.size
  have h2 := ho3.size
  have h3 := h.hN
  omega
theorem Bb.putL {z y : World} {N b : Nat} {vl vf vw : Value} {nl nf nw : Nat} {Ll Lf Lw : List Value} (h : Bb z N b vl vf vw nl nf nw Ll Lf Lw) {gg cc nn : Nat} {LL : List Value} (ho : y.ownsRow N 26 1 (.slice (some ⟨gg, 0, none⟩) nn cc) nn LL) (hg : z.grownBy y vl.ownBlock) (hor : vl.ownBlock = some gg ∨ gg = z.heap.size) :
    Blk y b #[vl, vf, vw] 56 ∧ Bb (y.setCell ⟨b, 0, none⟩ (.slice (some ⟨gg, 0, none⟩) nn cc)) N b (.slice (some ⟨gg, 0, none⟩) nn cc) vf vw nn nf nw LL Lf Lw ∧ Only (fun q => q = b ∨ vl.ownBlock = some q) z (y.setCell ⟨b, 0, none⟩ (.slice (some ⟨gg, 0, none⟩) nn cc)) := by
  have hOn := grown_only hg
  obtain ⟨nl, nf, nw⟩ := h.nb
  have hb2 : Blk y b #[vl, vf, vw] 56 := h.blk.only hOn nl
  have ho3 : Only (fun q => q = b) y (y.setCell ⟨b, 0, none⟩ (.slice (some ⟨gg, 0, none⟩) nn cc)) := (Only.refl _ _).setCell _ _ (fun _ => rfl)
  have hgb : gg ≠ b := fun e => by
    obtain ⟨cur, hc⟩ := own_blk ho (k := gg) rfl
    rw [e] at hc
    exact absurd (blk_ty hc hb2) (by decide)
  have hr := own_only ho ho3 (fun q hq e => by
    have e9 : gg = q := by simpa [Value.ownBlock] using hq
    exact hgb (e9.trans e))
  refine ⟨hb2, ⟨hb2.set 0 _, hr, (own_only (own_only h.rf hOn (fun q hq e => (fun q hq e => h.fl q e hq) q e hq)) ho3 (fun q hq e => nf (by rw [hq, e]))), (own_only (own_only h.rw hOn (fun q hq e => (fun q hq e => h.wl q e hq) q e hq)) ho3 (fun q hq e => nw (by rw [hq, e]))), h.fw, (fun q hq e => (nw_ne h.rf hor (fun q hq e => h.fl q e hq)) q e hq), (fun q hq e => (nw_ne h.rw hor (fun q hq e => h.wl q e hq)) q e hq), ?_⟩, (hOn.mono (fun _ _ e => .inr e)).trans ho3 (fun _ _ e => .inl e)⟩
  have h1 := hOn.size
  have h2 := ho3.size
  have h3 := h.hN
  omega
theorem ils_news {w : World} {g o : Nat} {L : List Int} (h : Ils w (some ⟨g, o, none⟩) L) (j : Nat) (u : Value) (hu : (L.map (Value.int .i64))[j]? = some u) : w.cell? (Addr.add ⟨g, o, none⟩ j) = some u := by
  rw [List.getElem?_map] at hu
  have hj : j < L.length := by
    rcases Nat.lt_or_ge j L.length with h9 | h9
    · exact h9
    · rw [List.getElem?_eq_none h9] at hu
      cases hu
  obtain ⟨g', o', e, _, hc⟩ := h j hj
  cases e
  rw [List.getElem?_eq_getElem hj] at hu
  rw [List.getD_eq_getElem?_getD, List.getElem?_eq_getElem hj] at hc
  rw [Addr.add_mid, hc, ← hu]
  rfl
theorem old_or {v : Value} {w : World} {g H : Nat} (h : v.ownBlock = some g ∨ g = H) (hw : w.heap.size ≤ H) : v.ownBlock = some g ∨ w.heap.size ≤ g := by
  rcases h with h | h
  · exact .inl h
  · exact .inr (by omega)
set_option maxHeartbeats 2000000 in
theorem keep13 {z : World} {N b : Nat} {vl vf vw : Value} {nl nf nw : Nat} {Ll Lf Lw : List Value} (h : Bb z N b vl vf vw nl nf nw Ll Lf Lw) (hf : nf ≤ 1000000) (hw : nw ≤ 1000000) (g o m c : Nat) (L : List Int) (hI : Ils z (some ⟨g, o, none⟩) L) (hm : L.length = m) (h0 : 0 < m) (hm9 : m ≤ 1000000) (hgf : vf.ownBlock ≠ some g) (hgb : g ≠ b) :
    Calls Tryd.prog 26 #[.pointer (some ⟨b, 0, none⟩), .slice (some ⟨g, o, none⟩) m c] z fun e z' => e = .returned (.tuple #[]) ∧ ∃ gf cf gw cw gc cc, Bb z' N b vl (.slice (some ⟨gf, 0, none⟩) (nf + 1) cf) (.slice (some ⟨gw, 0, none⟩) (nw + 1) cw) nl (nf + 1) (nw + 1) Ll (Lf ++ [.slice (some ⟨g, o, none⟩) m c]) (Lw ++ [.slice (some ⟨gc, 0, none⟩) m cc]) ∧
      z'.ownsRow N 3 1 (.slice (some ⟨gc, 0, none⟩) m cc) m (L.map (Value.int .i64)) ∧ z.heap.size ≤ gc ∧ (vf.ownBlock = some gf ∨ z.heap.size ≤ gf) ∧ (vw.ownBlock = some gw ∨ z.heap.size ≤ gw) ∧ Only (fun q => q = b ∨ vf.ownBlock = some q ∨ vw.ownBlock = some q) z z' := by
  obtain ⟨j0, hj, hz0, hz1, hz2⟩ := info_parts info26
  have HJ := hide (And.intro hj (And.intro hz0 (And.intro hz1 hz2)))
  obtain ⟨i0, hi, hx0, hx1, hx2⟩ := info_parts info3
  have HIN := hide (And.intro hi (And.intro hx0 (And.intro hx1 hx2)))
  clear hj hz0 hz1 hz2 hi hx0 hx1 hx2
  have c1 : z.cell? ⟨b, 1, none⟩ = some vf := h.blk.cell 1
  have hA : Below z.heap.size z (z.alloc (.cells #[.slice (some ⟨g, o, none⟩) m c] 26)) := (Below.refl _ _).alloc (Nat.le_refl _) _
  have HBA := hide (h.low hA)
  have HLE := hide (show N ≤ (z.alloc (.cells #[.slice (some ⟨g, o, none⟩) m c] 26)).heap.size from by rw [World.size_alloc]; have := h.hN; omega)
  have HH := hide h
  have HI := hide hI
  have HM := hide hm
  have HNA := hide hA
  have HGB := hide (And.intro hgf hgb)
  obtain ⟨z0, hz0⟩ : ∃ z0, z0 = z := ⟨_, rfl⟩
  clear h hI hm hA hgf hgb
  go_enter Tryd.func26, Tryd.ntmps26
  refine wp_seq_k (fun K1 hK1 => ?_)
  have HK1 := hide hK1
  clear hK1
  go_wp2_with (refine wpList_append_lies _ rfl (.tmp 8) (.tmp 10) 54 rfl N 26 j0 (.slice none 0 0) 1 24 Tryd.underlying54 (unhide HJ).1 (unhide HJ).2.1 (unhide HJ).2.2.1 (unhide HJ).2.2.2 rfl (by decide) _ nf Lf rfl (unhide HBA).rf ⟨z.heap.size, 0, none⟩ 1 1 [.slice (some ⟨g, o, none⟩) m c] rfl rfl (fun q u hu => news_one z 26 _ q u hu) (by simp [Value.oneCell']) (by omega) (by unfold maxLen; omega) (by omega) (unhide HLE) _ rfl ?_)
  intro gf cf y2 ho2 hg2 hor hlt
  have hor' : vf.ownBlock = some gf ∨ gf = (z.alloc (.cells #[.slice (some ⟨g, o, none⟩) m c] 26)).heap.size := by rw [World.size_alloc]; exact hor
  obtain ⟨hb2, hB3, hO3⟩ := (unhide HBA).putF ho2 hg2 hor'
  have c2 : y2.cell? ⟨b, 1, none⟩ = some vf := hb2.cell 1
  have f2 : y2.frozen? ⟨b, 1, none⟩ = false := hb2.frozen 1
  obtain ⟨y3, hy3⟩ : ∃ Z, y2.setCell ⟨b, 1, none⟩ (.slice (some ⟨gf, 0, none⟩) (nf + 1) cf) = Z := ⟨_, rfl⟩
  rw [hy3] at hB3 hO3
  have hO4 : Only (fun q => q = b ∨ vf.ownBlock = some q) z y3 := (Only.of_below (unhide HNA)).trans hO3 (fun _ _ e => e)
  have hI3 := (unhide HI).only hO4 (fun g' o' p e q => by
    cases e
    rcases q with q | q
    · exact (unhide HGB).2 q
    · exact (unhide HGB).1 q)
  have hdr : Below y3.heap.size y3 y3.drew := (Below.refl _ _).drew
  have HB3 := hide (hB3.low hdr)
  have HI3 := hide (hI3.below hdr)
  have HO3 := hide (hO4.trans (Only.of_below (P := fun _ => False) hdr) (fun _ _ e => e.elim))
  have HOF := hide (old_or (w := z) hor (Nat.le_succ _))
  clear ho2 hg2 hor hlt hor' hb2 hB3 hO3 hO4 hI3 hdr HBA HLE HI HNA c1
  go_wp2
  refine unhide HK1 _ _ ?_
  clear HK1 K1 c2 f2 hy3
  refine wp_region_held_drew (S := fun _ => True) (by kernel_rfl) trivial ?_
  intro hS
  generalize y3.drew = yd at *
  have ad : yd.cell? ⟨b, 2, none⟩ = some vw := (unhide HB3).blk.cell 2
  refine wpAnyH_takeD 0 (some 14) (.pointer (some ⟨b, 0, none⟩)) rfl rfl (by kernel_rfl) (by kernel_rfl) (by kernel_rfl) (fun _ _ _ h => h) (Or.inl ⟨by rfl, fun w hSw => by clear hSw; go_simp⟩) hS ?_
  simp only [Act.put, List.setIfInBounds_toArray, List.set_cons_zero, List.set_cons_succ]
  refine wpAnyH_takeD 1 (some 15) (.pointer (some ⟨b, 0, none⟩)) rfl rfl (by kernel_rfl) (by kernel_rfl) (by kernel_rfl) (fun _ _ _ h => h) (Or.inl ⟨by rfl, fun w hSw => by clear hSw; go_simp⟩) hS ?_
  simp only [Act.put, List.setIfInBounds_toArray, List.set_cons_zero, List.set_cons_succ]
  refine wpAnyH_takeD 2 (some 16) (.pointer (some ⟨b, 0, none⟩)) rfl rfl (by kernel_rfl) (by kernel_rfl) (by kernel_rfl) (fun _ _ _ h => h) (Or.inl ⟨by rfl, fun w hSw => by clear hSw; go_simp⟩) hS ?_
  simp only [Act.put, List.setIfInBounds_toArray, List.set_cons_zero, List.set_cons_succ]
  refine wpAnyH_takeD 3 (some 17) (.pointer (some ⟨b, 2, none⟩)) rfl rfl (by kernel_rfl) (by kernel_rfl) (by kernel_rfl) (fun _ _ _ h => h) (Or.inl ⟨by rfl, fun w hSw => by clear hSw; go_simp⟩) hS ?_
  simp only [Act.put, List.setIfInBounds_toArray, List.set_cons_zero, List.set_cons_succ]
  refine wpAnyH_takeD 5 (some 19) (.slice (some ⟨g, o, none⟩) m c) rfl rfl (by kernel_rfl) (by kernel_rfl) (by kernel_rfl) (fun _ _ _ h => h) (Or.inl ⟨by rfl, fun w hSw => by clear hSw; go_simp⟩) hS ?_
  simp only [Act.put, List.setIfInBounds_toArray, List.set_cons_zero, List.set_cons_succ]
  refine wpAnyH_ready (rs := [4, 6]) (by kernel_rfl) (by simp) ?_
  refine AllReadyH.cons rfl (fun K hK => ?_) (AllReadyH.cons rfl (fun K hK => ?_) AllReadyH.nil)
  · simp only [List.getElem_toArray, List.getElem_cons_succ, List.getElem_cons_zero]
    go_simp
    refine hK.out _ _ trivial (fun hS => ?_)
    clear hK K
    refine wpAnyH_ready (rs := [6]) (by kernel_rfl) (by simp) ?_
    refine AllReadyH.cons rfl (fun K hK => ?_) AllReadyH.nil
    simp only [List.getElem_toArray, List.getElem_cons_succ, List.getElem_cons_zero]
    rw [if_pos (by rfl)]
    refine wp_append_lies _ (.const (.slice none 0 0)) (.tmp 19) 26 rfl N 3 i0 (.int .i64 0) 1 8 Tryd.underlying26 (unhide HIN).1 (unhide HIN).2.1 (unhide HIN).2.2.1 (unhide HIN).2.2.2 rfl (by decide) _ 0 [] rfl (World.ownsRow_nil _ _ _ _) ⟨g, o, none⟩ m c (L.map (Value.int .i64)) rfl (by rw [List.length_map, unhide HM, Nat.mul_one]) (fun j u hu => ils_news (unhide HI3) j u hu) (by simp [Value.oneCell']) h0 (by unfold maxLen; omega) (by omega) (unhide HB3).hN _ rfl ?_
    intro gc cc y4 ho4 hg4 hor4 hlt4
    simp only [Nat.zero_add, List.nil_append] at ho4 ⊢
    have hOn4 := grown_only hg4
    have hgc : yd.heap.size ≤ gc := by
      rcases hor4 with q | q
      · cases q
      · omega
    have hO4 : Only (fun _ => False) yd y4 := hOn4.mono (fun _ _ e => by cases e)
    have hB4 := (unhide HB3).only hO4 (fun q => q) (fun _ _ q => q) (fun _ _ q => q) (fun _ _ q => q)
    have hA4 : Below y4.heap.size y4 (y4.alloc (.cells #[.slice (some ⟨gc, 0, none⟩) m cc] 26)) := (Below.refl _ _).alloc (Nat.le_refl _) _
    have HB5 := hide (hB4.low hA4)
    have HC5 := hide (own_only ho4 (Only.of_below (P := fun _ => False) hA4) (fun _ _ q => q))
    have HO5 := hide (((unhide HO3).trans hO4 (fun _ _ e => e.elim)).trans (Only.of_below (P := fun _ => False) hA4) (fun _ _ e => e.elim))
    have HGC := hide (show z.heap.size ≤ gc from Nat.le_trans (unhide HO3).size hgc)
    have HGD := hide (show vw.ownBlock ≠ some gc from fun e => by
      have := ((unhide HB3).rw.lt gc e).2
      omega)
    have HLE5 := hide (show N ≤ (y4.alloc (.cells #[.slice (some ⟨gc, 0, none⟩) m cc] 26)).heap.size from by rw [World.size_alloc]; have := hB4.hN; omega)
    have a4 : y4.cell? ⟨b, 2, none⟩ = some vw := hB4.blk.cell 2
    have a5 : (y4.alloc (.cells #[.slice (some ⟨gc, 0, none⟩) m cc] 26)).cell? ⟨b, 2, none⟩ = some vw := (unhide HB5).blk.cell 2
    clear ho4 hg4 hor4 hlt4 hOn4 hgc hO4 hB4 hA4 HB3 HI3 HO3 ad
    simp only [Act.put, List.setIfInBounds_toArray, List.set_cons_zero, List.set_cons_succ]
    refine hK.out _ _ trivial (fun hS => ?_)
    clear hK K
    refine wpAnyH_ready (rs := [7]) (by kernel_rfl) (by simp) ?_
    refine AllReadyH.cons rfl (fun K hK => ?_) AllReadyH.nil
    simp only [List.getElem_toArray, List.getElem_cons_succ, List.getElem_cons_zero]
    go_simp
    refine hK.out _ _ trivial (fun hS => ?_)
    clear hK K
    refine wpAnyH_ready (rs := [8]) (by kernel_rfl) (by simp) ?_
    refine AllReadyH.cons rfl (fun K hK => ?_) AllReadyH.nil
    simp only [List.getElem_toArray, List.getElem_cons_succ, List.getElem_cons_zero]
    rw [if_pos (by rfl)]
    refine wp_append_lies _ (.tmp 18) (.tmp 21) 54 rfl N 26 j0 (.slice none 0 0) 1 24 Tryd.underlying54 (unhide HJ).1 (unhide HJ).2.1 (unhide HJ).2.2.1 (unhide HJ).2.2.2 rfl (by decide) _ nw Lw rfl (unhide HB5).rw ⟨y4.heap.size, 0, none⟩ 1 1 [.slice (some ⟨gc, 0, none⟩) m cc] rfl rfl (fun q u hu => news_one y4 26 _ q u hu) (by simp [Value.oneCell']) (by omega) (by unfold maxLen; omega) (by omega) (unhide HLE5) _ rfl ?_
    intro gw cw y6 ho6 hg6 hor6 hlt6
    obtain ⟨hb6, hB7, hO7⟩ := (unhide HB5).putW ho6 hg6 hor6
    have c6 : y6.cell? ⟨b, 2, none⟩ = some vw := hb6.cell 2
    have f6 : y6.frozen? ⟨b, 2, none⟩ = false := hb6.frozen 2
    have HC6 := hide (own_only (own_only (unhide HC5) (grown_only hg6) (fun q hq e => by
      have e9 : gc = q := by simpa [Value.ownBlock] using hq
      subst e9
      exact unhide HGD e)) (show Only (fun q => q = b) y6 (y6.setCell ⟨b, 2, none⟩ (.slice (some ⟨gw, 0, none⟩) (nw + 1) cw)) from (Only.refl _ _).setCell _ _ (fun _ => rfl)) (fun q hq e => by
      have e9 : gc = q := by simpa [Value.ownBlock] using hq
      subst e9
      subst e
      obtain ⟨cur, hc⟩ := own_blk (unhide HC5) (k := gc) rfl
      exact absurd (blk_ty hc (unhide HB5).blk) (by decide)))
    have HB7 := hide hB7
    have HO7 := hide (((unhide HO5).mono (fun q _ e => show q = b ∨ vf.ownBlock = some q ∨ vw.ownBlock = some q from e.elim .inl (fun e => .inr (.inl e)))).trans hO7 (fun q _ e => e.elim .inl (fun e => .inr (.inr e))))
    have HOW := hide (old_or (w := z) hor6 (by have := (unhide HO5).size; exact this))
    clear ho6 hg6 hor6 hlt6 hb6 hB7 hO7 HB5 HC5 HO5
    simp only [Act.put, List.setIfInBounds_toArray, List.set_cons_zero, List.set_cons_succ]
    refine hK.out _ _ trivial (fun hS => ?_)
    clear hK K
    refine wpAnyH_takeD 9 (some 23) (.pointer (some ⟨b, 0, none⟩)) rfl rfl (by kernel_rfl) (by kernel_rfl) (by kernel_rfl) (fun _ _ _ h => h) (Or.inl ⟨by rfl, fun w hSw => by clear hSw; go_simp⟩) hS ?_
    simp only [Act.put, List.setIfInBounds_toArray, List.set_cons_zero, List.set_cons_succ]
    refine wpAnyH_takeD 10 (some 24) (.pointer (some ⟨b, 2, none⟩)) rfl rfl (by kernel_rfl) (by kernel_rfl) (by kernel_rfl) (fun _ _ _ h => h) (Or.inl ⟨by rfl, fun w hSw => by clear hSw; go_simp⟩) hS ?_
    simp only [Act.put, List.setIfInBounds_toArray, List.set_cons_zero, List.set_cons_succ]
    refine wpAnyH_ready (rs := [11]) (by kernel_rfl) (by simp) ?_
    refine AllReadyH.cons rfl (fun K hK => ?_) AllReadyH.nil
    simp only [List.getElem_toArray, List.getElem_cons_succ, List.getElem_cons_zero]
    go_simp
    refine hK.out _ _ trivial (fun hS => ?_)
    clear hK K
    refine wpAnyH_done (by kernel_rfl) ?_ _
    clear hS
    go_wp2
    go_end0
    exact ⟨rfl, gf, cf, gw, cw, gc, cc, unhide HB7, unhide HC6, unhide HGC, unhide HOF, unhide HOW, unhide HO7⟩
  · simp only [List.getElem_toArray, List.getElem_cons_succ, List.getElem_cons_zero]
    rw [if_pos (by rfl)]
    refine wp_append_lies _ (.const (.slice none 0 0)) (.tmp 19) 26 rfl N 3 i0 (.int .i64 0) 1 8 Tryd.underlying26 (unhide HIN).1 (unhide HIN).2.1 (unhide HIN).2.2.1 (unhide HIN).2.2.2 rfl (by decide) _ 0 [] rfl (World.ownsRow_nil _ _ _ _) ⟨g, o, none⟩ m c (L.map (Value.int .i64)) rfl (by rw [List.length_map, unhide HM, Nat.mul_one]) (fun j u hu => ils_news (unhide HI3) j u hu) (by simp [Value.oneCell']) h0 (by unfold maxLen; omega) (by omega) (unhide HB3).hN _ rfl ?_
    intro gc cc y4 ho4 hg4 hor4 hlt4
    simp only [Nat.zero_add, List.nil_append] at ho4 ⊢
    have hOn4 := grown_only hg4
    have hgc : yd.heap.size ≤ gc := by
      rcases hor4 with q | q
      · cases q
      · omega
    have hO4 : Only (fun _ => False) yd y4 := hOn4.mono (fun _ _ e => by cases e)
    have hB4 := (unhide HB3).only hO4 (fun q => q) (fun _ _ q => q) (fun _ _ q => q) (fun _ _ q => q)
    have hA4 : Below y4.heap.size y4 (y4.alloc (.cells #[.slice (some ⟨gc, 0, none⟩) m cc] 26)) := (Below.refl _ _).alloc (Nat.le_refl _) _
    have HB5 := hide (hB4.low hA4)
    have HC5 := hide (own_only ho4 (Only.of_below (P := fun _ => False) hA4) (fun _ _ q => q))
    have HO5 := hide (((unhide HO3).trans hO4 (fun _ _ e => e.elim)).trans (Only.of_below (P := fun _ => False) hA4) (fun _ _ e => e.elim))
    have HGC := hide (show z.heap.size ≤ gc from Nat.le_trans (unhide HO3).size hgc)
    have HGD := hide (show vw.ownBlock ≠ some gc from fun e => by
      have := ((unhide HB3).rw.lt gc e).2
      omega)
    have HLE5 := hide (show N ≤ (y4.alloc (.cells #[.slice (some ⟨gc, 0, none⟩) m cc] 26)).heap.size from by rw [World.size_alloc]; have := hB4.hN; omega)
    have a4 : y4.cell? ⟨b, 2, none⟩ = some vw := hB4.blk.cell 2
    have a5 : (y4.alloc (.cells #[.slice (some ⟨gc, 0, none⟩) m cc] 26)).cell? ⟨b, 2, none⟩ = some vw := (unhide HB5).blk.cell 2
    clear ho4 hg4 hor4 hlt4 hOn4 hgc hO4 hB4 hA4 HB3 HI3 HO3 ad
    simp only [Act.put, List.setIfInBounds_toArray, List.set_cons_zero, List.set_cons_succ]
    refine hK.out _ _ trivial (fun hS => ?_)
    clear hK K
    refine wpAnyH_ready (rs := [4, 7]) (by kernel_rfl) (by simp) ?_
    refine AllReadyH.cons rfl (fun K hK => ?_) (AllReadyH.cons rfl (fun K hK => ?_) AllReadyH.nil)
    · simp only [List.getElem_toArray, List.getElem_cons_succ, List.getElem_cons_zero]
      go_simp
      refine hK.out _ _ trivial (fun hS => ?_)
      clear hK K
      refine wpAnyH_ready (rs := [7]) (by kernel_rfl) (by simp) ?_
      refine AllReadyH.cons rfl (fun K hK => ?_) AllReadyH.nil
      simp only [List.getElem_toArray, List.getElem_cons_succ, List.getElem_cons_zero]
      go_simp
      refine hK.out _ _ trivial (fun hS => ?_)
      clear hK K
      refine wpAnyH_ready (rs := [8]) (by kernel_rfl) (by simp) ?_
      refine AllReadyH.cons rfl (fun K hK => ?_) AllReadyH.nil
      simp only [List.getElem_toArray, List.getElem_cons_succ, List.getElem_cons_zero]
      rw [if_pos (by rfl)]
      refine wp_append_lies _ (.tmp 18) (.tmp 21) 54 rfl N 26 j0 (.slice none 0 0) 1 24 Tryd.underlying54 (unhide HJ).1 (unhide HJ).2.1 (unhide HJ).2.2.1 (unhide HJ).2.2.2 rfl (by decide) _ nw Lw rfl (unhide HB5).rw ⟨y4.heap.size, 0, none⟩ 1 1 [.slice (some ⟨gc, 0, none⟩) m cc] rfl rfl (fun q u hu => news_one y4 26 _ q u hu) (by simp [Value.oneCell']) (by omega) (by unfold maxLen; omega) (by omega) (unhide HLE5) _ rfl ?_
      intro gw cw y6 ho6 hg6 hor6 hlt6
      obtain ⟨hb6, hB7, hO7⟩ := (unhide HB5).putW ho6 hg6 hor6
      have c6 : y6.cell? ⟨b, 2, none⟩ = some vw := hb6.cell 2
      have f6 : y6.frozen? ⟨b, 2, none⟩ = false := hb6.frozen 2
      have HC6 := hide (own_only (own_only (unhide HC5) (grown_only hg6) (fun q hq e => by
        have e9 : gc = q := by simpa [Value.ownBlock] using hq
        subst e9
        exact unhide HGD e)) (show Only (fun q => q = b) y6 (y6.setCell ⟨b, 2, none⟩ (.slice (some ⟨gw, 0, none⟩) (nw + 1) cw)) from (Only.refl _ _).setCell _ _ (fun _ => rfl)) (fun q hq e => by
        have e9 : gc = q := by simpa [Value.ownBlock] using hq
        subst e9
        subst e
        obtain ⟨cur, hc⟩ := own_blk (unhide HC5) (k := gc) rfl
        exact absurd (blk_ty hc (unhide HB5).blk) (by decide)))
      have HB7 := hide hB7
      have HO7 := hide (((unhide HO5).mono (fun q _ e => show q = b ∨ vf.ownBlock = some q ∨ vw.ownBlock = some q from e.elim .inl (fun e => .inr (.inl e)))).trans hO7 (fun q _ e => e.elim .inl (fun e => .inr (.inr e))))
      have HOW := hide (old_or (w := z) hor6 (by have := (unhide HO5).size; exact this))
      clear ho6 hg6 hor6 hlt6 hb6 hB7 hO7 HB5 HC5 HO5
      simp only [Act.put, List.setIfInBounds_toArray, List.set_cons_zero, List.set_cons_succ]
      refine hK.out _ _ trivial (fun hS => ?_)
      clear hK K
      refine wpAnyH_takeD 9 (some 23) (.pointer (some ⟨b, 0, none⟩)) rfl rfl (by kernel_rfl) (by kernel_rfl) (by kernel_rfl) (fun _ _ _ h => h) (Or.inl ⟨by rfl, fun w hSw => by clear hSw; go_simp⟩) hS ?_
      simp only [Act.put, List.setIfInBounds_toArray, List.set_cons_zero, List.set_cons_succ]
      refine wpAnyH_takeD 10 (some 24) (.pointer (some ⟨b, 2, none⟩)) rfl rfl (by kernel_rfl) (by kernel_rfl) (by kernel_rfl) (fun _ _ _ h => h) (Or.inl ⟨by rfl, fun w hSw => by clear hSw; go_simp⟩) hS ?_
      simp only [Act.put, List.setIfInBounds_toArray, List.set_cons_zero, List.set_cons_succ]
      refine wpAnyH_ready (rs := [11]) (by kernel_rfl) (by simp) ?_
      refine AllReadyH.cons rfl (fun K hK => ?_) AllReadyH.nil
      simp only [List.getElem_toArray, List.getElem_cons_succ, List.getElem_cons_zero]
      go_simp
      refine hK.out _ _ trivial (fun hS => ?_)
      clear hK K
      refine wpAnyH_done (by kernel_rfl) ?_ _
      clear hS
      go_wp2
      go_end0
      exact ⟨rfl, gf, cf, gw, cw, gc, cc, unhide HB7, unhide HC6, unhide HGC, unhide HOF, unhide HOW, unhide HO7⟩
    · simp only [List.getElem_toArray, List.getElem_cons_succ, List.getElem_cons_zero]
      go_simp
      refine hK.out _ _ trivial (fun hS => ?_)
      clear hK K
      refine wpAnyH_ready (rs := [4]) (by kernel_rfl) (by simp) ?_
      refine AllReadyH.cons rfl (fun K hK => ?_) AllReadyH.nil
      simp only [List.getElem_toArray, List.getElem_cons_succ, List.getElem_cons_zero]
      go_simp
      refine hK.out _ _ trivial (fun hS => ?_)
      clear hK K
      refine wpAnyH_ready (rs := [8]) (by kernel_rfl) (by simp) ?_
      refine AllReadyH.cons rfl (fun K hK => ?_) AllReadyH.nil
      simp only [List.getElem_toArray, List.getElem_cons_succ, List.getElem_cons_zero]
      rw [if_pos (by rfl)]
      refine wp_append_lies _ (.tmp 18) (.tmp 21) 54 rfl N 26 j0 (.slice none 0 0) 1 24 Tryd.underlying54 (unhide HJ).1 (unhide HJ).2.1 (unhide HJ).2.2.1 (unhide HJ).2.2.2 rfl (by decide) _ nw Lw rfl (unhide HB5).rw ⟨y4.heap.size, 0, none⟩ 1 1 [.slice (some ⟨gc, 0, none⟩) m cc] rfl rfl (fun q u hu => news_one y4 26 _ q u hu) (by simp [Value.oneCell']) (by omega) (by unfold maxLen; omega) (by omega) (unhide HLE5) _ rfl ?_
      intro gw cw y6 ho6 hg6 hor6 hlt6
      obtain ⟨hb6, hB7, hO7⟩ := (unhide HB5).putW ho6 hg6 hor6
      have c6 : y6.cell? ⟨b, 2, none⟩ = some vw := hb6.cell 2
      have f6 : y6.frozen? ⟨b, 2, none⟩ = false := hb6.frozen 2
      have HC6 := hide (own_only (own_only (unhide HC5) (grown_only hg6) (fun q hq e => by
        have e9 : gc = q := by simpa [Value.ownBlock] using hq
        subst e9
        exact unhide HGD e)) (show Only (fun q => q = b) y6 (y6.setCell ⟨b, 2, none⟩ (.slice (some ⟨gw, 0, none⟩) (nw + 1) cw)) from (Only.refl _ _).setCell _ _ (fun _ => rfl)) (fun q hq e => by
        have e9 : gc = q := by simpa [Value.ownBlock] using hq
        subst e9
        subst e
        obtain ⟨cur, hc⟩ := own_blk (unhide HC5) (k := gc) rfl
        exact absurd (blk_ty hc (unhide HB5).blk) (by decide)))
      have HB7 := hide hB7
      have HO7 := hide (((unhide HO5).mono (fun q _ e => show q = b ∨ vf.ownBlock = some q ∨ vw.ownBlock = some q from e.elim .inl (fun e => .inr (.inl e)))).trans hO7 (fun q _ e => e.elim .inl (fun e => .inr (.inr e))))
      have HOW := hide (old_or (w := z) hor6 (by have := (unhide HO5).size; exact this))
      clear ho6 hg6 hor6 hlt6 hb6 hB7 hO7 HB5 HC5 HO5
      simp only [Act.put, List.setIfInBounds_toArray, List.set_cons_zero, List.set_cons_succ]
      refine hK.out _ _ trivial (fun hS => ?_)
      clear hK K
      refine wpAnyH_takeD 9 (some 23) (.pointer (some ⟨b, 0, none⟩)) rfl rfl (by kernel_rfl) (by kernel_rfl) (by kernel_rfl) (fun _ _ _ h => h) (Or.inl ⟨by rfl, fun w hSw => by clear hSw; go_simp⟩) hS ?_
      simp only [Act.put, List.setIfInBounds_toArray, List.set_cons_zero, List.set_cons_succ]
      refine wpAnyH_takeD 10 (some 24) (.pointer (some ⟨b, 2, none⟩)) rfl rfl (by kernel_rfl) (by kernel_rfl) (by kernel_rfl) (fun _ _ _ h => h) (Or.inl ⟨by rfl, fun w hSw => by clear hSw; go_simp⟩) hS ?_
      simp only [Act.put, List.setIfInBounds_toArray, List.set_cons_zero, List.set_cons_succ]
      refine wpAnyH_ready (rs := [11]) (by kernel_rfl) (by simp) ?_
      refine AllReadyH.cons rfl (fun K hK => ?_) AllReadyH.nil
      simp only [List.getElem_toArray, List.getElem_cons_succ, List.getElem_cons_zero]
      go_simp
      refine hK.out _ _ trivial (fun hS => ?_)
      clear hK K
      refine wpAnyH_done (by kernel_rfl) ?_ _
      clear hS
      go_wp2
      go_end0
      exact ⟨rfl, gf, cf, gw, cw, gc, cc, unhide HB7, unhide HC6, unhide HGC, unhide HOF, unhide HOW, unhide HO7⟩
end Go.Proofs.YtabgcgdpeikieaaDoor
namespace Go.Proofs.YtabgcgdpeikieaaDoor
open Go.RowKit Go.Conc
set_option maxRecDepth 100000
set_option maxHeartbeats 2000000 in
theorem keepN13 {z : World} {N b : Nat} {vl vf vw : Value} {nl nf nw : Nat} {Ll Lf Lw : List Value} (h : Bb z N b vl vf vw nl nf nw Ll Lf Lw) (hf : nf ≤ 1000000) (hw : nw ≤ 1000000) :
    Calls Tryd.prog 26 #[.pointer (some ⟨b, 0, none⟩), .slice none 0 0] z fun e z' => e = .returned (.tuple #[]) ∧ ∃ gf cf gw cw, Bb z' N b vl (.slice (some ⟨gf, 0, none⟩) (nf + 1) cf) (.slice (some ⟨gw, 0, none⟩) (nw + 1) cw) nl (nf + 1) (nw + 1) Ll (Lf ++ [.slice none 0 0]) (Lw ++ [.slice none 0 0]) ∧
      (vf.ownBlock = some gf ∨ z.heap.size ≤ gf) ∧ (vw.ownBlock = some gw ∨ z.heap.size ≤ gw) ∧ Only (fun q => q = b ∨ vf.ownBlock = some q ∨ vw.ownBlock = some q) z z' := by
  obtain ⟨j0, hj, hz0, hz1, hz2⟩ := info_parts info26
  have HJ := hide (And.intro hj (And.intro hz0 (And.intro hz1 hz2)))
  clear hj hz0 hz1 hz2
  have c1 : z.cell? ⟨b, 1, none⟩ = some vf := h.blk.cell 1
  have hA : Below z.heap.size z (z.alloc (.cells #[.slice none 0 0] 26)) := (Below.refl _ _).alloc (Nat.le_refl _) _
  have HBA := hide (h.low hA)
  have HLE := hide (show N ≤ (z.alloc (.cells #[.slice none 0 0] 26)).heap.size from by rw [World.size_alloc]; have := h.hN; omega)
  have HH := hide h
  have HNA := hide hA
  obtain ⟨z0, hz0⟩ : ∃ z0, z0 = z := ⟨_, rfl⟩
  clear h hA
  go_enter Tryd.func26, Tryd.ntmps26
  refine wp_seq_k (fun K1 hK1 => ?_)
  have HK1 := hide hK1
  clear hK1
  go_wp2_with (refine wpList_append_lies _ rfl (.tmp 8) (.tmp 10) 54 rfl N 26 j0 (.slice none 0 0) 1 24 Tryd.underlying54 (unhide HJ).1 (unhide HJ).2.1 (unhide HJ).2.2.1 (unhide HJ).2.2.2 rfl (by decide) _ nf Lf rfl (unhide HBA).rf ⟨z.heap.size, 0, none⟩ 1 1 [.slice none 0 0] rfl rfl (fun q u hu => news_one z 26 _ q u hu) (by simp [Value.oneCell']) (by omega) (by unfold maxLen; omega) (by omega) (unhide HLE) _ rfl ?_)
  intro gf cf y2 ho2 hg2 hor hlt
  have hor' : vf.ownBlock = some gf ∨ gf = (z.alloc (.cells #[.slice none 0 0] 26)).heap.size := by rw [World.size_alloc]; exact hor
  obtain ⟨hb2, hB3, hO3⟩ := (unhide HBA).putF ho2 hg2 hor'
  have c2 : y2.cell? ⟨b, 1, none⟩ = some vf := hb2.cell 1
  have f2 : y2.frozen? ⟨b, 1, none⟩ = false := hb2.frozen 1
  obtain ⟨y3, hy3⟩ : ∃ Z, y2.setCell ⟨b, 1, none⟩ (.slice (some ⟨gf, 0, none⟩) (nf + 1) cf) = Z := ⟨_, rfl⟩
  rw [hy3] at hB3 hO3
  have hO4 : Only (fun q => q = b ∨ vf.ownBlock = some q) z y3 := (Only.of_below (unhide HNA)).trans hO3 (fun _ _ e => e)
  have hdr : Below y3.heap.size y3 y3.drew := (Below.refl _ _).drew
  have HB3 := hide (hB3.low hdr)
  have HO3 := hide (hO4.trans (Only.of_below (P := fun _ => False) hdr) (fun _ _ e => e.elim))
  have HOF := hide (old_or (w := z) hor (Nat.le_succ _))
  clear ho2 hg2 hor hlt hor' hb2 hB3 hO3 hO4 hdr HBA HLE HNA c1
  go_wp2
  refine unhide HK1 _ _ ?_
  clear HK1 K1 c2 f2 hy3
  refine wp_region_held_drew (S := fun _ => True) (by kernel_rfl) trivial ?_
  intro hS
  generalize y3.drew = yd at *
  have ad : yd.cell? ⟨b, 2, none⟩ = some vw := (unhide HB3).blk.cell 2
  refine wpAnyH_takeD 0 (some 14) (.pointer (some ⟨b, 0, none⟩)) rfl rfl (by kernel_rfl) (by kernel_rfl) (by kernel_rfl) (fun _ _ _ h => h) (Or.inl ⟨by rfl, fun w hSw => by clear hSw; go_simp⟩) hS ?_
  simp only [Act.put, List.setIfInBounds_toArray, List.set_cons_zero, List.set_cons_succ]
  refine wpAnyH_takeD 1 (some 15) (.pointer (some ⟨b, 0, none⟩)) rfl rfl (by kernel_rfl) (by kernel_rfl) (by kernel_rfl) (fun _ _ _ h => h) (Or.inl ⟨by rfl, fun w hSw => by clear hSw; go_simp⟩) hS ?_
  simp only [Act.put, List.setIfInBounds_toArray, List.set_cons_zero, List.set_cons_succ]
  refine wpAnyH_takeD 2 (some 16) (.pointer (some ⟨b, 0, none⟩)) rfl rfl (by kernel_rfl) (by kernel_rfl) (by kernel_rfl) (fun _ _ _ h => h) (Or.inl ⟨by rfl, fun w hSw => by clear hSw; go_simp⟩) hS ?_
  simp only [Act.put, List.setIfInBounds_toArray, List.set_cons_zero, List.set_cons_succ]
  refine wpAnyH_takeD 3 (some 17) (.pointer (some ⟨b, 2, none⟩)) rfl rfl (by kernel_rfl) (by kernel_rfl) (by kernel_rfl) (fun _ _ _ h => h) (Or.inl ⟨by rfl, fun w hSw => by clear hSw; go_simp⟩) hS ?_
  simp only [Act.put, List.setIfInBounds_toArray, List.set_cons_zero, List.set_cons_succ]
  refine wpAnyH_takeD 5 (some 19) (.slice none 0 0) rfl rfl (by kernel_rfl) (by kernel_rfl) (by kernel_rfl) (fun _ _ _ h => h) (Or.inl ⟨by rfl, fun w hSw => by clear hSw; go_simp⟩) hS ?_
  simp only [Act.put, List.setIfInBounds_toArray, List.set_cons_zero, List.set_cons_succ]
  refine wpAnyH_ready (rs := [4, 6]) (by kernel_rfl) (by simp) ?_
  refine AllReadyH.cons rfl (fun K hK => ?_) (AllReadyH.cons rfl (fun K hK => ?_) AllReadyH.nil)
  · simp only [List.getElem_toArray, List.getElem_cons_succ, List.getElem_cons_zero]
    go_simp
    refine hK.out _ _ trivial (fun hS => ?_)
    clear hK K
    refine wpAnyH_ready (rs := [6]) (by kernel_rfl) (by simp) ?_
    refine AllReadyH.cons rfl (fun K hK => ?_) AllReadyH.nil
    simp only [List.getElem_toArray, List.getElem_cons_succ, List.getElem_cons_zero]
    go_simp
    have hA4 : Below yd.heap.size yd (yd.alloc (.cells #[.slice none 0 0] 26)) := (Below.refl _ _).alloc (Nat.le_refl _) _
    have HB5 := hide ((unhide HB3).low hA4)
    have HO5 := hide ((unhide HO3).trans (Only.of_below (P := fun _ => False) hA4) (fun _ _ e => e.elim))
    have HLE5 := hide (show N ≤ (yd.alloc (.cells #[.slice none 0 0] 26)).heap.size from by rw [World.size_alloc]; have := (unhide HB3).hN; omega)
    have a5 : (yd.alloc (.cells #[.slice none 0 0] 26)).cell? ⟨b, 2, none⟩ = some vw := (unhide HB5).blk.cell 2
    clear hA4 HB3 HO3
    refine hK.out _ _ trivial (fun hS => ?_)
    clear hK K
    refine wpAnyH_ready (rs := [7]) (by kernel_rfl) (by simp) ?_
    refine AllReadyH.cons rfl (fun K hK => ?_) AllReadyH.nil
    simp only [List.getElem_toArray, List.getElem_cons_succ, List.getElem_cons_zero]
    go_simp
    refine hK.out _ _ trivial (fun hS => ?_)
    clear hK K
    refine wpAnyH_ready (rs := [8]) (by kernel_rfl) (by simp) ?_
    refine AllReadyH.cons rfl (fun K hK => ?_) AllReadyH.nil
    simp only [List.getElem_toArray, List.getElem_cons_succ, List.getElem_cons_zero]
    rw [if_pos (by rfl)]
    refine wp_append_lies _ (.tmp 18) (.tmp 21) 54 rfl N 26 j0 (.slice none 0 0) 1 24 Tryd.underlying54 (unhide HJ).1 (unhide HJ).2.1 (unhide HJ).2.2.1 (unhide HJ).2.2.2 rfl (by decide) _ nw Lw rfl (unhide HB5).rw ⟨yd.heap.size, 0, none⟩ 1 1 [.slice none 0 0] rfl rfl (fun q u hu => news_one yd 26 _ q u hu) (by simp [Value.oneCell']) (by omega) (by unfold maxLen; omega) (by omega) (unhide HLE5) _ rfl ?_
    intro gw cw y6 ho6 hg6 hor6 hlt6
    obtain ⟨hb6, hB7, hO7⟩ := (unhide HB5).putW ho6 hg6 hor6
    have c6 : y6.cell? ⟨b, 2, none⟩ = some vw := hb6.cell 2
    have f6 : y6.frozen? ⟨b, 2, none⟩ = false := hb6.frozen 2
    have HB7 := hide hB7
    have HO7 := hide (((unhide HO5).mono (fun q _ e => show q = b ∨ vf.ownBlock = some q ∨ vw.ownBlock = some q from e.elim .inl (fun e => .inr (.inl e)))).trans hO7 (fun q _ e => e.elim .inl (fun e => .inr (.inr e))))
    have HOW := hide (old_or (w := z) hor6 (by have := (unhide HO5).size; exact this))
    clear ho6 hg6 hor6 hlt6 hb6 hB7 hO7 HB5 HO5
    simp only [Act.put, List.setIfInBounds_toArray, List.set_cons_zero, List.set_cons_succ]
    refine hK.out _ _ trivial (fun hS => ?_)
    clear hK K
    refine wpAnyH_takeD 9 (some 23) (.pointer (some ⟨b, 0, none⟩)) rfl rfl (by kernel_rfl) (by kernel_rfl) (by kernel_rfl) (fun _ _ _ h => h) (Or.inl ⟨by rfl, fun w hSw => by clear hSw; go_simp⟩) hS ?_
    simp only [Act.put, List.setIfInBounds_toArray, List.set_cons_zero, List.set_cons_succ]
    refine wpAnyH_takeD 10 (some 24) (.pointer (some ⟨b, 2, none⟩)) rfl rfl (by kernel_rfl) (by kernel_rfl) (by kernel_rfl) (fun _ _ _ h => h) (Or.inl ⟨by rfl, fun w hSw => by clear hSw; go_simp⟩) hS ?_
    simp only [Act.put, List.setIfInBounds_toArray, List.set_cons_zero, List.set_cons_succ]
    refine wpAnyH_ready (rs := [11]) (by kernel_rfl) (by simp) ?_
    refine AllReadyH.cons rfl (fun K hK => ?_) AllReadyH.nil
    simp only [List.getElem_toArray, List.getElem_cons_succ, List.getElem_cons_zero]
    go_simp
    refine hK.out _ _ trivial (fun hS => ?_)
    clear hK K
    refine wpAnyH_done (by kernel_rfl) ?_ _
    clear hS
    go_wp2
    go_end0
    exact ⟨rfl, gf, cf, gw, cw, unhide HB7, unhide HOF, unhide HOW, unhide HO7⟩
  · simp only [List.getElem_toArray, List.getElem_cons_succ, List.getElem_cons_zero]
    go_simp
    have hA4 : Below yd.heap.size yd (yd.alloc (.cells #[.slice none 0 0] 26)) := (Below.refl _ _).alloc (Nat.le_refl _) _
    have HB5 := hide ((unhide HB3).low hA4)
    have HO5 := hide ((unhide HO3).trans (Only.of_below (P := fun _ => False) hA4) (fun _ _ e => e.elim))
    have HLE5 := hide (show N ≤ (yd.alloc (.cells #[.slice none 0 0] 26)).heap.size from by rw [World.size_alloc]; have := (unhide HB3).hN; omega)
    have a5 : (yd.alloc (.cells #[.slice none 0 0] 26)).cell? ⟨b, 2, none⟩ = some vw := (unhide HB5).blk.cell 2
    clear hA4 HB3 HO3
    refine hK.out _ _ trivial (fun hS => ?_)
    clear hK K
    refine wpAnyH_ready (rs := [4, 7]) (by kernel_rfl) (by simp) ?_
    refine AllReadyH.cons rfl (fun K hK => ?_) (AllReadyH.cons rfl (fun K hK => ?_) AllReadyH.nil)
    · simp only [List.getElem_toArray, List.getElem_cons_succ, List.getElem_cons_zero]
      go_simp
      refine hK.out _ _ trivial (fun hS => ?_)
      clear hK K
      refine wpAnyH_ready (rs := [7]) (by kernel_rfl) (by simp) ?_
      refine AllReadyH.cons rfl (fun K hK => ?_) AllReadyH.nil
      simp only [List.getElem_toArray, List.getElem_cons_succ, List.getElem_cons_zero]
      go_simp
      refine hK.out _ _ trivial (fun hS => ?_)
      clear hK K
      refine wpAnyH_ready (rs := [8]) (by kernel_rfl) (by simp) ?_
      refine AllReadyH.cons rfl (fun K hK => ?_) AllReadyH.nil
      simp only [List.getElem_toArray, List.getElem_cons_succ, List.getElem_cons_zero]
      rw [if_pos (by rfl)]
      refine wp_append_lies _ (.tmp 18) (.tmp 21) 54 rfl N 26 j0 (.slice none 0 0) 1 24 Tryd.underlying54 (unhide HJ).1 (unhide HJ).2.1 (unhide HJ).2.2.1 (unhide HJ).2.2.2 rfl (by decide) _ nw Lw rfl (unhide HB5).rw ⟨yd.heap.size, 0, none⟩ 1 1 [.slice none 0 0] rfl rfl (fun q u hu => news_one yd 26 _ q u hu) (by simp [Value.oneCell']) (by omega) (by unfold maxLen; omega) (by omega) (unhide HLE5) _ rfl ?_
      intro gw cw y6 ho6 hg6 hor6 hlt6
      obtain ⟨hb6, hB7, hO7⟩ := (unhide HB5).putW ho6 hg6 hor6
      have c6 : y6.cell? ⟨b, 2, none⟩ = some vw := hb6.cell 2
      have f6 : y6.frozen? ⟨b, 2, none⟩ = false := hb6.frozen 2
      have HB7 := hide hB7
      have HO7 := hide (((unhide HO5).mono (fun q _ e => show q = b ∨ vf.ownBlock = some q ∨ vw.ownBlock = some q from e.elim .inl (fun e => .inr (.inl e)))).trans hO7 (fun q _ e => e.elim .inl (fun e => .inr (.inr e))))
      have HOW := hide (old_or (w := z) hor6 (by have := (unhide HO5).size; exact this))
      clear ho6 hg6 hor6 hlt6 hb6 hB7 hO7 HB5 HO5
      simp only [Act.put, List.setIfInBounds_toArray, List.set_cons_zero, List.set_cons_succ]
      refine hK.out _ _ trivial (fun hS => ?_)
      clear hK K
      refine wpAnyH_takeD 9 (some 23) (.pointer (some ⟨b, 0, none⟩)) rfl rfl (by kernel_rfl) (by kernel_rfl) (by kernel_rfl) (fun _ _ _ h => h) (Or.inl ⟨by rfl, fun w hSw => by clear hSw; go_simp⟩) hS ?_
      simp only [Act.put, List.setIfInBounds_toArray, List.set_cons_zero, List.set_cons_succ]
      refine wpAnyH_takeD 10 (some 24) (.pointer (some ⟨b, 2, none⟩)) rfl rfl (by kernel_rfl) (by kernel_rfl) (by kernel_rfl) (fun _ _ _ h => h) (Or.inl ⟨by rfl, fun w hSw => by clear hSw; go_simp⟩) hS ?_
      simp only [Act.put, List.setIfInBounds_toArray, List.set_cons_zero, List.set_cons_succ]
      refine wpAnyH_ready (rs := [11]) (by kernel_rfl) (by simp) ?_
      refine AllReadyH.cons rfl (fun K hK => ?_) AllReadyH.nil
      simp only [List.getElem_toArray, List.getElem_cons_succ, List.getElem_cons_zero]
      go_simp
      refine hK.out _ _ trivial (fun hS => ?_)
      clear hK K
      refine wpAnyH_done (by kernel_rfl) ?_ _
      clear hS
      go_wp2
      go_end0
      exact ⟨rfl, gf, cf, gw, cw, unhide HB7, unhide HOF, unhide HOW, unhide HO7⟩
    · simp only [List.getElem_toArray, List.getElem_cons_succ, List.getElem_cons_zero]
      go_simp
      refine hK.out _ _ trivial (fun hS => ?_)
      clear hK K
      refine wpAnyH_ready (rs := [4]) (by kernel_rfl) (by simp) ?_
      refine AllReadyH.cons rfl (fun K hK => ?_) AllReadyH.nil
      simp only [List.getElem_toArray, List.getElem_cons_succ, List.getElem_cons_zero]
      go_simp
      refine hK.out _ _ trivial (fun hS => ?_)
      clear hK K
      refine wpAnyH_ready (rs := [8]) (by kernel_rfl) (by simp) ?_
      refine AllReadyH.cons rfl (fun K hK => ?_) AllReadyH.nil
      simp only [List.getElem_toArray, List.getElem_cons_succ, List.getElem_cons_zero]
      rw [if_pos (by rfl)]
      refine wp_append_lies _ (.tmp 18) (.tmp 21) 54 rfl N 26 j0 (.slice none 0 0) 1 24 Tryd.underlying54 (unhide HJ).1 (unhide HJ).2.1 (unhide HJ).2.2.1 (unhide HJ).2.2.2 rfl (by decide) _ nw Lw rfl (unhide HB5).rw ⟨yd.heap.size, 0, none⟩ 1 1 [.slice none 0 0] rfl rfl (fun q u hu => news_one yd 26 _ q u hu) (by simp [Value.oneCell']) (by omega) (by unfold maxLen; omega) (by omega) (unhide HLE5) _ rfl ?_
      intro gw cw y6 ho6 hg6 hor6 hlt6
      obtain ⟨hb6, hB7, hO7⟩ := (unhide HB5).putW ho6 hg6 hor6
      have c6 : y6.cell? ⟨b, 2, none⟩ = some vw := hb6.cell 2
      have f6 : y6.frozen? ⟨b, 2, none⟩ = false := hb6.frozen 2
      have HB7 := hide hB7
      have HO7 := hide (((unhide HO5).mono (fun q _ e => show q = b ∨ vf.ownBlock = some q ∨ vw.ownBlock = some q from e.elim .inl (fun e => .inr (.inl e)))).trans hO7 (fun q _ e => e.elim .inl (fun e => .inr (.inr e))))
      have HOW := hide (old_or (w := z) hor6 (by have := (unhide HO5).size; exact this))
      clear ho6 hg6 hor6 hlt6 hb6 hB7 hO7 HB5 HO5
      simp only [Act.put, List.setIfInBounds_toArray, List.set_cons_zero, List.set_cons_succ]
      refine hK.out _ _ trivial (fun hS => ?_)
      clear hK K
      refine wpAnyH_takeD 9 (some 23) (.pointer (some ⟨b, 0, none⟩)) rfl rfl (by kernel_rfl) (by kernel_rfl) (by kernel_rfl) (fun _ _ _ h => h) (Or.inl ⟨by rfl, fun w hSw => by clear hSw; go_simp⟩) hS ?_
      simp only [Act.put, List.setIfInBounds_toArray, List.set_cons_zero, List.set_cons_succ]
      refine wpAnyH_takeD 10 (some 24) (.pointer (some ⟨b, 2, none⟩)) rfl rfl (by kernel_rfl) (by kernel_rfl) (by kernel_rfl) (fun _ _ _ h => h) (Or.inl ⟨by rfl, fun w hSw => by clear hSw; go_simp⟩) hS ?_
      simp only [Act.put, List.setIfInBounds_toArray, List.set_cons_zero, List.set_cons_succ]
      refine wpAnyH_ready (rs := [11]) (by kernel_rfl) (by simp) ?_
      refine AllReadyH.cons rfl (fun K hK => ?_) AllReadyH.nil
      simp only [List.getElem_toArray, List.getElem_cons_succ, List.getElem_cons_zero]
      go_simp
      refine hK.out _ _ trivial (fun hS => ?_)
      clear hK K
      refine wpAnyH_done (by kernel_rfl) ?_ _
      clear hS
      go_wp2
      go_end0
      exact ⟨rfl, gf, cf, gw, cw, unhide HB7, unhide HOF, unhide HOW, unhide HO7⟩
end Go.Proofs.YtabgcgdpeikieaaDoor
namespace Go.Proofs.YtabgcgdpeikieaaDoor
open Go.RowKit Go.Conc
set_option maxRecDepth 100000
theorem news_all (w : World) (T : TypeId) (xs : List Value) (j : Nat) (u : Value) (hu : xs[j]? = some u) : (w.alloc (.cells xs.toArray T)).cell? (Addr.add ⟨w.heap.size, 0, none⟩ j) = some u := by
  rw [Addr.add_mid, Nat.zero_add, (Blk.new w T xs.toArray).cell]
  simpa using hu
/-- A block of eight that is full of a mark. -/
def Mk8 (w : World) (g : Nat) (mk : Int) : Prop := ∃ cu, Blk w g cu 78 ∧ ∀ j, j < 8 → cu[j]? = some (.int .i64 mk)
theorem Mk8.only {w w' : World} {g : Nat} {mk : Int} {P : Nat → Prop} (h : Mk8 w g mk) (ho : Only P w w') (hp : ¬ P g) : Mk8 w' g mk := by
  obtain ⟨cu, h1, h2⟩ := h
  exact ⟨cu, h1.only ho hp, h2⟩
theorem Mk8.lt {w : World} {g : Nat} {mk : Int} (h : Mk8 w g mk) : g < w.heap.size := by
  obtain ⟨cu, h1, _⟩ := h
  exact h1.lt
theorem Mk8.olds {w : World} {g : Nat} {mk : Int} (h : Mk8 w g mk) (j : Nat) (u : Value) (hu : (List.replicate 8 (Value.int .i64 mk))[j]? = some u) : w.cell? (Addr.add ⟨g, 0, none⟩ j) = some u := by
  obtain ⟨cu, h1, h2⟩ := h
  rw [List.getElem?_replicate] at hu
  split at hu
  · rename_i hj
    rw [Addr.add_mid, Nat.zero_add, h1.cell, h2 j hj, hu]
  · cases hu
theorem Bb.ng {z : World} {N b : Nat} {vl vf vw : Value} {nl nf nw : Nat} {Ll Lf Lw : List Value} (h : Bb z N b vl vf vw nl nf nw Ll Lf Lw) {g : Nat} {cu : Array Value} (hG : Blk z g cu 78) : b ≠ g ∧ (∀ q, vl.ownBlock = some q → q ≠ g) ∧ (∀ q, vf.ownBlock = some q → q ≠ g) ∧ (∀ q, vw.ownBlock = some q → q ≠ g) := by
  refine ⟨fun e => ?_, fun q hq e => ?_, fun q hq e => ?_, fun q hq e => ?_⟩
  · subst e
    exact absurd (blk_ty hG h.blk) (by decide)
  · subst e
    obtain ⟨cur, hc⟩ := own_blk h.rl hq
    exact absurd (blk_ty hG hc) (by decide)
  · subst e
    obtain ⟨cur, hc⟩ := own_blk h.rf hq
    exact absurd (blk_ty hG hc) (by decide)
  · subst e
    obtain ⟨cur, hc⟩ := own_blk h.rw hq
    exact absurd (blk_ty hG hc) (by decide)
/-- While a list is taken. -/
structure Tk (z : World) (N b g : Nat) (mk : Int) (vl vf vw : Value) (nl nf nw : Nat) (Ll Lf Lw : List Value) (w : World) : Prop where
  bb : Bb w N b vl vf vw nl nf nw Ll Lf Lw
  m8 : Mk8 w g mk
  on : Only (fun q => q = g) z w
theorem Tk.only {z w w' : World} {N b g : Nat} {mk : Int} {vl vf vw : Value} {nl nf nw : Nat} {Ll Lf Lw : List Value} {H : Nat} (h : Tk z N b g mk vl vf vw nl nf nw Ll Lf Lw w) (ho : Only (fun q => H ≤ q) w w') (hH : w.heap.size ≤ H) : Tk z N b g mk vl vf vw nl nf nw Ll Lf Lw w' := by
  have h1 := h.bb.blk.lt
  have h2 := h.m8.lt
  refine ⟨h.bb.only ho (by omega) (fun q hq e => ?_) (fun q hq e => ?_) (fun q hq e => ?_), h.m8.only ho (by omega), h.on.trans ho (fun k hk e => ?_)⟩
  · have := (h.bb.rl.lt q hq).2
    omega
  · have := (h.bb.rf.lt q hq).2
    omega
  · have := (h.bb.rw.lt q hq).2
    omega
  · have := h.on.size
    have e9 : H ≤ k := e
    omega
theorem Tk.low {z w w' : World} {N b g : Nat} {mk : Int} {vl vf vw : Value} {nl nf nw : Nat} {Ll Lf Lw : List Value} (h : Tk z N b g mk vl vf vw nl nf nw Ll Lf Lw w) (hb : Below w.heap.size w w') : Tk z N b g mk vl vf vw nl nf nw Ll Lf Lw w' :=
  h.only (H := w.heap.size) (Only.of_below hb) (Nat.le_refl _)
theorem own_low {w y : World} {B n : Nat} {T : TypeId} {v : Value} {L : List Value} (h : w.ownsRow B T 1 v n L) (hA : Below w.heap.size w y) : y.ownsRow B T 1 v n L := own_only h (Only.of_below (P := fun _ => False) hA) (fun _ _ q => q)
theorem own_step {w y x : World} {B n : Nat} {T : TypeId} {v : Value} {L : List Value} (h : w.ownsRow B T 1 v n L) (hA : Below w.heap.size w y) (hg : y.grownBy x none) : x.ownsRow B T 1 v n L := own_only (own_low h hA) (grown_only hg) (fun _ _ q => by cases q)
theorem row_ne {z : World} {N b B n : Nat} {vl vf vw v : Value} {nl nf nw : Nat} {Ll Lf Lw L : List Value} (h : Bb z N b vl vf vw nl nf nw Ll Lf Lw) (hx : z.ownsRow B 3 1 v n L) : ∀ q, v.ownBlock = some q → ¬ (q = b ∨ vl.ownBlock = some q) := fun q hq e => by
  obtain ⟨cur, hc⟩ := own_blk hx hq
  rcases e with e | e
  · subst e
    exact absurd (blk_ty hc h.blk) (by decide)
  · obtain ⟨cu2, hc2⟩ := own_blk h.rl e
    exact absurd (blk_ty hc hc2) (by decide)
theorem only_none {w w' : World} (h : w.grownBy w' none) (H : Nat) : Only (fun q => H ≤ q) w w' := (grown_only h).mono (fun _ _ e => by cases e)
set_option maxHeartbeats 2000000 in
theorem take13 {z : World} {N b : Nat} {vl vf vw : Value} {nl nf nw : Nat} {Ll Lf Lw : List Value} (h : Bb z N b vl vf vw nl nf nw Ll Lf Lw) (al : Option Addr) (cl : Nat) (hv : vl = .slice al nl cl) (hnl : nl ≤ 1000000) (g : Nat) (cur : Array Value) (hG : Blk z g cur 78) (hc : cur.size = 8) (mk : Int) (hmk : -1000 - ((nl / 4 : Nat) : Int) = mk) :
    Calls Tryd.prog 27 #[.pointer (some ⟨b, 0, none⟩), .slice (some ⟨g, 0, none⟩) 8 8] z fun e z' => e = .returned (.tuple #[]) ∧ ∃ gl cl' gx cx gy cy gu cu, Bb z' N b (.slice (some ⟨gl, 0, none⟩) (nl + 4) cl') vf vw (nl + 4) nf nw (Ll ++ [.slice (some ⟨g, 0, none⟩) 8 8, .slice (some ⟨gx, 0, none⟩) 9 cx, .slice (some ⟨gy, 0, none⟩) 10 cy, .slice (some ⟨gu, 0, none⟩) 72 cu]) Lf Lw ∧ Mk8 z' g mk ∧ z'.ownsRow z.heap.size 3 1 (.slice (some ⟨gx, 0, none⟩) 9 cx) 9 (List.replicate 9 (Value.int .i64 mk)) ∧ z'.ownsRow z.heap.size 3 1 (.slice (some ⟨gy, 0, none⟩) 10 cy) 10 (List.replicate 10 (Value.int .i64 mk)) ∧ z'.ownsRow z.heap.size 3 1 (.slice (some ⟨gu, 0, none⟩) 72 cu) 72 (List.replicate 72 (Value.int .i64 mk)) ∧ (vl.ownBlock = some gl ∨ z.heap.size ≤ gl) ∧ Only (fun q => q = b ∨ q = g ∨ vl.ownBlock = some q) z z' := by
  obtain ⟨i0, hi, hx0, hx1, hx2⟩ := info_parts info3
  have HIN := hide (And.intro hi (And.intro hx0 (And.intro hx1 hx2)))
  obtain ⟨j0, hj, hz0, hz1, hz2⟩ := info_parts info26
  have HJ := hide (And.intro hj (And.intro hz0 (And.intro hz1 hz2)))
  clear hi hx0 hx1 hx2 hj hz0 hz1 hz2
  have c0 : z.cell? ⟨b, 0, none⟩ = some (.slice al nl cl) := by rw [← hv]; exact h.blk.cell 0
  have e4 : (nl : Int).tdiv 4 = ((nl / 4 : Nat) : Int) := by
    rw [Int.tdiv_eq_ediv_of_nonneg (by omega)]
    omega
  obtain ⟨r, hr⟩ : ∃ r, nl / 4 = r := ⟨_, rfl⟩
  have hr9 : r ≤ nl := by omega
  rw [hr] at e4 hmk
  have w1 : IntKind.i64.wrap (r : Int) = (r : Int) := wrapI_eq _ (by omega) (by omega)
  have w2 : IntKind.i64.wrap (-1000 - (r : Int)) = -1000 - (r : Int) := wrapI_eq _ (by omega) (by omega)
  have HG := hide (And.intro hG hc)
  have HH := hide h
  have HV := hide hv
  clear hr hG hc h hv
  go_enter Tryd.func27, Tryd.ntmps27
  go_wp2
  go_loopw [5] (fun i wr => ∃ k : Nat, k ≤ 8 ∧ i = .int .i64 (k : Int) ∧ ∃ cu, Blk wr g cu 78 ∧ cu.size = 8 ∧ (∀ j, j < k → cu[j]? = some (.int .i64 mk)) ∧ Only (fun q => q = g) z wr) (fun i _ => 8 - (intOf i).toNat)
  case atStart => exact ⟨0, by omega, rfl, cur, (unhide HG).1, (unhide HG).2, fun j hj => absurd hj (by omega), Only.refl _ _⟩
  case round =>
    obtain ⟨k, hk, rfl, cu, hB, hcs, hall, hO⟩ := hrel
    clear c0 e4 w1 w2
    by_cases hlt : k < 8
    · have i1 : (k : Int) < 8 := by omega
      have i2 : 0 ≤ (k : Int) := by omega
      have ck : ∃ v, wr.cell? ⟨g, k, none⟩ = some v := by
        rw [hB.cell]
        exact ⟨_, Array.getElem?_eq_getElem (by omega)⟩
      obtain ⟨v0, ck⟩ := ck
      have fk : wr.frozen? ⟨g, k, none⟩ = false := hB.frozen k
      have HX := hide (And.intro (hB.set k (.int .i64 mk)) (And.intro hcs (And.intro hall (hO.setCell ⟨g, k, none⟩ (.int .i64 mk) (fun _ => rfl)))))
      clear hB hcs hall hO HG
      go_wp2
      go_roundw
      case rel =>
        obtain ⟨x1, x2, x3, x4⟩ := unhide HX
        refine ⟨k + 1, by omega, by go_num, _, x1, by simpa using x2, fun j hj => ?_, x4⟩
        by_cases e : j = k
        · subst e
          rw [Array.getElem?_setIfInBounds_self_of_lt (by omega)]
        · rw [Array.getElem?_setIfInBounds_ne (by omega)]
          exact x3 j (by omega)
      case measure => simp [intOf]; omega
    · have hk' : k = 8 := by omega
      subst hk'
      have i1 : ¬ ((8 : Int) < 8) := by omega
      obtain ⟨q1, q2, q3, q4⟩ := (unhide HH).ng (unhide HG).1
      have HT0 := hide (show Tk z N b g mk vl vf vw nl nf nw Ll Lf Lw wr from ⟨(unhide HH).only hO q1 (fun q hq => q2 q hq) (fun q hq => q3 q hq) (fun q hq => q4 q hq), ⟨cu, hB, hall⟩, hO⟩)
      clear hlt hB hcs hall hO q1 q2 q3 q4 HG HH
      simp only [Int.cast_ofNat_Int]
      have hA1 : Below wr.heap.size wr (wr.alloc (.cells #[.int .i64 mk] 3)) := (Below.refl _ _).alloc (Nat.le_refl _) _
      have HT1 := hide ((unhide HT0).low hA1)
      clear hA1
      go_wp2_with (refine wpList_append_grows _ rfl (.tmp 27) (.tmp 29) 26 rfl 3 i0 (.int .i64 0) 1 8 Tryd.underlying26 (unhide HIN).1 (unhide HIN).2.1 (unhide HIN).2.2.1 (unhide HIN).2.2.2 rfl (by decide) (some ⟨g, 0, none⟩) 8 8 (List.replicate 8 (Value.int .i64 mk)) rfl (fun e => by cases e) (by simp) (fun b9 e j u hu => by cases e; exact (unhide HT1).m8.olds j u hu) ⟨wr.heap.size, 0, none⟩ 1 1 [.int .i64 mk] rfl rfl (fun j u hu => news_all wr 3 [.int .i64 mk] j u hu) (by simp [Value.oneCell']) (by omega) (by unfold maxLen; omega) (by omega) ?_)
      intro vx x1 ho hg
      have ho9 : x1.ownsRow (wr.heap.size + 1) 3 1 vx 9 (List.replicate 9 (Value.int .i64 mk)) := ho
      obtain ⟨gx, cx, rfl, _, _⟩ := ho9.form (by omega)
      have HT2 := hide ((unhide HT1).only (only_none hg _) (Nat.le_refl _))
      have HRx1 := hide (own_base ho9 (by have h9 := (unhide HT1).on.size; rw [World.size_alloc] at h9; exact h9))
      have HZx1 := hide (show z.heap.size ≤ wr.heap.size + 1 from by have h9 := (unhide HT1).on.size; rw [World.size_alloc] at h9; exact h9)
      have hA9 : Below wr.heap.size wr (wr.alloc (.cells #[.int .i64 mk] 3)) := (Below.refl _ _).alloc (Nat.le_refl _) _
      clear ho hg ho9 hA9 HT0 HT1
      have hA3 : Below x1.heap.size x1 (x1.alloc (.cells #[.int .i64 mk, .int .i64 mk] 3)) := (Below.refl _ _).alloc (Nat.le_refl _) _
      have HT3 := hide ((unhide HT2).low hA3)
      clear hA3
      go_wp2_with (refine wpList_append_grows _ rfl (.tmp 31) (.tmp 34) 26 rfl 3 i0 (.int .i64 0) 1 8 Tryd.underlying26 (unhide HIN).1 (unhide HIN).2.1 (unhide HIN).2.2.1 (unhide HIN).2.2.2 rfl (by decide) (some ⟨g, 0, none⟩) 8 8 (List.replicate 8 (Value.int .i64 mk)) rfl (fun e => by cases e) (by simp) (fun b9 e j u hu => by cases e; exact (unhide HT3).m8.olds j u hu) ⟨x1.heap.size, 0, none⟩ 2 2 [.int .i64 mk, .int .i64 mk] rfl rfl (fun j u hu => news_all x1 3 [.int .i64 mk, .int .i64 mk] j u hu) (by simp [Value.oneCell']) (by omega) (by unfold maxLen; omega) (by omega) ?_)
      intro vy x2 ho hg
      have ho9 : x2.ownsRow (x1.heap.size + 1) 3 1 vy 10 (List.replicate 10 (Value.int .i64 mk)) := ho
      obtain ⟨gy, cy, rfl, _, _⟩ := ho9.form (by omega)
      have HT4 := hide ((unhide HT3).only (only_none hg _) (Nat.le_refl _))
      have HRx2 := hide (own_base ho9 (by have h9 := (unhide HT3).on.size; rw [World.size_alloc] at h9; exact h9))
      have HZx2 := hide (show z.heap.size ≤ x1.heap.size + 1 from by have h9 := (unhide HT3).on.size; rw [World.size_alloc] at h9; exact h9)
      have hA9 : Below x1.heap.size x1 (x1.alloc (.cells #[.int .i64 mk, .int .i64 mk] 3)) := (Below.refl _ _).alloc (Nat.le_refl _) _
      have HRx2a := hide (own_step (unhide HRx1) hA9 hg)
      clear ho hg ho9 hA9 HT2 HT3
      have hA5 : Below x2.heap.size x2 (x2.alloc (.cells #[.int .i64 mk, .int .i64 mk, .int .i64 mk] 3)) := (Below.refl _ _).alloc (Nat.le_refl _) _
      have HT5 := hide ((unhide HT4).low hA5)
      clear hA5
      go_wp2_with (refine wpList_append_grows _ rfl (.tmp 36) (.tmp 40) 26 rfl 3 i0 (.int .i64 0) 1 8 Tryd.underlying26 (unhide HIN).1 (unhide HIN).2.1 (unhide HIN).2.2.1 (unhide HIN).2.2.2 rfl (by decide) (some ⟨g, 0, none⟩) 8 8 (List.replicate 8 (Value.int .i64 mk)) rfl (fun e => by cases e) (by simp) (fun b9 e j u hu => by cases e; exact (unhide HT5).m8.olds j u hu) ⟨x2.heap.size, 0, none⟩ 3 3 [.int .i64 mk, .int .i64 mk, .int .i64 mk] rfl rfl (fun j u hu => news_all x2 3 [.int .i64 mk, .int .i64 mk, .int .i64 mk] j u hu) (by simp [Value.oneCell']) (by omega) (by unfold maxLen; omega) (by omega) ?_)
      intro vz x3 ho hg
      have ho9 : x3.ownsRow (x2.heap.size + 1) 3 1 vz 11 (List.replicate 11 (Value.int .i64 mk)) := ho
      obtain ⟨gz, cz, rfl, _, _⟩ := ho9.form (by omega)
      have HT6 := hide ((unhide HT5).only (only_none hg _) (Nat.le_refl _))
      have HRx3 := hide (own_base ho9 (by have h9 := (unhide HT5).on.size; rw [World.size_alloc] at h9; exact h9))
      have HZx3 := hide (show z.heap.size ≤ x2.heap.size + 1 from by have h9 := (unhide HT5).on.size; rw [World.size_alloc] at h9; exact h9)
      have hA9 : Below x2.heap.size x2 (x2.alloc (.cells #[.int .i64 mk, .int .i64 mk, .int .i64 mk] 3)) := (Below.refl _ _).alloc (Nat.le_refl _) _
      have h3s : (x2.alloc (.cells #[.int .i64 mk, .int .i64 mk, .int .i64 mk] 3)).heap.size = x2.heap.size + 1 := World.size_alloc _ _
      obtain ⟨H, hH⟩ : ∃ H, x2.heap.size + 1 = H := ⟨_, rfl⟩
      rw [hH] at h3s
      have HZH := hide (show z.heap.size ≤ H from by rw [← hH]; exact unhide HZx3)
      have HXx := hide (own_low (unhide HRx2a) hA9)
      have HXy := hide (own_low (unhide HRx2) hA9)
      have HTA := hide (unhide HT5)
      have HON := hide (only_none hg H)
      have HRz := hide (show x3.ownsRow H 3 1 (.slice (some ⟨gz, 0, none⟩) 11 cz) 11 (List.replicate 11 (Value.int .i64 mk)) from by rw [← hH]; exact ho9)
      obtain ⟨xA, hxA⟩ : ∃ X, x2.alloc (.cells #[.int .i64 mk, .int .i64 mk, .int .i64 mk] 3) = X := ⟨_, rfl⟩
      rw [hxA] at h3s HXx HXy HTA HON
      clear ho hg ho9 hA9 HT4 HT5 HT6 HRx1 HRx2 HRx2a HRx3 hH hxA
      go_wp2
      go_loopw [8, 9] (fun u i wr => ∃ k : Nat, k ≤ 61 ∧ i = .int .i64 (k : Int) ∧ wr.ownsRow H 3 1 u (11 + k) (List.replicate (11 + k) (Value.int .i64 mk)) ∧ Only (fun q => H ≤ q) xA wr) (fun _ i _ => 61 - (intOf i).toNat)
      case atStart => exact ⟨0, by omega, rfl, unhide HRz, unhide HON⟩
      case round =>
        obtain ⟨k, hk, rfl, hR, hO⟩ := hrel
        obtain ⟨gu, cu, rfl, _, _⟩ := hR.form (by omega)
        have hsz : H ≤ wr.heap.size := by have := hO.size; omega
        by_cases hlt : k < 61
        · have i1 : (k : Int) < 61 := by omega
          have hA : Below wr.heap.size wr (wr.alloc (.cells #[.int .i64 mk] 3)) := (Below.refl _ _).alloc (Nat.le_refl _) _
          have HRA := hide (own_low hR hA)
          have HOA := hide (hO.trans (Only.of_below (P := fun _ => False) hA) (fun _ _ e => e.elim))
          have HLE := hide (show H ≤ (wr.alloc (.cells #[.int .i64 mk] 3)).heap.size from by rw [World.size_alloc]; omega)
          clear hR hO hA HRz HON
          go_wp2_with (refine wpList_append_lies _ rfl (.tmp 46) (.tmp 48) 26 rfl H 3 i0 (.int .i64 0) 1 8 Tryd.underlying26 (unhide HIN).1 (unhide HIN).2.1 (unhide HIN).2.2.1 (unhide HIN).2.2.2 rfl (by decide) _ (11 + k) (List.replicate (11 + k) (Value.int .i64 mk)) rfl (unhide HRA) ⟨wr.heap.size, 0, none⟩ 1 1 [.int .i64 mk] rfl rfl (fun q u hu => news_one wr 3 _ q u hu) (by simp [Value.oneCell']) (by omega) (by unfold maxLen; omega) (by omega) (unhide HLE) _ rfl ?_)
          intro g1 cap1 y3 ho3 hg3 hor hlt3
          have HR3 := hide (show y3.ownsRow H 3 1 (.slice (some ⟨g1, 0, none⟩) (11 + k + 1) cap1) (11 + (k + 1)) (List.replicate (11 + (k + 1)) (Value.int .i64 mk)) from by
            rw [show 11 + (k + 1) = 11 + k + 1 by omega, List.replicate_succ']
            exact ho3)
          have HO3 := hide ((unhide HOA).trans (grown_only hg3) (fun q _ e => ((unhide HRA).lt q e).1))
          clear ho3 hg3 hor hlt3 HRA HOA HLE
          go_wp2
          go_roundw
          case rel => exact ⟨k + 1, by omega, by go_num, unhide HR3, unhide HO3⟩
          case measure => simp [intOf]; omega
        · have hk' : k = 61 := by omega
          subst hk'
          simp only [Nat.reduceAdd] at hR ⊢
          have hT := (unhide HTA).only hO (by omega)
          have hXx := own_only (unhide HXx) hO (fun q hq e => by have h9 := ((unhide HXx).lt q hq).2; have e9 : H ≤ q := e; omega)
          have hXy := own_only (unhide HXy) hO (fun q hq e => by have h9 := ((unhide HXy).lt q hq).2; have e9 : H ≤ q := e; omega)
          have hA : Below wr.heap.size wr (wr.alloc (.cells #[.slice (some ⟨g, 0, none⟩) 8 8, .slice (some ⟨gx, 0, none⟩) 9 cx, .slice (some ⟨gy, 0, none⟩) 10 cy, .slice (some ⟨gu, 0, none⟩) 72 cu] 26)) := (Below.refl _ _).alloc (Nat.le_refl _) _
          have HTB := hide (hT.low hA)
          have HX3 := hide (And.intro (own_low hXx hA) (And.intro (own_low hXy hA) (own_base (own_low hR hA) (unhide HZH))))
          have HLE := hide (show N ≤ (wr.alloc (.cells #[.slice (some ⟨g, 0, none⟩) 8 8, .slice (some ⟨gx, 0, none⟩) 9 cx, .slice (some ⟨gy, 0, none⟩) 10 cy, .slice (some ⟨gu, 0, none⟩) 72 cu] 26)).heap.size from by rw [World.size_alloc]; have := hT.bb.hN; omega)
          have c0 : wr.cell? ⟨b, 0, none⟩ = some vl := hT.bb.blk.cell 0
          have i1 : ¬ ((61 : Int) < 61) := by omega
          clear hR hO hT hXx hXy hA HTA HXx HXy HRz HON hlt hk h3s hsz
          go_wp2_with (refine wpList_append_lies _ rfl (.tmp 54) (.tmp 59) 54 rfl N 26 j0 (.slice none 0 0) 1 24 Tryd.underlying54 (unhide HJ).1 (unhide HJ).2.1 (unhide HJ).2.2.1 (unhide HJ).2.2.2 rfl (by decide) _ nl Ll rfl (unhide HTB).bb.rl ⟨wr.heap.size, 0, none⟩ 4 4 [.slice (some ⟨g, 0, none⟩) 8 8, .slice (some ⟨gx, 0, none⟩) 9 cx, .slice (some ⟨gy, 0, none⟩) 10 cy, .slice (some ⟨gu, 0, none⟩) 72 cu] rfl rfl (fun q u hu => news_all wr 26 [.slice (some ⟨g, 0, none⟩) 8 8, .slice (some ⟨gx, 0, none⟩) 9 cx, .slice (some ⟨gy, 0, none⟩) 10 cy, .slice (some ⟨gu, 0, none⟩) 72 cu] q u hu) (by simp [Value.oneCell']) (by omega) (by unfold maxLen; omega) (by omega) (unhide HLE) _ rfl ?_)
          intro gl cl2 y6 ho6 hg6 hor6 hlt6
          obtain ⟨hb6, hB7, hO7⟩ := (unhide HTB).bb.putL ho6 hg6 (by rw [World.size_alloc]; exact hor6)
          have c6 : y6.cell? ⟨b, 0, none⟩ = some vl := hb6.cell 0
          have f6 : y6.frozen? ⟨b, 0, none⟩ = false := hb6.frozen 0
          obtain ⟨cu9, hg9, _⟩ := (unhide HTB).m8
          obtain ⟨q1, q2, _, _⟩ := (unhide HTB).bb.ng hg9
          have hz9 := (unhide HTB).on.size
          rw [World.size_alloc] at hz9
          have HM7 := hide ((unhide HTB).m8.only hO7 (fun e => e.elim (fun e => q1 e.symm) (fun e => q2 g e rfl)))
          have HX7 := hide (And.intro (own_only (unhide HX3).1 hO7 (row_ne (unhide HTB).bb (unhide HX3).1)) (And.intro (own_only (unhide HX3).2.1 hO7 (row_ne (unhide HTB).bb (unhide HX3).2.1)) (own_only (unhide HX3).2.2 hO7 (row_ne (unhide HTB).bb (unhide HX3).2.2))))
          have HB7 := hide hB7
          have HOL := hide (old_or (w := z) hor6 hz9)
          have HO7 := hide (((unhide HTB).on.mono (fun q _ e => show q = b ∨ q = g ∨ vl.ownBlock = some q from .inr (.inl e))).trans hO7 (fun q _ e => e.elim .inl (fun e => .inr (.inr e))))
          clear ho6 hg6 hor6 hlt6 hb6 hB7 hO7 hg9 q1 q2 hz9 HTB HX3 HLE c0
          go_wp2
          go_end0
          exact ⟨rfl, gl, cl2, gx, cx, gy, cy, gu, cu, unhide HB7, unhide HM7, (unhide HX7).1, (unhide HX7).2.1, (unhide HX7).2.2, unhide HOL, unhide HO7⟩
end Go.Proofs.YtabgcgdpeikieaaDoor
namespace Go.Proofs.YtabgcgdpeikieaaDoor
open Go.RowKit Go.Conc
set_option maxRecDepth 100000
/-- While nil is taken. -/
structure TkN (z : World) (N b : Nat) (vl vf vw : Value) (nl nf nw : Nat) (Ll Lf Lw : List Value) (w : World) : Prop where
  bb : Bb w N b vl vf vw nl nf nw Ll Lf Lw
  on : Only (fun _ => False) z w
theorem TkN.only {z w w' : World} {N b : Nat} {vl vf vw : Value} {nl nf nw : Nat} {Ll Lf Lw : List Value} {H : Nat} (h : TkN z N b vl vf vw nl nf nw Ll Lf Lw w) (ho : Only (fun q => H ≤ q) w w') (hH : w.heap.size ≤ H) : TkN z N b vl vf vw nl nf nw Ll Lf Lw w' := by
  have h1 := h.bb.blk.lt
  refine ⟨h.bb.only ho (by omega) (fun q hq e => ?_) (fun q hq e => ?_) (fun q hq e => ?_), h.on.trans ho (fun k hk e => ?_)⟩
  · have := (h.bb.rl.lt q hq).2
    omega
  · have := (h.bb.rf.lt q hq).2
    omega
  · have := (h.bb.rw.lt q hq).2
    omega
  · have := h.on.size
    have e9 : H ≤ k := e
    omega
theorem TkN.low {z w w' : World} {N b : Nat} {vl vf vw : Value} {nl nf nw : Nat} {Ll Lf Lw : List Value} (h : TkN z N b vl vf vw nl nf nw Ll Lf Lw w) (hb : Below w.heap.size w w') : TkN z N b vl vf vw nl nf nw Ll Lf Lw w' :=
  h.only (H := w.heap.size) (Only.of_below hb) (Nat.le_refl _)
set_option maxHeartbeats 2000000 in
theorem takeN13 {z : World} {N b : Nat} {vl vf vw : Value} {nl nf nw : Nat} {Ll Lf Lw : List Value} (h : Bb z N b vl vf vw nl nf nw Ll Lf Lw) (al : Option Addr) (cl : Nat) (hv : vl = .slice al nl cl) (hnl : nl ≤ 1000000) (mk : Int) (hmk : -1000 - ((nl / 4 : Nat) : Int) = mk) :
    Calls Tryd.prog 27 #[.pointer (some ⟨b, 0, none⟩), .slice none 0 0] z fun e z' => e = .returned (.tuple #[]) ∧ ∃ gl cl' gx cx gy cy gu cu, Bb z' N b (.slice (some ⟨gl, 0, none⟩) (nl + 4) cl') vf vw (nl + 4) nf nw (Ll ++ [.slice none 0 0, .slice (some ⟨gx, 0, none⟩) 1 cx, .slice (some ⟨gy, 0, none⟩) 2 cy, .slice (some ⟨gu, 0, none⟩) 64 cu]) Lf Lw ∧ z'.ownsRow z.heap.size 3 1 (.slice (some ⟨gx, 0, none⟩) 1 cx) 1 (List.replicate 1 (Value.int .i64 mk)) ∧ z'.ownsRow z.heap.size 3 1 (.slice (some ⟨gy, 0, none⟩) 2 cy) 2 (List.replicate 2 (Value.int .i64 mk)) ∧ z'.ownsRow z.heap.size 3 1 (.slice (some ⟨gu, 0, none⟩) 64 cu) 64 (List.replicate 64 (Value.int .i64 mk)) ∧ (vl.ownBlock = some gl ∨ z.heap.size ≤ gl) ∧ Only (fun q => q = b ∨ vl.ownBlock = some q) z z' := by
  obtain ⟨i0, hi, hx0, hx1, hx2⟩ := info_parts info3
  have HIN := hide (And.intro hi (And.intro hx0 (And.intro hx1 hx2)))
  obtain ⟨j0, hj, hz0, hz1, hz2⟩ := info_parts info26
  have HJ := hide (And.intro hj (And.intro hz0 (And.intro hz1 hz2)))
  clear hi hx0 hx1 hx2 hj hz0 hz1 hz2
  have c0 : z.cell? ⟨b, 0, none⟩ = some (.slice al nl cl) := by rw [← hv]; exact h.blk.cell 0
  have e4 : (nl : Int).tdiv 4 = ((nl / 4 : Nat) : Int) := by
    rw [Int.tdiv_eq_ediv_of_nonneg (by omega)]
    omega
  obtain ⟨r, hr⟩ : ∃ r, nl / 4 = r := ⟨_, rfl⟩
  have hr9 : r ≤ nl := by omega
  rw [hr] at e4 hmk
  have w1 : IntKind.i64.wrap (r : Int) = (r : Int) := wrapI_eq _ (by omega) (by omega)
  have w2 : IntKind.i64.wrap (-1000 - (r : Int)) = -1000 - (r : Int) := wrapI_eq _ (by omega) (by omega)
  have HH := hide h
  have HV := hide hv
  clear hr h hv
  go_enter Tryd.func27, Tryd.ntmps27
  go_wp2
  go_loopw [5] (fun i wr => i = .int .i64 0 ∧ wr = z) (fun _ _ => 0)
  case atStart => exact ⟨rfl, rfl⟩
  case round =>
    obtain ⟨rfl, rfl⟩ := hrel
    skip
    · clear c0 e4 w1 w2
      obtain ⟨z, hzz⟩ : ∃ z', z' = wr := ⟨_, rfl⟩
      have HT0 := hide (show TkN z N b vl vf vw nl nf nw Ll Lf Lw wr from by rw [hzz]; exact ⟨unhide HH, Only.refl _ _⟩)
      have HZZ := hide hzz
      clear HH hzz
      have hA1 : Below wr.heap.size wr (wr.alloc (.cells #[.int .i64 mk] 3)) := (Below.refl _ _).alloc (Nat.le_refl _) _
      have HT1 := hide ((unhide HT0).low hA1)
      clear hA1
      go_wp2_with (refine wpList_append_grows _ rfl (.tmp 27) (.tmp 29) 26 rfl 3 i0 (.int .i64 0) 1 8 Tryd.underlying26 (unhide HIN).1 (unhide HIN).2.1 (unhide HIN).2.2.1 (unhide HIN).2.2.2 rfl (by decide) none 0 0 [] rfl (fun _ => ⟨rfl, rfl⟩) (by simp) (fun b9 e => by cases e) ⟨wr.heap.size, 0, none⟩ 1 1 [.int .i64 mk] rfl rfl (fun j u hu => news_all wr 3 [.int .i64 mk] j u hu) (by simp [Value.oneCell']) (by omega) (by unfold maxLen; omega) (by omega) ?_)
      intro vx x1 ho hg
      have ho9 : x1.ownsRow (wr.heap.size + 1) 3 1 vx 1 (List.replicate 1 (Value.int .i64 mk)) := ho
      obtain ⟨gx, cx, rfl, _, _⟩ := ho9.form (by omega)
      have HT2 := hide ((unhide HT1).only (only_none hg _) (Nat.le_refl _))
      have HRx1 := hide (own_base ho9 (by have h9 := (unhide HT1).on.size; rw [World.size_alloc] at h9; exact h9))
      have HZx1 := hide (show z.heap.size ≤ wr.heap.size + 1 from by have h9 := (unhide HT1).on.size; rw [World.size_alloc] at h9; exact h9)
      have hA9 : Below wr.heap.size wr (wr.alloc (.cells #[.int .i64 mk] 3)) := (Below.refl _ _).alloc (Nat.le_refl _) _
      clear ho hg ho9 hA9 HT0 HT1
      have hA3 : Below x1.heap.size x1 (x1.alloc (.cells #[.int .i64 mk, .int .i64 mk] 3)) := (Below.refl _ _).alloc (Nat.le_refl _) _
      have HT3 := hide ((unhide HT2).low hA3)
      clear hA3
      go_wp2_with (refine wpList_append_grows _ rfl (.tmp 31) (.tmp 34) 26 rfl 3 i0 (.int .i64 0) 1 8 Tryd.underlying26 (unhide HIN).1 (unhide HIN).2.1 (unhide HIN).2.2.1 (unhide HIN).2.2.2 rfl (by decide) none 0 0 [] rfl (fun _ => ⟨rfl, rfl⟩) (by simp) (fun b9 e => by cases e) ⟨x1.heap.size, 0, none⟩ 2 2 [.int .i64 mk, .int .i64 mk] rfl rfl (fun j u hu => news_all x1 3 [.int .i64 mk, .int .i64 mk] j u hu) (by simp [Value.oneCell']) (by omega) (by unfold maxLen; omega) (by omega) ?_)
      intro vy x2 ho hg
      have ho9 : x2.ownsRow (x1.heap.size + 1) 3 1 vy 2 (List.replicate 2 (Value.int .i64 mk)) := ho
      obtain ⟨gy, cy, rfl, _, _⟩ := ho9.form (by omega)
      have HT4 := hide ((unhide HT3).only (only_none hg _) (Nat.le_refl _))
      have HRx2 := hide (own_base ho9 (by have h9 := (unhide HT3).on.size; rw [World.size_alloc] at h9; exact h9))
      have HZx2 := hide (show z.heap.size ≤ x1.heap.size + 1 from by have h9 := (unhide HT3).on.size; rw [World.size_alloc] at h9; exact h9)
      have hA9 : Below x1.heap.size x1 (x1.alloc (.cells #[.int .i64 mk, .int .i64 mk] 3)) := (Below.refl _ _).alloc (Nat.le_refl _) _
      have HRx2a := hide (own_step (unhide HRx1) hA9 hg)
      clear ho hg ho9 hA9 HT2 HT3
      have hA5 : Below x2.heap.size x2 (x2.alloc (.cells #[.int .i64 mk, .int .i64 mk, .int .i64 mk] 3)) := (Below.refl _ _).alloc (Nat.le_refl _) _
      have HT5 := hide ((unhide HT4).low hA5)
      clear hA5
      go_wp2_with (refine wpList_append_grows _ rfl (.tmp 36) (.tmp 40) 26 rfl 3 i0 (.int .i64 0) 1 8 Tryd.underlying26 (unhide HIN).1 (unhide HIN).2.1 (unhide HIN).2.2.1 (unhide HIN).2.2.2 rfl (by decide) none 0 0 [] rfl (fun _ => ⟨rfl, rfl⟩) (by simp) (fun b9 e => by cases e) ⟨x2.heap.size, 0, none⟩ 3 3 [.int .i64 mk, .int .i64 mk, .int .i64 mk] rfl rfl (fun j u hu => news_all x2 3 [.int .i64 mk, .int .i64 mk, .int .i64 mk] j u hu) (by simp [Value.oneCell']) (by omega) (by unfold maxLen; omega) (by omega) ?_)
      intro vz x3 ho hg
      have ho9 : x3.ownsRow (x2.heap.size + 1) 3 1 vz 3 (List.replicate 3 (Value.int .i64 mk)) := ho
      obtain ⟨gz, cz, rfl, _, _⟩ := ho9.form (by omega)
      have HT6 := hide ((unhide HT5).only (only_none hg _) (Nat.le_refl _))
      have HRx3 := hide (own_base ho9 (by have h9 := (unhide HT5).on.size; rw [World.size_alloc] at h9; exact h9))
      have HZx3 := hide (show z.heap.size ≤ x2.heap.size + 1 from by have h9 := (unhide HT5).on.size; rw [World.size_alloc] at h9; exact h9)
      have hA9 : Below x2.heap.size x2 (x2.alloc (.cells #[.int .i64 mk, .int .i64 mk, .int .i64 mk] 3)) := (Below.refl _ _).alloc (Nat.le_refl _) _
      have h3s : (x2.alloc (.cells #[.int .i64 mk, .int .i64 mk, .int .i64 mk] 3)).heap.size = x2.heap.size + 1 := World.size_alloc _ _
      obtain ⟨H, hH⟩ : ∃ H, x2.heap.size + 1 = H := ⟨_, rfl⟩
      rw [hH] at h3s
      have HZH := hide (show z.heap.size ≤ H from by rw [← hH]; exact unhide HZx3)
      have HXx := hide (own_low (unhide HRx2a) hA9)
      have HXy := hide (own_low (unhide HRx2) hA9)
      have HTA := hide (unhide HT5)
      have HON := hide (only_none hg H)
      have HRz := hide (show x3.ownsRow H 3 1 (.slice (some ⟨gz, 0, none⟩) 3 cz) 3 (List.replicate 3 (Value.int .i64 mk)) from by rw [← hH]; exact ho9)
      obtain ⟨xA, hxA⟩ : ∃ X, x2.alloc (.cells #[.int .i64 mk, .int .i64 mk, .int .i64 mk] 3) = X := ⟨_, rfl⟩
      rw [hxA] at h3s HXx HXy HTA HON
      clear ho hg ho9 hA9 HT4 HT5 HT6 HRx1 HRx2 HRx2a HRx3 hH hxA
      go_wp2
      go_loopw [8, 9] (fun u i wr => ∃ k : Nat, k ≤ 61 ∧ i = .int .i64 (k : Int) ∧ wr.ownsRow H 3 1 u (3 + k) (List.replicate (3 + k) (Value.int .i64 mk)) ∧ Only (fun q => H ≤ q) xA wr) (fun _ i _ => 61 - (intOf i).toNat)
      case atStart => exact ⟨0, by omega, rfl, unhide HRz, unhide HON⟩
      case round =>
        obtain ⟨k, hk, rfl, hR, hO⟩ := hrel
        obtain ⟨gu, cu, rfl, _, _⟩ := hR.form (by omega)
        have hsz : H ≤ wr.heap.size := by have := hO.size; omega
        by_cases hlt : k < 61
        · have i1 : (k : Int) < 61 := by omega
          have hA : Below wr.heap.size wr (wr.alloc (.cells #[.int .i64 mk] 3)) := (Below.refl _ _).alloc (Nat.le_refl _) _
          have HRA := hide (own_low hR hA)
          have HOA := hide (hO.trans (Only.of_below (P := fun _ => False) hA) (fun _ _ e => e.elim))
          have HLE := hide (show H ≤ (wr.alloc (.cells #[.int .i64 mk] 3)).heap.size from by rw [World.size_alloc]; omega)
          clear hR hO hA HRz HON
          go_wp2_with (refine wpList_append_lies _ rfl (.tmp 46) (.tmp 48) 26 rfl H 3 i0 (.int .i64 0) 1 8 Tryd.underlying26 (unhide HIN).1 (unhide HIN).2.1 (unhide HIN).2.2.1 (unhide HIN).2.2.2 rfl (by decide) _ (3 + k) (List.replicate (3 + k) (Value.int .i64 mk)) rfl (unhide HRA) ⟨wr.heap.size, 0, none⟩ 1 1 [.int .i64 mk] rfl rfl (fun q u hu => news_one wr 3 _ q u hu) (by simp [Value.oneCell']) (by omega) (by unfold maxLen; omega) (by omega) (unhide HLE) _ rfl ?_)
          intro g1 cap1 y3 ho3 hg3 hor hlt3
          have HR3 := hide (show y3.ownsRow H 3 1 (.slice (some ⟨g1, 0, none⟩) (3 + k + 1) cap1) (3 + (k + 1)) (List.replicate (3 + (k + 1)) (Value.int .i64 mk)) from by
            rw [show 3 + (k + 1) = 3 + k + 1 by omega, List.replicate_succ']
            exact ho3)
          have HO3 := hide ((unhide HOA).trans (grown_only hg3) (fun q _ e => ((unhide HRA).lt q e).1))
          clear ho3 hg3 hor hlt3 HRA HOA HLE
          go_wp2
          go_roundw
          case rel => exact ⟨k + 1, by omega, by go_num, unhide HR3, unhide HO3⟩
          case measure => simp [intOf]; omega
        · have hk' : k = 61 := by omega
          subst hk'
          simp only [Nat.reduceAdd] at hR ⊢
          have hT := (unhide HTA).only hO (by omega)
          have hXx := own_only (unhide HXx) hO (fun q hq e => by have h9 := ((unhide HXx).lt q hq).2; have e9 : H ≤ q := e; omega)
          have hXy := own_only (unhide HXy) hO (fun q hq e => by have h9 := ((unhide HXy).lt q hq).2; have e9 : H ≤ q := e; omega)
          have hA : Below wr.heap.size wr (wr.alloc (.cells #[.slice none 0 0, .slice (some ⟨gx, 0, none⟩) 1 cx, .slice (some ⟨gy, 0, none⟩) 2 cy, .slice (some ⟨gu, 0, none⟩) 64 cu] 26)) := (Below.refl _ _).alloc (Nat.le_refl _) _
          have HTB := hide (hT.low hA)
          have HX3 := hide (And.intro (own_low hXx hA) (And.intro (own_low hXy hA) (own_base (own_low hR hA) (unhide HZH))))
          have HLE := hide (show N ≤ (wr.alloc (.cells #[.slice none 0 0, .slice (some ⟨gx, 0, none⟩) 1 cx, .slice (some ⟨gy, 0, none⟩) 2 cy, .slice (some ⟨gu, 0, none⟩) 64 cu] 26)).heap.size from by rw [World.size_alloc]; have := hT.bb.hN; omega)
          have c0 : wr.cell? ⟨b, 0, none⟩ = some vl := hT.bb.blk.cell 0
          have i1 : ¬ ((61 : Int) < 61) := by omega
          clear hR hO hT hXx hXy hA HTA HXx HXy HRz HON hlt hk h3s hsz
          go_wp2_with (refine wpList_append_lies _ rfl (.tmp 54) (.tmp 59) 54 rfl N 26 j0 (.slice none 0 0) 1 24 Tryd.underlying54 (unhide HJ).1 (unhide HJ).2.1 (unhide HJ).2.2.1 (unhide HJ).2.2.2 rfl (by decide) _ nl Ll rfl (unhide HTB).bb.rl ⟨wr.heap.size, 0, none⟩ 4 4 [.slice none 0 0, .slice (some ⟨gx, 0, none⟩) 1 cx, .slice (some ⟨gy, 0, none⟩) 2 cy, .slice (some ⟨gu, 0, none⟩) 64 cu] rfl rfl (fun q u hu => news_all wr 26 [.slice none 0 0, .slice (some ⟨gx, 0, none⟩) 1 cx, .slice (some ⟨gy, 0, none⟩) 2 cy, .slice (some ⟨gu, 0, none⟩) 64 cu] q u hu) (by simp [Value.oneCell']) (by omega) (by unfold maxLen; omega) (by omega) (unhide HLE) _ rfl ?_)
          intro gl cl2 y6 ho6 hg6 hor6 hlt6
          obtain ⟨hb6, hB7, hO7⟩ := (unhide HTB).bb.putL ho6 hg6 (by rw [World.size_alloc]; exact hor6)
          have c6 : y6.cell? ⟨b, 0, none⟩ = some vl := hb6.cell 0
          have f6 : y6.frozen? ⟨b, 0, none⟩ = false := hb6.frozen 0
          have hz9 := (unhide HTB).on.size
          rw [World.size_alloc] at hz9
          have HX7 := hide (And.intro (own_only (unhide HX3).1 hO7 (row_ne (unhide HTB).bb (unhide HX3).1)) (And.intro (own_only (unhide HX3).2.1 hO7 (row_ne (unhide HTB).bb (unhide HX3).2.1)) (own_only (unhide HX3).2.2 hO7 (row_ne (unhide HTB).bb (unhide HX3).2.2))))
          have HB7 := hide hB7
          have HOL := hide (old_or (w := z) hor6 hz9)
          have HO7 := hide (((unhide HTB).on.mono (fun q _ e => show q = b ∨ vl.ownBlock = some q from e.elim)).trans hO7 (fun q _ e => e))
          clear ho6 hg6 hor6 hlt6 hb6 hB7 hO7 hz9 HTB HX3 HLE c0
          go_wp2
          go_end0
          rw [← unhide HZZ]
          exact ⟨rfl, gl, cl2, gx, cx, gy, cy, gu, cu, unhide HB7, (unhide HX7).1, (unhide HX7).2.1, (unhide HX7).2.2, unhide HOL, unhide HO7⟩
end Go.Proofs.YtabgcgdpeikieaaDoor
namespace Go.Proofs.YtabgcgdpeikieaaDoor
open Go.RowKit Go.Conc
set_option maxRecDepth 100000
/-- A list that was kept: nil, or a block of eight whose first ones bear a mark. -/
def Mkd (w : World) (v : Value) (mk : Int) (k : Nat) : Prop := v = .slice none 0 0 ∨ ∃ g cu, v = .slice (some ⟨g, 0, none⟩) 8 8 ∧ Blk w g cu 78 ∧ cu.size = 8 ∧ ∀ j, j < k → cu[j]? = some (.int .i64 mk)
/-- A list that is grown: a block of eight full of its mark, or a row of its own. -/
def Gro (w : World) (M : Nat) (v : Value) (mk : Int) (B : Nat) : Prop := (∃ g, v = .slice (some ⟨g, 0, none⟩) 8 8 ∧ Mk8 w g mk) ∨ ∃ n, n ≤ B ∧ w.ownsRow M 3 1 v n (List.replicate n (Value.int .i64 mk))
/-- Lists of a row that have no block in common. -/
def Apt13 (L : List Value) : Prop := ∀ (i j : Nat) (v u : Value), i ≠ j → L[i]? = some v → L[j]? = some u → ∀ q, v.ownBlock = some q → u.ownBlock ≠ some q
theorem slc_blk {g o n c q : Nat} (h : (Value.slice (some ⟨g, o, none⟩) n c).ownBlock = some q) : g = q := by simpa [Value.ownBlock] using h
theorem Mkd.only {w w' : World} {v : Value} {mk : Int} {k : Nat} {P : Nat → Prop} (h : Mkd w v mk k) (ho : Only P w w') (hp : ∀ q, v.ownBlock = some q → ¬ P q) : Mkd w' v mk k := by
  rcases h with h | ⟨g, cu, rfl, h1, h2, h3⟩
  · exact .inl h
  · exact .inr ⟨g, cu, rfl, h1.only ho (hp g rfl), h2, h3⟩
theorem Mkd.lt {w : World} {v : Value} {mk : Int} {k : Nat} (h : Mkd w v mk k) : ∀ q, v.ownBlock = some q → q < w.heap.size := fun q hq => by
  rcases h with h | ⟨g, cu, rfl, h1, h2, h3⟩
  · subst h
    cases hq
  · have e := slc_blk hq
    subst e
    exact h1.lt
theorem Mkd.mark {w : World} {v : Value} {mk mk' : Int} (h : Mkd w v mk 0) : Mkd w v mk' 0 := by
  rcases h with h | ⟨g, cu, rfl, h1, h2, h3⟩
  · exact .inl h
  · exact .inr ⟨g, cu, rfl, h1, h2, fun j hj => absurd hj (by omega)⟩
theorem Mkd.ty {w : World} {v : Value} {mk : Int} {k : Nat} (h : Mkd w v mk k) {q : Nat} (hq : v.ownBlock = some q) : ∃ cu, Blk w q cu 78 := by
  rcases h with h | ⟨g, cu, rfl, h1, h2, h3⟩
  · subst h
    cases hq
  · have e := slc_blk hq
    subst e
    exact ⟨cu, h1⟩
theorem Gro.only {w w' : World} {M B : Nat} {v : Value} {mk : Int} {P : Nat → Prop} (h : Gro w M v mk B) (ho : Only P w w') (hp : ∀ q, v.ownBlock = some q → ¬ P q) : Gro w' M v mk B := by
  rcases h with ⟨g, rfl, h⟩ | ⟨n, hn, h⟩
  · exact .inl ⟨g, rfl, h.only ho (hp g rfl)⟩
  · exact .inr ⟨n, hn, own_only h ho hp⟩
theorem Gro.lt {w : World} {M B : Nat} {v : Value} {mk : Int} (h : Gro w M v mk B) : ∀ q, v.ownBlock = some q → q < w.heap.size := fun q hq => by
  rcases h with ⟨g, rfl, h⟩ | ⟨n, hn, h⟩
  · have e := slc_blk hq
    subst e
    exact h.lt
  · exact (h.lt q hq).2
theorem Gro.ty {w : World} {M B : Nat} {v : Value} {mk : Int} (h : Gro w M v mk B) {q : Nat} (hq : v.ownBlock = some q) : ∃ cu T, Blk w q cu T ∧ T ≠ 26 ∧ T ≠ 56 := by
  rcases h with ⟨g, rfl, cu, h, _⟩ | ⟨n, hn, h⟩
  · have e := slc_blk hq
    subst e
    exact ⟨cu, _, h, by decide, by decide⟩
  · obtain ⟨cu, hc⟩ := own_blk h hq
    exact ⟨cu, 3, hc, by decide, by decide⟩
theorem own_form {w : World} {M n : Nat} {e : TypeId} {v : Value} {xs : List Value} (h : w.ownsRow M e 1 v n xs) : ∃ p c, v = .slice p n c := by
  rcases h.2 with ⟨e1, e0⟩ | ⟨g, cap, cur, e1, _⟩
  · subst e0
    exact ⟨none, 0, e1⟩
  · exact ⟨_, cap, e1⟩
theorem Gro.form {w : World} {M B : Nat} {v : Value} {mk : Int} (h : Gro w M v mk B) (hB : 8 ≤ B) : ∃ p n c, v = .slice p n c ∧ n ≤ B ∧ ∀ j, j < n → ∃ g, p = some ⟨g, 0, none⟩ ∧ w.cell? ⟨g, j, none⟩ = some (.int .i64 mk) := by
  rcases h with ⟨g, rfl, cu, h1, h3⟩ | ⟨n, hn, h⟩
  · exact ⟨_, 8, 8, rfl, hB, fun j hj => ⟨g, rfl, by rw [h1.cell]; exact h3 j hj⟩⟩
  · rcases h.2 with ⟨e, e0⟩ | ⟨g, cap, cur, e, h9⟩
    · subst e0
      exact ⟨none, 0, 0, e, by omega, fun j hj => absurd hj (by omega)⟩
    · refine ⟨_, n, cap, e, hn, fun j hj => ⟨g, rfl, ?_⟩⟩
      have h8 := (own_at h (g := g) (by rw [e]; rfl) j hj).1
      rw [h8, List.getElem?_replicate, if_pos hj]
theorem apt_set {L : List Value} {i : Nat} {u : Value} (h : Apt13 L) (hu : ∀ j v, j ≠ i → L[j]? = some v → ∀ q, u.ownBlock = some q → v.ownBlock ≠ some q) : Apt13 (L.set i u) := by
  intro a b v x hab ha hb q hq e
  rw [List.getElem?_set] at ha hb
  by_cases e1 : i = a
  · subst e1
    rw [if_neg hab] at hb
    rw [if_pos rfl] at ha
    split at ha
    · injection ha with ha
      subst ha
      exact hu b x (fun e => hab e.symm) hb q hq e
    · cases ha
  · rw [if_neg e1] at ha
    by_cases e2 : i = b
    · subst e2
      rw [if_pos rfl] at hb
      split at hb
      · injection hb with hb
        subst hb
        exact hu a v hab ha q e hq
      · cases hb
    · rw [if_neg e2] at hb
      exact h a b v x hab ha hb q hq e
theorem Bb.nt {z : World} {N b : Nat} {vl vf vw : Value} {nl nf nw : Nat} {Ll Lf Lw : List Value} (h : Bb z N b vl vf vw nl nf nw Ll Lf Lw) {g : Nat} {cu : Array Value} {T : TypeId} (hG : Blk z g cu T) (h1 : T ≠ 26) (h2 : T ≠ 56) : b ≠ g ∧ (∀ q, vl.ownBlock = some q → q ≠ g) ∧ (∀ q, vf.ownBlock = some q → q ≠ g) ∧ (∀ q, vw.ownBlock = some q → q ≠ g) := by
  refine ⟨fun e => ?_, fun q hq e => ?_, fun q hq e => ?_, fun q hq e => ?_⟩
  · subst e
    exact h2 (blk_ty hG h.blk)
  · subst e
    obtain ⟨cur, hc⟩ := own_blk h.rl hq
    exact h1 (blk_ty hG hc)
  · subst e
    obtain ⟨cur, hc⟩ := own_blk h.rf hq
    exact h1 (blk_ty hG hc)
  · subst e
    obtain ⟨cur, hc⟩ := own_blk h.rw hq
    exact h1 (blk_ty hG hc)
/-- A book stands while blocks of another type turn. -/
theorem Bb.far {z z' : World} {N b : Nat} {vl vf vw : Value} {nl nf nw : Nat} {Ll Lf Lw : List Value} {P : Nat → Prop} (h : Bb z N b vl vf vw nl nf nw Ll Lf Lw) (ho : Only P z z') (hp : ∀ q, P q → ∃ cu T, Blk z q cu T ∧ T ≠ 26 ∧ T ≠ 56) : Bb z' N b vl vf vw nl nf nw Ll Lf Lw := by
  refine h.only ho (fun e => ?_) (fun q hq e => ?_) (fun q hq e => ?_) (fun q hq e => ?_)
  · obtain ⟨cu, T, h1, h2, h3⟩ := hp _ e
    exact (h.nt h1 h2 h3).1 rfl
  · obtain ⟨cu, T, h1, h2, h3⟩ := hp _ e
    exact (h.nt h1 h2 h3).2.1 q hq rfl
  · obtain ⟨cu, T, h1, h2, h3⟩ := hp _ e
    exact (h.nt h1 h2 h3).2.2.1 q hq rfl
  · obtain ⟨cu, T, h1, h2, h3⟩ := hp _ e
    exact (h.nt h1 h2 h3).2.2.2 q hq rfl
theorem Bb.setF {y : World} {N b gf nf cf : Nat} {vl vw : Value} {nl nw : Nat} {Ll Lf Lw : List Value} (h : Bb y N b vl (.slice (some ⟨gf, 0, none⟩) nf cf) vw nl nf nw Ll Lf Lw) (k : Nat) (v : Value) : Bb (y.setCell ⟨gf, k, none⟩ v) N b vl (.slice (some ⟨gf, 0, none⟩) nf cf) vw nl nf nw Ll (Lf.set k v) Lw := by
  have ho : Only (fun q => q = gf) y (y.setCell ⟨gf, k, none⟩ v) := (Only.refl _ _).setCell _ _ (fun _ => rfl)
  obtain ⟨n1, n2, n3⟩ := h.nb
  refine ⟨h.blk.only ho (fun e => n2 (by rw [e]; rfl)), own_only h.rl ho (fun q hq e => h.fl gf rfl (by rw [hq, e])), (h.rf.stored k v).1, own_only h.rw ho (fun q hq e => h.fw gf rfl (by rw [hq, e])), h.fw, h.fl, h.wl, ?_⟩
  have := h.hN
  have h9 := ho.size
  omega
/-- While the kept lists are marked: those ahead of number k are, of that one the first m. -/
structure MS (z : World) (Lf : List Value) (k m : Nat) (x : World) : Prop where
  on : Only (fun q => ∃ (i : Nat) (v : Value), Lf[i]? = some v ∧ v.ownBlock = some q) z x
  at' : ∀ (i : Nat) (v : Value), Lf[i]? = some v → Mkd x v (-9000 - (i : Int)) (if i < k then 8 else if i = k then m else 0)
theorem MS.start {z x : World} {Lf : List Value} (hM : ∀ (i : Nat) (v : Value), Lf[i]? = some v → Mkd z v 0 0) (hx : Below z.heap.size z x) : MS z Lf 0 0 x :=
  ⟨Only.of_below hx, fun i v hi => by
    have h1 := ((hM i v hi).mark (mk' := -9000 - (i : Int))).only (Only.of_below (P := fun _ => False) hx) (fun _ _ q => q)
    rw [if_neg (by omega), show (if i = 0 then 0 else 0) = 0 by split <;> rfl]
    exact h1⟩
theorem MS.bb {z x : World} {N b : Nat} {vl vf vw : Value} {nl nf nw : Nat} {Ll Lf Lw : List Value} {k m : Nat} (h : MS z Lf k m x) (hB : Bb z N b vl vf vw nl nf nw Ll Lf Lw) (hM : ∀ (i : Nat) (v : Value), Lf[i]? = some v → Mkd z v 0 0) : Bb x N b vl vf vw nl nf nw Ll Lf Lw :=
  hB.far h.on (fun q ⟨i, v, hi, hq⟩ => by
    obtain ⟨cu, hc⟩ := (hM i v hi).ty hq
    exact ⟨cu, _, hc, by decide, by decide⟩)
theorem MS.cellAt {z x : World} {Lf : List Value} {k m g : Nat} (h : MS z Lf k m x) (hk : Lf[k]? = some (.slice (some ⟨g, 0, none⟩) 8 8)) (j : Nat) (hj : j < 8) : (∃ v, x.cell? ⟨g, j, none⟩ = some v) ∧ x.frozen? ⟨g, j, none⟩ = false := by
  rcases h.at' k _ hk with e | ⟨g', cu, e, h1, h2, _⟩
  · cases e
  · cases e
    refine ⟨⟨cu[j]'(by omega), ?_⟩, h1.frozen j⟩
    rw [h1.cell]
    exact Array.getElem?_eq_getElem (by omega)
theorem MS.set {z x : World} {Lf : List Value} {k m g : Nat} (h : MS z Lf k m x) (hA : Apt13 Lf) (hk : Lf[k]? = some (.slice (some ⟨g, 0, none⟩) 8 8)) (hm : m < 8) : MS z Lf k (m + 1) (x.setCell ⟨g, m, none⟩ (.int .i64 (-9000 - (k : Int)))) := by
  have ho : Only (fun q => q = g) x (x.setCell ⟨g, m, none⟩ (.int .i64 (-9000 - (k : Int)))) := (Only.refl _ _).setCell _ _ (fun _ => rfl)
  refine ⟨h.on.setCell _ _ (fun _ => ⟨k, _, hk, rfl⟩), fun i v hi => ?_⟩
  by_cases e : i = k
  · subst e
    rw [hk] at hi
    injection hi with hi
    subst hi
    rcases h.at' i _ hk with e | ⟨g', cu, e, h1, h2, h3⟩
    · cases e
    · cases e
      rw [if_neg (by omega), if_pos rfl] at h3
      refine .inr ⟨g, _, rfl, h1.set m _, by simpa using h2, fun j hj => ?_⟩
      rw [if_neg (by omega), if_pos rfl] at hj
      by_cases e : j = m
      · subst e
        rw [Array.getElem?_setIfInBounds_self_of_lt (by omega)]
      · rw [Array.getElem?_setIfInBounds_ne (by omega)]
        exact h3 j (by omega)
  · have h1 := (h.at' i v hi).only ho (fun q hq e9 => hA i k v _ e hi hk q hq (by rw [e9]; rfl))
    rw [if_neg e] at h1 ⊢
    exact h1
theorem MS.next {z x : World} {Lf : List Value} {k m : Nat} (h : MS z Lf k m x) (hk : ∀ v, Lf[k]? = some v → v = .slice none 0 0 ∨ 8 ≤ m) : MS z Lf (k + 1) 0 x := by
  refine ⟨h.on, fun i v hi => ?_⟩
  have h1 := h.at' i v hi
  by_cases e : i = k
  · subst e
    rcases hk v hi with e | e
    · exact .inl e
    · rw [if_neg (by omega), if_pos rfl] at h1
      rw [if_pos (by omega)]
      rcases h1 with h1 | ⟨g, cu, e1, h2, h3, h4⟩
      · exact .inl h1
      · exact .inr ⟨g, cu, e1, h2, h3, fun j hj => h4 j (by omega)⟩
  · rw [if_neg e] at h1
    by_cases e2 : i < k
    · rw [if_pos e2] at h1
      rw [if_pos (by omega)]
      exact h1
    · rw [if_neg e2] at h1
      rw [if_neg (by omega), show (if i = k + 1 then 0 else 0) = 0 by split <;> rfl]
      exact h1
/-- While they are grown: those ahead of number k are, that one by m. -/
structure GS (z : World) (N b gf nf cf gw cw : Nat) (vl : Value) (nl : Nat) (Ll Lf Lw : List Value) (k m : Nat) (L' : List Value) (x : World) : Prop where
  bb : Bb x N b vl (.slice (some ⟨gf, 0, none⟩) nf cf) (.slice (some ⟨gw, 0, none⟩) nf cw) nl nf nf Ll L' Lw
  on : Only (fun q => q = gf ∨ ∃ (i : Nat) (v : Value), Lf[i]? = some v ∧ v.ownBlock = some q) z x
  at' : ∀ (i : Nat) (v : Value), L'[i]? = some v → Gro x z.heap.size v (-9000 - (i : Int)) (if i < k then 72 else if i = k then 8 + m else 8)
  ap : Apt13 L'
theorem MS.gs {z x : World} {N b gf nf cf gw cw : Nat} {vl : Value} {nl : Nat} {Ll Lf Lw : List Value} (h : MS z Lf nf 0 x) (hB : Bb x N b vl (.slice (some ⟨gf, 0, none⟩) nf cf) (.slice (some ⟨gw, 0, none⟩) nf cw) nl nf nf Ll Lf Lw) (hA : Apt13 Lf) : GS z N b gf nf cf gw cw vl nl Ll Lf Lw 0 0 Lf x := by
  refine ⟨hB, h.on.mono (fun q _ e => .inr e), fun i v hi => ?_, hA⟩
  have hl : Lf.length = nf := by have := hB.rf.1; omega
  have hin : i < nf := by
    rcases Nat.lt_or_ge i Lf.length with h9 | h9
    · omega
    · rw [List.getElem?_eq_none h9] at hi
      cases hi
  have h1 := h.at' i v hi
  rw [if_pos hin] at h1
  rcases h1 with e | ⟨g, cu, e, h2, h3, h4⟩
  · subst e
    exact .inr ⟨0, by omega, World.ownsRow_nil _ _ _ _⟩
  · exact .inl ⟨g, e, cu, h2, h4⟩
theorem GS.low {z x y : World} {N b gf nf cf gw cw : Nat} {vl : Value} {nl : Nat} {Ll Lf Lw L' : List Value} {k m : Nat} (h : GS z N b gf nf cf gw cw vl nl Ll Lf Lw k m L' x) (hb : Below x.heap.size x y) : GS z N b gf nf cf gw cw vl nl Ll Lf Lw k m L' y :=
  ⟨h.bb.low hb, h.on.trans (Only.of_below (P := fun _ => False) hb) (fun _ _ e => e.elim), fun i v hi => (h.at' i v hi).only (Only.of_below (P := fun _ => False) hb) (fun _ _ q => q), h.ap⟩
theorem GS.kept {z x y : World} {N b gf nf cf gw cw : Nat} {vl v : Value} {nl : Nat} {Ll Lf Lw L' : List Value} {k m : Nat} (h : GS z N b gf nf cf gw cw vl nl Ll Lf Lw k m L' x) (hk : L'[k]? = some v) (ho : Only (fun q => z.heap.size ≤ q ∧ v.ownBlock = some q) x y) : Bb y N b vl (.slice (some ⟨gf, 0, none⟩) nf cf) (.slice (some ⟨gw, 0, none⟩) nf cw) nl nf nf Ll L' Lw :=
  h.bb.far ho (fun _ e => (h.at' k v hk).ty e.2)
theorem GS.step {z x y : World} {N b gf nf cf gw cw : Nat} {vl v v' : Value} {nl : Nat} {Ll Lf Lw L' : List Value} {k m n : Nat} (h : GS z N b gf nf cf gw cw vl nl Ll Lf Lw k m L' x) (hk : L'[k]? = some v) (hn : n ≤ 8 + m) (hr : y.ownsRow z.heap.size 3 1 v' (n + 1) (List.replicate (n + 1) (Value.int .i64 (-9000 - (k : Int))))) (ho : Only (fun q => z.heap.size ≤ q ∧ v.ownBlock = some q) x y) (hv : ∀ q, v'.ownBlock = some q → v.ownBlock = some q ∨ x.heap.size ≤ q) :
    GS z N b gf nf cf gw cw vl nl Ll Lf Lw k (m + 1) (L'.set k v') (y.setCell ⟨gf, k, none⟩ v') ∧ y.cell? ⟨gf, k, none⟩ = some v ∧ y.frozen? ⟨gf, k, none⟩ = false := by
  have hB := h.kept hk ho
  have hl : L'.length = nf := by have := hB.rf.1; omega
  have hkn : k < nf := by
    rcases Nat.lt_or_ge k L'.length with h9 | h9
    · omega
    · rw [List.getElem?_eq_none h9] at hk
      cases hk
  have hcf := own_at hB.rf (g := gf) rfl k hkn
  have ho2 : Only (fun q => q = gf) y (y.setCell ⟨gf, k, none⟩ v') := (Only.refl _ _).setCell _ _ (fun _ => rfl)
  obtain ⟨cg, hcg⟩ := own_blk hB.rf (k := gf) rfl
  refine ⟨⟨hB.setF k v', (h.on.trans ho (fun q hq e => absurd hq (Nat.not_lt.2 e.1))).setCell _ _ (fun _ => .inl rfl), fun i u hi => ?_, ?_⟩, hcf.1.trans hk, hcf.2⟩
  · rw [List.getElem?_set] at hi
    by_cases e : k = i
    · subst e
      rw [if_pos rfl, if_pos (by omega)] at hi
      injection hi with hi
      subst hi
      rw [if_neg (by omega), if_pos rfl]
      refine .inr ⟨n + 1, by omega, own_only hr ho2 (fun q hq e => ?_)⟩
      obtain ⟨c9, hc9⟩ := own_blk hr hq
      rw [e] at hc9
      exact absurd (blk_ty hc9 hcg) (by decide)
    · rw [if_neg e] at hi
      have h1 := (h.at' i u hi).only ho (fun q hq e9 => h.ap i k u v (fun e8 => e e8.symm) hi hk q hq e9.2)
      have h2 := h1.only ho2 (fun q hq e9 => by
        obtain ⟨c9, T9, hc9, t1, _⟩ := h1.ty hq
        rw [e9] at hc9
        exact t1 (blk_ty hc9 hcg))
      rw [if_neg (fun e8 : i = k => e e8.symm)] at h2 ⊢
      exact h2
  · refine apt_set h.ap (fun j u hj hu q hq e => ?_)
    rcases hv q hq with e9 | e9
    · exact h.ap k j v u (fun e8 => hj e8.symm) hk hu q e9 e
    · have := (h.at' j u hu).lt q e
      omega
theorem GS.next {z x : World} {N b gf nf cf gw cw : Nat} {vl : Value} {nl : Nat} {Ll Lf Lw L' : List Value} {k : Nat} (h : GS z N b gf nf cf gw cw vl nl Ll Lf Lw k 64 L' x) : GS z N b gf nf cf gw cw vl nl Ll Lf Lw (k + 1) 0 L' x := by
  refine ⟨h.bb, h.on, fun i v hi => ?_, h.ap⟩
  have h1 := h.at' i v hi
  by_cases e : i = k
  · subst e
    rw [if_neg (by omega), if_pos rfl] at h1
    rw [if_pos (by omega)]
    exact h1
  · rw [if_neg e] at h1
    by_cases e2 : i < k
    · rw [if_pos e2] at h1
      rw [if_pos (by omega)]
      exact h1
    · rw [if_neg e2] at h1
      rw [if_neg (by omega), show (if i = k + 1 then 8 + 0 else 8) = 8 by split <;> rfl]
      exact h1
theorem GS.atk {z x : World} {N b gf nf cf gw cw : Nat} {vl v : Value} {nl : Nat} {Ll Lf Lw L' : List Value} {k m : Nat} (h : GS z N b gf nf cf gw cw vl nl Ll Lf Lw k m L' x) (hk : L'[k]? = some v) : (∃ g, v = .slice (some ⟨g, 0, none⟩) 8 8 ∧ Mk8 x g (-9000 - (k : Int))) ∨ ∃ n, n ≤ 8 + m ∧ x.ownsRow z.heap.size 3 1 v n (List.replicate n (Value.int .i64 (-9000 - (k : Int)))) := by
  have h1 := h.at' k v hk
  rw [if_neg (by omega), if_pos rfl] at h1
  exact h1
theorem GS.reads {z x : World} {N b gf nf cf gw cw : Nat} {vl : Value} {nl : Nat} {Ll Lf Lw L' : List Value} {k : Nat} (h : GS z N b gf nf cf gw cw vl nl Ll Lf Lw nf 0 L' x) (hk : k < nf) : ∃ p n c, L'[k]? = some (.slice p n c) ∧ n ≤ 72 ∧ ∀ j, j < n → ∃ g, p = some ⟨g, 0, none⟩ ∧ x.cell? ⟨g, j, none⟩ = some (.int .i64 (-9000 - (k : Int))) := by
  have hl : L'.length = nf := by have := h.bb.rf.1; omega
  have hk9 : L'[k]? = some (L'[k]'(by omega)) := List.getElem?_eq_getElem _
  have h1 := h.at' k _ hk9
  rw [if_pos hk] at h1
  obtain ⟨p, n, c, e, h2, h3⟩ := h1.form (by omega)
  exact ⟨p, n, c, by rw [hk9, e], h2, h3⟩
theorem wp_append_grows8 {P : Program} (w : World) {o : Oper} {a : Act} {K : Act → World → Prop} {Q : Exit → Act → World → Prop} (s x : Operand) (t : TypeId) (hop : o.op = Op.call { callee := Callee.builtin Builtin.append, args := #[s, x], argTypes := #[t, t] })
    (e : TypeId) (i : TypeInfo) (z : Value) (size bytes : Nat) (h1 : P.underlying t = some (.slice e)) (h2 : P.info? e = some i) (h3 : i.zero = some z) (h4 : i.size = size) (h5 : i.bytes = bytes) (h6 : z.cells.size = size) (h7 : 0 < size)
    (b : Addr) (n cap : Nat) (olds : List Value) (hs : a.eval s = .slice (some b) n cap) (hlo : olds.length = n * size) (holds : ∀ j u, olds[j]? = some u → w.cell? (b.add j) = some u)
    (ad : Addr) (m c : Nat) (news : List Value) (hx : a.eval x = .slice (some ad) m c) (hn : news.length = m * size) (hc : ∀ j u, news[j]? = some u → w.cell? (ad.add j) = some u)
    (hfull : cap < n + m) (b1 : n + m ≤ maxLen) (b2 : (n + m) * bytes ≤ 140737488355328)
    (hK : ∀ v' w', w'.ownsRow w.heap.size e size v' (n + m) (olds ++ news) → w.grownBy w' none → K (a.put o.dst v') w') : o.wp P a w K Q := by
  obtain ⟨v', w', hrun, r1, r2⟩ := run_append_arg_grows (P := P) w t o.type e i z size bytes h1 h2 h3 h4 h5 h6 h7 b n cap olds hlo holds ad m c news hn hc hfull b1 b2
  unfold Oper.wp execOp
  simp only [hop, resolve, invoke, builtin, Sem.run_bind, Sem.run_pure, Result.andThen_ok, List.map_toArray, List.map_cons, List.map_nil, hs, hx, hrun]
  exact hK v' w' r1 r2
theorem same13z {z : World} (w : World) (p1 p2 : Option Addr) (c1 c2 : Nat) (l : List Int) (n : Nat) (hn : n = l.length) (hz : n ≤ 1000000) (h1 : Ils w p1 l) (h2 : Ils w p2 l) (hw : Below z.heap.size z w) : Calls Tryd.prog 17 #[.slice p1 n c1, .slice p2 n c2] w fun e w' => e = .returned (.bool true) ∧ Below z.heap.size z w' := by
  refine (same13_any w p1 p2 c1 c2 l l n n hn hn hz h1 h2).mono ?_
  rintro e w' ⟨rfl, hb⟩
  exact ⟨by rw [decide_eq_true rfl], hw.trans (hb.mono hw.size)⟩
set_option maxHeartbeats 4000000 in
theorem settled13 {z : World} {N b gf nf cf gw cw : Nat} {vl : Value} {nl : Nat} {Ll Lf Lw : List Value} (h : Bb z N b vl (.slice (some ⟨gf, 0, none⟩) nf cf) (.slice (some ⟨gw, 0, none⟩) nf cw) nl nf nf Ll Lf Lw) (hf : nf ≤ 1000000)
    (hS : ∀ i, i < nf → ∃ p n c q d L, Lf[i]? = some (.slice p n c) ∧ Lw[i]? = some (.slice q n d) ∧ n = L.length ∧ n ≤ 1000000 ∧ Ils z p L ∧ Ils z q L)
    (hM : ∀ (i : Nat) (v : Value), Lf[i]? = some v → Mkd z v 0 0) (hA : Apt13 Lf)
    (hKl : ∀ z', Only (fun q => q = gf ∨ ∃ (i : Nat) (v : Value), Lf[i]? = some v ∧ v.ownBlock = some q) z z' → ∃ al cl P, Kl z' b al nl cl P) :
    Calls Tryd.prog 29 #[.pointer (some ⟨b, 0, none⟩)] z fun e z' => e = .returned (.bool true) ∧ Only (fun q => q = gf ∨ ∃ (i : Nat) (v : Value), Lf[i]? = some v ∧ v.ownBlock = some q) z z' := by
  obtain ⟨i0, hi, hx0, hx1, hx2⟩ := info_parts info3
  have HIN := hide (And.intro hi (And.intro hx0 (And.intro hx1 hx2)))
  clear hi hx0 hx1 hx2
  have HCB := hide (fun (x : World) (hx : Below z.heap.size z x) => show x.cell? ⟨b, 1, none⟩ = some (.slice (some ⟨gf, 0, none⟩) nf cf) ∧ x.cell? ⟨b, 2, none⟩ = some (.slice (some ⟨gw, 0, none⟩) nf cw) ∧ (∀ k, k < nf → x.cell? ⟨gf, k, none⟩ = Lf[k]?) ∧ (∀ k, k < nf → x.cell? ⟨gw, k, none⟩ = Lw[k]?) from ⟨(h.low hx).blk.cell 1, (h.low hx).blk.cell 2, fun k hk => (own_at (h.low hx).rf (g := gf) rfl k hk).1, fun k hk => (own_at (h.low hx).rw (g := gw) rfl k hk).1⟩)
  have HMS := hide (fun (x : World) (hx : Below z.heap.size z x) => MS.start hM hx)
  have HH := hide h
  have HMZ := hide hM
  have HA := hide hA
  have HKL := hide hKl
  have HS := hide hS
  clear h hM hA hKl hS
  go_enter Tryd.func29, Tryd.ntmps29
  go_wp2
  go_loopw [3] (fun i wr => ∃ k : Nat, k ≤ nf ∧ i = .int .i64 (k : Int) ∧ Below z.heap.size z wr) (fun i _ => nf - (intOf i).toNat)
  case atStart => exact ⟨0, by omega, rfl, Below.refl _ _⟩
  case round =>
    obtain ⟨k, hk, rfl, hL⟩ := hrel
    have HL := hide hL
    have c1 : wr.cell? ⟨b, 1, none⟩ = some (.slice (some ⟨gf, 0, none⟩) nf cf) := (unhide HCB wr hL).1
    clear hL
    by_cases hlt : k < nf
    · have i1 : (k : Int) < (nf : Int) := by omega
      have i2 : 0 ≤ (k : Int) := by omega
      as_aux_lemma =>
        obtain ⟨p, n, c, q, d, L, e1, e2, e3, e4, e5, e6⟩ := unhide HS k hlt
        have HC := hide (fun (x : World) (hx : Below z.heap.size z x) => show x.cell? ⟨b, 1, none⟩ = some (.slice (some ⟨gf, 0, none⟩) nf cf) ∧ x.cell? ⟨b, 2, none⟩ = some (.slice (some ⟨gw, 0, none⟩) nf cw) ∧ x.cell? ⟨gf, k, none⟩ = some (.slice p n c) ∧ x.cell? ⟨gw, k, none⟩ = some (.slice q n d) from ⟨(unhide HCB x hx).1, (unhide HCB x hx).2.1, ((unhide HCB x hx).2.2.1 k hlt).trans e1, ((unhide HCB x hx).2.2.2 k hlt).trans e2⟩)
        have HSM := hide (fun (x : World) (hx : Below z.heap.size z x) => same13z x p q c d L n e3 e4 (e5.below hx) (e6.below hx) hx)
        clear e1 e2 e3 e4 e5 e6 HS HCB
        go_wp2
        refine wp_region_held_drew (S := fun x => Below z.heap.size z x) (by kernel_rfl) (unhide HL).drew ?_
        intro hS
        generalize wr.drew = yd at *
        refine wpAnyH_takeD 0 (some 20) (.pointer (some ⟨b, 0, none⟩)) rfl rfl (by kernel_rfl) (by kernel_rfl) (by kernel_rfl) (fun _ _ _ h => h) (Or.inl ⟨by rfl, fun w hSw => by obtain ⟨d1, d2, d3, d4⟩ := unhide HC w hSw; clear hSw; go_simp⟩) hS ?_
        simp only [Act.put, List.setIfInBounds_toArray, List.set_cons_zero, List.set_cons_succ]
        refine wpAnyH_takeD 1 (some 21) (.pointer (some ⟨b, 0, none⟩)) rfl rfl (by kernel_rfl) (by kernel_rfl) (by kernel_rfl) (fun _ _ _ h => h) (Or.inl ⟨by rfl, fun w hSw => by obtain ⟨d1, d2, d3, d4⟩ := unhide HC w hSw; clear hSw; go_simp⟩) hS ?_
        simp only [Act.put, List.setIfInBounds_toArray, List.set_cons_zero, List.set_cons_succ]
        refine wpAnyH_takeD 2 (some 22) (.pointer (some ⟨b, 1, none⟩)) rfl rfl (by kernel_rfl) (by kernel_rfl) (by kernel_rfl) (fun _ _ _ h => h) (Or.inl ⟨by rfl, fun w hSw => by obtain ⟨d1, d2, d3, d4⟩ := unhide HC w hSw; clear hSw; go_simp⟩) hS ?_
        simp only [Act.put, List.setIfInBounds_toArray, List.set_cons_zero, List.set_cons_succ]
        refine wpAnyH_takeD 3 (some 23) (.slice (some ⟨gf, 0, none⟩) nf cf) rfl rfl (by kernel_rfl) (by kernel_rfl) (by kernel_rfl) (fun _ _ _ h => h) (Or.inl ⟨by rfl, fun w hSw => by obtain ⟨d1, d2, d3, d4⟩ := unhide HC w hSw; clear hSw; go_simp⟩) hS ?_
        simp only [Act.put, List.setIfInBounds_toArray, List.set_cons_zero, List.set_cons_succ]
        refine wpAnyH_takeD 4 (some 24) (.int .i64 (k : Int)) rfl rfl (by kernel_rfl) (by kernel_rfl) (by kernel_rfl) (fun _ _ _ h => h) (Or.inl ⟨by rfl, fun w hSw => by obtain ⟨d1, d2, d3, d4⟩ := unhide HC w hSw; clear hSw; go_simp⟩) hS ?_
        simp only [Act.put, List.setIfInBounds_toArray, List.set_cons_zero, List.set_cons_succ]
        refine wpAnyH_takeD 5 (some 25) (.pointer (some ⟨gf, k, none⟩)) rfl rfl (by kernel_rfl) (by kernel_rfl) (by kernel_rfl) (fun _ _ _ h => h) (Or.inl ⟨by rfl, fun w hSw => by obtain ⟨d1, d2, d3, d4⟩ := unhide HC w hSw; clear hSw; go_simp⟩) hS ?_
        simp only [Act.put, List.setIfInBounds_toArray, List.set_cons_zero, List.set_cons_succ]
        refine wpAnyH_takeD 6 (some 26) (.slice p n c) rfl rfl (by kernel_rfl) (by kernel_rfl) (by kernel_rfl) (fun _ _ _ h => h) (Or.inl ⟨by rfl, fun w hSw => by obtain ⟨d1, d2, d3, d4⟩ := unhide HC w hSw; clear hSw; go_simp⟩) hS ?_
        simp only [Act.put, List.setIfInBounds_toArray, List.set_cons_zero, List.set_cons_succ]
        refine wpAnyH_takeD 7 (some 27) (.pointer (some ⟨b, 0, none⟩)) rfl rfl (by kernel_rfl) (by kernel_rfl) (by kernel_rfl) (fun _ _ _ h => h) (Or.inl ⟨by rfl, fun w hSw => by obtain ⟨d1, d2, d3, d4⟩ := unhide HC w hSw; clear hSw; go_simp⟩) hS ?_
        simp only [Act.put, List.setIfInBounds_toArray, List.set_cons_zero, List.set_cons_succ]
        refine wpAnyH_takeD 8 (some 28) (.pointer (some ⟨b, 0, none⟩)) rfl rfl (by kernel_rfl) (by kernel_rfl) (by kernel_rfl) (fun _ _ _ h => h) (Or.inl ⟨by rfl, fun w hSw => by obtain ⟨d1, d2, d3, d4⟩ := unhide HC w hSw; clear hSw; go_simp⟩) hS ?_
        simp only [Act.put, List.setIfInBounds_toArray, List.set_cons_zero, List.set_cons_succ]
        refine wpAnyH_takeD 9 (some 29) (.pointer (some ⟨b, 2, none⟩)) rfl rfl (by kernel_rfl) (by kernel_rfl) (by kernel_rfl) (fun _ _ _ h => h) (Or.inl ⟨by rfl, fun w hSw => by obtain ⟨d1, d2, d3, d4⟩ := unhide HC w hSw; clear hSw; go_simp⟩) hS ?_
        simp only [Act.put, List.setIfInBounds_toArray, List.set_cons_zero, List.set_cons_succ]
        refine wpAnyH_takeD 10 (some 30) (.slice (some ⟨gw, 0, none⟩) nf cw) rfl rfl (by kernel_rfl) (by kernel_rfl) (by kernel_rfl) (fun _ _ _ h => h) (Or.inl ⟨by rfl, fun w hSw => by obtain ⟨d1, d2, d3, d4⟩ := unhide HC w hSw; clear hSw; go_simp⟩) hS ?_
        simp only [Act.put, List.setIfInBounds_toArray, List.set_cons_zero, List.set_cons_succ]
        refine wpAnyH_takeD 11 (some 31) (.int .i64 (k : Int)) rfl rfl (by kernel_rfl) (by kernel_rfl) (by kernel_rfl) (fun _ _ _ h => h) (Or.inl ⟨by rfl, fun w hSw => by obtain ⟨d1, d2, d3, d4⟩ := unhide HC w hSw; clear hSw; go_simp⟩) hS ?_
        simp only [Act.put, List.setIfInBounds_toArray, List.set_cons_zero, List.set_cons_succ]
        refine wpAnyH_takeD 12 (some 32) (.pointer (some ⟨gw, k, none⟩)) rfl rfl (by kernel_rfl) (by kernel_rfl) (by kernel_rfl) (fun _ _ _ h => h) (Or.inl ⟨by rfl, fun w hSw => by obtain ⟨d1, d2, d3, d4⟩ := unhide HC w hSw; clear hSw; go_simp⟩) hS ?_
        simp only [Act.put, List.setIfInBounds_toArray, List.set_cons_zero, List.set_cons_succ]
        refine wpAnyH_takeD 13 (some 33) (.slice q n d) rfl rfl (by kernel_rfl) (by kernel_rfl) (by kernel_rfl) (fun _ _ _ h => h) (Or.inl ⟨by rfl, fun w hSw => by obtain ⟨d1, d2, d3, d4⟩ := unhide HC w hSw; clear hSw; go_simp⟩) hS ?_
        simp only [Act.put, List.setIfInBounds_toArray, List.set_cons_zero, List.set_cons_succ]
        refine wpAnyH_ready (rs := [14]) (by kernel_rfl) (by simp) ?_
        refine AllReadyH.cons rfl (fun K hK => ?_) AllReadyH.nil
        simp only [List.getElem_toArray, List.getElem_cons_succ, List.getElem_cons_zero]
        go_simp
        refine (unhide HSM _ hS).mono ?_
        rintro e y ⟨rfl, hb⟩
        have HY := hide hb
        clear hb
        refine hK.out _ _ (unhide HY) (fun hS => ?_)
        clear hK K
        refine wpAnyH_takeD 15 (some 4) (.bool true) rfl rfl (by kernel_rfl) (by kernel_rfl) (by kernel_rfl) (fun _ _ _ h => h) (Or.inl ⟨by rfl, fun w hSw => by obtain ⟨d1, d2, d3, d4⟩ := unhide HC w hSw; clear hSw; go_simp⟩) hS ?_
        simp only [Act.put, List.setIfInBounds_toArray, List.set_cons_zero, List.set_cons_succ]
        refine wpAnyH_done (by kernel_rfl) ?_ _
        go_wp2
        go_roundw
        case rel => exact ⟨k + 1, by omega, by go_num, unhide HY⟩
        case measure => simp [intOf]; omega
    · have hk' : nf = k := by omega
      have i1 : ¬ ((k : Int) < (nf : Int)) := by omega
      obtain ⟨z1, hz1⟩ : ∃ z1, z1 = wr := ⟨_, rfl⟩
      have HM0 := hide (unhide HMS wr (unhide HL))
      clear hlt HL HS HCB HMS hk'
      go_wp2
      go_loopw [5] (fun i wr => ∃ k : Nat, k ≤ nf ∧ i = .int .i64 (k : Int) ∧ MS z Lf k 0 wr) (fun i _ => nf - (intOf i).toNat)
      case atStart => exact ⟨0, by omega, rfl, unhide HM0⟩
      case round =>
        obtain ⟨k, hk, rfl, hM⟩ := hrel
        clear HM0
        have HB1 := hide (hM.bb (unhide HH) (unhide HMZ))
        have c1 : wr.cell? ⟨b, 1, none⟩ = some (.slice (some ⟨gf, 0, none⟩) nf cf) := (unhide HB1).blk.cell 1
        have HM := hide hM
        clear hM
        by_cases hlt : k < nf
        · as_aux_lemma =>
            have i1 : (k : Int) < (nf : Int) := by omega
            have i2 : 0 ≤ (k : Int) := by omega
            obtain ⟨v, hv⟩ : ∃ v, Lf[k]? = some v := by
              have h9 := (unhide HH).rf.1
              exact ⟨_, List.getElem?_eq_getElem (by omega)⟩
            have w2 : IntKind.i64.wrap (-9000 - (k : Int)) = -9000 - (k : Int) := wrapI_eq _ (by omega) (by omega)
            have c2 : wr.cell? ⟨gf, k, none⟩ = some v := ((own_at (unhide HB1).rf (g := gf) rfl k hlt).1).trans hv
            have HV := hide hv
            rcases (unhide HM).at' k v hv with hv1 | ⟨g, cu0, hv1, _⟩
            · subst hv1
              have HN := hide ((unhide HM).next (fun v h => by rw [unhide HV] at h; injection h with h; exact .inl h.symm))
              clear hv HM HV HB1
              go_wp2
              go_loopw [6] (fun i wr2 => i = .int .i64 0 ∧ wr2 = wr) (fun _ _ => 0)
              case atStart => exact ⟨rfl, rfl⟩
              case round =>
                obtain ⟨rfl, hw⟩ := hrel
                subst hw
                go_wp2
                go_roundw
                case rel => exact ⟨k + 1, by omega, by go_num, unhide HN⟩
                case measure => simp [intOf]; omega
            · subst hv1
              clear hv HB1
              go_wp2
              go_loopw [6] (fun i wr2 => ∃ j : Nat, j ≤ 8 ∧ i = .int .i64 (j : Int) ∧ MS z Lf k j wr2) (fun i _ => 8 - (intOf i).toNat)
              case atStart => exact ⟨0, by omega, rfl, unhide HM⟩
              case round =>
                obtain ⟨j, hj, rfl, hM⟩ := hrel
                clear HM c1 c2
                have HB1 := hide (hM.bb (unhide HH) (unhide HMZ))
                have c1 : wr.cell? ⟨b, 1, none⟩ = some (.slice (some ⟨gf, 0, none⟩) nf cf) := (unhide HB1).blk.cell 1
                have c2 : wr.cell? ⟨gf, k, none⟩ = some (.slice (some ⟨g, 0, none⟩) 8 8) := ((own_at (unhide HB1).rf (g := gf) rfl k hlt).1).trans (unhide HV)
                by_cases hj8 : j < 8
                · have i3 : (j : Int) < 8 := by omega
                  have i4 : 0 ≤ (j : Int) := by omega
                  obtain ⟨⟨v0, ck⟩, fk⟩ := hM.cellAt (unhide HV) j hj8
                  have HN := hide (hM.set (unhide HA) (unhide HV) hj8)
                  clear hM HB1
                  go_wp2
                  go_roundw
                  case rel => exact ⟨j + 1, by omega, by go_num, unhide HN⟩
                  case measure => simp [intOf]; omega
                · have hk' : j = 8 := by omega
                  subst hk'
                  have HN := hide (hM.next (fun v h => .inr (Nat.le_refl _)))
                  clear hM HB1
                  simp only [Int.cast_ofNat_Int]
                  go_wp2
                  go_roundw
                  case rel => exact ⟨k + 1, by omega, by go_num, unhide HN⟩
                  case measure => simp [intOf]; omega
        · have hk' : k = nf := by omega
          have i1 : ¬ ((k : Int) < (nf : Int)) := by omega
          have HG0 := hide (show GS z N b gf nf cf gw cw vl nl Ll Lf Lw 0 0 Lf wr from (by rw [hk'] at HM; exact (unhide HM).gs (unhide HB1) (unhide HA)))
          clear hlt hk' HB1 HM
          go_wp2
          go_loopw [7] (fun i wr => ∃ (k : Nat) (L' : List Value), k ≤ nf ∧ i = .int .i64 (k : Int) ∧ GS z N b gf nf cf gw cw vl nl Ll Lf Lw k 0 L' wr) (fun i _ => nf - (intOf i).toNat)
          case atStart => exact ⟨0, Lf, by omega, rfl, unhide HG0⟩
          case round =>
            obtain ⟨k, L0, hk, rfl, hG⟩ := hrel
            clear HG0
            have c1 : wr.cell? ⟨b, 1, none⟩ = some (.slice (some ⟨gf, 0, none⟩) nf cf) := hG.bb.blk.cell 1
            have HG := hide hG
            clear hG
            by_cases hlt : k < nf
            · as_aux_lemma =>
                have i1 : (k : Int) < (nf : Int) := by omega
                have i2 : 0 ≤ (k : Int) := by omega
                have w2 : IntKind.i64.wrap (-9000 - (k : Int)) = -9000 - (k : Int) := wrapI_eq _ (by omega) (by omega)
                go_wp2
                go_loopw [8] (fun i wr2 => ∃ (j : Nat) (L' : List Value), j ≤ 64 ∧ i = .int .i64 (j : Int) ∧ GS z N b gf nf cf gw cw vl nl Ll Lf Lw k j L' wr2) (fun i _ => 64 - (intOf i).toNat)
                case atStart => exact ⟨0, L0, by omega, rfl, unhide HG⟩
                case round =>
                  obtain ⟨j, L', hj, rfl, hG⟩ := hrel
                  clear HG c1
                  have c1 : wr.cell? ⟨b, 1, none⟩ = some (.slice (some ⟨gf, 0, none⟩) nf cf) := hG.bb.blk.cell 1
                  have HG := hide hG
                  by_cases hj8 : j < 64
                  · have i3 : (j : Int) < 64 := by omega
                    obtain ⟨v, hv⟩ : ∃ v, L'[k]? = some v := by
                      have h9 := hG.bb.rf.1
                      exact ⟨_, List.getElem?_eq_getElem (by omega)⟩
                    have c2 : wr.cell? ⟨gf, k, none⟩ = some v := ((own_at hG.bb.rf (g := gf) rfl k hlt).1).trans hv
                    have HV := hide hv
                    have hgr := hG.atk hv
                    clear hG hv
                    rcases hgr with ⟨g, hv1, h8⟩ | ⟨n, hn, hr⟩
                    · subst hv1
                      have H8 := hide h8
                      clear h8
                      as_aux_lemma =>
                        go_wp2
                        refine wp_region_held_drew (S := fun x => x.cell? ⟨b, 1, none⟩ = some (.slice (some ⟨gf, 0, none⟩) nf cf)) (by kernel_rfl) (by rw [World.cell?_drew]; exact c1) ?_
                        intro hS
                        obtain ⟨yd, hyd⟩ : ∃ Y, wr.drew = Y := ⟨_, rfl⟩
                        rw [hyd] at hS ⊢
                        have hdy : Below wr.heap.size wr yd := by rw [← hyd]; exact (Below.refl _ _).drew
                        have hay : Below yd.heap.size yd (yd.alloc (.cells #[.int .i64 (-9000 - (k : Int))] 3)) := (Below.refl _ _).alloc (Nat.le_refl _) _
                        have HGD := hide ((unhide HG).low hdy)
                        have d2 : yd.cell? ⟨gf, k, none⟩ = some (.slice (some ⟨g, 0, none⟩) 8 8) := ((own_at (unhide HGD).bb.rf (g := gf) rfl k hlt).1).trans (unhide HV)
                        have HGA := hide ((unhide HGD).low hay)
                        have d3 : (yd.alloc (.cells #[.int .i64 (-9000 - (k : Int))] 3)).cell? ⟨gf, k, none⟩ = some (.slice (some ⟨g, 0, none⟩) 8 8) := ((own_at (unhide HGA).bb.rf (g := gf) rfl k hlt).1).trans (unhide HV)
                        have d4 : (yd.alloc (.cells #[.int .i64 (-9000 - (k : Int))] 3)).cell? ⟨b, 1, none⟩ = some (.slice (some ⟨gf, 0, none⟩) nf cf) := (unhide HGA).bb.blk.cell 1
                        have HM8 := hide (((unhide H8).only (P := fun _ => False) (Only.of_below hdy) (fun q => q)).only (P := fun _ => False) (Only.of_below hay) (fun q => q))
                        clear H8
                        clear hyd c1 c2 hdy hay
                        refine wpAnyH_takeD 0 (some 82) (.pointer (some ⟨b, 0, none⟩)) rfl rfl (by kernel_rfl) (by kernel_rfl) (by kernel_rfl) (fun _ _ _ h => h) (Or.inl ⟨by rfl, fun w hSw => by clear hSw; go_simp⟩) hS ?_
                        simp only [Act.put, List.setIfInBounds_toArray, List.set_cons_zero, List.set_cons_succ]
                        refine wpAnyH_takeD 1 (some 83) (.pointer (some ⟨b, 0, none⟩)) rfl rfl (by kernel_rfl) (by kernel_rfl) (by kernel_rfl) (fun _ _ _ h => h) (Or.inl ⟨by rfl, fun w hSw => by clear hSw; go_simp⟩) hS ?_
                        simp only [Act.put, List.setIfInBounds_toArray, List.set_cons_zero, List.set_cons_succ]
                        refine wpAnyH_takeD 2 (some 84) (.pointer (some ⟨b, 1, none⟩)) rfl rfl (by kernel_rfl) (by kernel_rfl) (by kernel_rfl) (fun _ _ _ h => h) (Or.inl ⟨by rfl, fun w hSw => by clear hSw; go_simp⟩) hS ?_
                        simp only [Act.put, List.setIfInBounds_toArray, List.set_cons_zero, List.set_cons_succ]
                        refine wpAnyH_takeD 3 (some 85) (.slice (some ⟨gf, 0, none⟩) nf cf) rfl rfl (by kernel_rfl) (by kernel_rfl) (by kernel_rfl) (fun _ _ _ h => h) (Or.inl ⟨by rfl, fun w hSw => by have d1 := hSw; clear hSw; go_simp⟩) hS ?_
                        simp only [Act.put, List.setIfInBounds_toArray, List.set_cons_zero, List.set_cons_succ]
                        refine wpAnyH_takeD 4 (some 86) (.int .i64 (k : Int)) rfl rfl (by kernel_rfl) (by kernel_rfl) (by kernel_rfl) (fun _ _ _ h => h) (Or.inl ⟨by rfl, fun w hSw => by clear hSw; go_simp⟩) hS ?_
                        simp only [Act.put, List.setIfInBounds_toArray, List.set_cons_zero, List.set_cons_succ]
                        refine wpAnyH_takeD 5 (some 87) (.pointer (some ⟨b, 0, none⟩)) rfl rfl (by kernel_rfl) (by kernel_rfl) (by kernel_rfl) (fun _ _ _ h => h) (Or.inl ⟨by rfl, fun w hSw => by clear hSw; go_simp⟩) hS ?_
                        simp only [Act.put, List.setIfInBounds_toArray, List.set_cons_zero, List.set_cons_succ]
                        refine wpAnyH_takeD 6 (some 88) (.pointer (some ⟨b, 0, none⟩)) rfl rfl (by kernel_rfl) (by kernel_rfl) (by kernel_rfl) (fun _ _ _ h => h) (Or.inl ⟨by rfl, fun w hSw => by clear hSw; go_simp⟩) hS ?_
                        simp only [Act.put, List.setIfInBounds_toArray, List.set_cons_zero, List.set_cons_succ]
                        refine wpAnyH_takeD 7 (some 89) (.pointer (some ⟨b, 1, none⟩)) rfl rfl (by kernel_rfl) (by kernel_rfl) (by kernel_rfl) (fun _ _ _ h => h) (Or.inl ⟨by rfl, fun w hSw => by clear hSw; go_simp⟩) hS ?_
                        simp only [Act.put, List.setIfInBounds_toArray, List.set_cons_zero, List.set_cons_succ]
                        refine wpAnyH_takeD 8 (some 90) (.slice (some ⟨gf, 0, none⟩) nf cf) rfl rfl (by kernel_rfl) (by kernel_rfl) (by kernel_rfl) (fun _ _ _ h => h) (Or.inl ⟨by rfl, fun w hSw => by have d1 := hSw; clear hSw; go_simp⟩) hS ?_
                        simp only [Act.put, List.setIfInBounds_toArray, List.set_cons_zero, List.set_cons_succ]
                        refine wpAnyH_takeD 9 (some 91) (.int .i64 (k : Int)) rfl rfl (by kernel_rfl) (by kernel_rfl) (by kernel_rfl) (fun _ _ _ h => h) (Or.inl ⟨by rfl, fun w hSw => by clear hSw; go_simp⟩) hS ?_
                        simp only [Act.put, List.setIfInBounds_toArray, List.set_cons_zero, List.set_cons_succ]
                        refine wpAnyH_takeD 10 (some 92) (.pointer (some ⟨gf, k, none⟩)) rfl rfl (by kernel_rfl) (by kernel_rfl) (by kernel_rfl) (fun _ _ _ h => h) (Or.inl ⟨by rfl, fun w hSw => by clear hSw; go_simp⟩) hS ?_
                        simp only [Act.put, List.setIfInBounds_toArray, List.set_cons_zero, List.set_cons_succ]
                        refine wpAnyH_takeD 12 (some 94) (.int .i64 (k : Int)) rfl rfl (by kernel_rfl) (by kernel_rfl) (by kernel_rfl) (fun _ _ _ h => h) (Or.inl ⟨by rfl, fun w hSw => by clear hSw; go_simp⟩) hS ?_
                        simp only [Act.put, List.setIfInBounds_toArray, List.set_cons_zero, List.set_cons_succ]
                        refine wpAnyH_takeD 13 (some 95) (.int .i64 (-9000 - (k : Int))) rfl rfl (by kernel_rfl) (by kernel_rfl) (by kernel_rfl) (fun _ _ _ h => h) (Or.inl ⟨by rfl, fun w hSw => by clear hSw; go_simp⟩) hS ?_
                        simp only [Act.put, List.setIfInBounds_toArray, List.set_cons_zero, List.set_cons_succ]
                        refine wpAnyH_ready (rs := [11, 14]) (by kernel_rfl) (by simp) ?_
                        refine AllReadyH.cons rfl (fun K hK => ?_) (AllReadyH.cons rfl (fun K hK => ?_) AllReadyH.nil)
                        · simp only [List.getElem_toArray, List.getElem_cons_succ, List.getElem_cons_zero]
                          go_simp
                          refine hK.out _ _ hS (fun hS => ?_)
                          clear hK K
                          refine wpAnyH_ready (rs := [14]) (by kernel_rfl) (by simp) ?_
                          refine AllReadyH.cons rfl (fun K hK => ?_) AllReadyH.nil
                          simp only [List.getElem_toArray, List.getElem_cons_succ, List.getElem_cons_zero]
                          go_simp
                          refine hK.out _ _ d4 (fun hS => ?_)
                          clear hK K
                          refine wpAnyH_ready (rs := [15]) (by kernel_rfl) (by simp) ?_
                          refine AllReadyH.cons rfl (fun K hK => ?_) AllReadyH.nil
                          simp only [List.getElem_toArray, List.getElem_cons_succ, List.getElem_cons_zero]
                          rw [if_pos (by rfl)]
                          refine wp_append_grows8 _ (.tmp 93) (.tmp 96) 26 rfl 3 i0 (.int .i64 0) 1 8 Tryd.underlying26 (unhide HIN).1 (unhide HIN).2.1 (unhide HIN).2.2.1 (unhide HIN).2.2.2 rfl (by decide) ⟨g, 0, none⟩ 8 8 (List.replicate 8 (.int .i64 (-9000 - (k : Int)))) rfl (by simp) (fun j u hu => (unhide HM8).olds j u hu) ⟨yd.heap.size, 0, none⟩ 1 1 [.int .i64 (-9000 - (k : Int))] rfl rfl (fun q u hu => news_all yd 3 [.int .i64 (-9000 - (k : Int))] q u hu) (by omega) (by unfold maxLen; omega) (by omega) ?_
                          intro v1 y ho hg
                          have ho9 : y.ownsRow (yd.heap.size + 1) 3 1 v1 (8 + 1) (List.replicate (8 + 1) (.int .i64 (-9000 - (k : Int)))) := by
                            rw [World.size_alloc] at ho
                            exact ho
                          obtain ⟨g1, cap1, hv1, hg1, _⟩ := ho9.form (by omega)
                          subst hv1
                          have HST := hide ((unhide HGA).step (unhide HV) (show 8 ≤ 8 + j by omega) (own_base ho9 (by have h9 := (unhide HGD).on.size; omega)) (only_none hg _ |>.mono (fun q hq e => absurd hq (Nat.not_lt.2 e))) (fun q hq => .inr (by
                            have e9 : g1 = q := by simpa [Value.ownBlock] using hq
                            rw [World.size_alloc]
                            omega)))
                          have HSY := hide (show y.cell? ⟨b, 1, none⟩ = some (.slice (some ⟨gf, 0, none⟩) nf cf) from ((unhide HGA).bb.only (only_none hg (yd.alloc (.cells #[.int .i64 (-9000 - (k : Int))] 3)).heap.size) (by have := (unhide HGA).bb.blk.lt; omega) (fun q hq => by have := ((unhide HGA).bb.rl.lt q hq).2; omega) (fun q hq => by have := ((unhide HGA).bb.rf.lt q hq).2; omega) (fun q hq => by have := ((unhide HGA).bb.rw.lt q hq).2; omega)).blk.cell 1)
                          clear ho hg ho9 hg1 d2 d3 d4
                          simp only [Act.put, List.setIfInBounds_toArray, List.set_cons_zero, List.set_cons_succ]
                          refine hK.out _ _ (unhide HSY) (fun hS => ?_)
                          clear hK K
                          refine wpAnyH_takeD 16 (some 98) (.pointer (some ⟨gf, k, none⟩)) rfl rfl (by kernel_rfl) (by kernel_rfl) (by kernel_rfl) (fun _ _ _ h => h) (Or.inl ⟨by rfl, fun w hSw => by clear hSw; go_simp⟩) hS ?_
                          simp only [Act.put, List.setIfInBounds_toArray, List.set_cons_zero, List.set_cons_succ]
                          refine wpAnyH_ready (rs := [17]) (by kernel_rfl) (by simp) ?_
                          refine AllReadyH.cons rfl (fun K hK => ?_) AllReadyH.nil
                          simp only [List.getElem_toArray, List.getElem_cons_succ, List.getElem_cons_zero]
                          have c8 := (unhide HST).2.1
                          have f8 := (unhide HST).2.2
                          have HSZ := hide ((unhide HST).1.bb.blk.cell 1)
                          go_simp
                          refine hK.out _ _ (unhide HSZ) (fun hS => ?_)
                          clear hK K
                          refine wpAnyH_done (by kernel_rfl) ?_ _
                          clear hS c8 f8
                          go_wp2
                          go_roundw
                          case rel => exact ⟨j + 1, _, by omega, by go_num, (unhide HST).1⟩
                          case measure => simp [intOf]; omega
                        · simp only [List.getElem_toArray, List.getElem_cons_succ, List.getElem_cons_zero]
                          go_simp
                          refine hK.out _ _ d4 (fun hS => ?_)
                          clear hK K
                          refine wpAnyH_ready (rs := [11]) (by kernel_rfl) (by simp) ?_
                          refine AllReadyH.cons rfl (fun K hK => ?_) AllReadyH.nil
                          simp only [List.getElem_toArray, List.getElem_cons_succ, List.getElem_cons_zero]
                          go_simp
                          refine hK.out _ _ hS (fun hS => ?_)
                          clear hK K
                          refine wpAnyH_ready (rs := [15]) (by kernel_rfl) (by simp) ?_
                          refine AllReadyH.cons rfl (fun K hK => ?_) AllReadyH.nil
                          simp only [List.getElem_toArray, List.getElem_cons_succ, List.getElem_cons_zero]
                          rw [if_pos (by rfl)]
                          refine wp_append_grows8 _ (.tmp 93) (.tmp 96) 26 rfl 3 i0 (.int .i64 0) 1 8 Tryd.underlying26 (unhide HIN).1 (unhide HIN).2.1 (unhide HIN).2.2.1 (unhide HIN).2.2.2 rfl (by decide) ⟨g, 0, none⟩ 8 8 (List.replicate 8 (.int .i64 (-9000 - (k : Int)))) rfl (by simp) (fun j u hu => (unhide HM8).olds j u hu) ⟨yd.heap.size, 0, none⟩ 1 1 [.int .i64 (-9000 - (k : Int))] rfl rfl (fun q u hu => news_all yd 3 [.int .i64 (-9000 - (k : Int))] q u hu) (by omega) (by unfold maxLen; omega) (by omega) ?_
                          intro v1 y ho hg
                          have ho9 : y.ownsRow (yd.heap.size + 1) 3 1 v1 (8 + 1) (List.replicate (8 + 1) (.int .i64 (-9000 - (k : Int)))) := by
                            rw [World.size_alloc] at ho
                            exact ho
                          obtain ⟨g1, cap1, hv1, hg1, _⟩ := ho9.form (by omega)
                          subst hv1
                          have HST := hide ((unhide HGA).step (unhide HV) (show 8 ≤ 8 + j by omega) (own_base ho9 (by have h9 := (unhide HGD).on.size; omega)) (only_none hg _ |>.mono (fun q hq e => absurd hq (Nat.not_lt.2 e))) (fun q hq => .inr (by
                            have e9 : g1 = q := by simpa [Value.ownBlock] using hq
                            rw [World.size_alloc]
                            omega)))
                          have HSY := hide (show y.cell? ⟨b, 1, none⟩ = some (.slice (some ⟨gf, 0, none⟩) nf cf) from ((unhide HGA).bb.only (only_none hg (yd.alloc (.cells #[.int .i64 (-9000 - (k : Int))] 3)).heap.size) (by have := (unhide HGA).bb.blk.lt; omega) (fun q hq => by have := ((unhide HGA).bb.rl.lt q hq).2; omega) (fun q hq => by have := ((unhide HGA).bb.rf.lt q hq).2; omega) (fun q hq => by have := ((unhide HGA).bb.rw.lt q hq).2; omega)).blk.cell 1)
                          clear ho hg ho9 hg1 d2 d3 d4
                          simp only [Act.put, List.setIfInBounds_toArray, List.set_cons_zero, List.set_cons_succ]
                          refine hK.out _ _ (unhide HSY) (fun hS => ?_)
                          clear hK K
                          refine wpAnyH_takeD 16 (some 98) (.pointer (some ⟨gf, k, none⟩)) rfl rfl (by kernel_rfl) (by kernel_rfl) (by kernel_rfl) (fun _ _ _ h => h) (Or.inl ⟨by rfl, fun w hSw => by clear hSw; go_simp⟩) hS ?_
                          simp only [Act.put, List.setIfInBounds_toArray, List.set_cons_zero, List.set_cons_succ]
                          refine wpAnyH_ready (rs := [17]) (by kernel_rfl) (by simp) ?_
                          refine AllReadyH.cons rfl (fun K hK => ?_) AllReadyH.nil
                          simp only [List.getElem_toArray, List.getElem_cons_succ, List.getElem_cons_zero]
                          have c8 := (unhide HST).2.1
                          have f8 := (unhide HST).2.2
                          have HSZ := hide ((unhide HST).1.bb.blk.cell 1)
                          go_simp
                          refine hK.out _ _ (unhide HSZ) (fun hS => ?_)
                          clear hK K
                          refine wpAnyH_done (by kernel_rfl) ?_ _
                          clear hS c8 f8
                          go_wp2
                          go_roundw
                          case rel => exact ⟨j + 1, _, by omega, by go_num, (unhide HST).1⟩
                          case measure => simp [intOf]; omega
                    · obtain ⟨p, c, hv1⟩ := own_form hr
                      subst hv1
                      have H8 := hide hr
                      clear hr
                      as_aux_lemma =>
                        go_wp2
                        refine wp_region_held_drew (S := fun x => x.cell? ⟨b, 1, none⟩ = some (.slice (some ⟨gf, 0, none⟩) nf cf)) (by kernel_rfl) (by rw [World.cell?_drew]; exact c1) ?_
                        intro hS
                        obtain ⟨yd, hyd⟩ : ∃ Y, wr.drew = Y := ⟨_, rfl⟩
                        rw [hyd] at hS ⊢
                        have hdy : Below wr.heap.size wr yd := by rw [← hyd]; exact (Below.refl _ _).drew
                        have hay : Below yd.heap.size yd (yd.alloc (.cells #[.int .i64 (-9000 - (k : Int))] 3)) := (Below.refl _ _).alloc (Nat.le_refl _) _
                        have HGD := hide ((unhide HG).low hdy)
                        have d2 : yd.cell? ⟨gf, k, none⟩ = some (.slice p n c) := ((own_at (unhide HGD).bb.rf (g := gf) rfl k hlt).1).trans (unhide HV)
                        have HGA := hide ((unhide HGD).low hay)
                        have d3 : (yd.alloc (.cells #[.int .i64 (-9000 - (k : Int))] 3)).cell? ⟨gf, k, none⟩ = some (.slice p n c) := ((own_at (unhide HGA).bb.rf (g := gf) rfl k hlt).1).trans (unhide HV)
                        have d4 : (yd.alloc (.cells #[.int .i64 (-9000 - (k : Int))] 3)).cell? ⟨b, 1, none⟩ = some (.slice (some ⟨gf, 0, none⟩) nf cf) := (unhide HGA).bb.blk.cell 1
                        have HRA := hide (own_low (own_low (unhide H8) hdy) hay)
                        have HLE := hide (show z.heap.size ≤ (yd.alloc (.cells #[.int .i64 (-9000 - (k : Int))] 3)).heap.size from (unhide HGA).on.size)
                        clear H8
                        clear hyd c1 c2 hdy hay
                        refine wpAnyH_takeD 0 (some 82) (.pointer (some ⟨b, 0, none⟩)) rfl rfl (by kernel_rfl) (by kernel_rfl) (by kernel_rfl) (fun _ _ _ h => h) (Or.inl ⟨by rfl, fun w hSw => by clear hSw; go_simp⟩) hS ?_
                        simp only [Act.put, List.setIfInBounds_toArray, List.set_cons_zero, List.set_cons_succ]
                        refine wpAnyH_takeD 1 (some 83) (.pointer (some ⟨b, 0, none⟩)) rfl rfl (by kernel_rfl) (by kernel_rfl) (by kernel_rfl) (fun _ _ _ h => h) (Or.inl ⟨by rfl, fun w hSw => by clear hSw; go_simp⟩) hS ?_
                        simp only [Act.put, List.setIfInBounds_toArray, List.set_cons_zero, List.set_cons_succ]
                        refine wpAnyH_takeD 2 (some 84) (.pointer (some ⟨b, 1, none⟩)) rfl rfl (by kernel_rfl) (by kernel_rfl) (by kernel_rfl) (fun _ _ _ h => h) (Or.inl ⟨by rfl, fun w hSw => by clear hSw; go_simp⟩) hS ?_
                        simp only [Act.put, List.setIfInBounds_toArray, List.set_cons_zero, List.set_cons_succ]
                        refine wpAnyH_takeD 3 (some 85) (.slice (some ⟨gf, 0, none⟩) nf cf) rfl rfl (by kernel_rfl) (by kernel_rfl) (by kernel_rfl) (fun _ _ _ h => h) (Or.inl ⟨by rfl, fun w hSw => by have d1 := hSw; clear hSw; go_simp⟩) hS ?_
                        simp only [Act.put, List.setIfInBounds_toArray, List.set_cons_zero, List.set_cons_succ]
                        refine wpAnyH_takeD 4 (some 86) (.int .i64 (k : Int)) rfl rfl (by kernel_rfl) (by kernel_rfl) (by kernel_rfl) (fun _ _ _ h => h) (Or.inl ⟨by rfl, fun w hSw => by clear hSw; go_simp⟩) hS ?_
                        simp only [Act.put, List.setIfInBounds_toArray, List.set_cons_zero, List.set_cons_succ]
                        refine wpAnyH_takeD 5 (some 87) (.pointer (some ⟨b, 0, none⟩)) rfl rfl (by kernel_rfl) (by kernel_rfl) (by kernel_rfl) (fun _ _ _ h => h) (Or.inl ⟨by rfl, fun w hSw => by clear hSw; go_simp⟩) hS ?_
                        simp only [Act.put, List.setIfInBounds_toArray, List.set_cons_zero, List.set_cons_succ]
                        refine wpAnyH_takeD 6 (some 88) (.pointer (some ⟨b, 0, none⟩)) rfl rfl (by kernel_rfl) (by kernel_rfl) (by kernel_rfl) (fun _ _ _ h => h) (Or.inl ⟨by rfl, fun w hSw => by clear hSw; go_simp⟩) hS ?_
                        simp only [Act.put, List.setIfInBounds_toArray, List.set_cons_zero, List.set_cons_succ]
                        refine wpAnyH_takeD 7 (some 89) (.pointer (some ⟨b, 1, none⟩)) rfl rfl (by kernel_rfl) (by kernel_rfl) (by kernel_rfl) (fun _ _ _ h => h) (Or.inl ⟨by rfl, fun w hSw => by clear hSw; go_simp⟩) hS ?_
                        simp only [Act.put, List.setIfInBounds_toArray, List.set_cons_zero, List.set_cons_succ]
                        refine wpAnyH_takeD 8 (some 90) (.slice (some ⟨gf, 0, none⟩) nf cf) rfl rfl (by kernel_rfl) (by kernel_rfl) (by kernel_rfl) (fun _ _ _ h => h) (Or.inl ⟨by rfl, fun w hSw => by have d1 := hSw; clear hSw; go_simp⟩) hS ?_
                        simp only [Act.put, List.setIfInBounds_toArray, List.set_cons_zero, List.set_cons_succ]
                        refine wpAnyH_takeD 9 (some 91) (.int .i64 (k : Int)) rfl rfl (by kernel_rfl) (by kernel_rfl) (by kernel_rfl) (fun _ _ _ h => h) (Or.inl ⟨by rfl, fun w hSw => by clear hSw; go_simp⟩) hS ?_
                        simp only [Act.put, List.setIfInBounds_toArray, List.set_cons_zero, List.set_cons_succ]
                        refine wpAnyH_takeD 10 (some 92) (.pointer (some ⟨gf, k, none⟩)) rfl rfl (by kernel_rfl) (by kernel_rfl) (by kernel_rfl) (fun _ _ _ h => h) (Or.inl ⟨by rfl, fun w hSw => by clear hSw; go_simp⟩) hS ?_
                        simp only [Act.put, List.setIfInBounds_toArray, List.set_cons_zero, List.set_cons_succ]
                        refine wpAnyH_takeD 12 (some 94) (.int .i64 (k : Int)) rfl rfl (by kernel_rfl) (by kernel_rfl) (by kernel_rfl) (fun _ _ _ h => h) (Or.inl ⟨by rfl, fun w hSw => by clear hSw; go_simp⟩) hS ?_
                        simp only [Act.put, List.setIfInBounds_toArray, List.set_cons_zero, List.set_cons_succ]
                        refine wpAnyH_takeD 13 (some 95) (.int .i64 (-9000 - (k : Int))) rfl rfl (by kernel_rfl) (by kernel_rfl) (by kernel_rfl) (fun _ _ _ h => h) (Or.inl ⟨by rfl, fun w hSw => by clear hSw; go_simp⟩) hS ?_
                        simp only [Act.put, List.setIfInBounds_toArray, List.set_cons_zero, List.set_cons_succ]
                        refine wpAnyH_ready (rs := [11, 14]) (by kernel_rfl) (by simp) ?_
                        refine AllReadyH.cons rfl (fun K hK => ?_) (AllReadyH.cons rfl (fun K hK => ?_) AllReadyH.nil)
                        · simp only [List.getElem_toArray, List.getElem_cons_succ, List.getElem_cons_zero]
                          go_simp
                          refine hK.out _ _ hS (fun hS => ?_)
                          clear hK K
                          refine wpAnyH_ready (rs := [14]) (by kernel_rfl) (by simp) ?_
                          refine AllReadyH.cons rfl (fun K hK => ?_) AllReadyH.nil
                          simp only [List.getElem_toArray, List.getElem_cons_succ, List.getElem_cons_zero]
                          go_simp
                          refine hK.out _ _ d4 (fun hS => ?_)
                          clear hK K
                          refine wpAnyH_ready (rs := [15]) (by kernel_rfl) (by simp) ?_
                          refine AllReadyH.cons rfl (fun K hK => ?_) AllReadyH.nil
                          simp only [List.getElem_toArray, List.getElem_cons_succ, List.getElem_cons_zero]
                          rw [if_pos (by rfl)]
                          refine wp_append_lies _ (.tmp 93) (.tmp 96) 26 rfl z.heap.size 3 i0 (.int .i64 0) 1 8 Tryd.underlying26 (unhide HIN).1 (unhide HIN).2.1 (unhide HIN).2.2.1 (unhide HIN).2.2.2 rfl (by decide) _ n (List.replicate n (.int .i64 (-9000 - (k : Int)))) rfl (unhide HRA) ⟨yd.heap.size, 0, none⟩ 1 1 [.int .i64 (-9000 - (k : Int))] rfl rfl (fun q u hu => news_all yd 3 [.int .i64 (-9000 - (k : Int))] q u hu) (by simp [Value.oneCell']) (by omega) (by unfold maxLen; omega) (by omega) (unhide HLE) _ rfl ?_
                          intro g1 cap1 y ho hg hor hlt9
                          have ho9 : y.ownsRow z.heap.size 3 1 (.slice (some ⟨g1, 0, none⟩) (n + 1) cap1) (n + 1) (List.replicate (n + 1) (.int .i64 (-9000 - (k : Int)))) := by
                            rw [List.replicate_succ']
                            exact ho
                          have HOY := hide ((grown_only hg).mono (fun q _ e => show z.heap.size ≤ q ∧ (Value.slice p n c).ownBlock = some q from ⟨((unhide HRA).lt q e).1, e⟩))
                          have HST := hide ((unhide HGA).step (unhide HV) (show n ≤ 8 + j by omega) ho9 (unhide HOY) (fun q hq => by
                            have e9 : g1 = q := by simpa [Value.ownBlock] using hq
                            subst e9
                            rcases hor with e | e
                            · exact .inl e
                            · exact .inr (by rw [e]; exact Nat.le_refl _)))
                          have HSY := hide (((unhide HGA).kept (unhide HV) (unhide HOY)).blk.cell 1)
                          clear ho hg ho9 hor hlt9 d2 d3 d4 HOY
                          simp only [Act.put, List.setIfInBounds_toArray, List.set_cons_zero, List.set_cons_succ]
                          refine hK.out _ _ (unhide HSY) (fun hS => ?_)
                          clear hK K
                          refine wpAnyH_takeD 16 (some 98) (.pointer (some ⟨gf, k, none⟩)) rfl rfl (by kernel_rfl) (by kernel_rfl) (by kernel_rfl) (fun _ _ _ h => h) (Or.inl ⟨by rfl, fun w hSw => by clear hSw; go_simp⟩) hS ?_
                          simp only [Act.put, List.setIfInBounds_toArray, List.set_cons_zero, List.set_cons_succ]
                          refine wpAnyH_ready (rs := [17]) (by kernel_rfl) (by simp) ?_
                          refine AllReadyH.cons rfl (fun K hK => ?_) AllReadyH.nil
                          simp only [List.getElem_toArray, List.getElem_cons_succ, List.getElem_cons_zero]
                          have c8 := (unhide HST).2.1
                          have f8 := (unhide HST).2.2
                          have HSZ := hide ((unhide HST).1.bb.blk.cell 1)
                          go_simp
                          refine hK.out _ _ (unhide HSZ) (fun hS => ?_)
                          clear hK K
                          refine wpAnyH_done (by kernel_rfl) ?_ _
                          clear hS c8 f8
                          go_wp2
                          go_roundw
                          case rel => exact ⟨j + 1, _, by omega, by go_num, (unhide HST).1⟩
                          case measure => simp [intOf]; omega
                        · simp only [List.getElem_toArray, List.getElem_cons_succ, List.getElem_cons_zero]
                          go_simp
                          refine hK.out _ _ d4 (fun hS => ?_)
                          clear hK K
                          refine wpAnyH_ready (rs := [11]) (by kernel_rfl) (by simp) ?_
                          refine AllReadyH.cons rfl (fun K hK => ?_) AllReadyH.nil
                          simp only [List.getElem_toArray, List.getElem_cons_succ, List.getElem_cons_zero]
                          go_simp
                          refine hK.out _ _ hS (fun hS => ?_)
                          clear hK K
                          refine wpAnyH_ready (rs := [15]) (by kernel_rfl) (by simp) ?_
                          refine AllReadyH.cons rfl (fun K hK => ?_) AllReadyH.nil
                          simp only [List.getElem_toArray, List.getElem_cons_succ, List.getElem_cons_zero]
                          rw [if_pos (by rfl)]
                          refine wp_append_lies _ (.tmp 93) (.tmp 96) 26 rfl z.heap.size 3 i0 (.int .i64 0) 1 8 Tryd.underlying26 (unhide HIN).1 (unhide HIN).2.1 (unhide HIN).2.2.1 (unhide HIN).2.2.2 rfl (by decide) _ n (List.replicate n (.int .i64 (-9000 - (k : Int)))) rfl (unhide HRA) ⟨yd.heap.size, 0, none⟩ 1 1 [.int .i64 (-9000 - (k : Int))] rfl rfl (fun q u hu => news_all yd 3 [.int .i64 (-9000 - (k : Int))] q u hu) (by simp [Value.oneCell']) (by omega) (by unfold maxLen; omega) (by omega) (unhide HLE) _ rfl ?_
                          intro g1 cap1 y ho hg hor hlt9
                          have ho9 : y.ownsRow z.heap.size 3 1 (.slice (some ⟨g1, 0, none⟩) (n + 1) cap1) (n + 1) (List.replicate (n + 1) (.int .i64 (-9000 - (k : Int)))) := by
                            rw [List.replicate_succ']
                            exact ho
                          have HOY := hide ((grown_only hg).mono (fun q _ e => show z.heap.size ≤ q ∧ (Value.slice p n c).ownBlock = some q from ⟨((unhide HRA).lt q e).1, e⟩))
                          have HST := hide ((unhide HGA).step (unhide HV) (show n ≤ 8 + j by omega) ho9 (unhide HOY) (fun q hq => by
                            have e9 : g1 = q := by simpa [Value.ownBlock] using hq
                            subst e9
                            rcases hor with e | e
                            · exact .inl e
                            · exact .inr (by rw [e]; exact Nat.le_refl _)))
                          have HSY := hide (((unhide HGA).kept (unhide HV) (unhide HOY)).blk.cell 1)
                          clear ho hg ho9 hor hlt9 d2 d3 d4 HOY
                          simp only [Act.put, List.setIfInBounds_toArray, List.set_cons_zero, List.set_cons_succ]
                          refine hK.out _ _ (unhide HSY) (fun hS => ?_)
                          clear hK K
                          refine wpAnyH_takeD 16 (some 98) (.pointer (some ⟨gf, k, none⟩)) rfl rfl (by kernel_rfl) (by kernel_rfl) (by kernel_rfl) (fun _ _ _ h => h) (Or.inl ⟨by rfl, fun w hSw => by clear hSw; go_simp⟩) hS ?_
                          simp only [Act.put, List.setIfInBounds_toArray, List.set_cons_zero, List.set_cons_succ]
                          refine wpAnyH_ready (rs := [17]) (by kernel_rfl) (by simp) ?_
                          refine AllReadyH.cons rfl (fun K hK => ?_) AllReadyH.nil
                          simp only [List.getElem_toArray, List.getElem_cons_succ, List.getElem_cons_zero]
                          have c8 := (unhide HST).2.1
                          have f8 := (unhide HST).2.2
                          have HSZ := hide ((unhide HST).1.bb.blk.cell 1)
                          go_simp
                          refine hK.out _ _ (unhide HSZ) (fun hS => ?_)
                          clear hK K
                          refine wpAnyH_done (by kernel_rfl) ?_ _
                          clear hS c8 f8
                          go_wp2
                          go_roundw
                          case rel => exact ⟨j + 1, _, by omega, by go_num, (unhide HST).1⟩
                          case measure => simp [intOf]; omega
                  · have hk' : j = 64 := by omega
                    subst hk'
                    clear hG
                    have HN := hide ((unhide HG).next)
                    clear HG
                    simp only [Int.cast_ofNat_Int]
                    go_wp2
                    go_roundw
                    case rel => exact ⟨k + 1, _, by omega, by go_num, unhide HN⟩
                    case measure => simp [intOf]; omega
            · have hk' : k = nf := by omega
              have i1 : ¬ ((k : Int) < (nf : Int)) := by omega
              have HGN := hide (show GS z N b gf nf cf gw cw vl nl Ll Lf Lw nf 0 L0 wr from (by rw [hk'] at HG; exact unhide HG))
              clear hlt hk' HG
              go_wp2
              go_loopw [9] (fun i wr2 => ∃ k : Nat, k ≤ nf ∧ i = .int .i64 (k : Int) ∧ wr2 = wr) (fun i _ => nf - (intOf i).toNat)
              case atStart => exact ⟨0, by omega, rfl, rfl⟩
              case round =>
                obtain ⟨k, hk, rfl, hw⟩ := hrel
                subst hw
                by_cases hlt : k < nf
                · as_aux_lemma =>
                    have i1 : (k : Int) < (nf : Int) := by omega
                    have i2 : 0 ≤ (k : Int) := by omega
                    have w2 : IntKind.i64.wrap (-9000 - (k : Int)) = -9000 - (k : Int) := wrapI_eq _ (by omega) (by omega)
                    obtain ⟨p, n, c, hv, hn, hall⟩ := (unhide HGN).reads hlt
                    have c2 : wr.cell? ⟨gf, k, none⟩ = some (.slice p n c) := ((own_at (unhide HGN).bb.rf (g := gf) rfl k hlt).1).trans hv
                    have HALL := hide hall
                    clear hv hall HGN
                    go_wp2
                    go_loopw [10] (fun i wr2 => ∃ j : Nat, j ≤ n ∧ i = .int .i64 (j : Int) ∧ wr2 = wr) (fun i _ => n - (intOf i).toNat)
                    case atStart => exact ⟨0, by omega, rfl, rfl⟩
                    case round =>
                      obtain ⟨j, hj, rfl, hw⟩ := hrel
                      subst hw
                      by_cases hjn : j < n
                      · obtain ⟨g, rfl, c3⟩ := unhide HALL j hjn
                        have j2 : 0 ≤ (j : Int) := by omega
                        have j3 : (j : Int) < (n : Int) := by omega
                        have hne : ((-9000 - (k : Int)) != (-9000 - (k : Int))) = false := by simp
                        go_wp2
                        go_roundw
                        case rel => exact ⟨j + 1, by omega, by go_num, by first | rfl | trivial⟩
                        case measure => simp [intOf]; omega
                      · have j3 : ¬ ((j : Int) < (n : Int)) := by omega
                        clear hjn
                        go_wp2
                        go_roundw
                        case rel => exact ⟨k + 1, by omega, by go_num, by first | rfl | trivial⟩
                        case measure => simp [intOf]; omega
                · have i1 : ¬ ((k : Int) < (nf : Int)) := by omega
                  obtain ⟨al, cl, P, hkl⟩ := unhide HKL wr (unhide HGN).on
                  have HKE := hide (kept13_any hkl)
                  have HON := hide (unhide HGN).on
                  clear hlt hkl HGN
                  go_wp2_with fail
                  refine (unhide HKE).mono ?_
                  rintro e y ⟨rfl, hy⟩
                  subst hy
                  go_wp2
                  go_ret
                  exact ⟨rfl, unhide HON⟩
end Go.Proofs.YtabgcgdpeikieaaDoor
namespace Go.Proofs.YtabgcgdpeikieaaDoor
open Go.RowKit Go.Conc
set_option maxRecDepth 100000
theorem places_bad (dr dg : ByteArray) (w : World) (h : ¬ (dr.size = 16 ∧ dg.size = 32)) (hK : KTab w) :
    Calls Tryd.prog 19 #[.string dr, .string dg] w fun e w' => e = .returned (.tuple #[.slice none 0 0, .int .i64 (plE dr dg)]) ∧ plO dr dg = [] ∧ Below w.heap.size w w' := by
  have HP := hide (placesOf_any dr dg w hK)
  have HE := hide (show plO dr dg = [] from by rw [plO, if_neg h])
  have hne : (plE dr dg != 0) = true := by
    unfold plE
    by_cases q1 : dr.size = 16
    · rw [if_pos q1, if_neg (fun q2 => h ⟨q1, q2⟩)]
      rfl
    · rw [if_neg q1]
      rfl
  obtain ⟨E, hE⟩ : ∃ E, plE dr dg = E := ⟨_, rfl⟩
  rw [hE] at HP hne ⊢
  have HS := hide (arr8_size (plO dr dg))
  have H1 := hide (arr8_one (plO dr dg))
  generalize arr8 (plO dr dg) = A at *
  clear hE h hK
  go_enter Tryd.func19, Tryd.ntmps19
  go_wp2_with fail
  refine (unhide HP).mono ?_
  rintro e z ⟨rfl, hb⟩
  obtain ⟨g, hgg⟩ : ∃ g, z.heap.size = g := ⟨_, rfl⟩
  obtain ⟨y, hy⟩ : ∃ Z, z.alloc (.cells #[.int .i64 0, .int .i64 0, .int .i64 0, .int .i64 0, .int .i64 0, .int .i64 0, .int .i64 0, .int .i64 0] 78) = Z := ⟨_, rfl⟩
  have hlo : Below z.heap.size z y := by rw [← hy]; exact (Below.refl _ _).alloc (Nat.le_refl _) _
  have hN : Blk y g #[.int .i64 0, .int .i64 0, .int .i64 0, .int .i64 0, .int .i64 0, .int .i64 0, .int .i64 0, .int .i64 0] 78 := by rw [← hy, ← hgg]; exact Blk.new _ _ _
  have HX := hide (And.intro hN (hb.trans (hlo.mono hb.size)))
  have HG := hide (show w.heap.size ≤ g from by rw [← hgg]; exact hb.size)
  clear hb hlo hN HP
  simp only []
  rename_i K8 a8 K9 a9
  have A8 := hide a8
  clear a8
  go_step
  go_wp2_with (refine wpList_store_mid rfl 78 (.tmp 6) (.tmp 12) rfl g 0 A rfl rfl (by rw [unhide HS]; exact blk_there (unhide HX).1 8 rfl) (by rw [sizePla, unhide HS]) (unhide H1) ?_)
  have hW : Blk (y.setCells g 0 A.toList) g A 78 := by
    have := setCells_all (unhide HX).1 A.toList (by rw [Array.length_toList, unhide HS]; rfl)
    simpa using this
  have hL : Below w.heap.size w (y.setCells g 0 A.toList) := below_setCells (unhide HG) _ _ (unhide HX).2
  generalize y.setCells g 0 A.toList = z2 at *
  have HL := hide hL
  clear hW hL HX hy hgg HG
  clear y
  refine unhide A8 _ _ ?_
  clear A8 K8
  go_wp2
  go_ret2
  exact ⟨rfl, unhide HE, unhide HL⟩
end Go.Proofs.YtabgcgdpeikieaaDoor
namespace Go.Proofs.YtabgcgdpeikieaaDoor
open Go.RowKit Go.Conc
set_option maxRecDepth 100000
/-- A list as PlacesOf gives it. -/
def Kq (z : World) (v : Value) (L : List Int) : Prop := (v = .slice none 0 0 ∧ L = []) ∨ ∃ g cu, v = .slice (some ⟨g, 0, none⟩) 8 8 ∧ Blk z g cu 78 ∧ cu.size = 8 ∧ L.length = 8 ∧ Ils z (some ⟨g, 0, none⟩) L
theorem ils_blk {z z' : World} {g : Nat} {cu : Array Value} {T : TypeId} {L : List Int} (hI : Ils z (some ⟨g, 0, none⟩) L) (h : Blk z g cu T) (h' : Blk z' g cu T) : Ils z' (some ⟨g, 0, none⟩) L := fun j hj => by
  obtain ⟨g9, o9, e, hg, hc⟩ := hI j hj
  cases e
  refine ⟨g, 0, rfl, h'.lt, ?_⟩
  rw [h'.cell]
  rw [h.cell] at hc
  exact hc
theorem Kq.only {z z' : World} {v : Value} {L : List Int} {P : Nat → Prop} (h : Kq z v L) (ho : Only P z z') (hp : ∀ q, v.ownBlock = some q → ¬ P q) : Kq z' v L := by
  rcases h with h | ⟨g, cu, rfl, h1, h2, h3, h4⟩
  · exact .inl h
  · have h9 := h1.only ho (hp g rfl)
    exact .inr ⟨g, cu, rfl, h9, h2, h3, ils_blk h4 h1 h9⟩
theorem Kq.low {z z' : World} {v : Value} {L : List Int} (h : Kq z v L) (hb : Below z.heap.size z z') : Kq z' v L := h.only (Only.of_below (P := fun _ => False) hb) (fun _ _ q => q)
theorem Kq.lt {z : World} {v : Value} {L : List Int} (h : Kq z v L) : ∀ q, v.ownBlock = some q → q < z.heap.size := fun q hq => by
  rcases h with ⟨rfl, _⟩ | ⟨g, cu, rfl, h1, _⟩
  · cases hq
  · have e := slc_blk hq
    subst e
    exact h1.lt
theorem Kq.ty {z : World} {v : Value} {L : List Int} (h : Kq z v L) {q : Nat} (hq : v.ownBlock = some q) : ∃ cu, Blk z q cu 78 := by
  rcases h with ⟨rfl, _⟩ | ⟨g, cu, rfl, h1, _⟩
  · cases hq
  · have e := slc_blk hq
    subst e
    exact ⟨cu, h1⟩
theorem Kq.form {z : World} {v : Value} {L : List Int} (h : Kq z v L) : ∃ p c, v = .slice p L.length c ∧ L.length ≤ 8 ∧ Ils z p L := by
  rcases h with ⟨rfl, rfl⟩ | ⟨g, cu, rfl, h1, h2, h3, h4⟩
  · exact ⟨none, 0, rfl, by simp, fun j hj => absurd hj (by simp)⟩
  · exact ⟨_, 8, by rw [h3], by omega, h4⟩
theorem Kq.mkd {z : World} {v : Value} {L : List Int} (h : Kq z v L) : Mkd z v 0 0 := by
  rcases h with ⟨rfl, rfl⟩ | ⟨g, cu, rfl, h1, h2, h3, h4⟩
  · exact .inl rfl
  · exact .inr ⟨g, cu, rfl, h1, h2, fun j hj => absurd hj (by omega)⟩
theorem places_u (dr dg : ByteArray) (w : World) (hK : KTab w) : Calls Tryd.prog 19 #[.string dr, .string dg] w fun e w' => ∃ v, e = .returned (.tuple #[v, .int .i64 (plE dr dg)]) ∧ Kq w' v (ntl (plO dr dg)) ∧ (∀ q, v.ownBlock = some q → w.heap.size ≤ q) ∧ Below w.heap.size w w' := by
  by_cases h : dr.size = 16 ∧ dg.size = 32
  · refine (places_ok dr dg w h.1 h.2 hK).mono ?_
    rintro e w' ⟨g, rfl, hg, hB, hb⟩
    have hl := plO_len dr dg h.1 h.2
    exact ⟨_, by rw [plE, if_pos h.1, if_pos h.2], .inr ⟨g, _, rfl, hB, arr8_size _, by rw [ntl_len, hl], ils_arr8 hB hl⟩, fun q hq => by rw [← slc_blk hq]; exact hg, hb⟩
  · refine (places_bad dr dg w h hK).mono ?_
    rintro e w' ⟨rfl, h0, hb⟩
    exact ⟨_, rfl, .inl ⟨rfl, by rw [h0]; rfl⟩, fun q hq => (by cases hq), hb⟩
/-- The law's book while lists are kept: it has kept lists that say Ls. -/
def KS (N b : Nat) (vl : Value) (nl : Nat) (Ll Lf : List Value) (vf : Value) (Ls : List (List Int)) (z : World) : Prop := ∃ vw Lw, Bb z N b vl vf vw nl Ls.length Ls.length Ll Lf Lw ∧ Apt13 Lf ∧ ∀ (i : Nat) (L : List Int), Ls[i]? = some L → ∃ v u, Lf[i]? = some v ∧ Lw[i]? = some u ∧ Kq z v L ∧ z.ownsRow N 3 1 u L.length (L.map (Value.int .i64))
/-- Blocks of other types are as they were. -/
def Kpt (z z' : World) : Prop := ∀ g cu T, Blk z g cu T → T ≠ 56 → T ≠ 26 → T ≠ 78 → Blk z' g cu T
theorem KS.low {N b nl : Nat} {vl vf : Value} {Ll Lf : List Value} {Ls : List (List Int)} {z z' : World} (h : KS N b vl nl Ll Lf vf Ls z) (hb : Below z.heap.size z z') : KS N b vl nl Ll Lf vf Ls z' := by
  obtain ⟨vw, Lw, h1, h2, h3⟩ := h
  refine ⟨vw, Lw, h1.low hb, h2, fun i L hi => ?_⟩
  obtain ⟨v, u, e1, e2, k1, k2⟩ := h3 i L hi
  exact ⟨v, u, e1, e2, k1.low hb, own_low k2 hb⟩
theorem KS.lt {N b nl : Nat} {vl vf : Value} {Ll Lf : List Value} {Ls : List (List Int)} {z : World} (h : KS N b vl nl Ll Lf vf Ls z) (i : Nat) (v : Value) (hv : Lf[i]? = some v) : ∃ L, Kq z v L := by
  obtain ⟨vw, Lw, h1, h2, h3⟩ := h
  have hl : Lf.length = Ls.length := by have := h1.rf.1; omega
  have hi : i < Ls.length := by
    rcases Nat.lt_or_ge i Lf.length with h9 | h9
    · omega
    · rw [List.getElem?_eq_none h9] at hv
      cases hv
  obtain ⟨v', u, e1, e2, k1, k2⟩ := h3 i _ (List.getElem?_eq_getElem hi)
  rw [hv] at e1
  injection e1 with e1
  subst e1
  exact ⟨_, k1⟩
theorem KS.kl0 {N b : Nat} {vf : Value} {Ll Lf : List Value} {Ls : List (List Int)} {z : World} (h : KS N b (.slice none 0 0) 0 Ll Lf vf Ls z) : Kl z b none 0 0 (fun _ => ⟨none, 0, 0⟩) := by
  obtain ⟨vw, Lw, h1, h2, h3⟩ := h
  exact ⟨h1.blk.cell 0, fun i hi => absurd hi (by omega), fun i hi => absurd hi (by omega), by omega, fun i hi => absurd hi (by omega)⟩
theorem list_snoc_get {α : Type} {L : List α} {x y : α} {i : Nat} (h : (L ++ [x])[i]? = some y) : L[i]? = some y ∧ i < L.length ∨ i = L.length ∧ x = y := by
  rcases Nat.lt_trichotomy i L.length with h9 | h9 | h9
  · rw [List.getElem?_append_left h9] at h
    exact .inl ⟨h, h9⟩
  · subst h9
    rw [List.getElem?_append_right (Nat.le_refl _), Nat.sub_self] at h
    injection h with h
    exact .inr ⟨rfl, h⟩
  · rw [List.getElem?_eq_none (by simp; omega)] at h
    cases h
theorem snoc_old {α : Type} {L : List α} {x y : α} {i : Nat} (h : L[i]? = some y) : (L ++ [x])[i]? = some y := by
  rw [List.getElem?_append_left (by
    rcases Nat.lt_or_ge i L.length with h9 | h9
    · exact h9
    · rw [List.getElem?_eq_none h9] at h
      cases h)]
  exact h
theorem snoc_new {α : Type} {L : List α} {x : α} {i : Nat} (h : i = L.length) : (L ++ [x])[i]? = some x := by
  subst h
  rw [List.getElem?_append_right (Nat.le_refl _), Nat.sub_self]
  rfl
theorem apt_snoc {L : List Value} {x : Value} (h : Apt13 L) (hx : ∀ q, x.ownBlock = some q → ∀ (i : Nat) (v : Value), L[i]? = some v → v.ownBlock ≠ some q) : Apt13 (L ++ [x]) := by
  intro i j v u hij hi hj q hq e
  rcases list_snoc_get hi with ⟨h1, _⟩ | ⟨h1, h2⟩
  · rcases list_snoc_get hj with ⟨h3, _⟩ | ⟨h3, h4⟩
    · exact h i j v u hij h1 h3 q hq e
    · subst h4
      exact hx q e i v h1 hq
  · subst h2
    rcases list_snoc_get hj with ⟨h3, _⟩ | ⟨h3, h4⟩
    · exact hx q hq j u h3 e
    · exact hij (by omega)
theorem KS.grow {N b nl : Nat} {vl vf vw vf' vw' : Value} {Ll Lf Lw : List Value} {Ls : List (List Int)} {z z' : World} {x u : Value} {L : List Int} (hB : Bb z N b vl vf vw nl Ls.length Ls.length Ll Lf Lw) (hA : Apt13 Lf) (hI : ∀ (i : Nat) (L : List Int), Ls[i]? = some L → ∃ v u, Lf[i]? = some v ∧ Lw[i]? = some u ∧ Kq z v L ∧ z.ownsRow N 3 1 u L.length (L.map (Value.int .i64)))
    (hB' : Bb z' N b vl vf' vw' nl (Ls.length + 1) (Ls.length + 1) Ll (Lf ++ [x]) (Lw ++ [u])) (ho : Only (fun q => q = b ∨ vf.ownBlock = some q ∨ vw.ownBlock = some q) z z') (hq : Kq z x L) (hu : z'.ownsRow N 3 1 u L.length (L.map (Value.int .i64))) (hx : ∀ q, x.ownBlock = some q → ∀ (i : Nat) (v : Value), Lf[i]? = some v → v.ownBlock ≠ some q) : KS N b vl nl Ll (Lf ++ [x]) vf' (Ls ++ [L]) z' := by
  have far : ∀ q cu T, Blk z q cu T → T ≠ 26 → T ≠ 56 → ¬ (q = b ∨ vf.ownBlock = some q ∨ vw.ownBlock = some q) := fun q cu T h1 h2 h3 e => by
    obtain ⟨t1, t2, t3, t4⟩ := hB.nt h1 h2 h3
    rcases e with e | e | e
    · exact t1 e.symm
    · exact t3 q e rfl
    · exact t4 q e rfl
  have kq : ∀ v L, Kq z v L → Kq z' v L := fun v L h => h.only ho (fun q hq => by
    obtain ⟨cu, hc⟩ := h.ty hq
    exact far q cu _ hc (by decide) (by decide))
  have hlf : Lf.length = Ls.length := by have := hB.rf.1; omega
  have hlw : Lw.length = Ls.length := by have := hB.rw.1; omega
  refine ⟨vw', Lw ++ [u], ?_, apt_snoc hA hx, fun i M hi => ?_⟩
  · rw [List.length_append]
    exact hB'
  · rcases list_snoc_get hi with ⟨h1, _⟩ | ⟨h1, h2⟩
    · obtain ⟨v, y, e1, e2, k1, k2⟩ := hI i M h1
      refine ⟨v, y, snoc_old e1, snoc_old e2, kq v M k1, own_only k2 ho (fun q hq => ?_)⟩
      obtain ⟨cu, hc⟩ := own_blk k2 hq
      exact far q cu _ hc (by decide) (by decide)
    · subst h2
      exact ⟨x, u, snoc_new (by omega), snoc_new (by omega), kq x L hq, hu⟩
theorem kpt_of {z z' : World} {N b nl nf nw : Nat} {vl vf vw : Value} {Ll Lf Lw : List Value} {P : Nat → Prop} (hB : Bb z N b vl vf vw nl nf nw Ll Lf Lw) (ho : Only P z z') (hP : ∀ q, P q → q = b ∨ vl.ownBlock = some q ∨ vf.ownBlock = some q ∨ vw.ownBlock = some q ∨ ∃ cu, Blk z q cu 78) : Kpt z z' := fun g cu T h1 h2 h3 h4 => h1.only ho (fun e => by
  obtain ⟨t1, t2, t3, t4⟩ := hB.nt h1 h3 h2
  rcases hP g e with e | e | e | e | ⟨c9, e⟩
  · exact t1 e.symm
  · exact t2 g e rfl
  · exact t3 g e rfl
  · exact t4 g e rfl
  · exact h4 (blk_ty h1 e))
theorem bb_hi {z z' : World} {N b nl nf nw : Nat} {vl vf vw : Value} {Ll Lf Lw : List Value} {P : Nat → Prop} (hB : Bb z N b vl vf vw nl nf nw Ll Lf Lw) (hb : N ≤ b) (ho : Only P z z') (hP : ∀ q, P q → q = b ∨ vl.ownBlock = some q ∨ vf.ownBlock = some q ∨ vw.ownBlock = some q ∨ N ≤ q) : Only (fun q => N ≤ q) z z' := ho.mono (fun q _ e => by
  rcases hP q e with e | e | e | e | e
  · subst e
    exact hb
  · exact (hB.rl.lt q e).1
  · exact (hB.rf.lt q e).1
  · exact (hB.rw.lt q e).1
  · exact e)
theorem keep_u {N b nl : Nat} {vl vf : Value} {Ll Lf : List Value} {Ls : List (List Int)} {z : World} (h : KS N b vl nl Ll Lf vf Ls z) (hb : N ≤ b) (hl : Ls.length ≤ 1000) {x : Value} {L : List Int} (hq : Kq z x L) (hx : ∀ q, x.ownBlock = some q → ∀ (i : Nat) (v : Value), Lf[i]? = some v → v.ownBlock ≠ some q) :
    Calls Tryd.prog 26 #[.pointer (some ⟨b, 0, none⟩), x] z fun e z' => e = .returned (.tuple #[]) ∧ (∃ vf', KS N b vl nl Ll (Lf ++ [x]) vf' (Ls ++ [L]) z') ∧ Kpt z z' ∧ Only (fun q => N ≤ q) z z' := by
  obtain ⟨vw, Lw, hB, hA, hI⟩ := h
  rcases hq with ⟨rfl, rfl⟩ | ⟨g, cu, rfl, h1, h2, h3, h4⟩
  · refine (keepN13 hB (by omega) (by omega)).mono ?_
    rintro e z' ⟨rfl, gf, cf, gw, cw, hB', _, _, ho⟩
    exact ⟨rfl, ⟨_, KS.grow hB hA hI hB' ho (.inl ⟨rfl, rfl⟩) (World.ownsRow_nil _ _ _ _) hx⟩, kpt_of hB ho (fun q e => e.elim .inl (fun e => e.elim (fun e => .inr (.inr (.inl e))) (fun e => .inr (.inr (.inr (.inl e)))))), bb_hi hB hb ho (fun q e => e.elim .inl (fun e => e.elim (fun e => .inr (.inr (.inl e))) (fun e => .inr (.inr (.inr (.inl e))))))⟩
  · obtain ⟨t1, t2, t3, t4⟩ := hB.ng h1
    refine (keep13 hB (by omega) (by omega) g 0 8 8 L h4 h3 (by omega) (by omega) (fun e => t3 g e rfl) (fun e => t1 e.symm)).mono ?_
    rintro e z' ⟨rfl, gf, cf, gw, cw, gc, cc, hB', hu, _, _, _, ho⟩
    exact ⟨rfl, ⟨_, KS.grow hB hA hI hB' ho (.inr ⟨g, cu, rfl, h1, h2, h3, h4⟩) (by rw [h3]; exact hu) hx⟩, kpt_of hB ho (fun q e => e.elim .inl (fun e => e.elim (fun e => .inr (.inr (.inl e))) (fun e => .inr (.inr (.inr (.inl e)))))), bb_hi hB hb ho (fun q e => e.elim .inl (fun e => e.elim (fun e => .inr (.inr (.inl e))) (fun e => .inr (.inr (.inr (.inl e))))))⟩
/-- A taken list reads as its marks. -/
def Tq (z : World) (v : Value) : Prop := ∃ p n c, v = .slice p n c ∧ n ≤ 1000000 ∧ Ils z p (List.replicate n (-1000))
theorem Tq.row {z : World} {B n c g : Nat} (h : z.ownsRow B 3 1 (.slice (some ⟨g, 0, none⟩) n c) n (List.replicate n (Value.int .i64 (-1000)))) (hn : n ≤ 1000000) : Tq z (.slice (some ⟨g, 0, none⟩) n c) := by
  refine ⟨_, n, c, rfl, hn, fun j hj => ?_⟩
  rw [List.length_replicate] at hj
  obtain ⟨cu, hc⟩ := own_blk h (k := g) rfl
  refine ⟨g, 0, rfl, hc.lt, ?_⟩
  have h9 := (own_at h (g := g) rfl j hj).1
  rw [Nat.zero_add, h9, List.getElem?_replicate, if_pos hj, List.getD_eq_getElem?_getD, List.getElem?_replicate, if_pos hj]
  rfl
theorem Tq.mk8 {z : World} {g : Nat} (h : Mk8 z g (-1000)) : Tq z (.slice (some ⟨g, 0, none⟩) 8 8) := by
  obtain ⟨cu, h1, h2⟩ := h
  refine ⟨_, 8, 8, rfl, by omega, fun j hj => ?_⟩
  rw [List.length_replicate] at hj
  refine ⟨g, 0, rfl, h1.lt, ?_⟩
  rw [Nat.zero_add, h1.cell, h2 j hj, List.getD_eq_getElem?_getD, List.getElem?_replicate, if_pos hj]
  rfl
theorem Tq.nil (z : World) : Tq z (.slice none 0 0) := ⟨none, 0, 0, rfl, by omega, fun j hj => absurd hj (by simp)⟩
theorem kl_four {z : World} {N b gl cl : Nat} {v0 v1 v2 v3 : Value} (hc : z.cell? ⟨b, 0, none⟩ = some (.slice (some ⟨gl, 0, none⟩) 4 cl)) (hr : z.ownsRow N 26 1 (.slice (some ⟨gl, 0, none⟩) 4 cl) 4 [v0, v1, v2, v3]) (h0 : Tq z v0) (h1 : Tq z v1) (h2 : Tq z v2) (h3 : Tq z v3) : ∃ al cl P, Kl z b al 4 cl P := by
  obtain ⟨p0, n0, c0, rfl, m0, k0⟩ := h0
  obtain ⟨p1, n1, c1, rfl, m1, k1⟩ := h1
  obtain ⟨p2, n2, c2, rfl, m2, k2⟩ := h2
  obtain ⟨p3, n3, c3, rfl, m3, k3⟩ := h3
  obtain ⟨cu, hB⟩ := own_blk hr (k := gl) rfl
  refine ⟨_, cl, fun i => if i = 0 then ⟨p0, n0, c0⟩ else if i = 1 then ⟨p1, n1, c1⟩ else if i = 2 then ⟨p2, n2, c2⟩ else ⟨p3, n3, c3⟩, hc, fun i hi => ⟨gl, 0, rfl, hB.lt, ?_⟩, fun i hi => ?_, by omega, fun i hi => ?_⟩
  · rw [Nat.zero_add, (own_at hr (g := gl) rfl i hi).1]
    rcases (show i = 0 ∨ i = 1 ∨ i = 2 ∨ i = 3 by omega) with rfl | rfl | rfl | rfl <;> rfl
  · rcases (show i = 0 ∨ i = 1 ∨ i = 2 ∨ i = 3 by omega) with rfl | rfl | rfl | rfl
    · exact k0
    · exact k1
    · exact k2
    · exact k3
  · rcases (show i = 0 ∨ i = 1 ∨ i = 2 ∨ i = 3 by omega) with rfl | rfl | rfl | rfl
    · exact m0
    · exact m1
    · exact m2
    · exact m3
/-- The taken lists stand whatever is done to the kept ones. -/
def TkS (b : Nat) (vf : Value) (Lf : List Value) (z : World) : Prop := ∀ z', Only (fun q => vf.ownBlock = some q ∨ ∃ (i : Nat) (v : Value), Lf[i]? = some v ∧ v.ownBlock = some q) z z' → ∃ al cl P, Kl z' b al 4 cl P
theorem TkS.low {b : Nat} {vf : Value} {Lf : List Value} {z z' : World} (h : TkS b vf Lf z) (hb : Below z.heap.size z z') : TkS b vf Lf z' := fun y hy => h y ((Only.of_below hb).trans hy (fun _ _ e => e))
theorem take_end {N b gl cl : Nat} {vf vw : Value} {nf nw : Nat} {Lf Lw : List Value} {z : World} {v0 v1 v2 v3 : Value} (hB : Bb z N b (.slice (some ⟨gl, 0, none⟩) 4 cl) vf vw 4 nf nw [v0, v1, v2, v3] Lf Lw) (hL : ∀ (i : Nat) (v : Value), Lf[i]? = some v → ∃ L, Kq z v L)
    (h0 : ∀ z', Only (fun q => vf.ownBlock = some q ∨ ∃ (i : Nat) (v : Value), Lf[i]? = some v ∧ v.ownBlock = some q) z z' → Tq z' v0 ∧ Tq z' v1 ∧ Tq z' v2 ∧ Tq z' v3) : TkS b vf Lf z := fun z' ho => by
  have nb : ¬ (vf.ownBlock = some b ∨ ∃ (i : Nat) (v : Value), Lf[i]? = some v ∧ v.ownBlock = some b) := fun e => by
    rcases e with e | ⟨i, v, e1, e2⟩
    · exact hB.nb.2.1 e
    · obtain ⟨L, hq⟩ := hL i v e1
      obtain ⟨cu, hc⟩ := hq.ty e2
      exact absurd (blk_ty hc hB.blk) (by decide)
  have hrl := own_only hB.rl ho (fun q hq e => by
    rcases e with e | ⟨i, v, e1, e2⟩
    · exact hB.fl q e hq
    · obtain ⟨L, hk⟩ := hL i v e1
      obtain ⟨cu, hc⟩ := hk.ty e2
      obtain ⟨c9, hc9⟩ := own_blk hB.rl hq
      exact absurd (blk_ty hc hc9) (by decide))
  obtain ⟨a0, a1, a2, a3⟩ := h0 z' ho
  exact kl_four ((hB.blk.only ho nb).cell 0) hrl a0 a1 a2 a3
theorem row_far {N b : Nat} {vl vf vw : Value} {nl nf nw : Nat} {Ll Lf Lw : List Value} {z z' : World} (hB : Bb z N b vl vf vw nl nf nw Ll Lf Lw) (hL : ∀ (i : Nat) (v : Value), Lf[i]? = some v → ∃ L, Kq z v L) {B n : Nat} {v : Value} {xs : List Value} (h : z.ownsRow B 3 1 v n xs) (ho : Only (fun q => vf.ownBlock = some q ∨ ∃ (i : Nat) (v : Value), Lf[i]? = some v ∧ v.ownBlock = some q) z z') : z'.ownsRow B 3 1 v n xs :=
  own_only h ho (fun q hq e => by
    obtain ⟨c9, hc9⟩ := own_blk h hq
    rcases e with e | ⟨i, v, e1, e2⟩
    · obtain ⟨c8, hc8⟩ := own_blk hB.rf e
      exact absurd (blk_ty hc8 hc9) (by decide)
    · obtain ⟨L, hk⟩ := hL i v e1
      obtain ⟨cu, hc⟩ := hk.ty e2
      exact absurd (blk_ty hc hc9) (by decide))
theorem take_u {N b : Nat} {vf : Value} {Lf : List Value} {Ls : List (List Int)} {z : World} (h : KS N b (.slice none 0 0) 0 [] Lf vf Ls z) (hb : N ≤ b) {x : Value} {L : List Int} (hq : Kq z x L) (hN : ∀ q, x.ownBlock = some q → N ≤ q) (hx : ∀ q, x.ownBlock = some q → ∀ (i : Nat) (v : Value), Lf[i]? = some v → v.ownBlock ≠ some q) :
    Calls Tryd.prog 27 #[.pointer (some ⟨b, 0, none⟩), x] z fun e z' => e = .returned (.tuple #[]) ∧ (∃ vl Ll, KS N b vl 4 Ll Lf vf Ls z') ∧ TkS b vf Lf z' ∧ Kpt z z' ∧ Only (fun q => N ≤ q) z z' := by
  have hKS := h
  obtain ⟨vw, Lw, hB, hA, hI⟩ := h
  have old : ∀ (z' : World) (P : Nat → Prop), Only P z z' → (∀ q, P q → q = b ∨ x.ownBlock = some q) → ∀ (i : Nat) (M : List Int), Ls[i]? = some M → ∃ v u, Lf[i]? = some v ∧ Lw[i]? = some u ∧ Kq z' v M ∧ z'.ownsRow N 3 1 u M.length (M.map (Value.int .i64)) := fun z' P ho hP i M hi => by
    obtain ⟨v, y, e1, e2, k1, k2⟩ := hI i M hi
    refine ⟨v, y, e1, e2, k1.only ho (fun q hq9 e => ?_), own_only k2 ho (fun q hq9 e => ?_)⟩
    · rcases hP q e with e | e
      · obtain ⟨cu, hc⟩ := k1.ty hq9
        subst e
        exact absurd (blk_ty hc hB.blk) (by decide)
      · exact hx q e i v e1 hq9
    · obtain ⟨cu, hc⟩ := own_blk k2 hq9
      rcases hP q e with e | e
      · subst e
        exact absurd (blk_ty hc hB.blk) (by decide)
      · obtain ⟨c9, hc9⟩ := hq.ty e
        exact absurd (blk_ty hc hc9) (by decide)
  have mk0 : (-1000 - ((0 / 4 : Nat) : Int)) = -1000 := by decide
  rcases hq with ⟨rfl, rfl⟩ | ⟨g, cu, rfl, h1, h2, h3, h4⟩
  · refine (takeN13 hB none 0 rfl (by omega) (-1000) mk0).mono ?_
    rintro e z' ⟨rfl, gl, cl, gx, cx, gy, cy, gu, cu, hB', r1, r2, r3, _, ho⟩
    have hP : ∀ q, (q = b ∨ (Value.slice none 0 0).ownBlock = some q) → q = b := fun q e => e.elim id (fun e => by cases e)
    have hK' : KS N b _ 4 _ Lf vf Ls z' := ⟨vw, Lw, hB', hA, old z' _ ho (fun q e => .inl (hP q e))⟩
    refine ⟨rfl, ⟨_, _, hK'⟩, take_end hB' (fun i v hv => hK'.lt i v hv) (fun y hy => ⟨Tq.nil _, Tq.row (row_far hB' (fun i v hv => hK'.lt i v hv) r1 hy) (by omega), Tq.row (row_far hB' (fun i v hv => hK'.lt i v hv) r2 hy) (by omega), Tq.row (row_far hB' (fun i v hv => hK'.lt i v hv) r3 hy) (by omega)⟩), kpt_of hB ho (fun q e => .inl (hP q e)), bb_hi hB hb ho (fun q e => .inl (hP q e))⟩
  · refine (take13 hB none 0 rfl (by omega) g cu h1 h2 (-1000) mk0).mono ?_
    rintro e z' ⟨rfl, gl, cl, gx, cx, gy, cy, gu, cu9, hB', m8, r1, r2, r3, _, ho⟩
    have hP : ∀ q, (q = b ∨ q = g ∨ (Value.slice none 0 0).ownBlock = some q) → q = b ∨ q = g := fun q e => e.elim .inl (fun e => e.elim .inr (fun e => by cases e))
    have hK' : KS N b _ 4 _ Lf vf Ls z' := ⟨vw, Lw, hB', hA, old z' _ ho (fun q e => (hP q e).elim .inl (fun e => .inr (by rw [e]; rfl)))⟩
    have m9 : ∀ y, Only (fun q => vf.ownBlock = some q ∨ ∃ (i : Nat) (v : Value), Lf[i]? = some v ∧ v.ownBlock = some q) z' y → Mk8 y g (-1000) := fun y hy => m8.only hy (fun e => by
      obtain ⟨c9, hc9, _⟩ := m8
      rcases e with e | ⟨i, v, e1, e2⟩
      · obtain ⟨c8, hc8⟩ := own_blk hB'.rf e
        exact absurd (blk_ty hc8 hc9) (by decide)
      · exact hx g rfl i v e1 e2)
    refine ⟨rfl, ⟨_, _, hK'⟩, take_end hB' (fun i v hv => hK'.lt i v hv) (fun y hy => ⟨Tq.mk8 (m9 y hy), Tq.row (row_far hB' (fun i v hv => hK'.lt i v hv) r1 hy) (by omega), Tq.row (row_far hB' (fun i v hv => hK'.lt i v hv) r2 hy) (by omega), Tq.row (row_far hB' (fun i v hv => hK'.lt i v hv) r3 hy) (by omega)⟩), kpt_of hB ho (fun q e => (hP q e).elim .inl (fun e => .inr (.inr (.inr (.inr ⟨cu, by rw [e]; exact h1⟩))))), bb_hi hB hb ho (fun q e => (hP q e).elim .inl (fun e => .inr (.inr (.inr (.inr (by rw [e]; exact hN g rfl))))))⟩
theorem settled_u {N b : Nat} {vl vf : Value} {Ll Lf : List Value} {Ls : List (List Int)} {z : World} (h : KS N b vl 4 Ll Lf vf Ls z) (h0 : 0 < Ls.length) (hl : Ls.length ≤ 1000) (hT : TkS b vf Lf z) (hN : ∀ (i : Nat) (v : Value), Lf[i]? = some v → ∀ q, v.ownBlock = some q → N ≤ q) :
    Calls Tryd.prog 29 #[.pointer (some ⟨b, 0, none⟩)] z fun e z' => e = .returned (.bool true) ∧ Only (fun q => N ≤ q) z z' := by
  have hL := fun i v hv => h.lt i v hv
  obtain ⟨vw, Lw, hB, hA, hI⟩ := h
  obtain ⟨gf, cf, rfl, hgf, _⟩ := hB.rf.form h0
  obtain ⟨gw, cw, rfl, hgw, _⟩ := hB.rw.form h0
  refine (settled13 hB (by omega) (fun i hi => ?_) (fun i v hv => (let ⟨_, q⟩ := hL i v hv; q.mkd)) hA (fun z' ho => hT z' (ho.mono (fun q _ e => e.elim (fun e => .inl (by rw [e]; rfl)) .inr)))).mono ?_
  · obtain ⟨v, u, e1, e2, k1, k2⟩ := hI i _ (List.getElem?_eq_getElem hi)
    obtain ⟨p, c, rfl, h8, hp⟩ := k1.form
    obtain ⟨q, d, rfl, hq, _⟩ := own_ils k2
    exact ⟨p, _, c, q, d, _, e1, e2, rfl, by omega, hp, hq⟩
  · rintro e z' ⟨rfl, ho⟩
    exact ⟨rfl, ho.mono (fun q _ e => e.elim (fun e => by rw [e]; exact hgf) (fun ⟨i, v, e1, e2⟩ => hN i v e1 q e2))⟩
end Go.Proofs.YtabgcgdpeikieaaDoor
namespace Go.Proofs.YtabgcgdpeikieaaDoor
open Go.RowKit Go.Conc
set_option maxRecDepth 100000
/-- The text of a round. -/
def txt5 (a c : ByteArray) (k : Nat) : ByteArray := if k = 2 then c else a
/-- What the rounds kept. -/
def lsP (d a c : ByteArray) (k : Nat) : List (List Int) := (List.range k).map fun j => ntl (plO d (txt5 a c j))
theorem lsP_len (d a c : ByteArray) (k : Nat) : (lsP d a c k).length = k := by simp [lsP]
theorem lsP_succ (d a c : ByteArray) (k : Nat) : lsP d a c (k + 1) = lsP d a c k ++ [ntl (plO d (txt5 a c k))] := by simp [lsP, List.range_succ]
/-- Behind k rounds. -/
structure PS (w : World) (N b lb : Nat) (d a c : ByteArray) (k : Nat) (x : World) : Prop where
  lo : Below N w x
  row : Blk x lb #[.string a, .string a, .string c, .string a, .string a] 9
  st : (k ≤ 4 ∧ ∃ Lf vf, KS N b (.slice none 0 0) 0 [] Lf vf (lsP d a c k) x ∧ ∀ (i : Nat) (v : Value), Lf[i]? = some v → ∀ q, v.ownBlock = some q → N ≤ q) ∨ (k = 5 ∧ ∃ Lf vf vl Ll, KS N b vl 4 Ll Lf vf (lsP d a c 4) x ∧ TkS b vf Lf x ∧ ∀ (i : Nat) (v : Value), Lf[i]? = some v → ∀ q, v.ownBlock = some q → N ≤ q)
theorem only_hi {w x y : World} {N : Nat} (h : Below N w x) (hN : w.heap.size = N) (ho : Only (fun q => N ≤ q) x y) : Below N w y := by
  have h1 := h.size
  exact h.trans (ho.below (by omega) (fun k hk e => absurd hk (Nat.not_lt.2 e)))
set_option maxHeartbeats 4000000 in
theorem places13 (d a c : ByteArray) (hd : d.size ≤ 140737488351232) (ha : a.size ≤ 140737488351232) (hc : c.size ≤ 140737488351232) (w : World) (hK : KTab w) :
    Calls Tryd.prog 7 #[.string d, .string a, .string c] w fun e w' => e = .returned (.bool true) ∧ Below w.heap.size w w' := by
  obtain ⟨N, hn⟩ : ∃ N, w.heap.size = N := ⟨_, rfl⟩
  have HN := hide hn
  have HKN := hide (known13_any w hK)
  have HKT := hide (fun (z : World) (h : Below N w z) => hK.low (w' := z) (by rw [hn]; exact h))
  have HSZ := hide (And.intro hd (And.intro ha hc))
  clear hd ha hc hK
  rw [hn] at HKN ⊢
  clear hn
  go_enter Tryd.func7, Tryd.ntmps7
  go_wp2_with fail
  refine (unhide HKN).mono ?_
  rintro e z0 ⟨rfl, hb0⟩
  clear HKN
  obtain ⟨b, hb⟩ : ∃ b, z0.heap.size = b := ⟨_, rfl⟩
  have hNb : N ≤ b := by
    have h1 := hb0.size
    rw [unhide HN] at h1
    omega
  have HB0 := hide (show Bb (z0.alloc (.cells #[.slice none 0 0, .slice none 0 0, .slice none 0 0] 56)) N b (.slice none 0 0) (.slice none 0 0) (.slice none 0 0) 0 0 0 [] [] [] from
    ⟨by rw [← hb]; exact Blk.new _ _ _, World.ownsRow_nil _ _ _ _, World.ownsRow_nil _ _ _ _, World.ownsRow_nil _ _ _ _, fun q e => (by cases e), fun q e => (by cases e), fun q e => (by cases e), by rw [World.size_alloc]; omega⟩)
  have HL0 := hide (show Below N w (z0.alloc (.cells #[.slice none 0 0, .slice none 0 0, .slice none 0 0] 56)) from hb0.alloc (by omega) _)
  obtain ⟨z1, hz1⟩ : ∃ Z, z0.alloc (.cells #[.slice none 0 0, .slice none 0 0, .slice none 0 0] 56) = Z := ⟨_, rfl⟩
  have hsz1 : z1.heap.size = b + 1 := by rw [← hz1, World.size_alloc, hb]
  rw [hz1] at HB0 HL0
  have HZ1 := hide hz1
  have HBB := hide hb
  have HP0 := hide (show PS w N b (b + 1) d a c 0 (z1.alloc (.cells #[.string a, .string a, .string c, .string a, .string a] 9)) from by
    have hA : Below z1.heap.size z1 (z1.alloc (.cells #[.string a, .string a, .string c, .string a, .string a] 9)) := (Below.refl _ _).alloc (Nat.le_refl _) _
    refine ⟨(unhide HL0).trans (hA.mono (by omega)), by rw [← hsz1]; exact Blk.new _ _ _, .inl ⟨by omega, [], _, ⟨_, [], (unhide HB0).low hA, fun i j v u _ h => (by cases h), fun i L h => (by cases h)⟩, fun i v h => (by cases h)⟩⟩)
  clear hb0 HB0 HL0 hz1 hb
  go_wp2
  rw [unhide HZ1, unhide HBB]
  generalize z1.alloc (.cells #[.string a, .string a, .string c, .string a, .string a] 9) = z2 at *
  clear HZ1 HBB hsz1
  go_loopw [10] (fun i wr => ∃ k : Nat, k ≤ 5 ∧ i = .int .i64 (k : Int) ∧ PS w N b (b + 1) d a c k wr) (fun i _ => 5 - (intOf i).toNat)
  case atStart => exact ⟨0, by omega, rfl, unhide HP0⟩
  case round =>
    obtain ⟨k, hk, rfl, hP⟩ := hrel
    clear HP0
    by_cases hlt : k < 5
    · have i1 : (k : Int) < 5 := by omega
      have i2 : 0 ≤ (k : Int) := by omega
      obtain ⟨Lf, vf, hKS, hNN⟩ : ∃ Lf vf, KS N b (.slice none 0 0) 0 [] Lf vf (lsP d a c k) wr ∧ ∀ (i : Nat) (v : Value), Lf[i]? = some v → ∀ q, v.ownBlock = some q → N ≤ q := by
        rcases hP.st with h9 | h9
        · exact h9.2
        · omega
      obtain ⟨t, ht⟩ : ∃ t, txt5 a c k = t := ⟨_, rfl⟩
      have c1 : wr.cell? ⟨b + 1, k, none⟩ = some (.string t) := by
        rw [hP.row.cell, ← ht]
        rcases (show k = 0 ∨ k = 1 ∨ k = 2 ∨ k = 3 ∨ k = 4 by omega) with rfl | rfl | rfl | rfl | rfl <;> rfl
      have hts : t.size ≤ 140737488351232 := by
        rw [← ht, txt5]
        split
        · exact (unhide HSZ).2.2
        · exact (unhide HSZ).2.1
      have HRA := hide (rasked_any d t wr (by have := (unhide HSZ).1; omega) (by omega))
      have HLs := hide (lsP_succ d a c k)
      have HLn := hide (lsP_len d a c k)
      have HLo := hide hP.lo
      have HRow := hide hP.row
      have HKS := hide hKS
      have HNN := hide hNN
      rw [ht] at HLs
      obtain ⟨S, hS⟩ : ∃ S, plO d t = S := ⟨_, rfl⟩
      obtain ⟨E, hE⟩ : ∃ E, plE d t = E := ⟨_, rfl⟩
      have HPU := hide (fun (z : World) (h : Below N w z) => places_u d t z (unhide HKT z h))
      rw [hS, hE] at HRA HPU
      rw [hS] at HLs
      clear hP hKS hNN hS hE ht hts
      go_wp2_with fail
      refine (unhide HRA).mono ?_
      rintro e z3 ⟨v1, rfl, hR⟩
      obtain ⟨p1, cp1, hv1, hI1, _⟩ := own_ils hR.own
      subst hv1
      obtain ⟨L, hL⟩ : ∃ L, ntl S = L := ⟨_, rfl⟩
      rw [hL] at HLs HPU hI1
      rw [hL] at hR ⊢
      obtain ⟨n, hn⟩ : ∃ n, L.length = n := ⟨_, rfl⟩
      rw [hn] at hR ⊢
      have hw3 := hR.lo.size
      have hNw : N ≤ wr.heap.size := by have h1 := (unhide HLo).size; rw [unhide HN] at h1; exact h1
      have HI3 := hide hI1
      have HKS3 := hide ((unhide HKS).low hR.lo)
      have HRow3 := hide ((unhide HRow).below hR.lo (unhide HRow).lt)
      have HLo3 := hide ((unhide HLo).trans (hR.lo.mono hNw))
      have c3 : z3.cell? ⟨b + 1, k, none⟩ = some (.string t) := (hR.lo.cell (p := ⟨b + 1, k, none⟩) (unhide HRow).lt).trans c1
      have HFR := hide (fun (i : Nat) (v : Value) (hv : Lf[i]? = some v) (q : Nat) (hq : v.ownBlock = some q) => show q < z3.heap.size from by
        obtain ⟨L9, h9⟩ := (unhide HKS).lt i v hv
        have := h9.lt q hq
        omega)
      have hN3 : N ≤ z3.heap.size := by omega
      clear hR hI1 c1 HKS HRow HLo HRA hw3
      go_wp2_with fail
      refine (unhide HPU z3 (unhide HLo3)).mono ?_
      rintro e z4 ⟨v2, rfl, hq, hfr, hb4⟩
      obtain ⟨p2, c2, hv2, h8, hI2⟩ := hq.form
      rw [hn] at hv2 h8
      subst hv2
      have HSM := hide (same13z (z := z4) z4 p2 p1 c2 cp1 L n hn.symm (by omega) hI2 ((unhide HI3).below hb4) (Below.refl _ _))
      have HQ4 := hide hq
      have HFX := hide hfr
      have HKS4 := hide ((unhide HKS3).low hb4)
      have HRow4 := hide ((unhide HRow3).below hb4 (unhide HRow3).lt)
      have HLo4 := hide ((unhide HLo3).trans (hb4.mono hN3))
      have hN4 : N ≤ z4.heap.size := by have := hb4.size; omega
      clear hq hfr hb4 hI2 HI3 HKS3 HRow3 HLo3 HPU c3
      go_wp2_with fail
      refine (unhide HSM).mono ?_
      rintro e z5 ⟨rfl, hb5⟩
      have HQ5 := hide ((unhide HQ4).low hb5)
      have HKS5 := hide ((unhide HKS4).low hb5)
      have HRow5 := hide ((unhide HRow4).below hb5 (unhide HRow4).lt)
      have HLo5 := hide ((unhide HLo4).trans (hb5.mono hN4))
      have HXX := hide (fun (q : Nat) (hq : (Value.slice p2 n c2).ownBlock = some q) (i : Nat) (v : Value) (hv : Lf[i]? = some v) (e : v.ownBlock = some q) => show False from by
        have h1 := unhide HFX q hq
        have h2 := unhide HFR i v hv q e
        omega)
      clear hb5 HQ4 HKS4 HRow4 HLo4 HSM hN4
      by_cases h4 : k < 4
      · have i4 : (k : Int) < 4 := by omega
        as_aux_lemma =>
          have HKU := hide (keep_u (unhide HKS5) hNb (by rw [unhide HLn]; omega) (unhide HQ5) (unhide HXX))
          go_wp2_with fail
          refine (unhide HKU).mono ?_
          rintro e z6 ⟨rfl, ⟨vf', hK6⟩, hkp, ho6⟩
          have HK6 := hide hK6
          have HKP := hide hkp
          have HO6 := hide ho6
          clear hK6 hkp ho6 HKU
          have hlo6 := only_hi (unhide HLo5) (unhide HN) (unhide HO6)
          have HPS := hide (show PS w N b (b + 1) d a c (k + 1) z6 from ⟨hlo6, unhide HKP _ _ _ (unhide HRow5) (by decide) (by decide) (by decide), .inl ⟨by omega, Lf ++ [.slice p2 n c2], vf', by rw [unhide HLs]; exact unhide HK6, fun i v hv q hq => (list_snoc_get hv).elim (fun e => unhide HNN i v e.1 q hq) (fun e => Nat.le_trans hN3 (unhide HFX q (by rw [e.2]; exact hq)))⟩⟩)
          have HKE := hide (kept13_any (unhide HK6).kl0)
          clear hlo6
          go_wp2_with fail
          refine (unhide HKE).mono ?_
          rintro e y ⟨rfl, hy⟩
          subst hy
          have hne : (E != E) = false := by simp
          clear HKE
          go_wp2
          go_roundw
          case rel => exact ⟨k + 1, by omega, by go_num, unhide HPS⟩
          case measure => simp [intOf]; omega
      · have i4 : ¬ ((k : Int) < 4) := by omega
        as_aux_lemma =>
          have HKU := hide (take_u (unhide HKS5) hNb (unhide HQ5) (fun q hq => Nat.le_trans hN3 (unhide HFX q hq)) (unhide HXX))
          go_wp2_with fail
          refine (unhide HKU).mono ?_
          rintro e z6 ⟨rfl, ⟨vl', Ll', hK6⟩, htk, hkp, ho6⟩
          have HK6 := hide hK6
          have HTK := hide htk
          have HKP := hide hkp
          have HO6 := hide ho6
          obtain ⟨al, cl9, P9, hkl⟩ := htk z6 (Only.refl _ _)
          clear hK6 hkp ho6 htk HKU
          have hlo6 := only_hi (unhide HLo5) (unhide HN) (unhide HO6)
          have HPS := hide (show PS w N b (b + 1) d a c (k + 1) z6 from ⟨hlo6, unhide HKP _ _ _ (unhide HRow5) (by decide) (by decide) (by decide), .inr ⟨by omega, Lf, vf, vl', Ll', by have h8 := unhide HK6; rw [show k = 4 by omega] at h8; exact h8, unhide HTK, unhide HNN⟩⟩)
          have HKE := hide (kept13_any hkl)
          clear hlo6 hkl
          go_wp2_with fail
          refine (unhide HKE).mono ?_
          rintro e y ⟨rfl, hy⟩
          subst hy
          have hne : (E != E) = false := by simp
          clear HKE
          go_wp2
          go_roundw
          case rel => exact ⟨k + 1, by omega, by go_num, unhide HPS⟩
          case measure => simp [intOf]; omega
    · have h5 : k = 5 := by omega
      have i1 : ¬ ((k : Int) < 5) := by omega
      obtain ⟨Lf, vf, vl, Ll, hKS, hT, hNN⟩ : ∃ Lf vf vl Ll, KS N b vl 4 Ll Lf vf (lsP d a c 4) wr ∧ TkS b vf Lf wr ∧ ∀ (i : Nat) (v : Value), Lf[i]? = some v → ∀ q, v.ownBlock = some q → N ≤ q := by
        rcases hP.st with h9 | h9
        · omega
        · exact h9.2
      have HSU := hide (settled_u hKS (by rw [lsP_len]; omega) (by rw [lsP_len]; omega) hT hNN)
      have HLo := hide hP.lo
      clear hP hKS hT hNN hlt h5
      go_wp2_with fail
      refine (unhide HSU).mono ?_
      rintro e y ⟨rfl, ho⟩
      have hlo := only_hi (unhide HLo) (unhide HN) ho
      clear ho HSU HLo
      go_wp2
      go_ret
      exact ⟨rfl, hlo⟩
end Go.Proofs.YtabgcgdpeikieaaDoor
