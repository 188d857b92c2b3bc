import Derived.Test.YtffiaogbphgmgaaGreatDoorMz00
import Derived.Laws.CopyOwn
namespace Go.Proofs.YtffiaogbphgmgaaGreatDoor
open Go.RowKit
theorem infoW : (Tryz.prog.info? 49).map (fun i => (i.zero, i.size, i.bytes)) = some (some (.agg #[.int .i64 0, .string ⟨#[]⟩]), 2, 24) := by kernel_rfl
theorem infoA : (Tryz.prog.info? 135).map (fun i => (i.zero, i.size, i.bytes)) = some (some (.agg #[.int .u8 0, .int .u16 0]), 2, 4) := by kernel_rfl
theorem DPost.trans {w w1 w2 : World} {base b : Nat} {v v1 : DV} {s2 : DSt} (h : Only (Fd b v) w w1) (hv : ∀ k, Fd b v1 k → Fd b v k ∨ w.heap.size ≤ k) (h2 : DPost base b v1 s2 w1 w2) : DPost base b v s2 w w2 := by
  obtain ⟨v2, a, o, q⟩ := h2
  refine ⟨v2, a, h.trans o (fun k hk hf => ?_), fun k hk => ?_⟩
  · rcases hv k hf with h3 | h3
    · exact h3
    · omega
  · rcases q k hk with h3 | h3
    · exact hv k h3
    · exact .inr (Nat.le_trans h.size h3)
theorem grown_only {w w1 : World} {r : Option Nat} (h : w.grownBy w1 r) : Only (fun k => r = some k) w w1 := (Only.refl _ w).grown h (fun _ _ e => e)
theorem Dk.appA {W w1 : World} {base b : Nat} {v : DV} {s : DSt} (h : Dk W base b v s) (g cap : Nat) (x : Nat × Nat) (ho : w1.ownsRow base 135 2 (.slice (some ⟨g, 0, none⟩) (s.acts.length + 1) cap) (s.acts.length + 1) (acs s.acts ++ acs [x])) (hg : W.grownBy w1 v.a.ownBlock) (hor : v.a.ownBlock = some g ∨ g = W.heap.size) :
    DPost base b v { s with acts := s.acts ++ [x] } W (w1.setCell ⟨b, 3, none⟩ (.slice (some ⟨g, 0, none⟩) (s.acts.length + 1) cap)) := by
  have hO := grown_only hg
  have hB : Blk w1 b _ _ := h.blk.only hO h.nb.2.2.2
  have hl := owns_only h.rl hO (fun k hk q => rows_ne h.rl h.ra (by decide) k hk q)
  have hn := owns_only h.rn hO (fun k hk q => rows_ne h.rn h.ra (by decide) k hk q)
  have hp := owns_only h.rp hO (fun k hk q => rows_ne h.rp h.ra (by decide) k hk q)
  have hgb : (Value.slice (some ⟨g, 0, none⟩) (s.acts.length + 1) cap).ownBlock ≠ some b := hB.not_row (by decide) ho
  refine ⟨{ v with a := .slice (some ⟨g, 0, none⟩) (s.acts.length + 1) cap }, ⟨hB.set 3 _, owns_setO hl _ _ h.nb.1, owns_setO hn _ _ h.nb.2.1, owns_setO hp _ _ h.nb.2.2.1, ?_, h.ne, h.lo⟩, only_b (hO.mono (fun k _ q => .inr (.inr (.inr (.inr q))))) _ _, fun k hk => ?_⟩
  · have := owns_setO ho ⟨b, 3, none⟩ (.slice (some ⟨g, 0, none⟩) (s.acts.length + 1) cap) hgb
    simpa [acs_app] using this
  · rcases hk with hk | hk | hk | hk | hk
    · exact .inl (.inl hk)
    · exact .inl (.inr (.inl hk))
    · exact .inl (.inr (.inr (.inl hk)))
    · exact .inl (.inr (.inr (.inr (.inl hk))))
    · obtain rfl : g = k := by simpa [Value.ownBlock] using hk
      rcases hor with h1 | h1
      · exact .inl (.inr (.inr (.inr (.inr h1))))
      · exact .inr (by omega)
theorem Dk.appP {W w1 : World} {base b : Nat} {v : DV} {s : DSt} (h : Dk W base b v s) (g cap : Nat) (x : Nat × ByteArray) (ho : w1.ownsRow base 49 2 (.slice (some ⟨g, 0, none⟩) (s.pend.length + 1) cap) (s.pend.length + 1) (wrs s.pend ++ wrs [x])) (hg : W.grownBy w1 v.p.ownBlock) (hor : v.p.ownBlock = some g ∨ g = W.heap.size) :
    DPost base b v { s with pend := s.pend ++ [x] } W (w1.setCell ⟨b, 2, none⟩ (.slice (some ⟨g, 0, none⟩) (s.pend.length + 1) cap)) := by
  have hO := grown_only hg
  have hB : Blk w1 b _ _ := h.blk.only hO h.nb.2.2.1
  have hl := owns_only h.rl hO (fun k hk q => rows_ne h.rl h.rp (by decide) k hk q)
  have hn := owns_only h.rn hO (fun k hk q => rows_ne h.rn h.rp (by decide) k hk q)
  have ha := owns_only h.ra hO (fun k hk q => rows_ne h.ra h.rp (by decide) k hk q)
  have hgb : (Value.slice (some ⟨g, 0, none⟩) (s.pend.length + 1) cap).ownBlock ≠ some b := hB.not_row (by decide) ho
  refine ⟨{ v with p := .slice (some ⟨g, 0, none⟩) (s.pend.length + 1) cap }, ⟨hB.set 2 _, owns_setO hl _ _ h.nb.1, owns_setO hn _ _ h.nb.2.1, ?_, owns_setO ha _ _ h.nb.2.2.2, h.ne, h.lo⟩, only_b (hO.mono (fun k _ q => .inr (.inr (.inr (.inl q))))) _ _, fun k hk => ?_⟩
  · have := owns_setO ho ⟨b, 2, none⟩ (.slice (some ⟨g, 0, none⟩) (s.pend.length + 1) cap) hgb
    simpa [wrs_app] using this
  · rcases hk with hk | hk | hk | hk | hk
    · exact .inl (.inl hk)
    · exact .inl (.inr (.inl hk))
    · exact .inl (.inr (.inr (.inl hk)))
    · obtain rfl : g = k := by simpa [Value.ownBlock] using hk
      rcases hor with h1 | h1
      · exact .inl (.inr (.inr (.inr (.inl h1))))
      · exact .inr (by omega)
    · exact .inl (.inr (.inr (.inr (.inr hk))))
theorem Dk.alloc {w : World} {base b : Nat} {v : DV} {s : DSt} (h : Dk w base b v s) (o : Obj) : Dk (w.alloc o) base b v s := h.below ((Below.refl _ w).alloc (Nat.le_refl _) o)
theorem news_two (w : World) (T : TypeId) (x y : Value) (j : Nat) (u : Value) (hu : [x, y][j]? = some u) : (w.alloc (.cells #[x, y] T)).cell? (Addr.add ⟨w.heap.size, 0, none⟩ j) = some u := by
  rw [Addr.add_mid, Nat.zero_add, (Blk.new w T #[x, y]).cell j, ← hu]
  simp
theorem alloc_fd {w : World} {b : Nat} {v : DV} (o : Obj) : Only (Fd b v) w (w.alloc o) := (Only.refl _ w).alloc o
set_option maxRecDepth 100000 in
set_option maxHeartbeats 1000000 in
theorem note_any (w : World) (base b : Nat) (v : DV) (s : DSt) (h : Dk w base b v s) (hb : base ≤ w.heap.size) (k i : Nat) (hi : i < 65536) (hz : s.acts.length ≤ 1000000000) :
    Calls Tryz.prog 67 #[.pointer (some ⟨b, 0, none⟩), .int .u8 (k : Int), .int .i64 (i : Int)] w fun e w' => e = .returned (.tuple #[]) ∧ DPost base b v { s with acts := s.acts ++ [(k, i)] } w w' := by
  obtain ⟨p, cap, ev, hcap⟩ := row_form h.ra
  have c3 : w.cell? ⟨b, 3, none⟩ = some (.slice p s.acts.length cap) := by rw [h.blk.cell 3, ← ev]; rfl
  have hu : IntKind.u16.wrap (i : Int) = (i : Int) := by rw [IntKind.wrap_u16]; omega
  have H := hide (h.alloc (.cells #[.int .u8 (k : Int), .int .u16 (i : Int)] 135))
  have HE := hide ev
  obtain ⟨i0, hi0, hz0, hz1, hz2⟩ := info_parts infoA
  have HI := hide (And.intro hi0 (And.intro hz0 (And.intro hz1 hz2)))
  clear h ev hi0 hz0 hz1 hz2
  go_enter Tryz.func67, Tryz.ntmps67
  go_wp2_with (refine wpList_append_lies _ rfl (.tmp 10) (.tmp 15) 61 rfl base 135 i0 (.agg #[.int .u8 0, .int .u16 0]) 2 4 Tryz.underlying61 (unhide HI).1 (unhide HI).2.1 (unhide HI).2.2.1 (unhide HI).2.2.2 rfl (by decide) _ s.acts.length (acs s.acts) (unhide HE).symm (unhide H).ra ⟨w.heap.size, 0, none⟩ 1 1 (acs [(k, i)]) rfl rfl (fun j u hu => news_two w _ _ _ j u hu) (by simp [acs, Value.oneCell']) (by decide) (by unfold maxLen; omega) (by omega) (by simp; omega) _ rfl ?_)
  intro g cap' w1 ho hg hor hlt
  have HP := hide ((unhide H).appA g cap' (k, i) ho hg (by simpa using hor))
  have B1 : Blk w1 b _ _ := (unhide H).blk.only (grown_only hg) (unhide H).nb.2.2.2
  have c3' : w1.cell? ⟨b, 3, none⟩ = some v.a := by rw [B1.cell 3]; rfl
  have f3' := B1.frozen 3
  clear ho hg hor hlt B1
  go_wp2
  go_end0
  exact ⟨rfl, DPost.trans (alloc_fd _) (fun _ q => .inl q) (unhide HP)⟩
theorem own_at {w : World} {base : Nat} {e : TypeId} {n : Nat} {v : Value} {xs : List Value} {g : Nat} (h : w.ownsRow base e 1 v n xs) (hv : v.ownBlock = some g) (i : Nat) (hi : i < n) : w.cell? ⟨g, i, none⟩ = xs[i]? ∧ w.frozen? ⟨g, i, none⟩ = false := by
  rcases h.2 with ⟨h1, h2⟩ | ⟨g', cap, cur, rfl, hb, hg, hn, hc, hs, hx⟩
  · omega
  · obtain rfl : g' = g := by simpa [Value.ownBlock] using hv
    have hB : Blk w g' cur e := hg
    refine ⟨?_, hB.frozen i⟩
    rw [hB.cell i, ← hx, List.getElem?_take, if_pos (by omega)]
    simp
theorem strs_at (l : List ByteArray) (i : Nat) (hi : i < l.length) : (strs l)[i]? = some (.string (l.getD i ByteArray.empty)) := by
  simp [strs, hi]
theorem strs_set (l : List ByteArray) (i : Nat) (t : ByteArray) : (strs l).set i (.string t) = strs (l.set i t) := by
  simp [strs, List.map_set]
theorem Dk.setNow {w : World} {base b : Nat} {v : DV} {s : DSt} (h : Dk w base b v s) (g i : Nat) (hg : v.n.ownBlock = some g) (t : ByteArray) : Dk (w.setCell ⟨g, i, none⟩ (.string t)) base b v { s with now := s.now.set i t } := by
  have hgb : g ≠ b := fun e => h.nb.2.1 (e ▸ hg)
  refine ⟨h.blk.other _ _ hgb, owns_setO h.rl _ _ (fun q => h.ne g q hg), ?_, owns_setO h.rp _ _ (rows_ne h.rn h.rp (by decide) g hg), owns_setO h.ra _ _ (rows_ne h.rn h.ra (by decide) g hg), h.ne, h.lo⟩
  have := owns_set h.rn hg i (.string t)
  rw [strs_set] at this
  simpa using this
theorem Dk.setLast {w : World} {base b : Nat} {v : DV} {s : DSt} (h : Dk w base b v s) (g i : Nat) (hg : v.l.ownBlock = some g) (t : ByteArray) : Dk (w.setCell ⟨g, i, none⟩ (.string t)) base b v { s with last := s.last.set i t } := by
  have hgb : g ≠ b := fun e => h.nb.1 (e ▸ hg)
  refine ⟨h.blk.other _ _ hgb, ?_, owns_setO h.rn _ _ (h.ne g hg), owns_setO h.rp _ _ (rows_ne h.rl h.rp (by decide) g hg), owns_setO h.ra _ _ (rows_ne h.rl h.ra (by decide) g hg), h.ne, h.lo⟩
  have := owns_set h.rl hg i (.string t)
  rw [strs_set] at this
  simpa using this
set_option maxRecDepth 100000 in
set_option maxHeartbeats 1000000 in
theorem put_any (w : World) (base b : Nat) (v : DV) (s : DSt) (h : Dk w base b v s) (hb : base ≤ w.heap.size) (t : ByteArray) (i : Nat) (hi : i < s.now.length) (hz : s.pend.length ≤ 1000000000) :
    Calls Tryz.prog 65 #[.pointer (some ⟨b, 0, none⟩), .int .i64 (i : Int), .string t] w fun e w' => e = .returned (.tuple #[]) ∧ DPost base b v { s with now := s.now.set i t, pend := s.pend ++ [(i, t)] } w w' := by
  obtain ⟨g, capn, evn⟩ : ∃ g cap, v.n = .slice (some ⟨g, 0, none⟩) s.now.length cap := by
    obtain ⟨g, cap, e, _⟩ := h.rn.form (by omega)
    exact ⟨g, cap, e⟩
  have hgn : v.n.ownBlock = some g := by rw [evn]; rfl
  obtain ⟨p, cap, ev, hcap⟩ := row_form h.rp
  have c1 : w.cell? ⟨b, 1, none⟩ = some (.slice (some ⟨g, 0, none⟩) s.now.length capn) := by rw [h.blk.cell 1, ← evn]; rfl
  have ci : w.cell? ⟨g, i, none⟩ = some (.string (s.now.getD i ByteArray.empty)) := by rw [(own_at h.rn hgn i hi).1, strs_at _ _ hi]
  have fi : w.frozen? ⟨g, i, none⟩ = false := (own_at h.rn hgn i hi).2
  have h2 := h.setNow g i hgn t
  have c2 : (w.setCell ⟨g, i, none⟩ (.string t)).cell? ⟨b, 2, none⟩ = some (.slice p s.pend.length cap) := by rw [h2.blk.cell 2, ← ev]; rfl
  have H := hide (h2.alloc (.cells #[.int .i64 (i : Int), .string t] 49))
  have HS := hide (show Only (Fd b v) w (w.setCell ⟨g, i, none⟩ (.string t)) from (Only.refl _ w).setCell _ _ (fun _ => .inr (.inr (.inl hgn))))
  have HE := hide ev
  obtain ⟨i0, hi0, hz0, hz1, hz2⟩ := info_parts infoW
  have HI := hide (And.intro hi0 (And.intro hz0 (And.intro hz1 hz2)))
  clear h ev evn hi0 hz0 hz1 hz2 h2 hgn
  go_enter Tryz.func65, Tryz.ntmps65
  go_wp2_with (refine wpList_append_lies _ rfl (.tmp 17) (.tmp 21) 38 rfl base 49 i0 (.agg #[.int .i64 0, .string ⟨#[]⟩]) 2 24 Tryz.underlying38 (unhide HI).1 (unhide HI).2.1 (unhide HI).2.2.1 (unhide HI).2.2.2 rfl (by decide) _ s.pend.length (wrs s.pend) (unhide HE).symm (unhide H).rp ⟨w.heap.size, 0, none⟩ 1 1 (wrs [(i, t)]) rfl rfl (fun j u hu => by have := news_two (w.setCell ⟨g, i, none⟩ (.string t)) 49 _ _ j u hu; simpa using this) (by simp [wrs, Value.oneCell']) (by decide) (by unfold maxLen; omega) (by omega) (by simp; omega) _ rfl ?_)
  intro g' cap' w1 ho hg hor hlt
  have HP := hide ((unhide H).appP g' cap' (i, t) ho hg (by simpa using hor))
  have B1 : Blk w1 b _ _ := (unhide H).blk.only (grown_only hg) (unhide H).nb.2.2.1
  have c3' : w1.cell? ⟨b, 2, none⟩ = some v.p := by rw [B1.cell 2]; rfl
  have f3' := B1.frozen 2
  clear ho hg hor hlt B1
  go_wp2
  go_end0
  exact ⟨rfl, DPost.trans ((unhide HS).alloc _) (fun _ q => .inl q) (unhide HP)⟩
end Go.Proofs.YtffiaogbphgmgaaGreatDoor

namespace Go.Proofs.YtffiaogbphgmgaaGreatDoor
open Go.RowKit
def layP (l : List ByteArray) (ps : List (Nat × ByteArray)) : List ByteArray := ps.foldl (fun l p => l.set p.1 p.2) l
theorem layP_len (ps : List (Nat × ByteArray)) : ∀ l : List ByteArray, (layP l ps).length = l.length := by
  induction ps with
  | nil => intro l; rfl
  | cons p r ih => intro l; show (layP (l.set p.1 p.2) r).length = _; rw [ih]; simp
theorem layP_snoc (l : List ByteArray) (ps : List (Nat × ByteArray)) (p : Nat × ByteArray) : layP l (ps ++ [p]) = (layP l ps).set p.1 p.2 := by simp [layP]
theorem wrs_at : ∀ (l : List (Nat × ByteArray)) (k : Nat) (hk : k < l.length), (wrs l)[k * 2]? = some (.int .i64 ((l[k].1 : Nat) : Int)) ∧ (wrs l)[k * 2 + 1]? = some (.string l[k].2)
  | p :: r, 0, _ => by simp [wrs]
  | p :: r, k + 1, hk => by
    have := wrs_at r k (by simpa using hk)
    rw [show (k + 1) * 2 = k * 2 + 1 + 1 by omega]
    simpa [wrs] using this
theorem own_at2 {w : World} {base : Nat} {e : TypeId} {n m : Nat} {v : Value} {xs : List Value} {g : Nat} (h : w.ownsRow base e m v n xs) (hv : v.ownBlock = some g) (i : Nat) (hi : i < n * m) : w.cell? ⟨g, i, none⟩ = xs[i]? ∧ w.frozen? ⟨g, i, none⟩ = false := by
  rcases h.2 with ⟨h1, h2⟩ | ⟨g', cap, cur, rfl, hb, hg, hn, hc, hs, hx⟩
  · subst h2; omega
  · obtain rfl : g' = g := by simpa [Value.ownBlock] using hv
    have hB : Blk w g' cur e := hg
    refine ⟨?_, hB.frozen i⟩
    rw [hB.cell i, ← hx, List.getElem?_take, if_pos hi]
    simp
theorem Dk.drew {w : World} {base b : Nat} {v : DV} {s : DSt} (h : Dk w base b v s) : Dk w.drew base b v s := h.below ((Below.refl _ w).drew)
theorem Dk.nilP {w : World} {base b : Nat} {v : DV} {s : DSt} (h : Dk w base b v s) : DPost base b v { s with pend := [] } w (w.setCell ⟨b, 2, none⟩ (.slice none 0 0)) := by
  refine ⟨{ v with p := .slice none 0 0 }, h.cells 2 _ _ _ rfl (owns_setO h.rl _ _ h.nb.1) (owns_setO h.rn _ _ h.nb.2.1) (World.ownsRow_nil _ _ _ _) (owns_setO h.ra _ _ h.nb.2.2.2) h.ne, only_b (Only.refl _ _) _ _, fun k hk => ?_⟩
  rcases hk with hk | hk | hk | hk | hk
  · exact .inl (.inl hk)
  · exact .inl (.inr (.inl hk))
  · exact .inl (.inr (.inr (.inl hk)))
  · cases hk
  · exact .inl (.inr (.inr (.inr (.inr hk))))
def pendOk (s : DSt) : Prop := ∀ p, p ∈ s.pend → p.1 < s.last.length
set_option maxRecDepth 100000 in
set_option maxHeartbeats 2000000 in
theorem settle_any (w : World) (base b : Nat) (v : DV) (s : DSt) (h : Dk w base b v s) (hk : pendOk s) (hz : s.pend.length ≤ 1000000000) (hl : 0 < s.last.length) :
    Calls Tryz.prog 70 #[.pointer (some ⟨b, 0, none⟩)] w fun e w' => e = .returned (.tuple #[]) ∧ DPost base b v { s with last := layP s.last s.pend, pend := [] } w w' := by
  obtain ⟨gl, capl, evl⟩ : ∃ g cap, v.l = .slice (some ⟨g, 0, none⟩) s.last.length cap := by
    obtain ⟨g, cap, e, _⟩ := h.rl.form hl
    exact ⟨g, cap, e⟩
  obtain ⟨p, cap, ev, hcap⟩ := row_form h.rp
  have c2 : w.cell? ⟨b, 2, none⟩ = some (.slice p s.pend.length cap) := by rw [h.blk.cell 2, ← ev]; rfl
  have H := hide h
  have HE := hide ev
  have HL := hide evl
  have HK := hide hk
  clear h ev evl hk
  go_enter Tryz.func70, Tryz.ntmps70
  go_wp2
  go_loopw [9] (fun i wr => ∃ k : Nat, k ≤ s.pend.length ∧ i = .int .i64 (k : Int) ∧ Dk wr base b v { s with last := layP s.last (s.pend.take k) } ∧ Only (Fd b v) w wr) (fun i _ => s.pend.length - (intOf i).toNat)
  case atStart => exact ⟨0, by omega, rfl, unhide H, Only.refl _ _⟩
  case round =>
    obtain ⟨k, hk, rfl, hD, hO⟩ := hrel
    have XD := hide hD
    have XO := hide hO
    clear hD hO
    by_cases hkl : k < s.pend.length
    · obtain ⟨gp, rfl⟩ : ∃ gp, p = some ⟨gp, 0, none⟩ := by
        obtain ⟨g, cap', e, _⟩ := (unhide XD).rp.form (by simpa using (show 0 < s.pend.length by omega))
        rw [unhide HE] at e
        simp at e
        exact ⟨g, e.1⟩
      have hgp : v.p.ownBlock = some gp := by rw [unhide HE]; rfl
      obtain ⟨w0, w1⟩ := wrs_at s.pend k hkl
      have cp0 : wr.cell? ⟨gp, k * 2, none⟩ = some (.int .i64 ((s.pend[k].1 : Nat) : Int)) := by rw [(own_at2 (unhide XD).rp hgp (k * 2) (by simp; omega)).1]; exact w0
      have cp1 : wr.cell? ⟨gp, k * 2 + 1, none⟩ = some (.string s.pend[k].2) := by rw [(own_at2 (unhide XD).rp hgp (k * 2 + 1) (by simp; omega)).1]; exact w1
      have hjl : s.pend[k].1 < s.last.length := unhide HK _ (List.getElem_mem hkl)
      have HT := hide (show s.pend.take (k + 1) = s.pend.take k ++ [s.pend[k]] by simp)
      obtain ⟨j, hj⟩ : ∃ j, j = s.pend[k].1 := ⟨_, rfl⟩
      obtain ⟨t, ht⟩ : ∃ t, t = s.pend[k].2 := ⟨_, rfl⟩
      rw [← hj] at cp0 hjl
      rw [← ht] at cp1
      have HJ := hide hj
      have HTT := hide ht
      have hgl : v.l.ownBlock = some gl := by rw [unhide HL]; rfl
      have D1 := (unhide XD).alloc (.cells #[.int .i64 (j : Int), .string t] 49)
      have hlen : (layP s.last (s.pend.take k)).length = s.last.length := layP_len _ _
      have d0 : (wr.alloc (.cells #[.int .i64 (j : Int), .string t] 49)).cell? ⟨b, 0, none⟩ = some (.slice (some ⟨gl, 0, none⟩) s.last.length capl) := by rw [D1.blk.cell 0, ← unhide HL]; rfl
      have dj : (wr.alloc (.cells #[.int .i64 (j : Int), .string t] 49)).cell? ⟨gl, j, none⟩ = some (.string ((layP s.last (s.pend.take k)).getD j ByteArray.empty)) := by rw [(own_at D1.rl hgl j (by simpa [hlen] using hjl)).1]; exact strs_at _ _ (by simpa [hlen] using hjl)
      have fj : (wr.alloc (.cells #[.int .i64 (j : Int), .string t] 49)).frozen? ⟨gl, j, none⟩ = false := (own_at D1.rl hgl j (by simpa [hlen] using hjl)).2
      have DB := Blk.new wr 49 #[.int .i64 (j : Int), .string t]
      have n0 : (wr.alloc (.cells #[.int .i64 (j : Int), .string t] 49)).cell? ⟨wr.heap.size, 0, none⟩ = some (.int .i64 (j : Int)) := DB.cell 0
      have n1 : (wr.alloc (.cells #[.int .i64 (j : Int), .string t] 49)).cell? ⟨wr.heap.size, 1, none⟩ = some (.string t) := DB.cell 1
      have X1 := hide D1
      have XO1 := hide ((unhide XO).alloc (.cells #[.int .i64 (j : Int), .string t] 49))
      have HGL := hide hgl
      have HLN := hide hlen
      clear w0 w1 hj ht hgp D1 DB hgl hlen XD XO
      go_wp2_with fail
      clear cp0 cp1
      generalize hx1 : wr.alloc (.cells #[.int .i64 (j : Int), .string t] 49) = x1 at *
      generalize wr.heap.size = gh at *
      clear hx1
      generalize (layP s.last (s.pend.take k)).getD j ByteArray.empty = old at *
      have i0 : 0 ≤ (j : Int) := by omega
      have i1 : (j : Int) < (s.last.length : Int) := by omega
      go_still_tail 9, (by kernel_rfl)
      change wpList _ _ _ _ _ x1.drew
      go_wp2
      go_roundw
      case rel =>
        refine ⟨k + 1, by omega, by go_num, ?_, (unhide XO1).drew.setCell _ _ (fun _ => .inr (.inl (unhide HGL)))⟩
        rw [unhide HT, layP_snoc, ← unhide HJ, ← unhide HTT]
        exact (unhide X1).drew.setLast gl j (unhide HGL) t
      case measure => simp [intOf]; omega
    · have hk' : k = s.pend.length := by omega
      subst hk'
      rw [List.take_length] at XD
      have f2 := (unhide XD).blk.frozen 2
      have c2' : wr.cell? ⟨b, 2, none⟩ = some v.p := by rw [(unhide XD).blk.cell 2]; rfl
      have HP := hide (unhide XD).nilP
      clear XD H HK HL
      go_wp2
      go_end0
      exact ⟨rfl, DPost.trans (unhide XO) (fun _ q => .inl q) (unhide HP)⟩
end Go.Proofs.YtffiaogbphgmgaaGreatDoor

namespace Go.Proofs.YtffiaogbphgmgaaGreatDoor
open Go.RowKit
def keepP : List (Nat × ByteArray) → List Bool → List (Nat × ByteArray)
  | p :: r, true :: k => p :: keepP r k
  | _ :: r, false :: k => keepP r k
  | _, _ => []
theorem keepP_snoc (p : Nat × ByteArray) (x : Bool) : ∀ (l : List (Nat × ByteArray)) (k : List Bool), l.length = k.length → keepP (l ++ [p]) (k ++ [x]) = keepP l k ++ (if x then [p] else [])
  | [], [], _ => by cases x <;> rfl
  | q :: r, true :: k, h => by simp [keepP]; exact keepP_snoc p x r k (by simpa using h)
  | q :: r, false :: k, h => by simp [keepP]; exact keepP_snoc p x r k (by simpa using h)
theorem keepP_mem : ∀ (l : List (Nat × ByteArray)) (k : List Bool) (p : Nat × ByteArray), p ∈ keepP l k → p ∈ l
  | [], _, p, h => by simp [keepP] at h
  | q :: r, [], p, h => by simp [keepP] at h
  | q :: r, true :: k, p, h => by
    simp [keepP] at h
    rcases h with rfl | h
    · simp
    · exact List.mem_cons_of_mem _ (keepP_mem r k p h)
  | q :: r, false :: k, p, h => by
    simp [keepP] at h
    exact List.mem_cons_of_mem _ (keepP_mem r k p h)
theorem keepP_len : ∀ (l : List (Nat × ByteArray)) (k : List Bool), (keepP l k).length ≤ l.length
  | [], _ => by simp [keepP]
  | q :: r, [] => by simp [keepP]
  | q :: r, true :: k => by simp [keepP]; exact keepP_len r k
  | q :: r, false :: k => by simp [keepP]; have := keepP_len r k; omega
def Bools (w : World) (g : Nat) (kl : List Bool) : Prop := ∀ j, j < kl.length → w.cell? ⟨g, j, none⟩ = some (.bool (kl.getD j false))
theorem owns_base {w : World} {B B' : Nat} {e : TypeId} {k n : Nat} {v : Value} {xs : List Value} (h : w.ownsRow B e k v n xs) (hb : B' ≤ B) : w.ownsRow B' e k v n xs := by
  refine ⟨h.1, ?_⟩
  rcases h.2 with hn | ⟨g, cap, cur, rfl, hg, rest⟩
  · exact .inl hn
  · exact .inr ⟨g, cap, cur, rfl, by omega, rest⟩
theorem Dk.setP {w : World} {base b : Nat} {v : DV} {s : DSt} (h : Dk w base b v s) (vl : Value) (ps : List (Nat × ByteArray)) (hr : w.ownsRow base 49 2 vl ps.length (wrs ps)) : Dk (w.setCell ⟨b, 2, none⟩ vl) base b { v with p := vl } { s with pend := ps } :=
  h.cells 2 _ _ _ rfl (owns_setO h.rl _ _ h.nb.1) (owns_setO h.rn _ _ h.nb.2.1) (owns_setO hr _ _ (h.blk.not_row (by decide) hr)) (owns_setO h.ra _ _ h.nb.2.2.2) h.ne
theorem setRow_only (w : World) (g : Nat) (cs : Array Value) : Only (fun k => k = g) w (w.setRow g cs) :=
  ⟨⟨rfl, rfl, rfl, by simp [World.setRow], fun k hk => absurd hk (Nat.not_lt_zero k)⟩, fun k _ hn => setRow_other w g k cs hn⟩
theorem Dk.copyNow {w : World} {base b : Nat} {v : DV} {s : DSt} (h : Dk w base b v s) (g : Nat) (hg : v.n.ownBlock = some g) (cur : Array Value) (hc : w.heap[g]? = some (.cells cur 9 (0, 0))) (hln : s.now.length = s.last.length) :
    Dk (w.setRow g (cur.toList.take 0 ++ (strs s.last ++ cur.toList.drop (0 + (strs s.last).length))).toArray) base b v { s with now := s.last } ∧ Only (Fd b v) w (w.setRow g (cur.toList.take 0 ++ (strs s.last ++ cur.toList.drop (0 + (strs s.last).length))).toArray) := by
  have hO := setRow_only w g (cur.toList.take 0 ++ (strs s.last ++ cur.toList.drop (0 + (strs s.last).length))).toArray
  refine ⟨⟨h.blk.only hO (fun q => h.nb.2.1 (q ▸ hg)), owns_only h.rl hO (fun k hk q => h.ne k hk (q ▸ hg)), ?_, owns_only h.rp hO (fun k hk q => rows_ne h.rn h.rp (by decide) g hg (q ▸ hk)), owns_only h.ra hO (fun k hk q => rows_ne h.rn h.ra (by decide) g hg (q ▸ hk)), h.ne, h.lo⟩, hO.mono (fun k _ q => .inr (.inr (.inl (q ▸ hg))))⟩
  refine ⟨by simp [strs_len], ?_⟩
  rcases h.rn.2 with ⟨h1, h2⟩ | ⟨g', cap, cur', e, hb, hh, hn, hc', hs, hx⟩
  · rw [h1] at hg; cases hg
  · obtain rfl : g' = g := by rw [e] at hg; simpa [Value.ownBlock] using hg
    have ecur : cur' = cur := by have := hh.symm.trans hc; simpa using this
    subst ecur
    refine .inr ⟨g', cap, _, by rw [e, hln], hb, setRow_heap w g' cur' _ 9 _ hc, by show s.last.length ≤ cap; omega, hc', ?_, ?_⟩
    · simp [strs_len]; omega
    · simp [strs_len]
set_option maxRecDepth 100000 in
set_option maxHeartbeats 2000000 in
theorem lose_any (w : World) (base b : Nat) (v : DV) (s : DSt) (h : Dk w base b v s) (hb : base ≤ w.heap.size) (hk : pendOk s) (hz : s.pend.length ≤ 1000000000) (hl : 0 < s.last.length) (hln : s.now.length = s.last.length) (gk : Nat) (hgk : gk < w.heap.size) (kl : List Bool) (hkl : kl.length = s.pend.length) (hB : Bools w gk kl) (ck : Nat) :
    Calls Tryz.prog 54 #[.pointer (some ⟨b, 0, none⟩), .slice (some ⟨gk, 0, none⟩) s.pend.length ck] w fun e w' => e = .returned (.tuple #[]) ∧ DPost base b v { s with last := layP s.last (keepP s.pend kl), now := layP s.last (keepP s.pend kl), pend := [] } w w' := by
  obtain ⟨p, cap, ev, hcap⟩ := row_form h.rp
  have c2 : w.cell? ⟨b, 2, none⟩ = some (.slice p s.pend.length cap) := by rw [h.blk.cell 2, ← ev]; rfl
  have H := hide h
  have HE := hide ev
  have HK := hide hk
  have HB := hide hB
  clear h ev hk hB
  go_enter Tryz.func54, Tryz.ntmps54
  go_wp2
  go_loopw [4, 12] (fun u i wr => ∃ k : Nat, k ≤ s.pend.length ∧ i = .int .i64 (k : Int) ∧ wr.ownsRow w.heap.size 49 2 u (keepP (s.pend.take k) (kl.take k)).length (wrs (keepP (s.pend.take k) (kl.take k))) ∧ Below w.heap.size w wr) (fun _ i _ => s.pend.length - (intOf i).toNat)
  case atStart => exact ⟨0, by omega, rfl, by simpa [keepP, wrs] using World.ownsRow_nil _ _ _ _, Below.refl _ _⟩
  case round =>
    obtain ⟨k, hk, rfl, hrow, hbel⟩ := hrel
    obtain ⟨vl, rfl⟩ : ∃ v, v = u4 := ⟨_, rfl⟩
    have XD := hide ((unhide H).below hbel)
    have XB := hide hbel
    have XR := hide hrow
    have hsz := hbel.size
    clear hrow hbel
    by_cases hkk : k < s.pend.length
    · obtain ⟨gp, rfl⟩ : ∃ gp, p = some ⟨gp, 0, none⟩ := by
        obtain ⟨g, cap', e, _⟩ := (unhide XD).rp.form (by omega)
        rw [unhide HE] at e
        simp at e
        exact ⟨g, e.1⟩
      have hgp : v.p.ownBlock = some gp := by rw [unhide HE]; rfl
      obtain ⟨w0, w1⟩ := wrs_at s.pend k hkk
      have cp0 : wr.cell? ⟨gp, k * 2, none⟩ = some (.int .i64 ((s.pend[k].1 : Nat) : Int)) := by rw [(own_at2 (unhide XD).rp hgp (k * 2) (by omega)).1]; exact w0
      have cp1 : wr.cell? ⟨gp, k * 2 + 1, none⟩ = some (.string s.pend[k].2) := by rw [(own_at2 (unhide XD).rp hgp (k * 2 + 1) (by omega)).1]; exact w1
      have hlen : (keepP (s.pend.take k) (kl.take k)).length ≤ s.pend.length := Nat.le_trans (keepP_len _ _) (by simp; omega)
      have ckk : wr.cell? ⟨gk, k, none⟩ = some (.bool (kl.getD k false)) := by rw [(unhide XB).cell (p := ⟨gk, k, none⟩) hgk]; exact unhide HB k (by omega)
      have HT := hide (show keepP (s.pend.take (k + 1)) (kl.take (k + 1)) = keepP (s.pend.take k) (kl.take k) ++ (if kl.getD k false then [s.pend[k]] else []) by
        have e1 : s.pend.take (k + 1) = s.pend.take k ++ [s.pend[k]] := by simp
        have e2 : kl.take (k + 1) = kl.take k ++ [kl.getD k false] := by
          rw [List.take_succ_eq_append_getElem (by omega)]
          simp [List.getD_eq_getElem?_getD, show k < kl.length by omega]
        rw [e1, e2]
        exact keepP_snoc _ _ _ _ (by simp; omega))
      obtain ⟨j, hj⟩ : ∃ j, j = s.pend[k].1 := ⟨_, rfl⟩
      obtain ⟨t, ht⟩ : ∃ t, t = s.pend[k].2 := ⟨_, rfl⟩
      have HP := hide (show s.pend[k] = (j, t) by rw [hj, ht])
      rw [← hj] at cp0
      rw [← ht] at cp1
      have hgl : gk < wr.heap.size := by omega
      clear w0 w1 hj ht hgp XD
      generalize kl.getD k false = kb at *
      cases kb with
      | false =>
        go_wp2
        go_roundw
        case rel =>
          refine ⟨k + 1, by omega, by go_num, ?_, (unhide XB).alloc hsz _⟩
          rw [unhide HT]
          simpa using (unhide XR).alloc _
        case measure => simp [intOf]; omega
      | true =>
        obtain ⟨i0, hi0, hz0, hz1, hz2⟩ := info_parts infoW
        have HI := hide (And.intro hi0 (And.intro hz0 (And.intro hz1 hz2)))
        clear hi0 hz0 hz1 hz2
        go_wp2_with (refine wpList_append_own _ rfl (.tmp 21) (.tmp 23) 38 rfl w.heap.size 49 i0 (.agg #[.int .i64 0, .string ⟨#[]⟩]) 2 24 Tryz.underlying38 (unhide HI).1 (unhide HI).2.1 (unhide HI).2.2.1 (unhide HI).2.2.2 rfl (by decide) _ _ (wrs (keepP (s.pend.take k) (kl.take k))) rfl (((unhide XR).alloc _).alloc _) ⟨wr.heap.size + 1, 0, none⟩ 1 1 (wrs [(j, t)]) rfl rfl (fun q u hu => by have := news_two (wr.alloc (.cells #[.int .i64 (j : Int), .string t] 49)) 49 _ _ q u hu; simpa using this) (by simp [wrs, Value.oneCell']) (by unfold maxLen; omega) (by omega) (by simp; omega) ?_)
        intro v' x1 ho hg _
        have HO := hide ho
        have HB1 := hide (show Below w.heap.size w x1 from (((unhide XB).alloc hsz _).alloc (by simp; omega) _).grown hg (by simp; omega) (fun q hq => ((unhide XR).lt q hq).1))
        clear ho hg
        go_wp2
        go_roundw
        case rel =>
          refine ⟨k + 1, by omega, by go_num, ?_, unhide HB1⟩
          rw [unhide HT, unhide HP]
          have := unhide HO
          simpa [wrs_app] using this
        case measure => simp [intOf]; omega
    · have hk' : k = s.pend.length := by omega
      subst hk'
      rw [List.take_length, List.take_of_length_le (by omega)] at XR
      have f2 := (unhide XD).blk.frozen 2
      have c2' : wr.cell? ⟨b, 2, none⟩ = some v.p := by rw [(unhide XD).blk.cell 2]; rfl
      have D1 := (unhide XD).setP vl (keepP s.pend kl) (owns_base (unhide XR) hb)
      have hO1 : Only (Fd b v) w (wr.setCell ⟨b, 2, none⟩ vl) := (Only.of_below (unhide XB)).setCell _ _ (fun _ => .inl rfl)
      have hF1 : ∀ q, Fd b { v with p := vl } q → Fd b v q ∨ w.heap.size ≤ q := fun q hq => by
        rcases hq with hq | hq | hq | hq | hq
        · exact .inl (.inl hq)
        · exact .inl (.inr (.inl hq))
        · exact .inl (.inr (.inr (.inl hq)))
        · exact .inr ((unhide XR).lt q hq).1
        · exact .inl (.inr (.inr (.inr (.inr hq))))
      have hk2 : pendOk { s with pend := keepP s.pend kl } := fun q hq => unhide HK q (keepP_mem _ _ _ hq)
      have hz2 := keepP_len s.pend kl
      obtain ⟨pp, cc, evl, _⟩ := row_form (unhide XR)
      subst evl
      have X1 := hide D1
      have XO := hide hO1
      have XF := hide hF1
      have XK := hide hk2
      clear D1 hO1 hF1 hk2 XD XR XB H HK HB hkk hk hsz
      go_wp2_with fail
      refine (settle_any _ base b _ _ (unhide X1) (unhide XK) (by show (keepP s.pend kl).length ≤ _; omega) (by exact hl)).mono ?_
      rintro ev x2 ⟨rfl, v2, hD2, hO2, hF2⟩
      have hll : (layP s.last (keepP s.pend kl)).length = s.last.length := layP_len _ _
      obtain ⟨gn, capn, evn, _⟩ := hD2.rn.form (by show 0 < s.now.length; omega)
      obtain ⟨gl, capl, evl, _⟩ := hD2.rl.form (by show 0 < (layP s.last (keepP s.pend kl)).length; omega)
      have hgn : v2.n.ownBlock = some gn := by rw [evn]; rfl
      have hgl : v2.l.ownBlock = some gl := by rw [evl]; rfl
      have d1 : x2.cell? ⟨b, 1, none⟩ = some (.slice (some ⟨gn, 0, none⟩) s.now.length capn) := by rw [hD2.blk.cell 1, ← evn]; rfl
      have d0 : x2.cell? ⟨b, 0, none⟩ = some (.slice (some ⟨gl, 0, none⟩) (layP s.last (keepP s.pend kl)).length capl) := by rw [hD2.blk.cell 0, ← evl]; rfl
      obtain ⟨cur, hcur, hcz⟩ : ∃ cur, x2.heap[gn]? = some (.cells cur 9 (0, 0)) ∧ s.now.length ≤ cur.size := by
        rcases hD2.rn.2 with ⟨h1, h2⟩ | ⟨g', cap', cur', e, _, hh, hn, _, hs, _⟩
        · rw [h1] at hgn; cases hgn
        · obtain rfl : g' = gn := by rw [e] at hgn; simpa [Value.ownBlock] using hgn
          exact ⟨cur', hh, by have hn : s.now.length ≤ cap' := hn; omega⟩
      have HL := hide (show ∀ j u, (strs (layP s.last (keepP s.pend kl)))[j]? = some u → x2.cell? (Addr.add ⟨gl, 0, none⟩ j) = some u from fun j u hu => by
        have hjl : j < (layP s.last (keepP s.pend kl)).length := by
          have := (List.getElem?_eq_some_iff.1 hu).1
          rwa [strs_len] at this
        rw [Addr.add_mid, Nat.zero_add, (own_at hD2.rl hgl j hjl).1]
        exact hu)
      have HC := hide (hD2.copyNow gn hgn cur hcur (by show s.now.length = (layP s.last (keepP s.pend kl)).length; omega))
      have HCU := hide hcur
      have XO2 := hide hO2
      have XF2 := hide hF2
      have HLL := hide hll
      clear hD2 hO2 hF2 evn evl hgn hgl hcur X1 XK hll
      generalize hLe : layP s.last (keepP s.pend kl) = L at *
      have HLE := hide hLe
      clear hLe
      go_wp2_with fail
      go_still_tail 8, (by kernel_rfl)
      change wpList _ _ _ _ _ x2.drew
      refine wpList_copy_own rfl (.tmp 35) (.tmp 39) 56 56 rfl 9 Tryz.underlying56 (by kernel_rfl) gn 0 s.last.length capn ⟨gl, 0, none⟩ L.length capl rfl rfl cur 9 (unhide HCU) (strs L) (by rw [strs_len]; have := unhide HLL; simp only [Nat.min_def]; split <;> omega) (unhide HL) (by rw [strs_len]; have := unhide HLL; omega) (by simp [strs, Value.oneCell']) ?_
      have HC2 := hide (show Dk _ base b v2 _ ∧ Only (Fd b v2) x2 _ from unhide HC)
      clear HC
      generalize hcw : (cur.toList.take 0 ++ (strs L ++ cur.toList.drop (0 + (strs L).length))).toArray = cw at *
      clear hcw HL HCU
      go_wp2
      go_end0
      obtain ⟨g1, g2⟩ := unhide HC2
      obtain rfl := unhide HLE
      have g3 : Only (Fd b v2) x2 (x2.drew.setRow gn cw) := g2.drew
      have g4 : Dk (x2.drew.setRow gn cw) base b v2 _ := g1.drew
      exact ⟨rfl, DPost.trans (unhide XO) (unhide XF) (DPost.trans (unhide XO2) (unhide XF2) ⟨v2, g4, g3, fun _ q => .inl q⟩)⟩
end Go.Proofs.YtffiaogbphgmgaaGreatDoor
