import Derived.Test.YtnfcnpolflfpfaaGreatDoorMr06
import Derived.Test.YtnfcnpolflfpfaaGreatDoorMr00
import Derived.BigQuiet
import Derived.WalkKit
namespace Go.Proofs.YtnfcnpolflfpfaaGreatDoor
open Go.RowKit
theorem infoW : (Tryz.prog.info? 107).map (fun i => (i.zero, i.size, i.bytes)) = some (some (.agg #[.int .i64 0, .string ⟨#[]⟩]), 2, 24) := by kernel_rfl
theorem infoA : (Tryz.prog.info? 243).map (fun i => (i.zero, i.size, i.bytes)) = some (some (.agg #[.int .u8 0, .int .u16 0]), 2, 4) := by kernel_rfl
theorem DPost.trans {w w1 w2 : World} {base b : Nat} {v v1 : DV} {s2 : DSt} (h : Only (Fd b v) w w1) (hv : ∀ k, Fd b v1 k → Fd b v k ∨ w.heap.size ≤ k) (h2 : DPost base b v1 s2 w1 w2) : DPost base b v s2 w w2 := by
  obtain ⟨v2, a, o, q⟩ := h2
  refine ⟨v2, a, h.trans o (fun k hk hf => ?_), fun k hk => ?_⟩
  · rcases hv k hf with h3 | h3
    · exact h3
    · omega
  · rcases q k hk with h3 | h3
    · exact hv k h3
    · exact .inr (Nat.le_trans h.size h3)
theorem grown_only {w w1 : World} {r : Option Nat} (h : w.grownBy w1 r) : Only (fun k => r = some k) w w1 := (Only.refl _ w).grown h (fun _ _ e => e)
theorem Dk.appA {W w1 : World} {base b : Nat} {v : DV} {s : DSt} (h : Dk W base b v s) (g cap : Nat) (x : Nat × Nat) (ho : w1.ownsRow base 243 2 (.slice (some ⟨g, 0, none⟩) (s.acts.length + 1) cap) (s.acts.length + 1) (acs s.acts ++ acs [x])) (hg : W.grownBy w1 v.a.ownBlock) (hor : v.a.ownBlock = some g ∨ g = W.heap.size) :
    DPost base b v { s with acts := s.acts ++ [x] } W (w1.setCell ⟨b, 3, none⟩ (.slice (some ⟨g, 0, none⟩) (s.acts.length + 1) cap)) := by
  have hO := grown_only hg
  have hB : Blk w1 b _ _ := h.blk.only hO h.nb.2.2.2
  have hl := owns_only h.rl hO (fun k hk q => rows_ne h.rl h.ra (by decide) k hk q)
  have hn := owns_only h.rn hO (fun k hk q => rows_ne h.rn h.ra (by decide) k hk q)
  have hp := owns_only h.rp hO (fun k hk q => rows_ne h.rp h.ra (by decide) k hk q)
  have hgb : (Value.slice (some ⟨g, 0, none⟩) (s.acts.length + 1) cap).ownBlock ≠ some b := hB.not_row (by decide) ho
  refine ⟨{ v with a := .slice (some ⟨g, 0, none⟩) (s.acts.length + 1) cap }, ⟨hB.set 3 _, owns_setO hl _ _ h.nb.1, owns_setO hn _ _ h.nb.2.1, owns_setO hp _ _ h.nb.2.2.1, ?_, h.ne, h.lo⟩, only_b (hO.mono (fun k _ q => .inr (.inr (.inr (.inr q))))) _ _, fun k hk => ?_⟩
  · have := owns_setO ho ⟨b, 3, none⟩ (.slice (some ⟨g, 0, none⟩) (s.acts.length + 1) cap) hgb
    simpa [acs_app] using this
  · rcases hk with hk | hk | hk | hk | hk
    · exact .inl (.inl hk)
    · exact .inl (.inr (.inl hk))
    · exact .inl (.inr (.inr (.inl hk)))
    · exact .inl (.inr (.inr (.inr (.inl hk))))
    · obtain rfl : g = k := by simpa [Value.ownBlock] using hk
      rcases hor with h1 | h1
      · exact .inl (.inr (.inr (.inr (.inr h1))))
      · exact .inr (by omega)
theorem Dk.appP {W w1 : World} {base b : Nat} {v : DV} {s : DSt} (h : Dk W base b v s) (g cap : Nat) (x : Nat × ByteArray) (ho : w1.ownsRow base 107 2 (.slice (some ⟨g, 0, none⟩) (s.pend.length + 1) cap) (s.pend.length + 1) (wrs s.pend ++ wrs [x])) (hg : W.grownBy w1 v.p.ownBlock) (hor : v.p.ownBlock = some g ∨ g = W.heap.size) :
    DPost base b v { s with pend := s.pend ++ [x] } W (w1.setCell ⟨b, 2, none⟩ (.slice (some ⟨g, 0, none⟩) (s.pend.length + 1) cap)) := by
  have hO := grown_only hg
  have hB : Blk w1 b _ _ := h.blk.only hO h.nb.2.2.1
  have hl := owns_only h.rl hO (fun k hk q => rows_ne h.rl h.rp (by decide) k hk q)
  have hn := owns_only h.rn hO (fun k hk q => rows_ne h.rn h.rp (by decide) k hk q)
  have ha := owns_only h.ra hO (fun k hk q => rows_ne h.ra h.rp (by decide) k hk q)
  have hgb : (Value.slice (some ⟨g, 0, none⟩) (s.pend.length + 1) cap).ownBlock ≠ some b := hB.not_row (by decide) ho
  refine ⟨{ v with p := .slice (some ⟨g, 0, none⟩) (s.pend.length + 1) cap }, ⟨hB.set 2 _, owns_setO hl _ _ h.nb.1, owns_setO hn _ _ h.nb.2.1, ?_, owns_setO ha _ _ h.nb.2.2.2, h.ne, h.lo⟩, only_b (hO.mono (fun k _ q => .inr (.inr (.inr (.inl q))))) _ _, fun k hk => ?_⟩
  · have := owns_setO ho ⟨b, 2, none⟩ (.slice (some ⟨g, 0, none⟩) (s.pend.length + 1) cap) hgb
    simpa [wrs_app] using this
  · rcases hk with hk | hk | hk | hk | hk
    · exact .inl (.inl hk)
    · exact .inl (.inr (.inl hk))
    · exact .inl (.inr (.inr (.inl hk)))
    · obtain rfl : g = k := by simpa [Value.ownBlock] using hk
      rcases hor with h1 | h1
      · exact .inl (.inr (.inr (.inr (.inl h1))))
      · exact .inr (by omega)
    · exact .inl (.inr (.inr (.inr (.inr hk))))
theorem Dk.alloc {w : World} {base b : Nat} {v : DV} {s : DSt} (h : Dk w base b v s) (o : Obj) : Dk (w.alloc o) base b v s := h.below ((Below.refl _ w).alloc (Nat.le_refl _) o)
theorem news_two (w : World) (T : TypeId) (x y : Value) (j : Nat) (u : Value) (hu : [x, y][j]? = some u) : (w.alloc (.cells #[x, y] T)).cell? (Addr.add ⟨w.heap.size, 0, none⟩ j) = some u := by
  rw [Addr.add_mid, Nat.zero_add, (Blk.new w T #[x, y]).cell j, ← hu]
  simp
theorem alloc_fd {w : World} {b : Nat} {v : DV} (o : Obj) : Only (Fd b v) w (w.alloc o) := (Only.refl _ w).alloc o
set_option maxRecDepth 100000 in
set_option maxHeartbeats 1000000 in
theorem note_any (w : World) (base b : Nat) (v : DV) (s : DSt) (h : Dk w base b v s) (hb : base ≤ w.heap.size) (k i : Nat) (hi : i < 65536) (hz : s.acts.length ≤ 1000000000) :
    Calls Tryz.prog 134 #[.pointer (some ⟨b, 0, none⟩), .int .u8 (k : Int), .int .i64 (i : Int)] w fun e w' => e = .returned (.tuple #[]) ∧ DPost base b v { s with acts := s.acts ++ [(k, i)] } w w' := by
  obtain ⟨p, cap, ev, hcap⟩ := row_form h.ra
  have c3 : w.cell? ⟨b, 3, none⟩ = some (.slice p s.acts.length cap) := by rw [h.blk.cell 3, ← ev]; rfl
  have hu : IntKind.u16.wrap (i : Int) = (i : Int) := by rw [IntKind.wrap_u16]; omega
  have H := hide (h.alloc (.cells #[.int .u8 (k : Int), .int .u16 (i : Int)] 243))
  have HE := hide ev
  obtain ⟨i0, hi0, hz0, hz1, hz2⟩ := info_parts infoA
  have HI := hide (And.intro hi0 (And.intro hz0 (And.intro hz1 hz2)))
  clear h ev hi0 hz0 hz1 hz2
  go_enter Tryz.func134, Tryz.ntmps134
  go_wp2_with (refine wpList_append_lies _ rfl (.tmp 10) (.tmp 15) 40 rfl base 243 i0 (.agg #[.int .u8 0, .int .u16 0]) 2 4 Tryz.underlying40 (unhide HI).1 (unhide HI).2.1 (unhide HI).2.2.1 (unhide HI).2.2.2 rfl (by decide) _ s.acts.length (acs s.acts) (unhide HE).symm (unhide H).ra ⟨w.heap.size, 0, none⟩ 1 1 (acs [(k, i)]) rfl rfl (fun j u hu => news_two w _ _ _ j u hu) (by simp [acs, Value.oneCell']) (by decide) (by unfold maxLen; omega) (by omega) (by simp; omega) _ rfl ?_)
  intro g cap' w1 ho hg hor hlt
  have HP := hide ((unhide H).appA g cap' (k, i) ho hg (by simpa using hor))
  have B1 : Blk w1 b _ _ := (unhide H).blk.only (grown_only hg) (unhide H).nb.2.2.2
  have c3' : w1.cell? ⟨b, 3, none⟩ = some v.a := by rw [B1.cell 3]; rfl
  have f3' := B1.frozen 3
  clear ho hg hor hlt B1
  go_wp2
  go_end0
  exact ⟨rfl, DPost.trans (alloc_fd _) (fun _ q => .inl q) (unhide HP)⟩
theorem own_at {w : World} {base : Nat} {e : TypeId} {n : Nat} {v : Value} {xs : List Value} {g : Nat} (h : w.ownsRow base e 1 v n xs) (hv : v.ownBlock = some g) (i : Nat) (hi : i < n) : w.cell? ⟨g, i, none⟩ = xs[i]? ∧ w.frozen? ⟨g, i, none⟩ = false := by
  rcases h.2 with ⟨h1, h2⟩ | ⟨g', cap, cur, rfl, hb, hg, hn, hc, hs, hx⟩
  · omega
  · obtain rfl : g' = g := by simpa [Value.ownBlock] using hv
    have hB : Blk w g' cur e := hg
    refine ⟨?_, hB.frozen i⟩
    rw [hB.cell i, ← hx, List.getElem?_take, if_pos (by omega)]
    simp
theorem strs_at (l : List ByteArray) (i : Nat) (hi : i < l.length) : (strs l)[i]? = some (.string (l.getD i ByteArray.empty)) := by
  simp [strs, hi]
theorem strs_set (l : List ByteArray) (i : Nat) (t : ByteArray) : (strs l).set i (.string t) = strs (l.set i t) := by
  simp [strs, List.map_set]
theorem Dk.setNow {w : World} {base b : Nat} {v : DV} {s : DSt} (h : Dk w base b v s) (g i : Nat) (hg : v.n.ownBlock = some g) (t : ByteArray) : Dk (w.setCell ⟨g, i, none⟩ (.string t)) base b v { s with now := s.now.set i t } := by
  have hgb : g ≠ b := fun e => h.nb.2.1 (e ▸ hg)
  refine ⟨h.blk.other _ _ hgb, owns_setO h.rl _ _ (fun q => h.ne g q hg), ?_, owns_setO h.rp _ _ (rows_ne h.rn h.rp (by decide) g hg), owns_setO h.ra _ _ (rows_ne h.rn h.ra (by decide) g hg), h.ne, h.lo⟩
  have := owns_set h.rn hg i (.string t)
  rw [strs_set] at this
  simpa using this
theorem Dk.setLast {w : World} {base b : Nat} {v : DV} {s : DSt} (h : Dk w base b v s) (g i : Nat) (hg : v.l.ownBlock = some g) (t : ByteArray) : Dk (w.setCell ⟨g, i, none⟩ (.string t)) base b v { s with last := s.last.set i t } := by
  have hgb : g ≠ b := fun e => h.nb.1 (e ▸ hg)
  refine ⟨h.blk.other _ _ hgb, ?_, owns_setO h.rn _ _ (h.ne g hg), owns_setO h.rp _ _ (rows_ne h.rl h.rp (by decide) g hg), owns_setO h.ra _ _ (rows_ne h.rl h.ra (by decide) g hg), h.ne, h.lo⟩
  have := owns_set h.rl hg i (.string t)
  rw [strs_set] at this
  simpa using this
set_option maxRecDepth 100000 in
set_option maxHeartbeats 1000000 in
theorem put_any (w : World) (base b : Nat) (v : DV) (s : DSt) (h : Dk w base b v s) (hb : base ≤ w.heap.size) (t : ByteArray) (i : Nat) (hi : i < s.now.length) (hz : s.pend.length ≤ 1000000000) :
    Calls Tryz.prog 133 #[.pointer (some ⟨b, 0, none⟩), .int .i64 (i : Int), .string t] w fun e w' => e = .returned (.tuple #[]) ∧ DPost base b v { s with now := s.now.set i t, pend := s.pend ++ [(i, t)] } w w' := by
  obtain ⟨g, capn, evn⟩ : ∃ g cap, v.n = .slice (some ⟨g, 0, none⟩) s.now.length cap := by
    obtain ⟨g, cap, e, _⟩ := h.rn.form (by omega)
    exact ⟨g, cap, e⟩
  have hgn : v.n.ownBlock = some g := by rw [evn]; rfl
  obtain ⟨p, cap, ev, hcap⟩ := row_form h.rp
  have c1 : w.cell? ⟨b, 1, none⟩ = some (.slice (some ⟨g, 0, none⟩) s.now.length capn) := by rw [h.blk.cell 1, ← evn]; rfl
  have ci : w.cell? ⟨g, i, none⟩ = some (.string (s.now.getD i ByteArray.empty)) := by rw [(own_at h.rn hgn i hi).1, strs_at _ _ hi]
  have fi : w.frozen? ⟨g, i, none⟩ = false := (own_at h.rn hgn i hi).2
  have h2 := h.setNow g i hgn t
  have c2 : (w.setCell ⟨g, i, none⟩ (.string t)).cell? ⟨b, 2, none⟩ = some (.slice p s.pend.length cap) := by rw [h2.blk.cell 2, ← ev]; rfl
  have H := hide (h2.alloc (.cells #[.int .i64 (i : Int), .string t] 107))
  have HS := hide (show Only (Fd b v) w (w.setCell ⟨g, i, none⟩ (.string t)) from (Only.refl _ w).setCell _ _ (fun _ => .inr (.inr (.inl hgn))))
  have HE := hide ev
  obtain ⟨i0, hi0, hz0, hz1, hz2⟩ := info_parts infoW
  have HI := hide (And.intro hi0 (And.intro hz0 (And.intro hz1 hz2)))
  clear h ev evn hi0 hz0 hz1 hz2 h2 hgn
  go_enter Tryz.func133, Tryz.ntmps133
  go_wp2_with (refine wpList_append_lies _ rfl (.tmp 17) (.tmp 21) 37 rfl base 107 i0 (.agg #[.int .i64 0, .string ⟨#[]⟩]) 2 24 Tryz.underlying37 (unhide HI).1 (unhide HI).2.1 (unhide HI).2.2.1 (unhide HI).2.2.2 rfl (by decide) _ s.pend.length (wrs s.pend) (unhide HE).symm (unhide H).rp ⟨w.heap.size, 0, none⟩ 1 1 (wrs [(i, t)]) rfl rfl (fun j u hu => by have := news_two (w.setCell ⟨g, i, none⟩ (.string t)) 107 _ _ j u hu; simpa using this) (by simp [wrs, Value.oneCell']) (by decide) (by unfold maxLen; omega) (by omega) (by simp; omega) _ rfl ?_)
  intro g' cap' w1 ho hg hor hlt
  have HP := hide ((unhide H).appP g' cap' (i, t) ho hg (by simpa using hor))
  have B1 : Blk w1 b _ _ := (unhide H).blk.only (grown_only hg) (unhide H).nb.2.2.1
  have c3' : w1.cell? ⟨b, 2, none⟩ = some v.p := by rw [B1.cell 2]; rfl
  have f3' := B1.frozen 2
  clear ho hg hor hlt B1
  go_wp2
  go_end0
  exact ⟨rfl, DPost.trans ((unhide HS).alloc _) (fun _ q => .inl q) (unhide HP)⟩
end Go.Proofs.YtnfcnpolflfpfaaGreatDoor

namespace Go.Proofs.YtnfcnpolflfpfaaGreatDoor
open Go.RowKit
def layP (l : List ByteArray) (ps : List (Nat × ByteArray)) : List ByteArray := ps.foldl (fun l p => l.set p.1 p.2) l
theorem layP_len (ps : List (Nat × ByteArray)) : ∀ l : List ByteArray, (layP l ps).length = l.length := by
  induction ps with
  | nil => intro l; rfl
  | cons p r ih => intro l; show (layP (l.set p.1 p.2) r).length = _; rw [ih]; simp
theorem layP_snoc (l : List ByteArray) (ps : List (Nat × ByteArray)) (p : Nat × ByteArray) : layP l (ps ++ [p]) = (layP l ps).set p.1 p.2 := by simp [layP]
theorem wrs_at : ∀ (l : List (Nat × ByteArray)) (k : Nat) (hk : k < l.length), (wrs l)[k * 2]? = some (.int .i64 ((l[k].1 : Nat) : Int)) ∧ (wrs l)[k * 2 + 1]? = some (.string l[k].2)
  | p :: r, 0, _ => by simp [wrs]
  | p :: r, k + 1, hk => by
    have := wrs_at r k (by simpa using hk)
    rw [show (k + 1) * 2 = k * 2 + 1 + 1 by omega]
    simpa [wrs] using this
theorem own_at2 {w : World} {base : Nat} {e : TypeId} {n m : Nat} {v : Value} {xs : List Value} {g : Nat} (h : w.ownsRow base e m v n xs) (hv : v.ownBlock = some g) (i : Nat) (hi : i < n * m) : w.cell? ⟨g, i, none⟩ = xs[i]? ∧ w.frozen? ⟨g, i, none⟩ = false := by
  rcases h.2 with ⟨h1, h2⟩ | ⟨g', cap, cur, rfl, hb, hg, hn, hc, hs, hx⟩
  · subst h2; omega
  · obtain rfl : g' = g := by simpa [Value.ownBlock] using hv
    have hB : Blk w g' cur e := hg
    refine ⟨?_, hB.frozen i⟩
    rw [hB.cell i, ← hx, List.getElem?_take, if_pos hi]
    simp
theorem Dk.drew {w : World} {base b : Nat} {v : DV} {s : DSt} (h : Dk w base b v s) : Dk w.drew base b v s := h.below ((Below.refl _ w).drew)
theorem Dk.nilP {w : World} {base b : Nat} {v : DV} {s : DSt} (h : Dk w base b v s) : DPost base b v { s with pend := [] } w (w.setCell ⟨b, 2, none⟩ (.slice none 0 0)) := by
  refine ⟨{ v with p := .slice none 0 0 }, h.cells 2 _ _ _ rfl (owns_setO h.rl _ _ h.nb.1) (owns_setO h.rn _ _ h.nb.2.1) (World.ownsRow_nil _ _ _ _) (owns_setO h.ra _ _ h.nb.2.2.2) h.ne, only_b (Only.refl _ _) _ _, fun k hk => ?_⟩
  rcases hk with hk | hk | hk | hk | hk
  · exact .inl (.inl hk)
  · exact .inl (.inr (.inl hk))
  · exact .inl (.inr (.inr (.inl hk)))
  · cases hk
  · exact .inl (.inr (.inr (.inr (.inr hk))))
def pendOk (s : DSt) : Prop := ∀ p, p ∈ s.pend → p.1 < s.last.length
set_option maxRecDepth 100000 in
set_option maxHeartbeats 2000000 in
theorem settle_any (w : World) (base b : Nat) (v : DV) (s : DSt) (h : Dk w base b v s) (hk : pendOk s) (hz : s.pend.length ≤ 1000000000) (hl : 0 < s.last.length) :
    Calls Tryz.prog 129 #[.pointer (some ⟨b, 0, none⟩)] w fun e w' => e = .returned (.tuple #[]) ∧ DPost base b v { s with last := layP s.last s.pend, pend := [] } w w' := by
  obtain ⟨gl, capl, evl⟩ : ∃ g cap, v.l = .slice (some ⟨g, 0, none⟩) s.last.length cap := by
    obtain ⟨g, cap, e, _⟩ := h.rl.form hl
    exact ⟨g, cap, e⟩
  obtain ⟨p, cap, ev, hcap⟩ := row_form h.rp
  have c2 : w.cell? ⟨b, 2, none⟩ = some (.slice p s.pend.length cap) := by rw [h.blk.cell 2, ← ev]; rfl
  have H := hide h
  have HE := hide ev
  have HL := hide evl
  have HK := hide hk
  clear h ev evl hk
  go_enter Tryz.func129, Tryz.ntmps129
  go_wp2
  go_loopw [9] (fun i wr => ∃ k : Nat, k ≤ s.pend.length ∧ i = .int .i64 (k : Int) ∧ Dk wr base b v { s with last := layP s.last (s.pend.take k) } ∧ Only (Fd b v) w wr) (fun i _ => s.pend.length - (intOf i).toNat)
  case atStart => exact ⟨0, by omega, rfl, unhide H, Only.refl _ _⟩
  case round =>
    obtain ⟨k, hk, rfl, hD, hO⟩ := hrel
    have XD := hide hD
    have XO := hide hO
    clear hD hO
    by_cases hkl : k < s.pend.length
    · obtain ⟨gp, rfl⟩ : ∃ gp, p = some ⟨gp, 0, none⟩ := by
        obtain ⟨g, cap', e, _⟩ := (unhide XD).rp.form (by simpa using (show 0 < s.pend.length by omega))
        rw [unhide HE] at e
        simp at e
        exact ⟨g, e.1⟩
      have hgp : v.p.ownBlock = some gp := by rw [unhide HE]; rfl
      obtain ⟨w0, w1⟩ := wrs_at s.pend k hkl
      have cp0 : wr.cell? ⟨gp, k * 2, none⟩ = some (.int .i64 ((s.pend[k].1 : Nat) : Int)) := by rw [(own_at2 (unhide XD).rp hgp (k * 2) (by simp; omega)).1]; exact w0
      have cp1 : wr.cell? ⟨gp, k * 2 + 1, none⟩ = some (.string s.pend[k].2) := by rw [(own_at2 (unhide XD).rp hgp (k * 2 + 1) (by simp; omega)).1]; exact w1
      have hjl : s.pend[k].1 < s.last.length := unhide HK _ (List.getElem_mem hkl)
      have HT := hide (show s.pend.take (k + 1) = s.pend.take k ++ [s.pend[k]] by simp)
      obtain ⟨j, hj⟩ : ∃ j, j = s.pend[k].1 := ⟨_, rfl⟩
      obtain ⟨t, ht⟩ : ∃ t, t = s.pend[k].2 := ⟨_, rfl⟩
      rw [← hj] at cp0 hjl
      rw [← ht] at cp1
      have HJ := hide hj
      have HTT := hide ht
      have hgl : v.l.ownBlock = some gl := by rw [unhide HL]; rfl
      have D1 := (unhide XD).alloc (.cells #[.int .i64 (j : Int), .string t] 107)
      have hlen : (layP s.last (s.pend.take k)).length = s.last.length := layP_len _ _
      have d0 : (wr.alloc (.cells #[.int .i64 (j : Int), .string t] 107)).cell? ⟨b, 0, none⟩ = some (.slice (some ⟨gl, 0, none⟩) s.last.length capl) := by rw [D1.blk.cell 0, ← unhide HL]; rfl
      have dj : (wr.alloc (.cells #[.int .i64 (j : Int), .string t] 107)).cell? ⟨gl, j, none⟩ = some (.string ((layP s.last (s.pend.take k)).getD j ByteArray.empty)) := by rw [(own_at D1.rl hgl j (by simpa [hlen] using hjl)).1]; exact strs_at _ _ (by simpa [hlen] using hjl)
      have fj : (wr.alloc (.cells #[.int .i64 (j : Int), .string t] 107)).frozen? ⟨gl, j, none⟩ = false := (own_at D1.rl hgl j (by simpa [hlen] using hjl)).2
      have DB := Blk.new wr 107 #[.int .i64 (j : Int), .string t]
      have n0 : (wr.alloc (.cells #[.int .i64 (j : Int), .string t] 107)).cell? ⟨wr.heap.size, 0, none⟩ = some (.int .i64 (j : Int)) := DB.cell 0
      have n1 : (wr.alloc (.cells #[.int .i64 (j : Int), .string t] 107)).cell? ⟨wr.heap.size, 1, none⟩ = some (.string t) := DB.cell 1
      have X1 := hide D1
      have XO1 := hide ((unhide XO).alloc (.cells #[.int .i64 (j : Int), .string t] 107))
      have HGL := hide hgl
      have HLN := hide hlen
      clear w0 w1 hj ht hgp D1 DB hgl hlen XD XO
      go_wp2_with fail
      clear cp0 cp1
      generalize hx1 : wr.alloc (.cells #[.int .i64 (j : Int), .string t] 107) = x1 at *
      generalize wr.heap.size = gh at *
      clear hx1
      generalize (layP s.last (s.pend.take k)).getD j ByteArray.empty = old at *
      have i0 : 0 ≤ (j : Int) := by omega
      have i1 : (j : Int) < (s.last.length : Int) := by omega
      go_still_tail 9, (by kernel_rfl)
      change wpList _ _ _ _ _ x1.drew
      go_wp2
      go_roundw
      case rel =>
        refine ⟨k + 1, by omega, by go_num, ?_, (unhide XO1).drew.setCell _ _ (fun _ => .inr (.inl (unhide HGL)))⟩
        rw [unhide HT, layP_snoc, ← unhide HJ, ← unhide HTT]
        exact (unhide X1).drew.setLast gl j (unhide HGL) t
      case measure => simp [intOf]; omega
    · have hk' : k = s.pend.length := by omega
      subst hk'
      rw [List.take_length] at XD
      have f2 := (unhide XD).blk.frozen 2
      have c2' : wr.cell? ⟨b, 2, none⟩ = some v.p := by rw [(unhide XD).blk.cell 2]; rfl
      have HP := hide (unhide XD).nilP
      clear XD H HK HL
      go_wp2
      go_end0
      exact ⟨rfl, DPost.trans (unhide XO) (fun _ q => .inl q) (unhide HP)⟩
end Go.Proofs.YtnfcnpolflfpfaaGreatDoor

namespace Go.Proofs.YtnfcnpolflfpfaaGreatDoor
open Go.RowKit
/-- How many slots; a slot; what is wrong; a body with another slot. -/
def slotsP (n : Nat) (size : Int) : Nat := if size < 1 then 0 else n / size.toNat
def errS (n : Nat) (size k : Int) : Int := if size < 1 then 1 else if k < 0 ∨ (slotsP n size : Int) ≤ k then 36 else 0
def slotB (body : ByteArray) (size k : Int) : ByteArray := if errS body.size size k = 0 then body.extract (k.toNat * size.toNat) ((k.toNat + 1) * size.toNat) else ⟨#[]⟩
def errT (n m : Nat) (size k : Int) : Int := if size < 1 ∨ ¬ (m : Int) = size then 1 else if k < 0 ∨ (slotsP n size : Int) ≤ k then 36 else 0
def setB (body s : ByteArray) (size k : Int) : ByteArray := if errT body.size s.size size k = 0 then body.extract 0 (k.toNat * size.toNat) ++ s ++ body.extract ((k.toNat + 1) * size.toNat) body.size else ⟨#[]⟩
theorem slots_in (n S K : Nat) (h : K < n / S) : (K + 1) * S ≤ n := by
  have h1 : n / S * S ≤ n := Nat.div_mul_le_self n S
  have h2 : (K + 1) * S ≤ n / S * S := Nat.mul_le_mul_right S h
  omega
set_option maxHeartbeats 400000 in
theorem slots_any (body : ByteArray) (size : Int) (hb : body.size ≤ 9223372036854775807) (hs : I64 size) (w : World) :
    Calls Tryz.prog 177 #[.string body, .int .i64 size] w fun e w' => e = .returned (.int .i64 (slotsP body.size size : Int)) ∧ w' = w := by
  obtain ⟨hs1, hs2⟩ := hs
  by_cases h : size < 1
  · have HP := hide (show slotsP body.size size = 0 by rw [slotsP, if_pos h])
    go_enter Tryz.func177, Tryz.ntmps177
    go_wp2
    go_ret
    exact ⟨by rw [unhide HP]; rfl, rfl⟩
  · obtain ⟨S, rfl⟩ := Int.eq_ofNat_of_zero_le (show 0 ≤ size by omega)
    have HP := hide (show slotsP body.size (S : Int) = body.size / S by rw [slotsP, if_neg h, Int.toNat_natCast])
    have hq : ((body.size : Int)).tdiv (S : Int) = ((body.size / S : Nat) : Int) := rfl
    have hle : body.size / S ≤ body.size := Nat.div_le_self _ _
    have hz : ((S : Int) == 0) = false := by simp; omega
    generalize body.size / S = M at *
    go_enter Tryz.func177, Tryz.ntmps177
    go_wp2
    go_ret
    exact ⟨by rw [unhide HP]; rfl, rfl⟩
set_option maxRecDepth 100000 in
set_option maxHeartbeats 1000000 in
theorem slot_any (body : ByteArray) (size k : Int) (hb : body.size ≤ 9223372036854775807) (hs : I64 size) (hk : I64 k) (w : World) :
    Calls Tryz.prog 120 #[.string body, .int .i64 size, .int .i64 k] w fun e w' => e = .returned (.tuple #[.string (slotB body size k), .int .i64 (errS body.size size k)]) ∧ Below w.heap.size w w' := by
  have HS := hide (fun W => slots_any body size hb hs W)
  obtain ⟨hs1, hs2⟩ := hs
  obtain ⟨hk1, hk2⟩ := hk
  by_cases h : size < 1
  · have HE := hide (show errS body.size size k = 1 by rw [errS, if_pos h])
    have HB := hide (show slotB body size k = ⟨#[]⟩ by rw [slotB, if_neg (by rw [unhide HE]; decide)])
    generalize errS body.size size k = E at *
    generalize slotB body size k = B at *
    go_enter Tryz.func120, Tryz.ntmps120
    go_wp2
    go_ret2
    exact ⟨by rw [unhide HB, unhide HE]; rfl, Below.refl _ _⟩
  · by_cases h2 : k < 0
    · have HE := hide (show errS body.size size k = 36 by rw [errS, if_neg h, if_pos (.inl h2)])
      have HB := hide (show slotB body size k = ⟨#[]⟩ by rw [slotB, if_neg (by rw [unhide HE]; decide)])
      generalize errS body.size size k = E at *
      generalize slotB body size k = B at *
      go_enter Tryz.func120, Tryz.ntmps120
      go_wp2
      go_ret2
      exact ⟨by rw [unhide HB, unhide HE]; rfl, Below.refl _ _⟩
    · obtain ⟨S, rfl⟩ := Int.eq_ofNat_of_zero_le (show 0 ≤ size by omega)
      obtain ⟨K, rfl⟩ := Int.eq_ofNat_of_zero_le (show 0 ≤ k by omega)
      have hM : slotsP body.size (S : Int) = body.size / S := by rw [slotsP, if_neg h, Int.toNat_natCast]
      by_cases h3 : slotsP body.size (S : Int) ≤ K
      · have HE := hide (show errS body.size (S : Int) (K : Int) = 36 by rw [errS, if_neg h, if_pos (.inr (by omega))])
        have HB := hide (show slotB body (S : Int) (K : Int) = ⟨#[]⟩ by rw [slotB, if_neg (by rw [unhide HE]; decide)])
        generalize errS body.size (S : Int) (K : Int) = E at *
        generalize slotB body (S : Int) (K : Int) = B at *
        clear hM
        generalize slotsP body.size (S : Int) = M at *
        go_enter Tryz.func120, Tryz.ntmps120
        go_wp2_with (go_at_call 177; refine (unhide HS _).mono ?_; rintro e w' ⟨rfl, rfl⟩)
        go_ret2
        exact ⟨by rw [unhide HB, unhide HE]; rfl, Below.refl _ _⟩
      · have HE := hide (show errS body.size (S : Int) (K : Int) = 0 by rw [errS, if_neg h, if_neg (by omega)])
        have HB := hide (show slotB body (S : Int) (K : Int) = body.extract (K * S) ((K + 1) * S) by rw [slotB, if_pos (unhide HE), Int.toNat_natCast, Int.toNat_natCast])
        have hin := slots_in body.size S K (by omega)
        have hKb : K < 9223372036854775807 := by have := Nat.div_le_self body.size S; omega
        have hmo : K * S ≤ (K + 1) * S := Nat.mul_le_mul_right S (by omega)
        have hm1 : (K : Int) * (S : Int) = ((K * S : Nat) : Int) := by simp
        have hm2 : ((K : Int) + 1) * (S : Int) = (((K + 1) * S : Nat) : Int) := by simp
        generalize errS body.size (S : Int) (K : Int) = E at *
        generalize slotB body (S : Int) (K : Int) = B at *
        clear hM
        generalize slotsP body.size (S : Int) = M at *
        generalize (K + 1) * S = J at *
        generalize K * S = I at *
        go_enter Tryz.func120, Tryz.ntmps120
        go_wp2_with (go_at_call 177; refine (unhide HS _).mono ?_; rintro e w' ⟨rfl, rfl⟩)
        go_ret2
        exact ⟨by rw [unhide HB, unhide HE]; rfl, Below.refl _ _⟩
set_option maxRecDepth 100000 in
set_option maxHeartbeats 1000000 in
theorem setSlot_any (body : ByteArray) (size k : Int) (s : ByteArray) (hb : body.size ≤ 4611686018427387904) (hs : I64 size) (hk : I64 k) (hss : s.size ≤ 1152921504606846976) (w : World) :
    Calls Tryz.prog 150 #[.string body, .int .i64 size, .int .i64 k, .string s] w fun e w' => e = .returned (.tuple #[.string (setB body s size k), .int .i64 (errT body.size s.size size k)]) ∧ Below w.heap.size w w' := by
  have HS := hide (fun W => slots_any body size (by omega) hs W)
  obtain ⟨hs1, hs2⟩ := hs
  obtain ⟨hk1, hk2⟩ := hk
  by_cases h : size < 1
  · have HE := hide (show errT body.size s.size size k = 1 by rw [errT, if_pos (.inl h)])
    have HB := hide (show setB body s size k = ⟨#[]⟩ by rw [setB, if_neg (by rw [unhide HE]; decide)])
    generalize errT body.size s.size size k = E at *
    generalize setB body s size k = B at *
    go_enter Tryz.func150, Tryz.ntmps150
    go_wp2
    go_ret2
    exact ⟨by rw [unhide HB, unhide HE]; rfl, Below.refl _ _⟩
  · obtain ⟨S, rfl⟩ := Int.eq_ofNat_of_zero_le (show 0 ≤ size by omega)
    by_cases h1 : s.size = S
    · by_cases h2 : k < 0
      · have HE := hide (show errT body.size s.size (S : Int) k = 36 by rw [errT, if_neg (by omega), if_pos (.inl h2)])
        have HB := hide (show setB body s (S : Int) k = ⟨#[]⟩ by rw [setB, if_neg (by rw [unhide HE]; decide)])
        have hne : ((s.size : Int) != (S : Int)) = false := by simp; omega
        generalize errT body.size s.size (S : Int) k = E at *
        generalize setB body s (S : Int) k = B at *
        go_enter Tryz.func150, Tryz.ntmps150
        go_wp2
        go_ret2
        exact ⟨by rw [unhide HB, unhide HE]; rfl, Below.refl _ _⟩
      · obtain ⟨K, rfl⟩ := Int.eq_ofNat_of_zero_le (show 0 ≤ k by omega)
        have hM : slotsP body.size (S : Int) = body.size / S := by rw [slotsP, if_neg h, Int.toNat_natCast]
        have hne : ((s.size : Int) != (S : Int)) = false := by simp; omega
        by_cases h3 : slotsP body.size (S : Int) ≤ K
        · have HE := hide (show errT body.size s.size (S : Int) (K : Int) = 36 by rw [errT, if_neg (by omega), if_pos (.inr (by omega))])
          have HB := hide (show setB body s (S : Int) (K : Int) = ⟨#[]⟩ by rw [setB, if_neg (by rw [unhide HE]; decide)])
          generalize errT body.size s.size (S : Int) (K : Int) = E at *
          generalize setB body s (S : Int) (K : Int) = B at *
          clear hM
          generalize slotsP body.size (S : Int) = M at *
          go_enter Tryz.func150, Tryz.ntmps150
          go_wp2_with (go_at_call 177; refine (unhide HS _).mono ?_; rintro e w' ⟨rfl, rfl⟩)
          go_ret2
          exact ⟨by rw [unhide HB, unhide HE]; rfl, Below.refl _ _⟩
        · have HE := hide (show errT body.size s.size (S : Int) (K : Int) = 0 by rw [errT, if_neg (by omega), if_neg (by omega)])
          have HB := hide (show setB body s (S : Int) (K : Int) = body.extract 0 (K * S) ++ s ++ body.extract ((K + 1) * S) body.size by rw [setB, if_pos (unhide HE), Int.toNat_natCast, Int.toNat_natCast])
          have hin := slots_in body.size S K (by omega)
          have hKb : K < 9223372036854775807 := by have := Nat.div_le_self body.size S; omega
          have hmo : K * S ≤ (K + 1) * S := Nat.mul_le_mul_right S (by omega)
          have hm1 : (K : Int) * (S : Int) = ((K * S : Nat) : Int) := by simp
          have hm2 : ((K : Int) + 1) * (S : Int) = (((K + 1) * S : Nat) : Int) := by simp
          generalize errT body.size s.size (S : Int) (K : Int) = E at *
          generalize setB body s (S : Int) (K : Int) = B at *
          clear hM
          generalize slotsP body.size (S : Int) = M at *
          generalize (K + 1) * S = J at *
          generalize K * S = I at *
          have z1 : (body.extract 0 I).size = I := by simp; omega
          have z2 : (body.extract J body.size).size = body.size - J := by simp
          have y1 : ¬ 9223372036854775807 < (body.extract 0 I).size + s.size := by omega
          have z3 : (body.extract 0 I ++ s).size = I + s.size := by rw [ByteArray.size_append, z1]
          have y2 : ¬ 9223372036854775807 < (body.extract 0 I ++ s).size + (body.extract J body.size).size := by omega
          clear z1 z2 z3
          have w1 : IntKind.i64.wrap (I : Int) = (I : Int) := wrapI_eq _ (by omega) (by omega)
          have w2 : IntKind.i64.wrap (J : Int) = (J : Int) := wrapI_eq _ (by omega) (by omega)
          have w3 : IntKind.i64.wrap ((K : Int) + 1) = (K : Int) + 1 := wrapI_eq _ (by omega) (by omega)
          go_enter Tryz.func150, Tryz.ntmps150
          go_wp2_with (go_at_call 177; refine (unhide HS _).mono ?_; rintro e w' ⟨rfl, rfl⟩)
          go_quiet (fail)
          go_wp2
          go_ret2
          exact ⟨by rw [unhide HB, unhide HE]; rfl, below_drewN (Below.refl _ _) _⟩
    · have HE := hide (show errT body.size s.size (S : Int) k = 1 by rw [errT, if_pos (.inr (by omega))])
      have HB := hide (show setB body s (S : Int) k = ⟨#[]⟩ by rw [setB, if_neg (by rw [unhide HE]; decide)])
      have hne : ((s.size : Int) != (S : Int)) = true := by simp; omega
      generalize errT body.size s.size (S : Int) k = E at *
      generalize setB body s (S : Int) k = B at *
      go_enter Tryz.func150, Tryz.ntmps150
      go_wp2
      go_ret2
      exact ⟨by rw [unhide HB, unhide HE]; rfl, Below.refl _ _⟩
end Go.Proofs.YtnfcnpolflfpfaaGreatDoor

namespace Go.Proofs.YtnfcnpolflfpfaaGreatDoor
theorem ext_data {a b : ByteArray} (h : a.data = b.data) : a = b := by cases a; cases b; simp_all
/-- A body with another slot: what stands beside it. -/
theorem set_beside (body s : ByteArray) (I S a b : Nat) (hs : s.size = S) (hI : I + S ≤ body.size) (hb : b ≤ body.size) (hab : a ≤ b) (h : b ≤ I ∨ I + S ≤ a) :
    (body.extract 0 I ++ s ++ body.extract (I + S) body.size).extract a b = body.extract a b := by
  apply ext_data
  have hs' : s.data.size = S := hs
  have hn : body.data.size = body.size := rfl
  simp only [ByteArray.data_extract, ByteArray.data_append, Array.extract_append, Array.extract_extract, Array.size_extract, Array.size_append]
  rcases h with h | h
  · have e1 : s.data.extract (a - (min I body.data.size - 0)) (b - (min I body.data.size - 0)) = #[] := by
      apply Array.extract_empty_of_stop_le_start
      omega
    have e2 : body.data.extract (I + S + (a - (min I body.data.size - 0 + s.data.size))) (min (I + S + (b - (min I body.data.size - 0 + s.data.size))) body.size) = #[] := by
      apply Array.extract_empty_of_stop_le_start
      omega
    rw [e1, e2]
    simp
    congr 1
    omega
  · have e1 : s.data.extract (a - (min I body.data.size - 0)) (b - (min I body.data.size - 0)) = #[] := by
      apply Array.extract_empty_of_size_le_start
      omega
    have e2 : body.data.extract (0 + a) (min (0 + b) I) = #[] := by
      apply Array.extract_empty_of_stop_le_start
      omega
    rw [e1, e2]
    simp
    congr 1 <;> omega
theorem set_there (body s : ByteArray) (I S : Nat) (hs : s.size = S) (hI : I + S ≤ body.size) :
    (body.extract 0 I ++ s ++ body.extract (I + S) body.size).extract I (I + S) = s := by
  apply ext_data
  have hs' : s.data.size = S := hs
  have hn : body.data.size = body.size := rfl
  simp only [ByteArray.data_extract, ByteArray.data_append, Array.extract_append, Array.extract_extract, Array.size_extract, Array.size_append]
  have e1 : body.data.extract (0 + I) (min (0 + (I + S)) I) = #[] := by
    apply Array.extract_empty_of_stop_le_start
    omega
  have e2 : body.data.extract (I + S + (I - (min I body.data.size - 0 + s.data.size))) (min (I + S + (I + S - (min I body.data.size - 0 + s.data.size))) body.size) = #[] := by
    apply Array.extract_empty_of_stop_le_start
    omega
  rw [e1, e2]
  have e3 : s.data.extract (I - (min I body.data.size - 0)) (I + S - (min I body.data.size - 0)) = s.data := by
    rw [show I - (min I body.data.size - 0) = 0 by omega, show I + S - (min I body.data.size - 0) = s.data.size by omega]
    simp
  rw [e3]
  simp
end Go.Proofs.YtnfcnpolflfpfaaGreatDoor

namespace Go.Proofs.YtnfcnpolflfpfaaGreatDoor
open Go.RowKit
theorem slots_nat (body : ByteArray) (S : Nat) (hS : 0 < S) : slotsP body.size (S : Int) = body.size / S := by rw [slotsP, if_neg (by omega), Int.toNat_natCast]
theorem slot_nat (body : ByteArray) (S K : Nat) (hS : 0 < S) (hb : body.size ≤ 9223372036854775807) (hK : K < body.size / S) (w : World) :
    Calls Tryz.prog 120 #[.string body, .int .i64 (S : Int), .int .i64 (K : Int)] w fun e w' => e = .returned (.tuple #[.string (body.extract (K * S) ((K + 1) * S)), .int .i64 0]) ∧ Below w.heap.size w w' := by
  have h1 := slots_in body.size S K hK
  have h2 : S ≤ (K + 1) * S := Nat.le_mul_of_pos_left S (by omega)
  have h3 := Nat.div_le_self body.size S
  have hE : errS body.size (S : Int) (K : Int) = 0 := by rw [errS, if_neg (by omega), if_neg (by rw [slots_nat body S hS]; omega)]
  have h := slot_any body (S : Int) (K : Int) hb ⟨by omega, by omega⟩ ⟨by omega, by omega⟩ w
  rw [slotB, if_pos hE, hE, Int.toNat_natCast, Int.toNat_natCast] at h
  exact h
theorem setSlot_nat (body : ByteArray) (S K : Nat) (s : ByteArray) (hS : 0 < S) (hb : body.size ≤ 140737488351233) (hK : K < body.size / S) (hs : s.size = S) (w : World) :
    Calls Tryz.prog 150 #[.string body, .int .i64 (S : Int), .int .i64 (K : Int), .string s] w fun e w' => e = .returned (.tuple #[.string (body.extract 0 (K * S) ++ s ++ body.extract (K * S + S) body.size), .int .i64 0]) ∧ Below w.heap.size w w' := by
  have h1 := slots_in body.size S K hK
  have h2 : S ≤ (K + 1) * S := Nat.le_mul_of_pos_left S (by omega)
  have h3 := Nat.div_le_self body.size S
  have hE : errT body.size s.size (S : Int) (K : Int) = 0 := by rw [errT, if_neg (by omega), if_neg (by rw [slots_nat body S hS]; omega)]
  have h := setSlot_any body (S : Int) (K : Int) s (by omega) ⟨by omega, by omega⟩ ⟨by omega, by omega⟩ (by omega) w
  rw [setB, if_pos hE, hE, Int.toNat_natCast, Int.toNat_natCast, Nat.succ_mul] at h
  exact h
end Go.Proofs.YtnfcnpolflfpfaaGreatDoor
