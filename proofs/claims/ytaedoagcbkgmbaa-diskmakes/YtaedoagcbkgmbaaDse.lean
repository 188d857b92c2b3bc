import Derived.Test.YtaedoagcbkgmbaaDsp
namespace Go.Proofs.Ytaedoagcbkgmbaa
open Go.RowKit
def layP (l : List ByteArray) (ps : List (Nat × ByteArray)) : List ByteArray := ps.foldl (fun l p => l.set p.1 p.2) l
theorem layP_len (ps : List (Nat × ByteArray)) : ∀ l : List ByteArray, (layP l ps).length = l.length := by
  induction ps with
  | nil => intro l; rfl
  | cons p r ih => intro l; show (layP (l.set p.1 p.2) r).length = _; rw [ih]; simp
theorem layP_snoc (l : List ByteArray) (ps : List (Nat × ByteArray)) (p : Nat × ByteArray) : layP l (ps ++ [p]) = (layP l ps).set p.1 p.2 := by simp [layP]
theorem wrs_at : ∀ (l : List (Nat × ByteArray)) (k : Nat) (hk : k < l.length), (wrs l)[k * 2]? = some (.int .i64 ((l[k].1 : Nat) : Int)) ∧ (wrs l)[k * 2 + 1]? = some (.string l[k].2)
  | p :: r, 0, _ => by simp [wrs]
  | p :: r, k + 1, hk => by
    have := wrs_at r k (by simpa using hk)
    rw [show (k + 1) * 2 = k * 2 + 1 + 1 by omega]
    simpa [wrs] using this
theorem own_at2 {w : World} {base : Nat} {e : TypeId} {n m : Nat} {v : Value} {xs : List Value} {g : Nat} (h : w.ownsRow base e m v n xs) (hv : v.ownBlock = some g) (i : Nat) (hi : i < n * m) : w.cell? ⟨g, i, none⟩ = xs[i]? ∧ w.frozen? ⟨g, i, none⟩ = false := by
  rcases h.2 with ⟨h1, h2⟩ | ⟨g', cap, cur, rfl, hb, hg, hn, hc, hs, hx⟩
  · subst h2; omega
  · obtain rfl : g' = g := by simpa [Value.ownBlock] using hv
    have hB : Blk w g' cur e := hg
    refine ⟨?_, hB.frozen i⟩
    rw [hB.cell i, ← hx, List.getElem?_take, if_pos hi]
    simp
theorem Dk.drew {w : World} {base b : Nat} {v : DV} {s : DSt} (h : Dk w base b v s) : Dk w.drew base b v s := h.below ((Below.refl _ w).drew)
theorem Dk.nilP {w : World} {base b : Nat} {v : DV} {s : DSt} (h : Dk w base b v s) : DPost base b v { s with pend := [] } w (w.setCell ⟨b, 2, none⟩ (.slice none 0 0)) := by
  refine ⟨{ v with p := .slice none 0 0 }, h.cells 2 _ _ _ rfl (owns_setO h.rl _ _ h.nb.1) (owns_setO h.rn _ _ h.nb.2.1) (World.ownsRow_nil _ _ _ _) (owns_setO h.ra _ _ h.nb.2.2.2) h.ne, only_b (Only.refl _ _) _ _, fun k hk => ?_⟩
  rcases hk with hk | hk | hk | hk | hk
  · exact .inl (.inl hk)
  · exact .inl (.inr (.inl hk))
  · exact .inl (.inr (.inr (.inl hk)))
  · cases hk
  · exact .inl (.inr (.inr (.inr (.inr hk))))
def pendOk (s : DSt) : Prop := ∀ p, p ∈ s.pend → p.1 < s.last.length
set_option maxRecDepth 100000 in
set_option maxHeartbeats 2000000 in
theorem settle_any (w : World) (base b : Nat) (v : DV) (s : DSt) (h : Dk w base b v s) (hk : pendOk s) (hz : s.pend.length ≤ 1000000000) (hl : 0 < s.last.length) :
    Calls Try.prog 35 #[.pointer (some ⟨b, 0, none⟩)] w fun e w' => e = .returned (.tuple #[]) ∧ DPost base b v { s with last := layP s.last s.pend, pend := [] } w w' := by
  obtain ⟨gl, capl, evl⟩ : ∃ g cap, v.l = .slice (some ⟨g, 0, none⟩) s.last.length cap := by
    obtain ⟨g, cap, e, _⟩ := h.rl.form hl
    exact ⟨g, cap, e⟩
  obtain ⟨p, cap, ev, hcap⟩ := row_form h.rp
  have c2 : w.cell? ⟨b, 2, none⟩ = some (.slice p s.pend.length cap) := by rw [h.blk.cell 2, ← ev]; rfl
  have H := hide h
  have HE := hide ev
  have HL := hide evl
  have HK := hide hk
  clear h ev evl hk
  go_enter Try.func35, Try.ntmps35
  go_wp2
  go_loopw [9] (fun i wr => ∃ k : Nat, k ≤ s.pend.length ∧ i = .int .i64 (k : Int) ∧ Dk wr base b v { s with last := layP s.last (s.pend.take k) } ∧ Only (Fd b v) w wr) (fun i _ => s.pend.length - (intOf i).toNat)
  case atStart => exact ⟨0, by omega, rfl, unhide H, Only.refl _ _⟩
  case round =>
    obtain ⟨k, hk, rfl, hD, hO⟩ := hrel
    have XD := hide hD
    have XO := hide hO
    clear hD hO
    by_cases hkl : k < s.pend.length
    · obtain ⟨gp, rfl⟩ : ∃ gp, p = some ⟨gp, 0, none⟩ := by
        obtain ⟨g, cap', e, _⟩ := (unhide XD).rp.form (by simpa using (show 0 < s.pend.length by omega))
        rw [unhide HE] at e
        simp at e
        exact ⟨g, e.1⟩
      have hgp : v.p.ownBlock = some gp := by rw [unhide HE]; rfl
      obtain ⟨w0, w1⟩ := wrs_at s.pend k hkl
      have cp0 : wr.cell? ⟨gp, k * 2, none⟩ = some (.int .i64 ((s.pend[k].1 : Nat) : Int)) := by rw [(own_at2 (unhide XD).rp hgp (k * 2) (by simp; omega)).1]; exact w0
      have cp1 : wr.cell? ⟨gp, k * 2 + 1, none⟩ = some (.string s.pend[k].2) := by rw [(own_at2 (unhide XD).rp hgp (k * 2 + 1) (by simp; omega)).1]; exact w1
      have hjl : s.pend[k].1 < s.last.length := unhide HK _ (List.getElem_mem hkl)
      have HT := hide (show s.pend.take (k + 1) = s.pend.take k ++ [s.pend[k]] by simp)
      obtain ⟨j, hj⟩ : ∃ j, j = s.pend[k].1 := ⟨_, rfl⟩
      obtain ⟨t, ht⟩ : ∃ t, t = s.pend[k].2 := ⟨_, rfl⟩
      rw [← hj] at cp0 hjl
      rw [← ht] at cp1
      have HJ := hide hj
      have HTT := hide ht
      have hgl : v.l.ownBlock = some gl := by rw [unhide HL]; rfl
      have D1 := (unhide XD).alloc (.cells #[.int .i64 (j : Int), .string t] 102)
      have hlen : (layP s.last (s.pend.take k)).length = s.last.length := layP_len _ _
      have d0 : (wr.alloc (.cells #[.int .i64 (j : Int), .string t] 102)).cell? ⟨b, 0, none⟩ = some (.slice (some ⟨gl, 0, none⟩) s.last.length capl) := by rw [D1.blk.cell 0, ← unhide HL]; rfl
      have dj : (wr.alloc (.cells #[.int .i64 (j : Int), .string t] 102)).cell? ⟨gl, j, none⟩ = some (.string ((layP s.last (s.pend.take k)).getD j ByteArray.empty)) := by rw [(own_at D1.rl hgl j (by simpa [hlen] using hjl)).1]; exact strs_at _ _ (by simpa [hlen] using hjl)
      have fj : (wr.alloc (.cells #[.int .i64 (j : Int), .string t] 102)).frozen? ⟨gl, j, none⟩ = false := (own_at D1.rl hgl j (by simpa [hlen] using hjl)).2
      have DB := Blk.new wr 102 #[.int .i64 (j : Int), .string t]
      have n0 : (wr.alloc (.cells #[.int .i64 (j : Int), .string t] 102)).cell? ⟨wr.heap.size, 0, none⟩ = some (.int .i64 (j : Int)) := DB.cell 0
      have n1 : (wr.alloc (.cells #[.int .i64 (j : Int), .string t] 102)).cell? ⟨wr.heap.size, 1, none⟩ = some (.string t) := DB.cell 1
      have X1 := hide D1
      have XO1 := hide ((unhide XO).alloc (.cells #[.int .i64 (j : Int), .string t] 102))
      have HGL := hide hgl
      have HLN := hide hlen
      clear w0 w1 hj ht hgp D1 DB hgl hlen XD XO
      go_wp2_with fail
      clear cp0 cp1
      generalize hx1 : wr.alloc (.cells #[.int .i64 (j : Int), .string t] 102) = x1 at *
      generalize wr.heap.size = gh at *
      clear hx1
      generalize (layP s.last (s.pend.take k)).getD j ByteArray.empty = old at *
      have i0 : 0 ≤ (j : Int) := by omega
      have i1 : (j : Int) < (s.last.length : Int) := by omega
      go_still_tail 9, (by kernel_rfl)
      change wpList _ _ _ _ _ x1.drew
      go_wp2
      go_roundw
      case rel =>
        refine ⟨k + 1, by omega, by go_num, ?_, (unhide XO1).drew.setCell _ _ (fun _ => .inr (.inl (unhide HGL)))⟩
        rw [unhide HT, layP_snoc, ← unhide HJ, ← unhide HTT]
        exact (unhide X1).drew.setLast gl j (unhide HGL) t
      case measure => simp [intOf]; omega
    · have hk' : k = s.pend.length := by omega
      subst hk'
      rw [List.take_length] at XD
      have f2 := (unhide XD).blk.frozen 2
      have c2' : wr.cell? ⟨b, 2, none⟩ = some v.p := by rw [(unhide XD).blk.cell 2]; rfl
      have HP := hide (unhide XD).nilP
      clear XD H HK HL
      go_wp2
      go_end0
      exact ⟨rfl, DPost.trans (unhide XO) (fun _ q => .inl q) (unhide HP)⟩
end Go.Proofs.Ytaedoagcbkgmbaa
