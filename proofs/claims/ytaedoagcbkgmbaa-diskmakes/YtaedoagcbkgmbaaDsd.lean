import Derived.Test.YtaedoagcbkgmbaaDsk
namespace Go.Proofs.Ytaedoagcbkgmbaa
open Go.RowKit
/-- Another cell of a row of one's own. -/
theorem owns_set {w : World} {base : Nat} {e : TypeId} {k n : Nat} {v : Value} {xs : List Value} (h : w.ownsRow base e k v n xs) {g : Nat} (hv : v.ownBlock = some g) (j : Nat) (u : Value) : (w.setCell ⟨g, j, none⟩ u).ownsRow base e k v n (xs.set j u) := by
  refine ⟨by rw [List.length_set]; exact h.1, ?_⟩
  rcases h.2 with ⟨h1, h2⟩ | ⟨g', cap, cur, rfl, hb, hg, hn, hc, hs, hx⟩
  · rw [h1] at hv; cases hv
  · obtain rfl : g' = g := by simpa [Value.ownBlock] using hv
    refine .inr ⟨g', cap, cur.setIfInBounds j u, rfl, hb, Blk.set hg j u, hn, hc, by simpa using hs, ?_⟩
    rw [← hx]
    simp [List.take_set]
theorem owns_setO {w : World} {base : Nat} {e : TypeId} {k n : Nat} {v : Value} {xs : List Value} (h : w.ownsRow base e k v n xs) (a : Addr) (u : Value) (hv : v.ownBlock ≠ some a.block) : (w.setCell a u).ownsRow base e k v n xs :=
  owns_only h ((Only.refl (fun k => k = a.block) w).setCell a u (fun _ => rfl)) (fun _ hk hkb => hv (hkb ▸ hk))
theorem Dk.nb {w : World} {base b : Nat} {v : DV} {s : DSt} (h : Dk w base b v s) : v.l.ownBlock ≠ some b ∧ v.n.ownBlock ≠ some b ∧ v.p.ownBlock ≠ some b ∧ v.a.ownBlock ≠ some b :=
  ⟨h.blk.not_row (by decide) h.rl, h.blk.not_row (by decide) h.rn, h.blk.not_row (by decide) h.rp, h.blk.not_row (by decide) h.ra⟩
theorem rows_ne {w : World} {base : Nat} {e1 e2 : TypeId} {k1 k2 n1 n2 : Nat} {v1 v2 : Value} {xs1 xs2 : List Value} (h1 : w.ownsRow base e1 k1 v1 n1 xs1) (h2 : w.ownsRow base e2 k2 v2 n2 xs2) (he : e1 ≠ e2) (g : Nat) (hg : v1.ownBlock = some g) : v2.ownBlock ≠ some g := by
  rcases h1.2 with ⟨q1, q2⟩ | ⟨g', cap, cur, rfl, hb, hh, _⟩
  · rw [q1] at hg; cases hg
  · obtain rfl : g' = g := by simpa [Value.ownBlock] using hg
    exact Blk.not_row hh he h2
/-- The disk's own cells are written. -/
theorem Dk.cells {w : World} {base b : Nat} {v : DV} {s : DSt} (h : Dk w base b v s) (j : Nat) (u : Value) (v' : DV) (s' : DSt) (hb : (#[v.l, v.n, v.p, v.a, .int .i64 s.fuse, .bool s.dead] : Array Value).setIfInBounds j u = #[v'.l, v'.n, v'.p, v'.a, .int .i64 s'.fuse, .bool s'.dead])
    (hl : (w.setCell ⟨b, j, none⟩ u).ownsRow base 9 1 v'.l s'.last.length (strs s'.last)) (hn : (w.setCell ⟨b, j, none⟩ u).ownsRow base 9 1 v'.n s'.now.length (strs s'.now)) (hp : (w.setCell ⟨b, j, none⟩ u).ownsRow base 102 2 v'.p s'.pend.length (wrs s'.pend)) (ha : (w.setCell ⟨b, j, none⟩ u).ownsRow base 82 2 v'.a s'.acts.length (acs s'.acts))
    (hne : ∀ k, v'.l.ownBlock = some k → v'.n.ownBlock ≠ some k) : Dk (w.setCell ⟨b, j, none⟩ u) base b v' s' :=
  ⟨by rw [← hb]; exact h.blk.set j u, hl, hn, hp, ha, hne, h.lo⟩
theorem Dk.setFuse {w : World} {base b : Nat} {v : DV} {s : DSt} (h : Dk w base b v s) (n : Int) : Dk (w.setCell ⟨b, 4, none⟩ (.int .i64 n)) base b v { s with fuse := n } :=
  h.cells 4 _ v _ rfl (owns_setO h.rl _ _ h.nb.1) (owns_setO h.rn _ _ h.nb.2.1) (owns_setO h.rp _ _ h.nb.2.2.1) (owns_setO h.ra _ _ h.nb.2.2.2) h.ne
theorem Dk.setDead {w : World} {base b : Nat} {v : DV} {s : DSt} (h : Dk w base b v s) (n : Bool) : Dk (w.setCell ⟨b, 5, none⟩ (.bool n)) base b v { s with dead := n } :=
  h.cells 5 _ v _ rfl (owns_setO h.rl _ _ h.nb.1) (owns_setO h.rn _ _ h.nb.2.1) (owns_setO h.rp _ _ h.nb.2.2.1) (owns_setO h.ra _ _ h.nb.2.2.2) h.ne
theorem only_b {w w' : World} {b : Nat} {v : DV} (h : Only (Fd b v) w w') (j : Nat) (u : Value) : Only (Fd b v) w (w'.setCell ⟨b, j, none⟩ u) := h.setCell _ _ (fun _ => .inl rfl)
def diesS (s : DSt) : DSt := if 0 < s.fuse then { s with fuse := s.fuse - 1, dead := decide (s.fuse = 1) } else s
set_option maxRecDepth 100000 in
set_option maxHeartbeats 1000000 in
theorem dies_any (w : World) (base b : Nat) (v : DV) (s : DSt) (h : Dk w base b v s) (hf : I64 s.fuse) :
    Calls Try.prog 34 #[.pointer (some ⟨b, 0, none⟩)] w fun e w' => e = .returned (.bool (diesS s).dead) ∧ Dk w' base b v (diesS s) ∧ Only (Fd b v) w w' := by
  have c4 : w.cell? ⟨b, 4, none⟩ = some (.int .i64 s.fuse) := by rw [h.blk.cell 4]; rfl
  have c5 : w.cell? ⟨b, 5, none⟩ = some (.bool s.dead) := by rw [h.blk.cell 5]; rfl
  have f4 := h.blk.frozen 4
  have f5 := h.blk.frozen 5
  have H := hide h
  clear h
  by_cases h0 : 0 < s.fuse
  · have e1 : diesS s = { s with fuse := s.fuse - 1, dead := decide (s.fuse = 1) } := by rw [diesS, if_pos h0]
    rw [e1]
    have hb := hf.2
    clear hf e1
    go_enter Try.func34, Try.ntmps34
    go_wp2
    go_ret
    have eb : (s.fuse - 1 == 0) = decide (s.fuse = 1) := by
      by_cases h1 : s.fuse = 1
      · simp [h1]
      · have : ¬ s.fuse - 1 = 0 := by omega
        simp [h1, this]
    rw [eb]
    exact ⟨rfl, ((unhide H).setFuse _).setDead _, only_b (only_b (Only.refl _ _) _ _) _ _⟩
  · have e1 : diesS s = s := by rw [diesS, if_neg h0]
    rw [e1]
    clear e1 hf
    go_enter Try.func34, Try.ntmps34
    go_wp2
    go_ret
    exact ⟨rfl, unhide H, Only.refl _ _⟩
def armE (s : DSt) (n : Int) : Int := if n < 0 then 1 else if s.dead then 2 else 0
def armS (s : DSt) (n : Int) : DSt := if n < 0 then s else if s.dead then s else { s with fuse := n }
set_option maxRecDepth 100000 in
set_option maxHeartbeats 1000000 in
theorem arm_any (w : World) (base b : Nat) (v : DV) (s : DSt) (h : Dk w base b v s) (n : Int) :
    Calls Try.prog 11 #[.pointer (some ⟨b, 0, none⟩), .int .i64 n] w fun e w' => e = .returned (.int .i64 (armE s n)) ∧ Dk w' base b v (armS s n) ∧ Only (Fd b v) w w' := by
  have c4 : w.cell? ⟨b, 4, none⟩ = some (.int .i64 s.fuse) := by rw [h.blk.cell 4]; rfl
  have c5 : w.cell? ⟨b, 5, none⟩ = some (.bool s.dead) := by rw [h.blk.cell 5]; rfl
  have f4 := h.blk.frozen 4
  have H := hide h
  clear h
  by_cases h0 : n < 0
  · rw [armE, armS, if_pos h0, if_pos h0]
    go_enter Try.func11, Try.ntmps11
    go_wp2
    go_ret
    exact ⟨rfl, unhide H, Only.refl _ _⟩
  · rw [armE, armS, if_neg h0, if_neg h0]
    by_cases hd : s.dead = true
    · rw [if_pos hd, if_pos hd]
      rw [hd] at c5
      go_enter Try.func11, Try.ntmps11
      go_wp2
      go_ret
      exact ⟨rfl, unhide H, Only.refl _ _⟩
    · rw [if_neg hd, if_neg hd]
      rw [Bool.not_eq_true] at hd
      rw [hd] at c5
      clear hd
      go_enter Try.func11, Try.ntmps11
      go_wp2
      go_ret
      exact ⟨rfl, (unhide H).setFuse n, only_b (Only.refl _ _) _ _⟩
end Go.Proofs.Ytaedoagcbkgmbaa
