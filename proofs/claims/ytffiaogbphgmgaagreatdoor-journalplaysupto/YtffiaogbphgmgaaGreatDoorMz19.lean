import Derived.Test.YtffiaogbphgmgaaGreatDoorMz18
namespace Go.Proofs.YtffiaogbphgmgaaGreatDoor
open Go.RowKit
/-- The rows of the document's disk. -/
structure RV where
  l : Value
  p : Value
  a : Value
/-- At block b lies the document's disk with the rows v, which is s (s.now is not held: it is read off the pending writes). -/
structure Rk (w : World) (base b : Nat) (v : RV) (s : DSt) : Prop where
  blk : Blk w b #[v.l, v.p, .int .i64 s.fuse, .bool s.dead, v.a] 66
  rl : w.ownsRow base 9 1 v.l s.last.length (strs s.last)
  rp : w.ownsRow base 49 2 v.p s.pend.length (wrs s.pend)
  ra : w.ownsRow base 87 2 v.a s.acts.length (tels s.acts)
  lo : base ≤ b
def Fr4 (b : Nat) (v : RV) (k : Nat) : Prop := k = b ∨ v.l.ownBlock = some k ∨ v.p.ownBlock = some k ∨ v.a.ownBlock = some k
def RPst (base b : Nat) (v : RV) (s : DSt) (w w' : World) : Prop :=
  ∃ v', Rk w' base b v' s ∧ Only (Fr4 b v) w w' ∧ ∀ k, Fr4 b v' k → Fr4 b v k ∨ w.heap.size ≤ k
theorem Rk.only {w w' : World} {base b : Nat} {v : RV} {s : DSt} {P : Nat → Prop} (h : Rk w base b v s) (ho : Only P w w') (hp : ∀ k, Fr4 b v k → ¬ P k) : Rk w' base b v s :=
  ⟨h.blk.only ho (hp b (.inl rfl)), owns_only h.rl ho (fun k hk => hp k (.inr (.inl hk))), owns_only h.rp ho (fun k hk => hp k (.inr (.inr (.inl hk)))), owns_only h.ra ho (fun k hk => hp k (.inr (.inr (.inr hk)))), h.lo⟩
theorem Rk.below {w w' : World} {base b : Nat} {v : RV} {s : DSt} (h : Rk w base b v s) (hb : Below w.heap.size w w') : Rk w' base b v s := h.only (Only.of_below (P := fun _ => False) hb) (fun _ _ q => q)
theorem Rk.alloc {w : World} {base b : Nat} {v : RV} {s : DSt} (h : Rk w base b v s) (o : Obj) : Rk (w.alloc o) base b v s := h.below ((Below.refl _ w).alloc (Nat.le_refl _) o)
theorem Rk.drew {w : World} {base b : Nat} {v : RV} {s : DSt} (h : Rk w base b v s) : Rk w.drew base b v s := h.below ((Below.refl _ w).drew)
theorem Rk.nb {w : World} {base b : Nat} {v : RV} {s : DSt} (h : Rk w base b v s) : v.l.ownBlock ≠ some b ∧ v.p.ownBlock ≠ some b ∧ v.a.ownBlock ≠ some b :=
  ⟨h.blk.not_row (by decide) h.rl, h.blk.not_row (by decide) h.rp, h.blk.not_row (by decide) h.ra⟩
theorem Rk.cells {w : World} {base b : Nat} {v : RV} {s : DSt} (h : Rk w base b v s) (j : Nat) (u : Value) (v' : RV) (s' : DSt) (hb : (#[v.l, v.p, .int .i64 s.fuse, .bool s.dead, v.a] : Array Value).setIfInBounds j u = #[v'.l, v'.p, .int .i64 s'.fuse, .bool s'.dead, v'.a])
    (hl : (w.setCell ⟨b, j, none⟩ u).ownsRow base 9 1 v'.l s'.last.length (strs s'.last)) (hp : (w.setCell ⟨b, j, none⟩ u).ownsRow base 49 2 v'.p s'.pend.length (wrs s'.pend)) (ha : (w.setCell ⟨b, j, none⟩ u).ownsRow base 87 2 v'.a s'.acts.length (tels s'.acts)) : Rk (w.setCell ⟨b, j, none⟩ u) base b v' s' :=
  ⟨by rw [← hb]; exact h.blk.set j u, hl, hp, ha, h.lo⟩
theorem Rk.setFuse {w : World} {base b : Nat} {v : RV} {s : DSt} (h : Rk w base b v s) (n : Int) : Rk (w.setCell ⟨b, 2, none⟩ (.int .i64 n)) base b v { s with fuse := n } :=
  h.cells 2 _ v _ rfl (owns_setO h.rl _ _ h.nb.1) (owns_setO h.rp _ _ h.nb.2.1) (owns_setO h.ra _ _ h.nb.2.2)
theorem Rk.setDead {w : World} {base b : Nat} {v : RV} {s : DSt} (h : Rk w base b v s) (n : Bool) : Rk (w.setCell ⟨b, 3, none⟩ (.bool n)) base b v { s with dead := n } :=
  h.cells 3 _ v _ rfl (owns_setO h.rl _ _ h.nb.1) (owns_setO h.rp _ _ h.nb.2.1) (owns_setO h.ra _ _ h.nb.2.2)
theorem Rk.setLast {w : World} {base b : Nat} {v : RV} {s : DSt} (h : Rk w base b v s) (g i : Nat) (hg : v.l.ownBlock = some g) (t : ByteArray) : Rk (w.setCell ⟨g, i, none⟩ (.string t)) base b v { s with last := s.last.set i t } := by
  have hgb : g ≠ b := fun e => h.nb.1 (e ▸ hg)
  refine ⟨h.blk.other _ _ hgb, ?_, owns_setO h.rp _ _ (rows_ne h.rl h.rp (by decide) g hg), owns_setO h.ra _ _ (rows_ne h.rl h.ra (by decide) g hg), h.lo⟩
  have := owns_set h.rl hg i (.string t)
  rw [strs_set] at this
  simpa using this
theorem Rk.nilP {w : World} {base b : Nat} {v : RV} {s : DSt} (h : Rk w base b v s) : Rk (w.setCell ⟨b, 1, none⟩ (.slice none 0 0)) base b { v with p := .slice none 0 0 } { s with pend := [] } :=
  h.cells 1 _ _ _ rfl (owns_setO h.rl _ _ h.nb.1) (World.ownsRow_nil _ _ _ _) (owns_setO h.ra _ _ h.nb.2.2)
theorem only_r {w w' : World} {b : Nat} {v : RV} (h : Only (Fr4 b v) w w') (j : Nat) (u : Value) : Only (Fr4 b v) w (w'.setCell ⟨b, j, none⟩ u) := h.setCell _ _ (fun _ => .inl rfl)
theorem RPst.trans {w w1 w2 : World} {base b : Nat} {v v1 : RV} {s2 : DSt} (h : Only (Fr4 b v) w w1) (hv : ∀ k, Fr4 b v1 k → Fr4 b v k ∨ w.heap.size ≤ k) (h2 : RPst base b v1 s2 w1 w2) : RPst base b v s2 w w2 := by
  obtain ⟨v2, a, o, q⟩ := h2
  refine ⟨v2, a, h.trans o (fun k hk hf => ?_), fun k hk => ?_⟩
  · rcases hv k hf with h3 | h3
    · exact h3
    · omega
  · rcases q k hk with h3 | h3
    · exact hv k h3
    · exact .inr (Nat.le_trans h.size h3)
theorem Rk.appA {W w1 : World} {base b : Nat} {v : RV} {s : DSt} (h : Rk W base b v s) (g cap : Nat) (x : Nat × Nat) (ho : w1.ownsRow base 87 2 (.slice (some ⟨g, 0, none⟩) (s.acts.length + 1) cap) (s.acts.length + 1) (tels s.acts ++ tels [x])) (hg : W.grownBy w1 v.a.ownBlock) (hor : v.a.ownBlock = some g ∨ g = W.heap.size) :
    RPst base b v { s with acts := s.acts ++ [x] } W (w1.setCell ⟨b, 4, none⟩ (.slice (some ⟨g, 0, none⟩) (s.acts.length + 1) cap)) := by
  have hO := grown_only hg
  have hB : Blk w1 b _ _ := h.blk.only hO h.nb.2.2
  have hl := owns_only h.rl hO (fun k hk q => rows_ne h.rl h.ra (by decide) k hk q)
  have hp := owns_only h.rp hO (fun k hk q => rows_ne h.rp h.ra (by decide) k hk q)
  have hgb : (Value.slice (some ⟨g, 0, none⟩) (s.acts.length + 1) cap).ownBlock ≠ some b := hB.not_row (by decide) ho
  refine ⟨{ v with a := .slice (some ⟨g, 0, none⟩) (s.acts.length + 1) cap }, ⟨hB.set 4 _, owns_setO hl _ _ h.nb.1, owns_setO hp _ _ h.nb.2.1, ?_, h.lo⟩, only_r (hO.mono (fun k _ q => .inr (.inr (.inr q)))) _ _, fun k hk => ?_⟩
  · have := owns_setO ho ⟨b, 4, none⟩ (.slice (some ⟨g, 0, none⟩) (s.acts.length + 1) cap) hgb
    simpa [tels_app] using this
  · rcases hk with hk | hk | hk | hk
    · exact .inl (.inl hk)
    · exact .inl (.inr (.inl hk))
    · exact .inl (.inr (.inr (.inl hk)))
    · obtain rfl : g = k := by simpa [Value.ownBlock] using hk
      rcases hor with h1 | h1
      · exact .inl (.inr (.inr (.inr h1)))
      · exact .inr (by omega)
theorem Rk.appP {W w1 : World} {base b : Nat} {v : RV} {s : DSt} (h : Rk W base b v s) (g cap : Nat) (x : Nat × ByteArray) (ho : w1.ownsRow base 49 2 (.slice (some ⟨g, 0, none⟩) (s.pend.length + 1) cap) (s.pend.length + 1) (wrs s.pend ++ wrs [x])) (hg : W.grownBy w1 v.p.ownBlock) (hor : v.p.ownBlock = some g ∨ g = W.heap.size) :
    RPst base b v { s with pend := s.pend ++ [x] } W (w1.setCell ⟨b, 1, none⟩ (.slice (some ⟨g, 0, none⟩) (s.pend.length + 1) cap)) := by
  have hO := grown_only hg
  have hB : Blk w1 b _ _ := h.blk.only hO h.nb.2.1
  have hl := owns_only h.rl hO (fun k hk q => rows_ne h.rl h.rp (by decide) k hk q)
  have ha := owns_only h.ra hO (fun k hk q => rows_ne h.ra h.rp (by decide) k hk q)
  have hgb : (Value.slice (some ⟨g, 0, none⟩) (s.pend.length + 1) cap).ownBlock ≠ some b := hB.not_row (by decide) ho
  refine ⟨{ v with p := .slice (some ⟨g, 0, none⟩) (s.pend.length + 1) cap }, ⟨hB.set 1 _, owns_setO hl _ _ h.nb.1, ?_, owns_setO ha _ _ h.nb.2.2, h.lo⟩, only_r (hO.mono (fun k _ q => .inr (.inr (.inl q)))) _ _, fun k hk => ?_⟩
  · have := owns_setO ho ⟨b, 1, none⟩ (.slice (some ⟨g, 0, none⟩) (s.pend.length + 1) cap) hgb
    simpa [wrs_app] using this
  · rcases hk with hk | hk | hk | hk
    · exact .inl (.inl hk)
    · exact .inl (.inr (.inl hk))
    · obtain rfl : g = k := by simpa [Value.ownBlock] using hk
      rcases hor with h1 | h1
      · exact .inl (.inr (.inr (.inl h1)))
      · exact .inr (by omega)
    · exact .inl (.inr (.inr (.inr hk)))
set_option maxRecDepth 100000 in
set_option maxHeartbeats 1000000 in
theorem ris_any (w : World) (base b : Nat) (v : RV) (s : DSt) (h : Rk w base b v s) (i : Int) :
    Calls Tryz.prog 68 #[.pointer (some ⟨b, 0, none⟩), .int .i64 i] w fun e w' => e = .returned (.bool (decide (isOk s i))) ∧ w' = w := by
  obtain ⟨p, cap, ev, hc⟩ := row_form h.rl
  have c0 : w.cell? ⟨b, 0, none⟩ = some (.slice p s.last.length cap) := by rw [h.blk.cell 0, ← ev]; rfl
  clear h ev
  by_cases h0 : 0 ≤ i
  · go_enter Tryz.func68, Tryz.ntmps68
    go_wp2
    go_ret
    exact ⟨by simp [isOk, h0], rfl⟩
  · go_enter Tryz.func68, Tryz.ntmps68
    go_wp2
    go_ret
    exact ⟨by rw [decide_eq_false (show ¬ isOk s i from fun h => absurd h.1 (by omega))]; rfl, rfl⟩
set_option maxRecDepth 100000 in
set_option maxHeartbeats 1000000 in
theorem ract_any (w : World) (base b : Nat) (v : RV) (s : DSt) (h : Rk w base b v s) (hf : I64 s.fuse) :
    Calls Tryz.prog 69 #[.pointer (some ⟨b, 0, none⟩)] w fun e w' => e = .returned (.bool (!(diesS s).dead)) ∧ Rk w' base b v (diesS s) ∧ Only (Fr4 b v) w w' := by
  have c4 : w.cell? ⟨b, 2, none⟩ = some (.int .i64 s.fuse) := by rw [h.blk.cell 2]; rfl
  have c5 : w.cell? ⟨b, 3, none⟩ = some (.bool s.dead) := by rw [h.blk.cell 3]; rfl
  have f4 := h.blk.frozen 2
  have f5 := h.blk.frozen 3
  have H := hide h
  clear h
  by_cases h0 : 0 < s.fuse
  · have e1 : diesS s = { s with fuse := s.fuse - 1, dead := decide (s.fuse = 1) } := by rw [diesS, if_pos h0]
    rw [e1]
    have hb := hf.2
    clear hf e1
    go_enter Tryz.func69, Tryz.ntmps69
    go_wp2
    go_ret
    have eb : (s.fuse - 1 == 0) = decide (s.fuse = 1) := by
      by_cases h1 : s.fuse = 1
      · simp [h1]
      · have : ¬ s.fuse - 1 = 0 := by omega
        simp [h1, this]
    rw [eb]
    exact ⟨rfl, ((unhide H).setFuse _).setDead _, only_r (only_r (Only.refl _ _) _ _) _ _⟩
  · have e1 : diesS s = s := by rw [diesS, if_neg h0]
    rw [e1]
    clear e1 hf
    go_enter Tryz.func69, Tryz.ntmps69
    go_wp2
    go_ret
    exact ⟨rfl, unhide H, Only.refl _ _⟩
set_option maxRecDepth 100000 in
set_option maxHeartbeats 1000000 in
theorem rarm_any (w : World) (base b : Nat) (v : RV) (s : DSt) (h : Rk w base b v s) (n : Int) :
    Calls Tryz.prog 25 #[.pointer (some ⟨b, 0, none⟩), .int .i64 n] w fun e w' => e = .returned (.int .i64 (armE s n)) ∧ Rk w' base b v (armS s n) ∧ Only (Fr4 b v) w w' := by
  have c4 : w.cell? ⟨b, 2, none⟩ = some (.int .i64 s.fuse) := by rw [h.blk.cell 2]; rfl
  have c5 : w.cell? ⟨b, 3, none⟩ = some (.bool s.dead) := by rw [h.blk.cell 3]; rfl
  have f4 := h.blk.frozen 2
  have H := hide h
  clear h
  by_cases h0 : n < 0
  · rw [armE, armS, if_pos h0, if_pos h0]
    go_enter Tryz.func25, Tryz.ntmps25
    go_wp2
    go_ret
    exact ⟨rfl, unhide H, Only.refl _ _⟩
  · rw [armE, armS, if_neg h0, if_neg h0]
    by_cases hd : s.dead = true
    · rw [if_pos hd, if_pos hd]
      rw [hd] at c5
      go_enter Tryz.func25, Tryz.ntmps25
      go_wp2
      go_ret
      exact ⟨rfl, unhide H, Only.refl _ _⟩
    · rw [if_neg hd, if_neg hd]
      rw [Bool.not_eq_true] at hd
      rw [hd] at c5
      clear hd
      go_enter Tryz.func25, Tryz.ntmps25
      go_wp2
      go_ret
      exact ⟨rfl, (unhide H).setFuse n, only_r (Only.refl _ _) _ _⟩
end Go.Proofs.YtffiaogbphgmgaaGreatDoor

namespace Go.Proofs.YtffiaogbphgmgaaGreatDoor
open Go.RowKit
theorem Rk.now {w : World} {base b : Nat} {v : RV} {s : DSt} (h : Rk w base b v s) (n : List ByteArray) : Rk w base b v { s with now := n } := ⟨h.blk, h.rl, h.rp, h.ra, h.lo⟩
/-- What holds of a disk and the document's alike. -/
structure Coh (s : DSt) : Prop where
  now : s.now = layP s.last s.pend
  dead : s.dead = true → s.fuse = 0
theorem Coh.dies {s : DSt} (h : Coh s) (hd : s.dead = true) : diesS s = s := by rw [diesS, if_neg (by rw [h.dead hd]; decide)]
set_option maxRecDepth 100000 in
set_option maxHeartbeats 2000000 in
theorem rwrite_any (w : World) (base b : Nat) (v : RV) (s : DSt) (h : Rk w base b v s) (hb : base ≤ w.heap.size) (hS : Sane s) (hC : Coh s) (hp : s.pend.length ≤ 1000000000) (ha : s.acts.length ≤ 1000000000) (i : Int) (t : ByteArray) :
    Calls Tryz.prog 21 #[.pointer (some ⟨b, 0, none⟩), .int .i64 i, .string t] w fun e w' => e = .returned (.int .i64 (writeE s i t)) ∧ RPst base b v (writeS s i t) w w' := by
  have c5 : w.cell? ⟨b, 3, none⟩ = some (.bool s.dead) := by rw [h.blk.cell 3]; rfl
  have H := hide h
  have HS := hide hS
  clear h hS
  by_cases hi : isOk s i
  · have e : decide (isOk s i) = true := by simpa using hi
    rw [writeE, writeS, if_pos hi, if_pos hi]
    by_cases ht : t.size = 256
    · rw [if_pos ht, if_pos ht]
      have hti : (t.size : Int) = 256 := by omega
      by_cases hdd : s.dead = true
      · have e3 := hC.dies hdd
        rw [e3, if_pos hdd, if_pos hdd]
        rw [hdd] at c5
        have HH := hide hdd
        clear hi ht hdd e3 hC
        go_enter Tryz.func21, Tryz.ntmps21
        go_wp2_with fail
        refine (ris_any w base b v s (unhide H) i).mono ?_
        rintro ev x1 ⟨rfl, rfl⟩
        rw [e]
        clear e
        go_wp2
        go_ret
        exact ⟨rfl, v, unhide H, Only.refl _ _, fun _ q => .inl q⟩
      · rw [Bool.not_eq_true] at hdd
        rw [hdd] at c5
        clear hdd hC
        by_cases hd : (diesS s).dead = true
        · rw [if_pos hd, if_pos hd]
          have HD := hide hd
          clear hi ht hd
          go_enter Tryz.func21, Tryz.ntmps21
          go_wp2_with fail
          refine (ris_any w base b v s (unhide H) i).mono ?_
          rintro ev x1 ⟨rfl, rfl⟩
          rw [e]
          clear e
          go_wp2_with fail
          refine (ract_any _ base b v s (unhide H) ⟨by have := (unhide HS).fuse.1; omega, (unhide HS).fuse.2⟩).mono ?_
          rintro ev x3 ⟨rfl, hD3, hO3⟩
          rw [unhide HD]
          have XD := hide hD3
          have XO := hide hO3
          clear hD3 hO3
          go_wp2
          go_ret
          exact ⟨rfl, v, unhide XD, unhide XO, fun _ q => .inl q⟩
        · rw [if_neg hd, if_neg hd]
          rw [Bool.not_eq_true] at hd
          obtain ⟨j, rfl⟩ := Int.eq_ofNat_of_zero_le hi.1
          rw [Int.toNat_natCast]
          have HD := hide hd
          clear hi hd ht
          go_enter Tryz.func21, Tryz.ntmps21
          go_wp2_with fail
          refine (ris_any w base b v s (unhide H) (j : Int)).mono ?_
          rintro ev x1 ⟨rfl, rfl⟩
          rw [e]
          clear e
          go_wp2_with fail
          refine (ract_any _ base b v s (unhide H) ⟨by have := (unhide HS).fuse.1; omega, (unhide HS).fuse.2⟩).mono ?_
          rintro ev x3 ⟨rfl, hD3, hO3⟩
          rw [unhide HD]
          have hs3 := hO3.size
          have hp' : (diesS s).pend.length = s.pend.length := by rw [diesS_pend]
          obtain ⟨pp, cp, evp, hcp⟩ := row_form hD3.rp
          rw [hp'] at evp hcp
          have d1 : x3.cell? ⟨b, 1, none⟩ = some (.slice pp s.pend.length cp) := by rw [hD3.blk.cell 1, ← evp]; rfl
          have HX := hide (hD3.alloc (.cells #[.int .i64 (j : Int), .string t] 49))
          have HEP := hide evp
          have XO := hide hO3
          obtain ⟨i0, hi0, hz0, hz1, hz2⟩ := info_parts infoW
          have HI := hide (And.intro hi0 (And.intro hz0 (And.intro hz1 hz2)))
          clear hD3 hO3 evp hi0 hz0 hz1 hz2
          have HPL := hide hp'
          clear hp'
          go_wp2_with (refine wpList_append_lies _ rfl (.tmp 32) (.tmp 36) 38 rfl base 49 i0 (.agg #[.int .i64 0, .string ⟨#[]⟩]) 2 24 Tryz.underlying38 (unhide HI).1 (unhide HI).2.1 (unhide HI).2.2.1 (unhide HI).2.2.2 rfl (by decide) _ s.pend.length (wrs (diesS s).pend) (unhide HEP).symm (by have := (unhide HX).rp; rw [unhide HPL] at this; exact this) ⟨x3.heap.size, 0, none⟩ 1 1 (wrs [(j, t)]) rfl rfl (fun q u hu => by have := news_two x3 49 _ _ q u hu; simpa using this) (by simp [wrs, Value.oneCell']) (by decide) (by unfold maxLen; omega) (by omega) (by simp; omega) _ rfl ?_)
          intro g cap' w1 ho hg hor hlt
          rw [← unhide HPL] at ho
          have hP1 := (unhide HX).appP g cap' (j, t) ho hg (by simpa using hor)
          rw [unhide HPL] at hP1
          have B1 : Blk w1 b _ _ := (unhide HX).blk.only (grown_only hg) (unhide HX).nb.2.1
          have c3' : w1.cell? ⟨b, 1, none⟩ = some v.p := by rw [B1.cell 1]; rfl
          have f3' := B1.frozen 1
          have hsw1 : x3.heap.size ≤ w1.heap.size := by have := hg.size; simp at this; omega
          obtain ⟨v4, hD4, hO4, hF4⟩ := hP1
          obtain ⟨pa, ca, eva, hca⟩ := row_form hD4.ra
          have ha4 : (diesS s).acts.length = s.acts.length := by rw [diesS_acts]
          have eva2 : v4.a = .slice pa s.acts.length ca := by rw [← ha4]; exact eva
          have d4 : (w1.setCell ⟨b, 1, none⟩ (.slice (some ⟨g, 0, none⟩) (s.pend.length + 1) cap')).cell? ⟨b, 4, none⟩ = some (.slice pa s.acts.length ca) := by rw [hD4.blk.cell 4, ← eva2]; rfl
          have HY := hide (hD4.alloc (.cells #[.int .i64 1, .int .i64 (j : Int)] 87))
          have XO4 := hide hO4
          have XF4 := hide hF4
          have HEA := hide eva2
          have HA4 := hide ha4
          obtain ⟨i1, hi0, hz0, hz1, hz2⟩ := info_parts infoT
          have HI1 := hide (And.intro hi0 (And.intro hz0 (And.intro hz1 hz2)))
          clear ho hg hor hlt B1 hD4 hO4 hF4 eva eva2 ha4 hi0 hz0 hz1 hz2 HX
          go_wp2_with (refine wpList_append_lies _ rfl (.tmp 44) (.tmp 47) 64 rfl base 87 i1 (.agg #[.int .i64 0, .int .i64 0]) 2 16 Tryz.underlying64 (unhide HI1).1 (unhide HI1).2.1 (unhide HI1).2.2.1 (unhide HI1).2.2.2 rfl (by decide) _ s.acts.length (tels (diesS s).acts) (unhide HEA).symm (by have := (unhide HY).ra; rw [show (DSt.acts { diesS s with pend := (diesS s).pend ++ [(j, t)] }).length = s.acts.length from unhide HA4] at this; exact this) ⟨w1.heap.size, 0, none⟩ 1 1 (tels [(0, j)]) rfl rfl (fun q u hu => by have := news_two (w1.setCell ⟨b, 1, none⟩ (.slice (some ⟨g, 0, none⟩) (s.pend.length + 1) cap')) 87 _ _ q u hu; simpa using this) (by simp [tels, tel1, Value.oneCell']) (by decide) (by unfold maxLen; omega) (by omega) (by simp; omega) _ rfl ?_)
          intro g5 cap5 w5 ho hg hor hlt
          have ho' : w5.ownsRow base 87 2 (.slice (some ⟨g5, 0, none⟩) ((DSt.acts { diesS s with pend := (diesS s).pend ++ [(j, t)] }).length + 1) cap5) ((DSt.acts { diesS s with pend := (diesS s).pend ++ [(j, t)] }).length + 1) (tels (diesS s).acts ++ tels [(0, j)]) := by rw [show (DSt.acts { diesS s with pend := (diesS s).pend ++ [(j, t)] }).length = s.acts.length from unhide HA4]; exact ho
          have hP5 := (unhide HY).appA g5 cap5 (0, j) ho' hg (by simpa using hor)
          rw [show (DSt.acts { diesS s with pend := (diesS s).pend ++ [(j, t)] }).length = s.acts.length from unhide HA4] at hP5
          have B5 : Blk w5 b _ _ := (unhide HY).blk.only (grown_only hg) (unhide HY).nb.2.2
          have c5' : w5.cell? ⟨b, 4, none⟩ = some v4.a := by rw [B5.cell 4]; rfl
          have f5' := B5.frozen 4
          have XP5 := hide hP5
          clear ho ho' hg hor hlt B5 hP5 HY
          go_wp2
          go_ret
          have h4 := RPst.trans ((unhide XO4).alloc _) (unhide XF4) (unhide XP5)
          obtain ⟨v6, k1, k2, k3⟩ := RPst.trans ((unhide XO).alloc _) (fun _ q => .inl q) h4
          refine ⟨rfl, v6, ?_, k2, k3⟩
          have := k1.now (s.now.set j t)
          simpa [diesS_pend, diesS_acts] using this
    · rw [if_neg ht, if_neg ht]
      have hti : ¬ (t.size : Int) = 256 := by omega
      clear hi ht
      go_enter Tryz.func21, Tryz.ntmps21
      go_wp2_with fail
      refine (ris_any w base b v s (unhide H) i).mono ?_
      rintro ev x1 ⟨rfl, rfl⟩
      rw [e]
      clear e
      go_wp2
      go_ret
      exact ⟨rfl, v, unhide H, Only.refl _ _, fun _ q => .inl q⟩
  · have e : decide (isOk s i) = false := by simpa using hi
    rw [writeE, writeS, if_neg hi, if_neg hi]
    clear hi
    go_enter Tryz.func21, Tryz.ntmps21
    go_wp2_with fail
    refine (ris_any w base b v s (unhide H) i).mono ?_
    rintro ev x1 ⟨rfl, rfl⟩
    rw [e]
    clear e
    go_wp2
    go_ret
    exact ⟨rfl, v, unhide H, Only.refl _ _, fun _ q => .inl q⟩
end Go.Proofs.YtffiaogbphgmgaaGreatDoor

namespace Go.Proofs.YtffiaogbphgmgaaGreatDoor
open Go.RowKit
set_option maxRecDepth 100000 in
set_option maxHeartbeats 2000000 in
theorem rflush_any (w : World) (base b : Nat) (v : RV) (s : DSt) (h : Rk w base b v s) (hb : base ≤ w.heap.size) (hS : Sane s) (hC : Coh s) (hp : s.pend.length ≤ 1000000000) (ha : s.acts.length ≤ 1000000000) :
    Calls Tryz.prog 23 #[.pointer (some ⟨b, 0, none⟩)] w fun e w' => e = .returned (.int .i64 (flushE s)) ∧ RPst base b v (flushS s) w w' := by
  have c5 : w.cell? ⟨b, 3, none⟩ = some (.bool s.dead) := by rw [h.blk.cell 3]; rfl
  have H := hide h
  have HS := hide hS
  clear h hS
  by_cases hdd : s.dead = true
  · have e3 := hC.dies hdd
    rw [flushE, flushS, e3, if_pos hdd, if_pos hdd]
    rw [hdd] at c5
    clear hdd e3 hC
    go_enter Tryz.func23, Tryz.ntmps23
    go_wp2
    go_ret
    exact ⟨rfl, v, unhide H, Only.refl _ _, fun _ q => .inl q⟩
  · rw [Bool.not_eq_true] at hdd
    rw [hdd] at c5
    clear hdd hC
    by_cases hd : (diesS s).dead = true
    · rw [flushE, flushS, if_pos hd, if_pos hd]
      have HD := hide hd
      clear hd
      go_enter Tryz.func23, Tryz.ntmps23
      go_wp2_with fail
      refine (ract_any _ base b v s (unhide H) ⟨by have := (unhide HS).fuse.1; omega, (unhide HS).fuse.2⟩).mono ?_
      rintro ev x3 ⟨rfl, hD3, hO3⟩
      rw [unhide HD]
      have XD := hide hD3
      have XO := hide hO3
      clear hD3 hO3
      go_wp2
      go_ret
      exact ⟨rfl, v, unhide XD, unhide XO, fun _ q => .inl q⟩
    · rw [flushE, flushS, if_neg hd, if_neg hd]
      rw [Bool.not_eq_true] at hd
      have HD := hide hd
      clear hd
      go_enter Tryz.func23, Tryz.ntmps23
      go_wp2_with fail
      refine (ract_any _ base b v s (unhide H) ⟨by have := (unhide HS).fuse.1; omega, (unhide HS).fuse.2⟩).mono ?_
      rintro ev x3 ⟨rfl, hD3, hO3⟩
      rw [unhide HD]
      have hs3 := hO3.size
      have XD := hide hD3
      have XO := hide hO3
      have HSd := hide (unhide HS).dies
      clear hD3 hO3 HS HD H c5
      have hp' : (diesS s).pend.length ≤ 1000000000 := by rw [diesS_pend]; exact hp
      have ha' : (diesS s).acts.length ≤ 1000000000 := by rw [diesS_acts]; exact ha
      have HEQ := hide (show ({ diesS s with last := layP s.last s.pend, pend := [], acts := s.acts ++ [(1, 0)] } : DSt) = { diesS s with last := layP (diesS s).last (diesS s).pend, pend := [], acts := (diesS s).acts ++ [(1, 0)] } by rw [diesS_last, diesS_pend, diesS_acts])
      go_wp2
      generalize hs1 : diesS s = s1 at *
      have HS1 := hide hs1
      clear hs1
      go_loopw [4] (fun i wr => ∃ k : Nat, k ≤ s1.pend.length ∧ i = .int .i64 (k : Int) ∧ Rk wr base b v { s1 with last := layP s1.last (s1.pend.take k) } ∧ Only (Fr4 b v) x3 wr) (fun i _ => s1.pend.length - (intOf i).toNat)
      case atStart => exact ⟨0, by omega, rfl, unhide XD, Only.refl _ _⟩
      case round =>
        obtain ⟨k, hk, rfl, hD, hO⟩ := hrel
        have YD := hide hD
        have YO := hide hO
        clear hD hO XD
        by_cases hkl : k < s1.pend.length
        · obtain ⟨gp, cp, evp, _⟩ := (unhide YD).rp.form (show 0 < s1.pend.length by omega)
          have hlen : (layP s1.last (s1.pend.take k)).length = s1.last.length := layP_len _ _
          obtain ⟨gl, cl, evl, _⟩ := (unhide YD).rl.form (by show 0 < (layP s1.last (s1.pend.take k)).length; rw [hlen]; exact (unhide HSd).pos)
          have hgp : v.p.ownBlock = some gp := by rw [evp]; rfl
          have hgl : v.l.ownBlock = some gl := by rw [evl]; rfl
          have d0 : wr.cell? ⟨b, 0, none⟩ = some (.slice (some ⟨gl, 0, none⟩) s1.last.length cl) := by rw [(unhide YD).blk.cell 0, ← hlen, ← evl]; rfl
          have d1 : wr.cell? ⟨b, 1, none⟩ = some (.slice (some ⟨gp, 0, none⟩) s1.pend.length cp) := by rw [(unhide YD).blk.cell 1, ← evp]; rfl
          obtain ⟨w0, w1⟩ := wrs_at s1.pend k hkl
          have cp0 : wr.cell? ⟨gp, k * 2, none⟩ = some (.int .i64 ((s1.pend[k].1 : Nat) : Int)) := by rw [(own_at2 (unhide YD).rp hgp (k * 2) (by show k * 2 < s1.pend.length * 2; omega)).1]; exact w0
          have cp1 : wr.cell? ⟨gp, k * 2 + 1, none⟩ = some (.string s1.pend[k].2) := by rw [(own_at2 (unhide YD).rp hgp (k * 2 + 1) (by show k * 2 + 1 < s1.pend.length * 2; omega)).1]; exact w1
          have hjl : s1.pend[k].1 < s1.last.length := (unhide HSd).pend _ (List.getElem_mem hkl)
          have HT := hide (show s1.pend.take (k + 1) = s1.pend.take k ++ [s1.pend[k]] by simp)
          obtain ⟨jj, hj⟩ : ∃ jj, jj = s1.pend[k].1 := ⟨_, rfl⟩
          obtain ⟨tt, ht⟩ : ∃ tt, tt = s1.pend[k].2 := ⟨_, rfl⟩
          rw [← hj] at cp0 hjl
          rw [← ht] at cp1
          have hjl2 : jj < (layP s1.last (s1.pend.take k)).length := by rw [hlen]; exact hjl
          have dj : wr.cell? ⟨gl, jj, none⟩ = some (.string ((layP s1.last (s1.pend.take k)).getD jj ByteArray.empty)) := by rw [(own_at (unhide YD).rl hgl jj hjl2).1]; exact strs_at _ _ hjl2
          have fj : wr.frozen? ⟨gl, jj, none⟩ = false := (own_at (unhide YD).rl hgl jj hjl2).2
          clear hjl2
          have HJ := hide hj
          have HTT := hide ht
          have HGL := hide hgl
          clear w0 w1 hj ht hgp hgl hlen evp evl
          generalize (layP s1.last (s1.pend.take k)).getD jj ByteArray.empty = old at *
          have i0 : 0 ≤ (jj : Int) := by omega
          have i1 : (jj : Int) < (s1.last.length : Int) := by omega
          have i2 : 0 ≤ (k : Int) := by omega
          have i3 : (k : Int) < (s1.pend.length : Int) := by omega
          go_wp2_with fail
          go_still_tail 21, (by kernel_rfl)
          change wpList _ _ _ _ _ wr.drew
          go_wp2
          go_roundw
          case rel =>
            refine ⟨k + 1, by omega, by go_num, ?_, (unhide YO).drew.setCell _ _ (fun _ => .inr (.inl (unhide HGL)))⟩
            rw [unhide HT, layP_snoc, ← unhide HJ, ← unhide HTT]
            exact (unhide YD).drew.setLast gl jj (unhide HGL) tt
          case measure => simp [intOf]; omega
        · have hk' : k = s1.pend.length := by omega
          subst hk'
          rw [List.take_length] at YD
          obtain ⟨pq, cq, evq, _⟩ := row_form (unhide YD).rp
          have d1 : wr.cell? ⟨b, 1, none⟩ = some (.slice pq s1.pend.length cq) := by rw [(unhide YD).blk.cell 1, ← evq]; rfl
          have f1 := (unhide YD).blk.frozen 1
          have YN := hide (unhide YD).nilP
          have hs4 := (unhide YO).size
          obtain ⟨pa, ca, eva, hca⟩ := row_form (unhide YN).ra
          have d4 : (wr.setCell ⟨b, 1, none⟩ (.slice none 0 0)).cell? ⟨b, 4, none⟩ = some (.slice pa s1.acts.length ca) := by rw [(unhide YN).blk.cell 4, ← eva]; rfl
          have HEA := hide (show v.a = .slice pa s1.acts.length ca from eva)
          have HY := hide ((unhide YN).alloc (.cells #[.int .i64 2, .int .i64 0] 87))
          obtain ⟨i1, hi0, hz0, hz1, hz2⟩ := info_parts infoT
          have HI1 := hide (And.intro hi0 (And.intro hz0 (And.intro hz1 hz2)))
          clear eva evq hi0 hz0 hz1 hz2 YD YN
          go_wp2_with (refine wpList_append_lies _ rfl (.tmp 50) (.tmp 52) 64 rfl base 87 i1 (.agg #[.int .i64 0, .int .i64 0]) 2 16 Tryz.underlying64 (unhide HI1).1 (unhide HI1).2.1 (unhide HI1).2.2.1 (unhide HI1).2.2.2 rfl (by decide) _ s1.acts.length (tels s1.acts) (unhide HEA).symm (unhide HY).ra ⟨wr.heap.size, 0, none⟩ 1 1 (tels [(1, 0)]) rfl rfl (fun q u hu => by have := news_two (wr.setCell ⟨b, 1, none⟩ (.slice none 0 0)) 87 _ _ q u hu; simpa using this) (by simp [tels, tel1, Value.oneCell']) (by decide) (by unfold maxLen; omega) (by omega) (by simp; omega) _ rfl ?_)
          intro g5 cap5 w5 ho hg hor hlt
          have hP5 := (unhide HY).appA g5 cap5 (1, 0) ho hg (by simpa using hor)
          have B5 : Blk w5 b _ _ := (unhide HY).blk.only (grown_only hg) (unhide HY).nb.2.2
          have c5' : w5.cell? ⟨b, 4, none⟩ = some v.a := by rw [B5.cell 4]; rfl
          have f5' := B5.frozen 4
          have XP5 := hide hP5
          clear ho hg hor hlt B5 hP5 HY
          go_wp2
          go_ret
          refine ⟨rfl, ?_⟩
          obtain rfl := unhide HS1
          rw [unhide HEQ]
          refine RPst.trans (unhide XO) (fun _ q => .inl q) (RPst.trans (v1 := { v with p := .slice none 0 0 }) (only_r (unhide YO) _ _ |>.alloc _) (fun q hq => ?_) (unhide XP5))
          rcases hq with hq | hq | hq | hq
          · exact .inl (.inl hq)
          · exact .inl (.inr (.inl hq))
          · cases hq
          · exact .inl (.inr (.inr (.inr hq)))
end Go.Proofs.YtffiaogbphgmgaaGreatDoor

namespace Go.Proofs.YtffiaogbphgmgaaGreatDoor
open Go.RowKit
/-- 2 disks behind w0; what the fence holds is as it was in wF. -/
def E2 (w0 wF : World) (F : Nat → Prop) (w : World) (b1 : Nat) (s1 : DSt) (b2 : Nat) (s2 : DSt) : Prop :=
  ∃ v1 v2, Dk w w0.heap.size b1 v1 s1 ∧ Dk w w0.heap.size b2 v2 s2 ∧ (∀ k, Fd b1 v1 k → ¬ Fd b2 v2 k) ∧ Below w0.heap.size w0 w ∧ Sane s1 ∧ Sane s2 ∧ (∀ k, F k → k < w.heap.size ∧ ¬ Fd b1 v1 k ∧ ¬ Fd b2 v2 k ∧ w.heap[k]? = wF.heap[k]?)
theorem E2.bel {w0 wF : World} {F : Nat → Prop} {w : World} {b1 : Nat} {s1 : DSt} {b2 : Nat} {s2 : DSt} (h : E2 w0 wF F w b1 s1 b2 s2) : Below w0.heap.size w0 w := by
  obtain ⟨v1, v2, g1, g2, a12, bel, z1, z2, fe⟩ := h
  exact bel
theorem E2.below {w0 wF : World} {F : Nat → Prop} {w : World} {b1 : Nat} {s1 : DSt} {b2 : Nat} {s2 : DSt} (h : E2 w0 wF F w b1 s1 b2 s2) {w' : World} (hb : Below w.heap.size w w') : E2 w0 wF F w' b1 s1 b2 s2 := by
  obtain ⟨v1, v2, g1, g2, a12, bel, z1, z2, fe⟩ := h
  exact ⟨v1, v2, g1.below hb, g2.below hb, a12, bel.trans (hb.mono bel.size), z1, z2, fun k hk => ⟨Nat.lt_of_lt_of_le (fe k hk).1 hb.size, (fe k hk).2.1, (fe k hk).2.2.1, (hb.block k (fe k hk).1).trans (fe k hk).2.2.2⟩⟩
theorem E2.grow {w0 wF : World} {F : Nat → Prop} {w : World} {b1 : Nat} {s1 : DSt} {b2 : Nat} {s2 : DSt} (h : E2 w0 wF F w b1 s1 b2 s2) {w' : World} (hb : Below w.heap.size w w') : E2 w0 w' (fun k => F k ∨ (w.heap.size ≤ k ∧ k < w'.heap.size)) w' b1 s1 b2 s2 := by
  obtain ⟨v1, v2, g1, g2, a12, bel, z1, z2, fe⟩ := h
  refine ⟨v1, v2, g1.below hb, g2.below hb, a12, bel.trans (hb.mono bel.size), z1, z2, fun k hk => ?_⟩
  rcases hk with hk | hk
  · exact ⟨Nat.lt_of_lt_of_le (fe k hk).1 hb.size, (fe k hk).2.1, (fe k hk).2.2.1, rfl⟩
  · exact ⟨hk.2, fun q => by have := (g1.fd k q).2; omega, fun q => by have := (g2.fd k q).2; omega, rfl⟩
theorem E2.step {w0 wF : World} {F : Nat → Prop} {w w' : World} {b1 : Nat} {s1 : DSt} {b2 : Nat} {s2 : DSt} {s : DSt} {v1 v2 : DV} (g1 : Dk w w0.heap.size b1 v1 s1) (g2 : Dk w w0.heap.size b2 v2 s2) (a12 : ∀ k, Fd b1 v1 k → ¬ Fd b2 v2 k) (bel : Below w0.heap.size w0 w) (z2 : Sane s2) (fe : ∀ k, F k → k < w.heap.size ∧ ¬ Fd b1 v1 k ∧ ¬ Fd b2 v2 k ∧ w.heap[k]? = wF.heap[k]?)
    (hp : DPost w0.heap.size b1 v1 s w w') (hs : Sane s) : E2 w0 wF F w' b1 s b2 s2 := by
  obtain ⟨u, k1, k2, k3⟩ := hp
  have new : ∀ k, k < w.heap.size → ¬ Fd b1 v1 k → ¬ Fd b1 u k := fun k hk hn q => by
    rcases k3 k q with q | q
    · exact hn q
    · omega
  refine ⟨u, v2, k1, g2.only k2 (fun k hk hk' => a12 k hk' hk), fun k hk hk' => new k (g2.fd k hk').2 (fun q => a12 k q hk') hk, DI.only g1 bel k2, hs, z2, fun k hk => ?_⟩
  exact ⟨Nat.lt_of_lt_of_le (fe k hk).1 k2.size, new k (fe k hk).1 (fe k hk).2.1, (fe k hk).2.2.1, (k2.2 k (fe k hk).1 (fe k hk).2.1).trans (fe k hk).2.2.2⟩
end Go.Proofs.YtffiaogbphgmgaaGreatDoor

namespace Go.Proofs.YtffiaogbphgmgaaGreatDoor
open Go.RowKit
end Go.Proofs.YtffiaogbphgmgaaGreatDoor

namespace Go.Proofs.YtffiaogbphgmgaaGreatDoor
open Go.RowKit
end Go.Proofs.YtffiaogbphgmgaaGreatDoor

namespace Go.Proofs.YtffiaogbphgmgaaGreatDoor
open Go.RowKit
theorem layP_app (L : List ByteArray) (ps qs : List (Nat × ByteArray)) : layP L (ps ++ qs) = layP (layP L ps) qs := by simp [layP]
theorem layP_far (i : Nat) : ∀ (ps : List (Nat × ByteArray)) (L : List ByteArray), (∀ p ∈ ps, p.1 ≠ i) → (layP L ps).getD i ByteArray.empty = L.getD i ByteArray.empty
  | [], _, _ => rfl
  | p :: r, L, h => by
    have := layP_far i r (L.set p.1 p.2) (fun q hq => h q (List.mem_cons_of_mem _ hq))
    exact this.trans (getD_set_other L p.1 i p.2 (h p List.mem_cons_self))
theorem keepP_app : ∀ (P1 : List (Nat × ByteArray)) (k1 : List Bool) (P2 : List (Nat × ByteArray)) (k2 : List Bool), P1.length = k1.length → keepP (P1 ++ P2) (k1 ++ k2) = keepP P1 k1 ++ keepP P2 k2
  | [], [], P2, k2, _ => by simp [keepP]
  | p :: r, true :: k, P2, k2, h => by simp [keepP]; exact keepP_app r k P2 k2 (by simpa using h)
  | p :: r, false :: k, P2, k2, h => by simp [keepP]; exact keepP_app r k P2 k2 (by simpa using h)
theorem keepP_idx : ∀ (P : List (Nat × ByteArray)) (k : List Bool) (p : Nat × ByteArray), p ∈ keepP P k → ∃ j, ∃ h : j < P.length, P[j] = p ∧ k.getD j false = true
  | [], _, p, h => by simp [keepP] at h
  | q :: r, [], p, h => by simp [keepP] at h
  | q :: r, true :: k, p, h => by
    simp only [keepP, List.mem_cons] at h
    rcases h with rfl | h
    · exact ⟨0, by simp, rfl, rfl⟩
    · obtain ⟨j, h1, h2, h3⟩ := keepP_idx r k p h
      exact ⟨j + 1, by simpa using h1, by simpa using h2, by simpa using h3⟩
  | q :: r, false :: k, p, h => by
    simp only [keepP] at h
    obtain ⟨j, h1, h2, h3⟩ := keepP_idx r k p h
    exact ⟨j + 1, by simpa using h1, by simpa using h2, by simpa using h3⟩
theorem keepP_all : ∀ (P : List (Nat × ByteArray)), keepP P (List.replicate P.length true) = P
  | [] => rfl
  | p :: r => by simp [List.replicate_succ, keepP, keepP_all r]
/-- The last of the kept writes to a sector is what stands there. -/
theorem lay_last (L : List ByteArray) (P : List (Nat × ByteArray)) (kl : List Bool) (hl : kl.length = P.length) (a : Nat) (ha : a < P.length) (hk : kl.getD a false = true) (hp : P[a].1 < L.length) (hlater : ∀ b, (hb : b < P.length) → a < b → kl.getD b false = true → P[b].1 ≠ P[a].1) :
    (layP L (keepP P kl)).getD P[a].1 ByteArray.empty = P[a].2 := by
  have eP : P = P.take a ++ (P[a] :: P.drop (a + 1)) := by simp
  have ek : kl = kl.take a ++ (true :: kl.drop (a + 1)) := by
    have e1 : kl[a]'(by omega) = true := by simpa [List.getD_eq_getElem?_getD, show a < kl.length by omega] using hk
    conv => lhs; rw [← List.take_append_drop a kl, List.drop_eq_getElem_cons (by omega : a < kl.length), e1]
  have e2 : keepP P kl = keepP (P.take a) (kl.take a) ++ (P[a] :: keepP (P.drop (a + 1)) (kl.drop (a + 1))) := by
    conv => lhs; rw [eP, ek]
    rw [keepP_app _ _ _ _ (by simp; omega)]
    rfl
  rw [e2, layP_app]
  show (layP ((layP L (keepP (P.take a) (kl.take a))).set P[a].1 P[a].2) _).getD _ _ = _
  rw [layP_far]
  · exact getD_set_same _ _ _ (by rw [layP_len]; exact hp)
  · intro p hpm
    obtain ⟨j, h1, h2, h3⟩ := keepP_idx _ _ _ hpm
    have hj : a + 1 + j < P.length := by simp at h1; omega
    have := hlater (a + 1 + j) hj (by omega) (by
      rw [List.getD_eq_getElem?_getD, List.getElem?_drop] at h3
      rw [List.getD_eq_getElem?_getD]
      exact h3)
    rw [← h2]
    simpa using this
end Go.Proofs.YtffiaogbphgmgaaGreatDoor
