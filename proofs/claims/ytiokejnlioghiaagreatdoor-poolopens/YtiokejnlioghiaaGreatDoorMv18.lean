import Derived.Test.YtiokejnlioghiaaGreatDoorMv17
import Derived.Test.YtiokejnlioghiaaGreatDoorMv04
import Derived.Test.YtiokejnlioghiaaGreatDoorMv10
import Derived.Test.YtiokejnlioghiaaGreatDoorMv03
import Derived.Test.YtiokejnlioghiaaGreatDoorMv05
import Derived.Deep.RegionHeld3
import Derived.BigQuiet
import Derived.Test.YtiokejnlioghiaaGreatDoorMv07
import Derived.Test.YtiokejnlioghiaaGreatDoorMv12
import Derived.Test.YtiokejnlioghiaaGreatDoorMv08
import Derived.Test.YtiokejnlioghiaaGreatDoorMv16
import Derived.Test.YtiokejnlioghiaaGreatDoorMv11
namespace Go.Proofs.YtiokejnlioghiaaGreatDoor
open Go.RowKit
/-- The rows of the document's disk. -/
structure RV where
  l : Value
  p : Value
  a : Value
/-- At block b lies the document's disk with the rows v, which is s (s.now is not held: it is read off the pending writes). -/
structure Rk (w : World) (base b : Nat) (v : RV) (s : DSt) : Prop where
  blk : Blk w b #[v.l, v.p, .int .i64 s.fuse, .bool s.dead, v.a] 72
  rl : w.ownsRow base 9 1 v.l s.last.length (strs s.last)
  rp : w.ownsRow base 36 2 v.p s.pend.length (wrs s.pend)
  ra : w.ownsRow base 117 2 v.a s.acts.length (tels s.acts)
  lo : base ≤ b
def Fr4 (b : Nat) (v : RV) (k : Nat) : Prop := k = b ∨ v.l.ownBlock = some k ∨ v.p.ownBlock = some k ∨ v.a.ownBlock = some k
def RPst (base b : Nat) (v : RV) (s : DSt) (w w' : World) : Prop :=
  ∃ v', Rk w' base b v' s ∧ Only (Fr4 b v) w w' ∧ ∀ k, Fr4 b v' k → Fr4 b v k ∨ w.heap.size ≤ k
theorem Rk.only {w w' : World} {base b : Nat} {v : RV} {s : DSt} {P : Nat → Prop} (h : Rk w base b v s) (ho : Only P w w') (hp : ∀ k, Fr4 b v k → ¬ P k) : Rk w' base b v s :=
  ⟨h.blk.only ho (hp b (.inl rfl)), owns_only h.rl ho (fun k hk => hp k (.inr (.inl hk))), owns_only h.rp ho (fun k hk => hp k (.inr (.inr (.inl hk)))), owns_only h.ra ho (fun k hk => hp k (.inr (.inr (.inr hk)))), h.lo⟩
theorem Rk.below {w w' : World} {base b : Nat} {v : RV} {s : DSt} (h : Rk w base b v s) (hb : Below w.heap.size w w') : Rk w' base b v s := h.only (Only.of_below (P := fun _ => False) hb) (fun _ _ q => q)
theorem Rk.alloc {w : World} {base b : Nat} {v : RV} {s : DSt} (h : Rk w base b v s) (o : Obj) : Rk (w.alloc o) base b v s := h.below ((Below.refl _ w).alloc (Nat.le_refl _) o)
theorem Rk.drew {w : World} {base b : Nat} {v : RV} {s : DSt} (h : Rk w base b v s) : Rk w.drew base b v s := h.below ((Below.refl _ w).drew)
theorem Rk.nb {w : World} {base b : Nat} {v : RV} {s : DSt} (h : Rk w base b v s) : v.l.ownBlock ≠ some b ∧ v.p.ownBlock ≠ some b ∧ v.a.ownBlock ≠ some b :=
  ⟨h.blk.not_row (by decide) h.rl, h.blk.not_row (by decide) h.rp, h.blk.not_row (by decide) h.ra⟩
theorem Rk.cells {w : World} {base b : Nat} {v : RV} {s : DSt} (h : Rk w base b v s) (j : Nat) (u : Value) (v' : RV) (s' : DSt) (hb : (#[v.l, v.p, .int .i64 s.fuse, .bool s.dead, v.a] : Array Value).setIfInBounds j u = #[v'.l, v'.p, .int .i64 s'.fuse, .bool s'.dead, v'.a])
    (hl : (w.setCell ⟨b, j, none⟩ u).ownsRow base 9 1 v'.l s'.last.length (strs s'.last)) (hp : (w.setCell ⟨b, j, none⟩ u).ownsRow base 36 2 v'.p s'.pend.length (wrs s'.pend)) (ha : (w.setCell ⟨b, j, none⟩ u).ownsRow base 117 2 v'.a s'.acts.length (tels s'.acts)) : Rk (w.setCell ⟨b, j, none⟩ u) base b v' s' :=
  ⟨by rw [← hb]; exact h.blk.set j u, hl, hp, ha, h.lo⟩
theorem Rk.setFuse {w : World} {base b : Nat} {v : RV} {s : DSt} (h : Rk w base b v s) (n : Int) : Rk (w.setCell ⟨b, 2, none⟩ (.int .i64 n)) base b v { s with fuse := n } :=
  h.cells 2 _ v _ rfl (owns_setO h.rl _ _ h.nb.1) (owns_setO h.rp _ _ h.nb.2.1) (owns_setO h.ra _ _ h.nb.2.2)
theorem Rk.setDead {w : World} {base b : Nat} {v : RV} {s : DSt} (h : Rk w base b v s) (n : Bool) : Rk (w.setCell ⟨b, 3, none⟩ (.bool n)) base b v { s with dead := n } :=
  h.cells 3 _ v _ rfl (owns_setO h.rl _ _ h.nb.1) (owns_setO h.rp _ _ h.nb.2.1) (owns_setO h.ra _ _ h.nb.2.2)
theorem Rk.setLast {w : World} {base b : Nat} {v : RV} {s : DSt} (h : Rk w base b v s) (g i : Nat) (hg : v.l.ownBlock = some g) (t : ByteArray) : Rk (w.setCell ⟨g, i, none⟩ (.string t)) base b v { s with last := s.last.set i t } := by
  have hgb : g ≠ b := fun e => h.nb.1 (e ▸ hg)
  refine ⟨h.blk.other _ _ hgb, ?_, owns_setO h.rp _ _ (rows_ne h.rl h.rp (by decide) g hg), owns_setO h.ra _ _ (rows_ne h.rl h.ra (by decide) g hg), h.lo⟩
  have := owns_set h.rl hg i (.string t)
  rw [strs_set] at this
  simpa using this
theorem Rk.nilP {w : World} {base b : Nat} {v : RV} {s : DSt} (h : Rk w base b v s) : Rk (w.setCell ⟨b, 1, none⟩ (.slice none 0 0)) base b { v with p := .slice none 0 0 } { s with pend := [] } :=
  h.cells 1 _ _ _ rfl (owns_setO h.rl _ _ h.nb.1) (World.ownsRow_nil _ _ _ _) (owns_setO h.ra _ _ h.nb.2.2)
theorem only_r {w w' : World} {b : Nat} {v : RV} (h : Only (Fr4 b v) w w') (j : Nat) (u : Value) : Only (Fr4 b v) w (w'.setCell ⟨b, j, none⟩ u) := h.setCell _ _ (fun _ => .inl rfl)
theorem RPst.trans {w w1 w2 : World} {base b : Nat} {v v1 : RV} {s2 : DSt} (h : Only (Fr4 b v) w w1) (hv : ∀ k, Fr4 b v1 k → Fr4 b v k ∨ w.heap.size ≤ k) (h2 : RPst base b v1 s2 w1 w2) : RPst base b v s2 w w2 := by
  obtain ⟨v2, a, o, q⟩ := h2
  refine ⟨v2, a, h.trans o (fun k hk hf => ?_), fun k hk => ?_⟩
  · rcases hv k hf with h3 | h3
    · exact h3
    · omega
  · rcases q k hk with h3 | h3
    · exact hv k h3
    · exact .inr (Nat.le_trans h.size h3)
theorem Rk.appA {W w1 : World} {base b : Nat} {v : RV} {s : DSt} (h : Rk W base b v s) (g cap : Nat) (x : Nat × Nat) (ho : w1.ownsRow base 117 2 (.slice (some ⟨g, 0, none⟩) (s.acts.length + 1) cap) (s.acts.length + 1) (tels s.acts ++ tels [x])) (hg : W.grownBy w1 v.a.ownBlock) (hor : v.a.ownBlock = some g ∨ g = W.heap.size) :
    RPst base b v { s with acts := s.acts ++ [x] } W (w1.setCell ⟨b, 4, none⟩ (.slice (some ⟨g, 0, none⟩) (s.acts.length + 1) cap)) := by
  have hO := grown_only hg
  have hB : Blk w1 b _ _ := h.blk.only hO h.nb.2.2
  have hl := owns_only h.rl hO (fun k hk q => rows_ne h.rl h.ra (by decide) k hk q)
  have hp := owns_only h.rp hO (fun k hk q => rows_ne h.rp h.ra (by decide) k hk q)
  have hgb : (Value.slice (some ⟨g, 0, none⟩) (s.acts.length + 1) cap).ownBlock ≠ some b := hB.not_row (by decide) ho
  refine ⟨{ v with a := .slice (some ⟨g, 0, none⟩) (s.acts.length + 1) cap }, ⟨hB.set 4 _, owns_setO hl _ _ h.nb.1, owns_setO hp _ _ h.nb.2.1, ?_, h.lo⟩, only_r (hO.mono (fun k _ q => .inr (.inr (.inr q)))) _ _, fun k hk => ?_⟩
  · have := owns_setO ho ⟨b, 4, none⟩ (.slice (some ⟨g, 0, none⟩) (s.acts.length + 1) cap) hgb
    simpa [tels_app] using this
  · rcases hk with hk | hk | hk | hk
    · exact .inl (.inl hk)
    · exact .inl (.inr (.inl hk))
    · exact .inl (.inr (.inr (.inl hk)))
    · obtain rfl : g = k := by simpa [Value.ownBlock] using hk
      rcases hor with h1 | h1
      · exact .inl (.inr (.inr (.inr h1)))
      · exact .inr (by omega)
theorem Rk.appP {W w1 : World} {base b : Nat} {v : RV} {s : DSt} (h : Rk W base b v s) (g cap : Nat) (x : Nat × ByteArray) (ho : w1.ownsRow base 36 2 (.slice (some ⟨g, 0, none⟩) (s.pend.length + 1) cap) (s.pend.length + 1) (wrs s.pend ++ wrs [x])) (hg : W.grownBy w1 v.p.ownBlock) (hor : v.p.ownBlock = some g ∨ g = W.heap.size) :
    RPst base b v { s with pend := s.pend ++ [x] } W (w1.setCell ⟨b, 1, none⟩ (.slice (some ⟨g, 0, none⟩) (s.pend.length + 1) cap)) := by
  have hO := grown_only hg
  have hB : Blk w1 b _ _ := h.blk.only hO h.nb.2.1
  have hl := owns_only h.rl hO (fun k hk q => rows_ne h.rl h.rp (by decide) k hk q)
  have ha := owns_only h.ra hO (fun k hk q => rows_ne h.ra h.rp (by decide) k hk q)
  have hgb : (Value.slice (some ⟨g, 0, none⟩) (s.pend.length + 1) cap).ownBlock ≠ some b := hB.not_row (by decide) ho
  refine ⟨{ v with p := .slice (some ⟨g, 0, none⟩) (s.pend.length + 1) cap }, ⟨hB.set 1 _, owns_setO hl _ _ h.nb.1, ?_, owns_setO ha _ _ h.nb.2.2, h.lo⟩, only_r (hO.mono (fun k _ q => .inr (.inr (.inl q)))) _ _, fun k hk => ?_⟩
  · have := owns_setO ho ⟨b, 1, none⟩ (.slice (some ⟨g, 0, none⟩) (s.pend.length + 1) cap) hgb
    simpa [wrs_app] using this
  · rcases hk with hk | hk | hk | hk
    · exact .inl (.inl hk)
    · exact .inl (.inr (.inl hk))
    · obtain rfl : g = k := by simpa [Value.ownBlock] using hk
      rcases hor with h1 | h1
      · exact .inl (.inr (.inr (.inl h1)))
      · exact .inr (by omega)
    · exact .inl (.inr (.inr (.inr hk)))
set_option maxRecDepth 100000 in
set_option maxHeartbeats 1000000 in
theorem ris_any (w : World) (base b : Nat) (v : RV) (s : DSt) (h : Rk w base b v s) (i : Int) :
    Calls Tryz.prog 60 #[.pointer (some ⟨b, 0, none⟩), .int .i64 i] w fun e w' => e = .returned (.bool (decide (isOk s i))) ∧ w' = w := by
  obtain ⟨p, cap, ev, hc⟩ := row_form h.rl
  have c0 : w.cell? ⟨b, 0, none⟩ = some (.slice p s.last.length cap) := by rw [h.blk.cell 0, ← ev]; rfl
  clear h ev
  by_cases h0 : 0 ≤ i
  · go_enter Tryz.func60, Tryz.ntmps60
    go_wp2
    go_ret
    exact ⟨by simp [isOk, h0], rfl⟩
  · go_enter Tryz.func60, Tryz.ntmps60
    go_wp2
    go_ret
    exact ⟨by rw [decide_eq_false (show ¬ isOk s i from fun h => absurd h.1 (by omega))]; rfl, rfl⟩
set_option maxRecDepth 100000 in
set_option maxHeartbeats 1000000 in
theorem ract_any (w : World) (base b : Nat) (v : RV) (s : DSt) (h : Rk w base b v s) (hf : I64 s.fuse) :
    Calls Tryz.prog 61 #[.pointer (some ⟨b, 0, none⟩)] w fun e w' => e = .returned (.bool (!(diesS s).dead)) ∧ Rk w' base b v (diesS s) ∧ Only (Fr4 b v) w w' := by
  have c4 : w.cell? ⟨b, 2, none⟩ = some (.int .i64 s.fuse) := by rw [h.blk.cell 2]; rfl
  have c5 : w.cell? ⟨b, 3, none⟩ = some (.bool s.dead) := by rw [h.blk.cell 3]; rfl
  have f4 := h.blk.frozen 2
  have f5 := h.blk.frozen 3
  have H := hide h
  clear h
  by_cases h0 : 0 < s.fuse
  · have e1 : diesS s = { s with fuse := s.fuse - 1, dead := decide (s.fuse = 1) } := by rw [diesS, if_pos h0]
    rw [e1]
    have hb := hf.2
    clear hf e1
    go_enter Tryz.func61, Tryz.ntmps61
    go_wp2
    go_ret
    have eb : (s.fuse - 1 == 0) = decide (s.fuse = 1) := by
      by_cases h1 : s.fuse = 1
      · simp [h1]
      · have : ¬ s.fuse - 1 = 0 := by omega
        simp [h1, this]
    rw [eb]
    exact ⟨rfl, ((unhide H).setFuse _).setDead _, only_r (only_r (Only.refl _ _) _ _) _ _⟩
  · have e1 : diesS s = s := by rw [diesS, if_neg h0]
    rw [e1]
    clear e1 hf
    go_enter Tryz.func61, Tryz.ntmps61
    go_wp2
    go_ret
    exact ⟨rfl, unhide H, Only.refl _ _⟩
set_option maxRecDepth 100000 in
set_option maxHeartbeats 1000000 in
theorem rarm_any (w : World) (base b : Nat) (v : RV) (s : DSt) (h : Rk w base b v s) (n : Int) :
    Calls Tryz.prog 14 #[.pointer (some ⟨b, 0, none⟩), .int .i64 n] w fun e w' => e = .returned (.int .i64 (armE s n)) ∧ Rk w' base b v (armS s n) ∧ Only (Fr4 b v) w w' := by
  have c4 : w.cell? ⟨b, 2, none⟩ = some (.int .i64 s.fuse) := by rw [h.blk.cell 2]; rfl
  have c5 : w.cell? ⟨b, 3, none⟩ = some (.bool s.dead) := by rw [h.blk.cell 3]; rfl
  have f4 := h.blk.frozen 2
  have H := hide h
  clear h
  by_cases h0 : n < 0
  · rw [armE, armS, if_pos h0, if_pos h0]
    go_enter Tryz.func14, Tryz.ntmps14
    go_wp2
    go_ret
    exact ⟨rfl, unhide H, Only.refl _ _⟩
  · rw [armE, armS, if_neg h0, if_neg h0]
    by_cases hd : s.dead = true
    · rw [if_pos hd, if_pos hd]
      rw [hd] at c5
      go_enter Tryz.func14, Tryz.ntmps14
      go_wp2
      go_ret
      exact ⟨rfl, unhide H, Only.refl _ _⟩
    · rw [if_neg hd, if_neg hd]
      rw [Bool.not_eq_true] at hd
      rw [hd] at c5
      clear hd
      go_enter Tryz.func14, Tryz.ntmps14
      go_wp2
      go_ret
      exact ⟨rfl, (unhide H).setFuse n, only_r (Only.refl _ _) _ _⟩
end Go.Proofs.YtiokejnlioghiaaGreatDoor

namespace Go.Proofs.YtiokejnlioghiaaGreatDoor
open Go.RowKit
theorem Rk.now {w : World} {base b : Nat} {v : RV} {s : DSt} (h : Rk w base b v s) (n : List ByteArray) : Rk w base b v { s with now := n } := ⟨h.blk, h.rl, h.rp, h.ra, h.lo⟩
/-- What holds of a disk and the document's alike. -/
structure Coh (s : DSt) : Prop where
  now : s.now = layP s.last s.pend
  dead : s.dead = true → s.fuse = 0
theorem Coh.dies {s : DSt} (h : Coh s) (hd : s.dead = true) : diesS s = s := by rw [diesS, if_neg (by rw [h.dead hd]; decide)]
set_option maxRecDepth 100000 in
set_option maxHeartbeats 2000000 in
theorem rwrite_any (w : World) (base b : Nat) (v : RV) (s : DSt) (h : Rk w base b v s) (hb : base ≤ w.heap.size) (hS : Sane s) (hC : Coh s) (hp : s.pend.length ≤ 1000000000) (ha : s.acts.length ≤ 1000000000) (i : Int) (t : ByteArray) :
    Calls Tryz.prog 20 #[.pointer (some ⟨b, 0, none⟩), .int .i64 i, .string t] w fun e w' => e = .returned (.int .i64 (writeE s i t)) ∧ RPst base b v (writeS s i t) w w' := by
  have c5 : w.cell? ⟨b, 3, none⟩ = some (.bool s.dead) := by rw [h.blk.cell 3]; rfl
  have H := hide h
  have HS := hide hS
  clear h hS
  by_cases hi : isOk s i
  · have e : decide (isOk s i) = true := by simpa using hi
    rw [writeE, writeS, if_pos hi, if_pos hi]
    by_cases ht : t.size = 256
    · rw [if_pos ht, if_pos ht]
      have hti : (t.size : Int) = 256 := by omega
      by_cases hdd : s.dead = true
      · have e3 := hC.dies hdd
        rw [e3, if_pos hdd, if_pos hdd]
        rw [hdd] at c5
        have HH := hide hdd
        clear hi ht hdd e3 hC
        go_enter Tryz.func20, Tryz.ntmps20
        go_wp2_with fail
        refine (ris_any w base b v s (unhide H) i).mono ?_
        rintro ev x1 ⟨rfl, rfl⟩
        rw [e]
        clear e
        go_wp2
        go_ret
        exact ⟨rfl, v, unhide H, Only.refl _ _, fun _ q => .inl q⟩
      · rw [Bool.not_eq_true] at hdd
        rw [hdd] at c5
        clear hdd hC
        by_cases hd : (diesS s).dead = true
        · rw [if_pos hd, if_pos hd]
          have HD := hide hd
          clear hi ht hd
          go_enter Tryz.func20, Tryz.ntmps20
          go_wp2_with fail
          refine (ris_any w base b v s (unhide H) i).mono ?_
          rintro ev x1 ⟨rfl, rfl⟩
          rw [e]
          clear e
          go_wp2_with fail
          refine (ract_any _ base b v s (unhide H) ⟨by have := (unhide HS).fuse.1; omega, (unhide HS).fuse.2⟩).mono ?_
          rintro ev x3 ⟨rfl, hD3, hO3⟩
          rw [unhide HD]
          have XD := hide hD3
          have XO := hide hO3
          clear hD3 hO3
          go_wp2
          go_ret
          exact ⟨rfl, v, unhide XD, unhide XO, fun _ q => .inl q⟩
        · rw [if_neg hd, if_neg hd]
          rw [Bool.not_eq_true] at hd
          obtain ⟨j, rfl⟩ := Int.eq_ofNat_of_zero_le hi.1
          rw [Int.toNat_natCast]
          have HD := hide hd
          clear hi hd ht
          go_enter Tryz.func20, Tryz.ntmps20
          go_wp2_with fail
          refine (ris_any w base b v s (unhide H) (j : Int)).mono ?_
          rintro ev x1 ⟨rfl, rfl⟩
          rw [e]
          clear e
          go_wp2_with fail
          refine (ract_any _ base b v s (unhide H) ⟨by have := (unhide HS).fuse.1; omega, (unhide HS).fuse.2⟩).mono ?_
          rintro ev x3 ⟨rfl, hD3, hO3⟩
          rw [unhide HD]
          have hs3 := hO3.size
          have hp' : (diesS s).pend.length = s.pend.length := by rw [diesS_pend]
          obtain ⟨pp, cp, evp, hcp⟩ := row_form hD3.rp
          rw [hp'] at evp hcp
          have d1 : x3.cell? ⟨b, 1, none⟩ = some (.slice pp s.pend.length cp) := by rw [hD3.blk.cell 1, ← evp]; rfl
          have HX := hide (hD3.alloc (.cells #[.int .i64 (j : Int), .string t] 36))
          have HEP := hide evp
          have XO := hide hO3
          obtain ⟨i0, hi0, hz0, hz1, hz2⟩ := info_parts infoW
          have HI := hide (And.intro hi0 (And.intro hz0 (And.intro hz1 hz2)))
          clear hD3 hO3 evp hi0 hz0 hz1 hz2
          have HPL := hide hp'
          clear hp'
          go_wp2_with (refine wpList_append_lies _ rfl (.tmp 32) (.tmp 36) 37 rfl base 36 i0 (.agg #[.int .i64 0, .string ⟨#[]⟩]) 2 24 Tryz.underlying37 (unhide HI).1 (unhide HI).2.1 (unhide HI).2.2.1 (unhide HI).2.2.2 rfl (by decide) _ s.pend.length (wrs (diesS s).pend) (unhide HEP).symm (by have := (unhide HX).rp; rw [unhide HPL] at this; exact this) ⟨x3.heap.size, 0, none⟩ 1 1 (wrs [(j, t)]) rfl rfl (fun q u hu => by have := news_two x3 36 _ _ q u hu; simpa using this) (by simp [wrs, Value.oneCell']) (by decide) (by unfold maxLen; omega) (by omega) (by simp; omega) _ rfl ?_)
          intro g cap' w1 ho hg hor hlt
          rw [← unhide HPL] at ho
          have hP1 := (unhide HX).appP g cap' (j, t) ho hg (by simpa using hor)
          rw [unhide HPL] at hP1
          have B1 : Blk w1 b _ _ := (unhide HX).blk.only (grown_only hg) (unhide HX).nb.2.1
          have c3' : w1.cell? ⟨b, 1, none⟩ = some v.p := by rw [B1.cell 1]; rfl
          have f3' := B1.frozen 1
          have hsw1 : x3.heap.size ≤ w1.heap.size := by have := hg.size; simp at this; omega
          obtain ⟨v4, hD4, hO4, hF4⟩ := hP1
          obtain ⟨pa, ca, eva, hca⟩ := row_form hD4.ra
          have ha4 : (diesS s).acts.length = s.acts.length := by rw [diesS_acts]
          have eva2 : v4.a = .slice pa s.acts.length ca := by rw [← ha4]; exact eva
          have d4 : (w1.setCell ⟨b, 1, none⟩ (.slice (some ⟨g, 0, none⟩) (s.pend.length + 1) cap')).cell? ⟨b, 4, none⟩ = some (.slice pa s.acts.length ca) := by rw [hD4.blk.cell 4, ← eva2]; rfl
          have HY := hide (hD4.alloc (.cells #[.int .i64 1, .int .i64 (j : Int)] 117))
          have XO4 := hide hO4
          have XF4 := hide hF4
          have HEA := hide eva2
          have HA4 := hide ha4
          obtain ⟨i1, hi0, hz0, hz1, hz2⟩ := info_parts infoT
          have HI1 := hide (And.intro hi0 (And.intro hz0 (And.intro hz1 hz2)))
          clear ho hg hor hlt B1 hD4 hO4 hF4 eva eva2 ha4 hi0 hz0 hz1 hz2 HX
          go_wp2_with (refine wpList_append_lies _ rfl (.tmp 44) (.tmp 47) 70 rfl base 117 i1 (.agg #[.int .i64 0, .int .i64 0]) 2 16 Tryz.underlying70 (unhide HI1).1 (unhide HI1).2.1 (unhide HI1).2.2.1 (unhide HI1).2.2.2 rfl (by decide) _ s.acts.length (tels (diesS s).acts) (unhide HEA).symm (by have := (unhide HY).ra; rw [show (DSt.acts { diesS s with pend := (diesS s).pend ++ [(j, t)] }).length = s.acts.length from unhide HA4] at this; exact this) ⟨w1.heap.size, 0, none⟩ 1 1 (tels [(0, j)]) rfl rfl (fun q u hu => by have := news_two (w1.setCell ⟨b, 1, none⟩ (.slice (some ⟨g, 0, none⟩) (s.pend.length + 1) cap')) 117 _ _ q u hu; simpa using this) (by simp [tels, tel1, Value.oneCell']) (by decide) (by unfold maxLen; omega) (by omega) (by simp; omega) _ rfl ?_)
          intro g5 cap5 w5 ho hg hor hlt
          have ho' : w5.ownsRow base 117 2 (.slice (some ⟨g5, 0, none⟩) ((DSt.acts { diesS s with pend := (diesS s).pend ++ [(j, t)] }).length + 1) cap5) ((DSt.acts { diesS s with pend := (diesS s).pend ++ [(j, t)] }).length + 1) (tels (diesS s).acts ++ tels [(0, j)]) := by rw [show (DSt.acts { diesS s with pend := (diesS s).pend ++ [(j, t)] }).length = s.acts.length from unhide HA4]; exact ho
          have hP5 := (unhide HY).appA g5 cap5 (0, j) ho' hg (by simpa using hor)
          rw [show (DSt.acts { diesS s with pend := (diesS s).pend ++ [(j, t)] }).length = s.acts.length from unhide HA4] at hP5
          have B5 : Blk w5 b _ _ := (unhide HY).blk.only (grown_only hg) (unhide HY).nb.2.2
          have c5' : w5.cell? ⟨b, 4, none⟩ = some v4.a := by rw [B5.cell 4]; rfl
          have f5' := B5.frozen 4
          have XP5 := hide hP5
          clear ho ho' hg hor hlt B5 hP5 HY
          go_wp2
          go_ret
          have h4 := RPst.trans ((unhide XO4).alloc _) (unhide XF4) (unhide XP5)
          obtain ⟨v6, k1, k2, k3⟩ := RPst.trans ((unhide XO).alloc _) (fun _ q => .inl q) h4
          refine ⟨rfl, v6, ?_, k2, k3⟩
          have := k1.now (s.now.set j t)
          simpa [diesS_pend, diesS_acts] using this
    · rw [if_neg ht, if_neg ht]
      have hti : ¬ (t.size : Int) = 256 := by omega
      clear hi ht
      go_enter Tryz.func20, Tryz.ntmps20
      go_wp2_with fail
      refine (ris_any w base b v s (unhide H) i).mono ?_
      rintro ev x1 ⟨rfl, rfl⟩
      rw [e]
      clear e
      go_wp2
      go_ret
      exact ⟨rfl, v, unhide H, Only.refl _ _, fun _ q => .inl q⟩
  · have e : decide (isOk s i) = false := by simpa using hi
    rw [writeE, writeS, if_neg hi, if_neg hi]
    clear hi
    go_enter Tryz.func20, Tryz.ntmps20
    go_wp2_with fail
    refine (ris_any w base b v s (unhide H) i).mono ?_
    rintro ev x1 ⟨rfl, rfl⟩
    rw [e]
    clear e
    go_wp2
    go_ret
    exact ⟨rfl, v, unhide H, Only.refl _ _, fun _ q => .inl q⟩
end Go.Proofs.YtiokejnlioghiaaGreatDoor

namespace Go.Proofs.YtiokejnlioghiaaGreatDoor
open Go.RowKit
set_option maxRecDepth 100000 in
set_option maxHeartbeats 2000000 in
theorem rflush_any (w : World) (base b : Nat) (v : RV) (s : DSt) (h : Rk w base b v s) (hb : base ≤ w.heap.size) (hS : Sane s) (hC : Coh s) (hp : s.pend.length ≤ 1000000000) (ha : s.acts.length ≤ 1000000000) :
    Calls Tryz.prog 33 #[.pointer (some ⟨b, 0, none⟩)] w fun e w' => e = .returned (.int .i64 (flushE s)) ∧ RPst base b v (flushS s) w w' := by
  have c5 : w.cell? ⟨b, 3, none⟩ = some (.bool s.dead) := by rw [h.blk.cell 3]; rfl
  have H := hide h
  have HS := hide hS
  clear h hS
  by_cases hdd : s.dead = true
  · have e3 := hC.dies hdd
    rw [flushE, flushS, e3, if_pos hdd, if_pos hdd]
    rw [hdd] at c5
    clear hdd e3 hC
    go_enter Tryz.func33, Tryz.ntmps33
    go_wp2
    go_ret
    exact ⟨rfl, v, unhide H, Only.refl _ _, fun _ q => .inl q⟩
  · rw [Bool.not_eq_true] at hdd
    rw [hdd] at c5
    clear hdd hC
    by_cases hd : (diesS s).dead = true
    · rw [flushE, flushS, if_pos hd, if_pos hd]
      have HD := hide hd
      clear hd
      go_enter Tryz.func33, Tryz.ntmps33
      go_wp2_with fail
      refine (ract_any _ base b v s (unhide H) ⟨by have := (unhide HS).fuse.1; omega, (unhide HS).fuse.2⟩).mono ?_
      rintro ev x3 ⟨rfl, hD3, hO3⟩
      rw [unhide HD]
      have XD := hide hD3
      have XO := hide hO3
      clear hD3 hO3
      go_wp2
      go_ret
      exact ⟨rfl, v, unhide XD, unhide XO, fun _ q => .inl q⟩
    · rw [flushE, flushS, if_neg hd, if_neg hd]
      rw [Bool.not_eq_true] at hd
      have HD := hide hd
      clear hd
      go_enter Tryz.func33, Tryz.ntmps33
      go_wp2_with fail
      refine (ract_any _ base b v s (unhide H) ⟨by have := (unhide HS).fuse.1; omega, (unhide HS).fuse.2⟩).mono ?_
      rintro ev x3 ⟨rfl, hD3, hO3⟩
      rw [unhide HD]
      have hs3 := hO3.size
      have XD := hide hD3
      have XO := hide hO3
      have HSd := hide (unhide HS).dies
      clear hD3 hO3 HS HD H c5
      have hp' : (diesS s).pend.length ≤ 1000000000 := by rw [diesS_pend]; exact hp
      have ha' : (diesS s).acts.length ≤ 1000000000 := by rw [diesS_acts]; exact ha
      have HEQ := hide (show ({ diesS s with last := layP s.last s.pend, pend := [], acts := s.acts ++ [(1, 0)] } : DSt) = { diesS s with last := layP (diesS s).last (diesS s).pend, pend := [], acts := (diesS s).acts ++ [(1, 0)] } by rw [diesS_last, diesS_pend, diesS_acts])
      go_wp2
      generalize hs1 : diesS s = s1 at *
      have HS1 := hide hs1
      clear hs1
      go_loopw [4] (fun i wr => ∃ k : Nat, k ≤ s1.pend.length ∧ i = .int .i64 (k : Int) ∧ Rk wr base b v { s1 with last := layP s1.last (s1.pend.take k) } ∧ Only (Fr4 b v) x3 wr) (fun i _ => s1.pend.length - (intOf i).toNat)
      case atStart => exact ⟨0, by omega, rfl, unhide XD, Only.refl _ _⟩
      case round =>
        obtain ⟨k, hk, rfl, hD, hO⟩ := hrel
        have YD := hide hD
        have YO := hide hO
        clear hD hO XD
        by_cases hkl : k < s1.pend.length
        · obtain ⟨gp, cp, evp, _⟩ := (unhide YD).rp.form (show 0 < s1.pend.length by omega)
          have hlen : (layP s1.last (s1.pend.take k)).length = s1.last.length := layP_len _ _
          obtain ⟨gl, cl, evl, _⟩ := (unhide YD).rl.form (by show 0 < (layP s1.last (s1.pend.take k)).length; rw [hlen]; exact (unhide HSd).pos)
          have hgp : v.p.ownBlock = some gp := by rw [evp]; rfl
          have hgl : v.l.ownBlock = some gl := by rw [evl]; rfl
          have d0 : wr.cell? ⟨b, 0, none⟩ = some (.slice (some ⟨gl, 0, none⟩) s1.last.length cl) := by rw [(unhide YD).blk.cell 0, ← hlen, ← evl]; rfl
          have d1 : wr.cell? ⟨b, 1, none⟩ = some (.slice (some ⟨gp, 0, none⟩) s1.pend.length cp) := by rw [(unhide YD).blk.cell 1, ← evp]; rfl
          obtain ⟨w0, w1⟩ := wrs_at s1.pend k hkl
          have cp0 : wr.cell? ⟨gp, k * 2, none⟩ = some (.int .i64 ((s1.pend[k].1 : Nat) : Int)) := by rw [(own_at2 (unhide YD).rp hgp (k * 2) (by show k * 2 < s1.pend.length * 2; omega)).1]; exact w0
          have cp1 : wr.cell? ⟨gp, k * 2 + 1, none⟩ = some (.string s1.pend[k].2) := by rw [(own_at2 (unhide YD).rp hgp (k * 2 + 1) (by show k * 2 + 1 < s1.pend.length * 2; omega)).1]; exact w1
          have hjl : s1.pend[k].1 < s1.last.length := (unhide HSd).pend _ (List.getElem_mem hkl)
          have HT := hide (show s1.pend.take (k + 1) = s1.pend.take k ++ [s1.pend[k]] by simp)
          obtain ⟨jj, hj⟩ : ∃ jj, jj = s1.pend[k].1 := ⟨_, rfl⟩
          obtain ⟨tt, ht⟩ : ∃ tt, tt = s1.pend[k].2 := ⟨_, rfl⟩
          rw [← hj] at cp0 hjl
          rw [← ht] at cp1
          have hjl2 : jj < (layP s1.last (s1.pend.take k)).length := by rw [hlen]; exact hjl
          have dj : wr.cell? ⟨gl, jj, none⟩ = some (.string ((layP s1.last (s1.pend.take k)).getD jj ByteArray.empty)) := by rw [(own_at (unhide YD).rl hgl jj hjl2).1]; exact strs_at _ _ hjl2
          have fj : wr.frozen? ⟨gl, jj, none⟩ = false := (own_at (unhide YD).rl hgl jj hjl2).2
          clear hjl2
          have HJ := hide hj
          have HTT := hide ht
          have HGL := hide hgl
          clear w0 w1 hj ht hgp hgl hlen evp evl
          generalize (layP s1.last (s1.pend.take k)).getD jj ByteArray.empty = old at *
          have i0 : 0 ≤ (jj : Int) := by omega
          have i1 : (jj : Int) < (s1.last.length : Int) := by omega
          have i2 : 0 ≤ (k : Int) := by omega
          have i3 : (k : Int) < (s1.pend.length : Int) := by omega
          go_wp2_with fail
          go_still_tail 21, (by kernel_rfl)
          change wpList _ _ _ _ _ wr.drew
          go_wp2
          go_roundw
          case rel =>
            refine ⟨k + 1, by omega, by go_num, ?_, (unhide YO).drew.setCell _ _ (fun _ => .inr (.inl (unhide HGL)))⟩
            rw [unhide HT, layP_snoc, ← unhide HJ, ← unhide HTT]
            exact (unhide YD).drew.setLast gl jj (unhide HGL) tt
          case measure => simp [intOf]; omega
        · have hk' : k = s1.pend.length := by omega
          subst hk'
          rw [List.take_length] at YD
          obtain ⟨pq, cq, evq, _⟩ := row_form (unhide YD).rp
          have d1 : wr.cell? ⟨b, 1, none⟩ = some (.slice pq s1.pend.length cq) := by rw [(unhide YD).blk.cell 1, ← evq]; rfl
          have f1 := (unhide YD).blk.frozen 1
          have YN := hide (unhide YD).nilP
          have hs4 := (unhide YO).size
          obtain ⟨pa, ca, eva, hca⟩ := row_form (unhide YN).ra
          have d4 : (wr.setCell ⟨b, 1, none⟩ (.slice none 0 0)).cell? ⟨b, 4, none⟩ = some (.slice pa s1.acts.length ca) := by rw [(unhide YN).blk.cell 4, ← eva]; rfl
          have HEA := hide (show v.a = .slice pa s1.acts.length ca from eva)
          have HY := hide ((unhide YN).alloc (.cells #[.int .i64 2, .int .i64 0] 117))
          obtain ⟨i1, hi0, hz0, hz1, hz2⟩ := info_parts infoT
          have HI1 := hide (And.intro hi0 (And.intro hz0 (And.intro hz1 hz2)))
          clear eva evq hi0 hz0 hz1 hz2 YD YN
          go_wp2_with (refine wpList_append_lies _ rfl (.tmp 50) (.tmp 52) 70 rfl base 117 i1 (.agg #[.int .i64 0, .int .i64 0]) 2 16 Tryz.underlying70 (unhide HI1).1 (unhide HI1).2.1 (unhide HI1).2.2.1 (unhide HI1).2.2.2 rfl (by decide) _ s1.acts.length (tels s1.acts) (unhide HEA).symm (unhide HY).ra ⟨wr.heap.size, 0, none⟩ 1 1 (tels [(1, 0)]) rfl rfl (fun q u hu => by have := news_two (wr.setCell ⟨b, 1, none⟩ (.slice none 0 0)) 117 _ _ q u hu; simpa using this) (by simp [tels, tel1, Value.oneCell']) (by decide) (by unfold maxLen; omega) (by omega) (by simp; omega) _ rfl ?_)
          intro g5 cap5 w5 ho hg hor hlt
          have hP5 := (unhide HY).appA g5 cap5 (1, 0) ho hg (by simpa using hor)
          have B5 : Blk w5 b _ _ := (unhide HY).blk.only (grown_only hg) (unhide HY).nb.2.2
          have c5' : w5.cell? ⟨b, 4, none⟩ = some v.a := by rw [B5.cell 4]; rfl
          have f5' := B5.frozen 4
          have XP5 := hide hP5
          clear ho hg hor hlt B5 hP5 HY
          go_wp2
          go_ret
          refine ⟨rfl, ?_⟩
          obtain rfl := unhide HS1
          rw [unhide HEQ]
          refine RPst.trans (unhide XO) (fun _ q => .inl q) (RPst.trans (v1 := { v with p := .slice none 0 0 }) (only_r (unhide YO) _ _ |>.alloc _) (fun q hq => ?_) (unhide XP5))
          rcases hq with hq | hq | hq | hq
          · exact .inl (.inl hq)
          · exact .inl (.inr (.inl hq))
          · cases hq
          · exact .inl (.inr (.inr (.inr hq)))
end Go.Proofs.YtiokejnlioghiaaGreatDoor

namespace Go.Proofs.YtiokejnlioghiaaGreatDoor
open Go.RowKit
theorem zero_nums : zero256 = strOfNums (List.replicate 256 0) := by rw [← rep_zero4, rep_zero]
end Go.Proofs.YtiokejnlioghiaaGreatDoor

namespace Go.Proofs.YtiokejnlioghiaaGreatDoor
open Go.RowKit
end Go.Proofs.YtiokejnlioghiaaGreatDoor

namespace Go.Proofs.YtiokejnlioghiaaGreatDoor
open Go.RowKit
theorem numB_snoc (n x : Int) (k : Nat) (h0 : 0 ≤ x) (h1 : x < 256) : numB (256 * n + x) (k + 1) = numB n k ++ [x] := by
  unfold numB
  rw [List.range_succ, List.map_append]
  congr 1
  · refine List.map_congr_left fun i hi => ?_
    have hik : i < k := List.mem_range.1 hi
    rw [show 8 * (k + 1 - 1 - i) = 8 + 8 * (k - 1 - i) by omega, Int.pow_add, ← Int.ediv_ediv_of_nonneg (by decide)]
    have : (256 * n + x) / 2 ^ 8 = n := by
      have e : (2 : Int) ^ 8 = 256 := by decide
      rw [e]
      omega
    rw [this]
  · simp
    omega
end Go.Proofs.YtiokejnlioghiaaGreatDoor

namespace Go.Proofs.YtiokejnlioghiaaGreatDoor
open Go.RowKit
theorem be_numBt : ∀ (k : Nat) (n : Int), 0 ≤ n → n / 2 ^ (8 * k) = 0 → beN (numB n k) = n
  | 0, n, h0, h => by
    have : n = 0 := by simpa using h
    subst this
    rfl
  | k + 1, n, h0, h => by
    have e : n = 256 * (n / 256) + n % 256 := by omega
    have hq : n / 256 / 2 ^ (8 * k) = 0 := by
      rw [show 8 * (k + 1) = 8 + 8 * k by omega, Int.pow_add, ← Int.ediv_ediv_of_nonneg (by decide)] at h
      exact h
    conv => lhs; rw [e]
    rw [numB_snoc _ _ _ (by omega) (by omega), beN_snoc, be_numBt k (n / 256) (by omega) hq]
    omega
theorem ext_right (a b : ByteArray) : (a ++ b).extract a.size (a ++ b).size = b := by
  apply nums_inj
  rw [nums_tail, nums_app, ← nums_len a, List.drop_left]
/-- What is left behind a call that took n. -/
theorem rd_num (n : Int) (k : Nat) (rest : List Int) (hb : Bytes (numB n k ++ rest)) (h1 : 1 ≤ k) (h8 : k ≤ 8) (hf : fitsP n k) (hn : n ≤ 9223372036854775807) :
    numE (k : Int) (strOfNums (numB n k ++ rest)) = 0 ∧ numV (k : Int) (strOfNums (numB n k ++ rest)) = n ∧ rRest (strOfNums (numB n k ++ rest)) 0 k = strOfNums rest := by
  have ht : (nums (strOfNums (numB n k ++ rest))).take ((k : Int).toNat) = numB n k := by
    rw [nums_strOfNums _ hb, Int.toNat_natCast]
    have := numB_len n k
    rw [List.take_append_of_le_length (by omega), List.take_of_length_le (by omega)]
  have hE : numE (k : Int) (strOfNums (numB n k ++ rest)) = 0 := by
    rw [numE, if_neg (by omega), if_neg (by rw [strOfNums_size, List.length_append, numB_len]; omega), ht, be_numBt k n hf.1 hf.2, if_neg (by omega)]
  refine ⟨hE, by rw [numV, if_pos hE, ht, be_numBt k n hf.1 hf.2], ?_⟩
  rw [rRest, if_pos rfl, strOfNums_app]
  have := ext_right (strOfNums (numB n k)) (strOfNums rest)
  rw [strOfNums_size, numB_len] at this
  exact this
end Go.Proofs.YtiokejnlioghiaaGreatDoor

namespace Go.Proofs.YtiokejnlioghiaaGreatDoor
open Go.RowKit
/-- A disk that lives, with nothing pending. -/
def rs (L : List ByteArray) (A : List (Nat × Nat)) : DSt := ⟨L, L, [], A, 0, false⟩
def natW (l : List Wr1) : List (Nat × ByteArray) := l.map fun x => (x.1.toNat, x.2)
def actW (l : List Wr1) : List (Nat × Nat) := l.map fun x => (0, x.1.toNat)
def OkW (N : Nat) (l : List Wr1) : Prop := ∀ x ∈ l, 0 ≤ x.1 ∧ x.1 < (N : Int) ∧ x.2.size = 256
theorem lay_alive (l : List Wr1) : ∀ (s : DSt), Alive s → OkW s.last.length l → layR s l = (0, ⟨layP s.last (s.pend ++ natW l), layP s.now (natW l), [], s.acts ++ actW l ++ [(1, 0)], 0, false⟩) := by
  induction l with
  | nil =>
    intro s h _
    obtain ⟨a1, a2⟩ := flushA h
    rw [layR, a1, a2, h.1, h.2]
    simp [natW, actW, layP]
  | cons x r ih =>
    intro s h hk
    obtain ⟨x1, x2⟩ := x
    obtain ⟨k1, k2, k3⟩ := hk (x1, x2) (by simp)
    obtain ⟨j, hj⟩ : ∃ j : Nat, x1 = (j : Int) := ⟨x1.toNat, by omega⟩
    subst hj
    obtain ⟨a1, a2⟩ := writeA h j (by omega) x2 k3
    rw [layR, if_pos a1, a2]
    refine (ih { s with now := s.now.set j x2, pend := s.pend ++ [(j, x2)], acts := s.acts ++ [(0, j)] } ⟨h.1, h.2⟩ (fun y hy => hk y (by simp [hy]))).trans ?_
    simp [natW, actW, layP]
theorem lay_rs (L : List ByteArray) (A : List (Nat × Nat)) (l : List Wr1) (h : OkW L.length l) : layR (rs L A) l = (0, rs (layP L (natW l)) (A ++ actW l ++ [(1, 0)])) := by
  rw [lay_alive l (rs L A) ⟨rfl, rfl⟩ h]
  rfl
theorem head_ok (N : Nat) (hN : 1 < N) (n : Nat) (H : List Int) (hH : H.length ≤ 60) : OkW N [(1, headB n H)] := fun x hx => by
  simp at hx
  subst hx
  exact ⟨by show (0 : Int) ≤ 1; decide, by show (1 : Int) < (N : Int); omega, headB_size n H hH⟩
theorem headB_make (n : Nat) (H : List Int) (hn : n < 4294967296) (hH : H.length ≤ 60) : errM 2 (n : Int) (strOfNums (headL H)).size = 0 ∧ headB n H = makeB 2 (n : Int) (strOfNums (headL H)) := by
  have hl := headL_len H hH
  have hE : errM 2 (n : Int) (strOfNums (headL H)).size = 0 := by
    rw [errM, if_neg, if_neg (by rw [strOfNums_size]; omega)]
    rintro (q | q)
    · exact q (fits1j 2 (by decide) (by decide))
    · exact q (fits4j _ (by omega) (by omega))
  refine ⟨hE, ?_⟩
  rw [makeB, if_pos hE, nums_strOfNums _ (headL_bytes H)]
  rfl
theorem rd_one (n : Int) (k : Nat) (rest : List Int) (t : Int) (hb : Bytes (numB n k ++ rest)) (h1 : 1 ≤ k) (h8 : k ≤ 8) (hf : fitsP n k) (hn : n ≤ 9223372036854775807) : rdV ⟨strOfNums (numB n k ++ rest), t, 0⟩ (k : Int) = n ∧ rdS ⟨strOfNums (numB n k ++ rest), t, 0⟩ (k : Int) = ⟨strOfNums rest, t + (k : Int), 0⟩ := by
  obtain ⟨e1, e2, e3⟩ := rd_num n k rest hb h1 h8 hf hn
  refine ⟨by rw [rdV, if_pos rfl, e2], ?_⟩
  rw [rdS, stepR, if_pos rfl, e1, Int.toNat_natCast, e3]
  congr 1
theorem done_nil : doneE (strOfNums []) 0 = 0 := by
  unfold doneE
  rw [if_neg]
  rw [strOfNums_size]
  simp
theorem rhp_clear (n : Nat) (hn : n < 4294967296) (size n' : Int) (H : List Int) (ok : Bool) (h : RHP (headB n []) size n' H ok) : n' = (n : Int) ∧ H = [] ∧ ok = true := by
  obtain ⟨hE, hM⟩ := headB_make n [] hn (by simp)
  obtain ⟨p1, p2, p3, p4⟩ := make_parse 2 (n : Int) (strOfNums (headL [])) hE
  rw [← hM] at p1 p2 p3 p4
  have hb1 : numB 0 1 = [0] := num1 0 (by decide) (by decide)
  obtain ⟨v1, v2⟩ := rd_one 0 1 [] 0 (by rw [hb1]; exact bytes_of (fun x hx => by simp at hx; omega)) (by decide) (by decide) (fits1j 0 (by decide) (by decide)) (by decide)
  have er : rs0 (headB n []) = ⟨strOfNums (numB 0 1 ++ []), 0, 0⟩ := by rw [rs0, p4, headL_nil, hb1]; rfl
  rw [← er] at v1 v2
  rcases h with ⟨q, _⟩ | ⟨_, hn', h⟩
  · exact absurd ⟨p1, p2⟩ q
  · rcases h with ⟨q, _⟩ | ⟨_, rfl, q⟩
    · rw [show ((1 : Nat) : Int) = 1 from rfl] at v1
      rw [v1] at q
      cases q
    · refine ⟨hn'.trans p3, rfl, ?_⟩
      rw [show ((1 : Nat) : Int) = 1 from rfl] at v1 v2
      rw [q, v2, v1]
      simp [done_nil]
end Go.Proofs.YtiokejnlioghiaaGreatDoor
