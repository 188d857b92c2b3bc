import Derived.Ground.Names2Prog
import Derived.Shelf.Slices.Clone
import Derived.Test.YtnfdedolgfcmfaaGreatDoorProg
import Derived.Test.YtnfdedolgfcmfaaGreatDoorMrc12
import Derived.Test.YtnfdedolgfcmfaaGreatDoorMrc04
import Derived.Laws.CopyOwn
/-
  DERIVED: THE SHELF's CONTRACTS AT THIS DUMP, IN PLAIN WORDS (tools/lay-plain.mjs out of 'TryzShelf.lean', which tools/lay-shelf.mjs wrote): THE SAME DECLARATIONS UNDER THE SAME NAMES: 'import', 'namespace', 'open', 'def', 'theorem' AND NOTHING ELSE: no command of the shelf's: FOR A HAND-IN. Each laying: the table of numbers ('.._ren') and one theorem, a field a fact of the dump's own or the kernel's comparison; each contract: ONE APPLICATION.
-/
namespace Go.Proofs.YtnfdedolgfcmfaaGreatDoor
open Go.Shelf
def Tryz.laysNm216_ren : Go.Shelf.Ren := ⟨fun | 16 => 45 | n => n, fun | 24 => 24 | 9 => 9 | 4 => 4 | n => n, fun | n => n⟩
theorem Tryz.laysNm216 : Go.Proofs.Lays2.n16 Tryz.prog Tryz.laysNm216_ren := {
  mixed := by kernel_rfl
  f16 := Tryz.func45.trans (congrArg some (by kernel_rfl))
  t4 := Tryz.underlying4
  a4 := Tryz.isAgg4
  z4 := Tryz.sizeOf4
  v4 := Tryz.zeroValue4
  t9 := Tryz.underlying9
  a9 := Tryz.isAgg9
  z9 := Tryz.sizeOf9
  v9 := Tryz.zeroValue9
  t24 := Tryz.underlying24
  a24 := Tryz.isAgg24
  z24 := Tryz.sizeOf24
  v24 := Tryz.zeroValue24
  i9 := by kernel_rfl }
open Go.RowKit Go.Lib in
/-- slices.Clone at []string: "Clone returns a copy of the slice. The elements are copied using assignment, so this is a shallow clone. The result may have additional unused capacity. The result preserves the nilness of s.": OF A SLICE THAT IS NOT nil IT RETURNS A SLICE THAT IS NOT nil, OF THE SAME ELEMENTS, IN MEMORY OF THE CALL's OWN: in the how-to's words (6f): 'w'.ownsRow B e 1 v' n cells': v' begins at the head of a row among the blocks from B on (B: the heap's size at the call), not frozen, whose first cells are the elements · 'Below B w w'': below B all is as it was. The capacity is whatever the run-time gives. 'zs': what the cells behind the slice's address hold; 'zs.take n': its elements. (LAID: no walk: one application.) -/
theorem Tryz.slices_Clone_string (b off n c : Nat) (zs : List ByteArray) (w : World) (hz : n ≤ zs.length) (hbig : n * 16 ≤ 140737488355328) (hc : ∀ j, j < zs.length → w.cell? ⟨b, off + j, none⟩ = some (.string (zs.getD j ByteArray.empty))) :
    Calls Tryz.prog 45 #[.slice (some ⟨b, off, none⟩) n c] w fun e w' => ∃ v', e = .returned v' ∧ w'.ownsRow w.heap.size 9 1 v' n ((zs.take n).map (Value.string)) ∧ v' ≠ .slice none 0 0 ∧ Below w.heap.size w w' := Any.slices_Clone_string Tryz.laysNm216 b off n c zs w hz hbig hc
open Go.RowKit Go.Lib in
/-- The same at nil: nil comes back; the world is as it was. (LAID: no walk: one application.) -/
theorem Tryz.slices_Clone_string_nil (n c : Nat) (w : World) :
    Calls Tryz.prog 45 #[.slice none n c] w fun e w' => e = .returned (.slice none 0 0) ∧ w' = w := Any.slices_Clone_string_nil Tryz.laysNm216 n c w
open Go.RowKit Go.Lib in
/-- The same at a slice of length 0 that is not nil, WHATEVER ITS ADDRESS (no cell is asked for): a slice that is not nil and owns nothing comes back. (LAID: no walk: one application.) -/
theorem Tryz.slices_Clone_string_zero (a : Addr) (c : Nat) (w : World) :
    Calls Tryz.prog 45 #[.slice (some a) 0 c] w fun e w' => ∃ v', e = .returned v' ∧ w'.ownsRow w.heap.size 9 1 v' 0 [] ∧ v' ≠ .slice none 0 0 ∧ Below w.heap.size w w' := Any.slices_Clone_string_zero Tryz.laysNm216 a c w
end Go.Proofs.YtnfdedolgfcmfaaGreatDoor

namespace Go.Proofs.YtnfdedolgfcmfaaGreatDoor
open Go.RowKit
/-- What a disk is: its sectors as they last, as they were written last; the pending writes; the acts (kind, sector); its fuse; is it dead. -/
structure DSt where
  last : List ByteArray
  now : List ByteArray
  pend : List (Nat × ByteArray)
  acts : List (Nat × Nat)
  fuse : Int
  dead : Bool
def wrs : List (Nat × ByteArray) → List Value
  | [] => []
  | p :: r => .int .i64 (p.1 : Int) :: .string p.2 :: wrs r
def acs : List (Nat × Nat) → List Value
  | [] => []
  | p :: r => .int .u8 (p.1 : Int) :: .int .u16 (p.2 : Int) :: acs r
/-- The rows of a disk. -/
structure DV where
  l : Value
  n : Value
  p : Value
  a : Value
/-- At block b lies a disk with the rows v, which is s. -/
structure Dk (w : World) (base b : Nat) (v : DV) (s : DSt) : Prop where
  blk : Blk w b #[v.l, v.n, v.p, v.a, .int .i64 s.fuse, .bool s.dead] 129
  rl : w.ownsRow base 9 1 v.l s.last.length (strs s.last)
  rn : w.ownsRow base 9 1 v.n s.now.length (strs s.now)
  rp : w.ownsRow base 149 2 v.p s.pend.length (wrs s.pend)
  ra : w.ownsRow base 168 2 v.a s.acts.length (acs s.acts)
  ne : ∀ k, v.l.ownBlock = some k → v.n.ownBlock ≠ some k
  lo : base ≤ b
/-- The blocks of a disk. -/
def Fd (b : Nat) (v : DV) (k : Nat) : Prop := k = b ∨ v.l.ownBlock = some k ∨ v.n.ownBlock = some k ∨ v.p.ownBlock = some k ∨ v.a.ownBlock = some k
/-- Behind a call of the disk at b, whose rows were v: it is s now. -/
def DPost (base b : Nat) (v : DV) (s : DSt) (w w' : World) : Prop :=
  ∃ v', Dk w' base b v' s ∧ Only (Fd b v) w w' ∧ ∀ k, Fd b v' k → Fd b v k ∨ w.heap.size ≤ k
theorem Dk.only {w w' : World} {base b : Nat} {v : DV} {s : DSt} {P : Nat → Prop} (h : Dk w base b v s) (ho : Only P w w') (hp : ∀ k, Fd b v k → ¬ P k) : Dk w' base b v s :=
  ⟨h.blk.only ho (hp b (.inl rfl)), owns_only h.rl ho (fun k hk => hp k (.inr (.inl hk))), owns_only h.rn ho (fun k hk => hp k (.inr (.inr (.inl hk)))), owns_only h.rp ho (fun k hk => hp k (.inr (.inr (.inr (.inl hk))))), owns_only h.ra ho (fun k hk => hp k (.inr (.inr (.inr (.inr hk))))), h.ne, h.lo⟩
theorem Dk.below {w w' : World} {base b : Nat} {v : DV} {s : DSt} (h : Dk w base b v s) (hb : Below w.heap.size w w') : Dk w' base b v s := h.only (Only.of_below (P := fun _ => False) hb) (fun _ _ q => q)
theorem DPost.refl {w : World} {base b : Nat} {v : DV} {s : DSt} (h : Dk w base b v s) : DPost base b v s w w := ⟨v, h, Only.refl _ _, fun _ hk => .inl hk⟩
theorem row_form {w : World} {base n : Nat} {e : TypeId} {k : Nat} {v : Value} {xs : List Value} (h : w.ownsRow base e k v n xs) : ∃ p cap, v = .slice p n cap ∧ n ≤ cap := by
  rcases h.2 with ⟨h1, h2⟩ | ⟨g, cap, cur, h1, _, _, h3, _⟩
  · exact ⟨none, 0, by rw [h1, h2], by omega⟩
  · exact ⟨_, cap, h1, h3⟩
theorem strs_len (l : List ByteArray) : (strs l).length = l.length := by simp [strs]
theorem wrs_app : ∀ l m : List (Nat × ByteArray), wrs (l ++ m) = wrs l ++ wrs m
  | [], m => rfl
  | p :: r, m => by simp [wrs, wrs_app r m]
theorem acs_app : ∀ l m : List (Nat × Nat), acs (l ++ m) = acs l ++ acs m
  | [], m => rfl
  | p :: r, m => by simp [acs, acs_app r m]
set_option maxRecDepth 100000 in
set_option maxHeartbeats 1000000 in
theorem size_any (w : World) (base b : Nat) (v : DV) (s : DSt) (h : Dk w base b v s) :
    Calls Tryz.prog 94 #[.pointer (some ⟨b, 0, none⟩)] w fun e w' => e = .returned (.int .i64 (s.last.length : Int)) ∧ w' = w := by
  obtain ⟨p, cap, e, hc⟩ := row_form h.rl
  have c2 : w.cell? ⟨b, 0, none⟩ = some (.slice p s.last.length cap) := by rw [h.blk.cell 0, ← e]; rfl
  clear h
  go_enter Tryz.func94, Tryz.ntmps94
  go_wp2
  go_ret
  exact ⟨rfl, rfl⟩
set_option maxRecDepth 100000 in
set_option maxHeartbeats 1000000 in
theorem has_any (w : World) (base b : Nat) (v : DV) (s : DSt) (h : Dk w base b v s) (i : Int) :
    Calls Tryz.prog 57 #[.pointer (some ⟨b, 0, none⟩), .int .i64 i] w fun e w' => e = .returned (.bool (decide (0 ≤ i ∧ i < (s.last.length : Int)))) ∧ w' = w := by
  have H := hide h
  clear h
  by_cases h0 : 0 ≤ i
  · go_enter Tryz.func57, Tryz.ntmps57
    go_wp2_with fail
    refine (size_any w base b v s (unhide H)).mono ?_
    rintro ev x1 ⟨rfl, rfl⟩
    go_wp2
    go_ret
    exact ⟨by simp [h0], rfl⟩
  · go_enter Tryz.func57, Tryz.ntmps57
    go_wp2
    go_ret
    exact ⟨by simp; omega, rfl⟩
set_option maxRecDepth 100000 in
set_option maxHeartbeats 1000000 in
theorem isSector_any (t : ByteArray) (w : World) :
    Calls Tryz.prog 58 #[.string t] w fun e w' => e = .returned (.bool (decide (t.size = 256))) ∧ w' = w := by
  go_enter Tryz.func58, Tryz.ntmps58
  go_wp2
  go_ret
  refine ⟨?_, rfl⟩
  by_cases h : t.size = 256
  · simp [h]
  · have : ¬ ((t.size : Int) = 256) := by omega
    simp [h, this]
set_option maxRecDepth 100000 in
set_option maxHeartbeats 1000000 in
theorem isSize_any (n : Int) (w : World) :
    Calls Tryz.prog 92 #[.int .i64 n] w fun e w' => e = .returned (.bool (decide (128 ≤ n ∧ n ≤ 1024))) ∧ w' = w := by
  by_cases h0 : 128 ≤ n
  · go_enter Tryz.func92, Tryz.ntmps92
    go_wp2
    go_ret
    exact ⟨by simp [h0], rfl⟩
  · go_enter Tryz.func92, Tryz.ntmps92
    go_wp2
    go_ret
    exact ⟨by simp; omega, rfl⟩
end Go.Proofs.YtnfdedolgfcmfaaGreatDoor

namespace Go.Proofs.YtnfdedolgfcmfaaGreatDoor
open Go.RowKit
/-- Another cell of a row of one's own. -/
theorem owns_set {w : World} {base : Nat} {e : TypeId} {k n : Nat} {v : Value} {xs : List Value} (h : w.ownsRow base e k v n xs) {g : Nat} (hv : v.ownBlock = some g) (j : Nat) (u : Value) : (w.setCell ⟨g, j, none⟩ u).ownsRow base e k v n (xs.set j u) := by
  refine ⟨by rw [List.length_set]; exact h.1, ?_⟩
  rcases h.2 with ⟨h1, h2⟩ | ⟨g', cap, cur, rfl, hb, hg, hn, hc, hs, hx⟩
  · rw [h1] at hv; cases hv
  · obtain rfl : g' = g := by simpa [Value.ownBlock] using hv
    refine .inr ⟨g', cap, cur.setIfInBounds j u, rfl, hb, Blk.set hg j u, hn, hc, by simpa using hs, ?_⟩
    rw [← hx]
    simp [List.take_set]
theorem owns_setO {w : World} {base : Nat} {e : TypeId} {k n : Nat} {v : Value} {xs : List Value} (h : w.ownsRow base e k v n xs) (a : Addr) (u : Value) (hv : v.ownBlock ≠ some a.block) : (w.setCell a u).ownsRow base e k v n xs :=
  owns_only h ((Only.refl (fun k => k = a.block) w).setCell a u (fun _ => rfl)) (fun _ hk hkb => hv (hkb ▸ hk))
theorem Dk.nb {w : World} {base b : Nat} {v : DV} {s : DSt} (h : Dk w base b v s) : v.l.ownBlock ≠ some b ∧ v.n.ownBlock ≠ some b ∧ v.p.ownBlock ≠ some b ∧ v.a.ownBlock ≠ some b :=
  ⟨h.blk.not_row (by decide) h.rl, h.blk.not_row (by decide) h.rn, h.blk.not_row (by decide) h.rp, h.blk.not_row (by decide) h.ra⟩
theorem rows_ne {w : World} {base : Nat} {e1 e2 : TypeId} {k1 k2 n1 n2 : Nat} {v1 v2 : Value} {xs1 xs2 : List Value} (h1 : w.ownsRow base e1 k1 v1 n1 xs1) (h2 : w.ownsRow base e2 k2 v2 n2 xs2) (he : e1 ≠ e2) (g : Nat) (hg : v1.ownBlock = some g) : v2.ownBlock ≠ some g := by
  rcases h1.2 with ⟨q1, q2⟩ | ⟨g', cap, cur, rfl, hb, hh, _⟩
  · rw [q1] at hg; cases hg
  · obtain rfl : g' = g := by simpa [Value.ownBlock] using hg
    exact Blk.not_row hh he h2
/-- The disk's own cells are written. -/
theorem Dk.cells {w : World} {base b : Nat} {v : DV} {s : DSt} (h : Dk w base b v s) (j : Nat) (u : Value) (v' : DV) (s' : DSt) (hb : (#[v.l, v.n, v.p, v.a, .int .i64 s.fuse, .bool s.dead] : Array Value).setIfInBounds j u = #[v'.l, v'.n, v'.p, v'.a, .int .i64 s'.fuse, .bool s'.dead])
    (hl : (w.setCell ⟨b, j, none⟩ u).ownsRow base 9 1 v'.l s'.last.length (strs s'.last)) (hn : (w.setCell ⟨b, j, none⟩ u).ownsRow base 9 1 v'.n s'.now.length (strs s'.now)) (hp : (w.setCell ⟨b, j, none⟩ u).ownsRow base 149 2 v'.p s'.pend.length (wrs s'.pend)) (ha : (w.setCell ⟨b, j, none⟩ u).ownsRow base 168 2 v'.a s'.acts.length (acs s'.acts))
    (hne : ∀ k, v'.l.ownBlock = some k → v'.n.ownBlock ≠ some k) : Dk (w.setCell ⟨b, j, none⟩ u) base b v' s' :=
  ⟨by rw [← hb]; exact h.blk.set j u, hl, hn, hp, ha, hne, h.lo⟩
theorem Dk.setFuse {w : World} {base b : Nat} {v : DV} {s : DSt} (h : Dk w base b v s) (n : Int) : Dk (w.setCell ⟨b, 4, none⟩ (.int .i64 n)) base b v { s with fuse := n } :=
  h.cells 4 _ v _ rfl (owns_setO h.rl _ _ h.nb.1) (owns_setO h.rn _ _ h.nb.2.1) (owns_setO h.rp _ _ h.nb.2.2.1) (owns_setO h.ra _ _ h.nb.2.2.2) h.ne
theorem Dk.setDead {w : World} {base b : Nat} {v : DV} {s : DSt} (h : Dk w base b v s) (n : Bool) : Dk (w.setCell ⟨b, 5, none⟩ (.bool n)) base b v { s with dead := n } :=
  h.cells 5 _ v _ rfl (owns_setO h.rl _ _ h.nb.1) (owns_setO h.rn _ _ h.nb.2.1) (owns_setO h.rp _ _ h.nb.2.2.1) (owns_setO h.ra _ _ h.nb.2.2.2) h.ne
theorem only_b {w w' : World} {b : Nat} {v : DV} (h : Only (Fd b v) w w') (j : Nat) (u : Value) : Only (Fd b v) w (w'.setCell ⟨b, j, none⟩ u) := h.setCell _ _ (fun _ => .inl rfl)
def diesS (s : DSt) : DSt := if 0 < s.fuse then { s with fuse := s.fuse - 1, dead := decide (s.fuse = 1) } else s
set_option maxRecDepth 100000 in
set_option maxHeartbeats 1000000 in
theorem dies_any (w : World) (base b : Nat) (v : DV) (s : DSt) (h : Dk w base b v s) (hf : I64 s.fuse) :
    Calls Tryz.prog 59 #[.pointer (some ⟨b, 0, none⟩)] w fun e w' => e = .returned (.bool (diesS s).dead) ∧ Dk w' base b v (diesS s) ∧ Only (Fd b v) w w' := by
  have c4 : w.cell? ⟨b, 4, none⟩ = some (.int .i64 s.fuse) := by rw [h.blk.cell 4]; rfl
  have c5 : w.cell? ⟨b, 5, none⟩ = some (.bool s.dead) := by rw [h.blk.cell 5]; rfl
  have f4 := h.blk.frozen 4
  have f5 := h.blk.frozen 5
  have H := hide h
  clear h
  by_cases h0 : 0 < s.fuse
  · have e1 : diesS s = { s with fuse := s.fuse - 1, dead := decide (s.fuse = 1) } := by rw [diesS, if_pos h0]
    rw [e1]
    have hb := hf.2
    clear hf e1
    go_enter Tryz.func59, Tryz.ntmps59
    go_wp2
    go_ret
    have eb : (s.fuse - 1 == 0) = decide (s.fuse = 1) := by
      by_cases h1 : s.fuse = 1
      · simp [h1]
      · have : ¬ s.fuse - 1 = 0 := by omega
        simp [h1, this]
    rw [eb]
    exact ⟨rfl, ((unhide H).setFuse _).setDead _, only_b (only_b (Only.refl _ _) _ _) _ _⟩
  · have e1 : diesS s = s := by rw [diesS, if_neg h0]
    rw [e1]
    clear e1 hf
    go_enter Tryz.func59, Tryz.ntmps59
    go_wp2
    go_ret
    exact ⟨rfl, unhide H, Only.refl _ _⟩
end Go.Proofs.YtnfdedolgfcmfaaGreatDoor

namespace Go.Proofs.YtnfdedolgfcmfaaGreatDoor
open Go.RowKit
theorem infoW : (Tryz.prog.info? 149).map (fun i => (i.zero, i.size, i.bytes)) = some (some (.agg #[.int .i64 0, .string ⟨#[]⟩]), 2, 24) := by kernel_rfl
theorem infoA : (Tryz.prog.info? 168).map (fun i => (i.zero, i.size, i.bytes)) = some (some (.agg #[.int .u8 0, .int .u16 0]), 2, 4) := by kernel_rfl
theorem DPost.trans {w w1 w2 : World} {base b : Nat} {v v1 : DV} {s2 : DSt} (h : Only (Fd b v) w w1) (hv : ∀ k, Fd b v1 k → Fd b v k ∨ w.heap.size ≤ k) (h2 : DPost base b v1 s2 w1 w2) : DPost base b v s2 w w2 := by
  obtain ⟨v2, a, o, q⟩ := h2
  refine ⟨v2, a, h.trans o (fun k hk hf => ?_), fun k hk => ?_⟩
  · rcases hv k hf with h3 | h3
    · exact h3
    · omega
  · rcases q k hk with h3 | h3
    · exact hv k h3
    · exact .inr (Nat.le_trans h.size h3)
theorem grown_only {w w1 : World} {r : Option Nat} (h : w.grownBy w1 r) : Only (fun k => r = some k) w w1 := (Only.refl _ w).grown h (fun _ _ e => e)
theorem Dk.appA {W w1 : World} {base b : Nat} {v : DV} {s : DSt} (h : Dk W base b v s) (g cap : Nat) (x : Nat × Nat) (ho : w1.ownsRow base 168 2 (.slice (some ⟨g, 0, none⟩) (s.acts.length + 1) cap) (s.acts.length + 1) (acs s.acts ++ acs [x])) (hg : W.grownBy w1 v.a.ownBlock) (hor : v.a.ownBlock = some g ∨ g = W.heap.size) :
    DPost base b v { s with acts := s.acts ++ [x] } W (w1.setCell ⟨b, 3, none⟩ (.slice (some ⟨g, 0, none⟩) (s.acts.length + 1) cap)) := by
  have hO := grown_only hg
  have hB : Blk w1 b _ _ := h.blk.only hO h.nb.2.2.2
  have hl := owns_only h.rl hO (fun k hk q => rows_ne h.rl h.ra (by decide) k hk q)
  have hn := owns_only h.rn hO (fun k hk q => rows_ne h.rn h.ra (by decide) k hk q)
  have hp := owns_only h.rp hO (fun k hk q => rows_ne h.rp h.ra (by decide) k hk q)
  have hgb : (Value.slice (some ⟨g, 0, none⟩) (s.acts.length + 1) cap).ownBlock ≠ some b := hB.not_row (by decide) ho
  refine ⟨{ v with a := .slice (some ⟨g, 0, none⟩) (s.acts.length + 1) cap }, ⟨hB.set 3 _, owns_setO hl _ _ h.nb.1, owns_setO hn _ _ h.nb.2.1, owns_setO hp _ _ h.nb.2.2.1, ?_, h.ne, h.lo⟩, only_b (hO.mono (fun k _ q => .inr (.inr (.inr (.inr q))))) _ _, fun k hk => ?_⟩
  · have := owns_setO ho ⟨b, 3, none⟩ (.slice (some ⟨g, 0, none⟩) (s.acts.length + 1) cap) hgb
    simpa [acs_app] using this
  · rcases hk with hk | hk | hk | hk | hk
    · exact .inl (.inl hk)
    · exact .inl (.inr (.inl hk))
    · exact .inl (.inr (.inr (.inl hk)))
    · exact .inl (.inr (.inr (.inr (.inl hk))))
    · obtain rfl : g = k := by simpa [Value.ownBlock] using hk
      rcases hor with h1 | h1
      · exact .inl (.inr (.inr (.inr (.inr h1))))
      · exact .inr (by omega)
theorem Dk.appP {W w1 : World} {base b : Nat} {v : DV} {s : DSt} (h : Dk W base b v s) (g cap : Nat) (x : Nat × ByteArray) (ho : w1.ownsRow base 149 2 (.slice (some ⟨g, 0, none⟩) (s.pend.length + 1) cap) (s.pend.length + 1) (wrs s.pend ++ wrs [x])) (hg : W.grownBy w1 v.p.ownBlock) (hor : v.p.ownBlock = some g ∨ g = W.heap.size) :
    DPost base b v { s with pend := s.pend ++ [x] } W (w1.setCell ⟨b, 2, none⟩ (.slice (some ⟨g, 0, none⟩) (s.pend.length + 1) cap)) := by
  have hO := grown_only hg
  have hB : Blk w1 b _ _ := h.blk.only hO h.nb.2.2.1
  have hl := owns_only h.rl hO (fun k hk q => rows_ne h.rl h.rp (by decide) k hk q)
  have hn := owns_only h.rn hO (fun k hk q => rows_ne h.rn h.rp (by decide) k hk q)
  have ha := owns_only h.ra hO (fun k hk q => rows_ne h.ra h.rp (by decide) k hk q)
  have hgb : (Value.slice (some ⟨g, 0, none⟩) (s.pend.length + 1) cap).ownBlock ≠ some b := hB.not_row (by decide) ho
  refine ⟨{ v with p := .slice (some ⟨g, 0, none⟩) (s.pend.length + 1) cap }, ⟨hB.set 2 _, owns_setO hl _ _ h.nb.1, owns_setO hn _ _ h.nb.2.1, ?_, owns_setO ha _ _ h.nb.2.2.2, h.ne, h.lo⟩, only_b (hO.mono (fun k _ q => .inr (.inr (.inr (.inl q))))) _ _, fun k hk => ?_⟩
  · have := owns_setO ho ⟨b, 2, none⟩ (.slice (some ⟨g, 0, none⟩) (s.pend.length + 1) cap) hgb
    simpa [wrs_app] using this
  · rcases hk with hk | hk | hk | hk | hk
    · exact .inl (.inl hk)
    · exact .inl (.inr (.inl hk))
    · exact .inl (.inr (.inr (.inl hk)))
    · obtain rfl : g = k := by simpa [Value.ownBlock] using hk
      rcases hor with h1 | h1
      · exact .inl (.inr (.inr (.inr (.inl h1))))
      · exact .inr (by omega)
    · exact .inl (.inr (.inr (.inr (.inr hk))))
theorem Dk.alloc {w : World} {base b : Nat} {v : DV} {s : DSt} (h : Dk w base b v s) (o : Obj) : Dk (w.alloc o) base b v s := h.below ((Below.refl _ w).alloc (Nat.le_refl _) o)
theorem news_two (w : World) (T : TypeId) (x y : Value) (j : Nat) (u : Value) (hu : [x, y][j]? = some u) : (w.alloc (.cells #[x, y] T)).cell? (Addr.add ⟨w.heap.size, 0, none⟩ j) = some u := by
  rw [Addr.add_mid, Nat.zero_add, (Blk.new w T #[x, y]).cell j, ← hu]
  simp
theorem alloc_fd {w : World} {b : Nat} {v : DV} (o : Obj) : Only (Fd b v) w (w.alloc o) := (Only.refl _ w).alloc o
set_option maxRecDepth 100000 in
set_option maxHeartbeats 1000000 in
theorem note_any (w : World) (base b : Nat) (v : DV) (s : DSt) (h : Dk w base b v s) (hb : base ≤ w.heap.size) (k i : Nat) (hi : i < 65536) (hz : s.acts.length ≤ 1000000000) :
    Calls Tryz.prog 62 #[.pointer (some ⟨b, 0, none⟩), .int .u8 (k : Int), .int .i64 (i : Int)] w fun e w' => e = .returned (.tuple #[]) ∧ DPost base b v { s with acts := s.acts ++ [(k, i)] } w w' := by
  obtain ⟨p, cap, ev, hcap⟩ := row_form h.ra
  have c3 : w.cell? ⟨b, 3, none⟩ = some (.slice p s.acts.length cap) := by rw [h.blk.cell 3, ← ev]; rfl
  have hu : IntKind.u16.wrap (i : Int) = (i : Int) := by rw [IntKind.wrap_u16]; omega
  have H := hide (h.alloc (.cells #[.int .u8 (k : Int), .int .u16 (i : Int)] 168))
  have HE := hide ev
  obtain ⟨i0, hi0, hz0, hz1, hz2⟩ := info_parts infoA
  have HI := hide (And.intro hi0 (And.intro hz0 (And.intro hz1 hz2)))
  clear h ev hi0 hz0 hz1 hz2
  go_enter Tryz.func62, Tryz.ntmps62
  go_wp2_with (refine wpList_append_lies _ rfl (.tmp 10) (.tmp 15) 127 rfl base 168 i0 (.agg #[.int .u8 0, .int .u16 0]) 2 4 Tryz.underlying127 (unhide HI).1 (unhide HI).2.1 (unhide HI).2.2.1 (unhide HI).2.2.2 rfl (by decide) _ s.acts.length (acs s.acts) (unhide HE).symm (unhide H).ra ⟨w.heap.size, 0, none⟩ 1 1 (acs [(k, i)]) rfl rfl (fun j u hu => news_two w _ _ _ j u hu) (by simp [acs, Value.oneCell']) (by decide) (by unfold maxLen; omega) (by omega) (by simp; omega) _ rfl ?_)
  intro g cap' w1 ho hg hor hlt
  have HP := hide ((unhide H).appA g cap' (k, i) ho hg (by simpa using hor))
  have B1 : Blk w1 b _ _ := (unhide H).blk.only (grown_only hg) (unhide H).nb.2.2.2
  have c3' : w1.cell? ⟨b, 3, none⟩ = some v.a := by rw [B1.cell 3]; rfl
  have f3' := B1.frozen 3
  clear ho hg hor hlt B1
  go_wp2
  go_end0
  exact ⟨rfl, DPost.trans (alloc_fd _) (fun _ q => .inl q) (unhide HP)⟩
theorem own_at {w : World} {base : Nat} {e : TypeId} {n : Nat} {v : Value} {xs : List Value} {g : Nat} (h : w.ownsRow base e 1 v n xs) (hv : v.ownBlock = some g) (i : Nat) (hi : i < n) : w.cell? ⟨g, i, none⟩ = xs[i]? ∧ w.frozen? ⟨g, i, none⟩ = false := by
  rcases h.2 with ⟨h1, h2⟩ | ⟨g', cap, cur, rfl, hb, hg, hn, hc, hs, hx⟩
  · omega
  · obtain rfl : g' = g := by simpa [Value.ownBlock] using hv
    have hB : Blk w g' cur e := hg
    refine ⟨?_, hB.frozen i⟩
    rw [hB.cell i, ← hx, List.getElem?_take, if_pos (by omega)]
    simp
theorem strs_at (l : List ByteArray) (i : Nat) (hi : i < l.length) : (strs l)[i]? = some (.string (l.getD i ByteArray.empty)) := by
  simp [strs, hi]
theorem dstrs_set (l : List ByteArray) (i : Nat) (t : ByteArray) : (strs l).set i (.string t) = strs (l.set i t) := by
  simp [strs, List.map_set]
theorem Dk.setNow {w : World} {base b : Nat} {v : DV} {s : DSt} (h : Dk w base b v s) (g i : Nat) (hg : v.n.ownBlock = some g) (t : ByteArray) : Dk (w.setCell ⟨g, i, none⟩ (.string t)) base b v { s with now := s.now.set i t } := by
  have hgb : g ≠ b := fun e => h.nb.2.1 (e ▸ hg)
  refine ⟨h.blk.other _ _ hgb, owns_setO h.rl _ _ (fun q => h.ne g q hg), ?_, owns_setO h.rp _ _ (rows_ne h.rn h.rp (by decide) g hg), owns_setO h.ra _ _ (rows_ne h.rn h.ra (by decide) g hg), h.ne, h.lo⟩
  have := owns_set h.rn hg i (.string t)
  rw [dstrs_set] at this
  simpa using this
theorem Dk.setLast {w : World} {base b : Nat} {v : DV} {s : DSt} (h : Dk w base b v s) (g i : Nat) (hg : v.l.ownBlock = some g) (t : ByteArray) : Dk (w.setCell ⟨g, i, none⟩ (.string t)) base b v { s with last := s.last.set i t } := by
  have hgb : g ≠ b := fun e => h.nb.1 (e ▸ hg)
  refine ⟨h.blk.other _ _ hgb, ?_, owns_setO h.rn _ _ (h.ne g hg), owns_setO h.rp _ _ (rows_ne h.rl h.rp (by decide) g hg), owns_setO h.ra _ _ (rows_ne h.rl h.ra (by decide) g hg), h.ne, h.lo⟩
  have := owns_set h.rl hg i (.string t)
  rw [dstrs_set] at this
  simpa using this
set_option maxRecDepth 100000 in
set_option maxHeartbeats 1000000 in
theorem put_any (w : World) (base b : Nat) (v : DV) (s : DSt) (h : Dk w base b v s) (hb : base ≤ w.heap.size) (t : ByteArray) (i : Nat) (hi : i < s.now.length) (hz : s.pend.length ≤ 1000000000) :
    Calls Tryz.prog 60 #[.pointer (some ⟨b, 0, none⟩), .int .i64 (i : Int), .string t] w fun e w' => e = .returned (.tuple #[]) ∧ DPost base b v { s with now := s.now.set i t, pend := s.pend ++ [(i, t)] } w w' := by
  obtain ⟨g, capn, evn⟩ : ∃ g cap, v.n = .slice (some ⟨g, 0, none⟩) s.now.length cap := by
    obtain ⟨g, cap, e, _⟩ := h.rn.form (by omega)
    exact ⟨g, cap, e⟩
  have hgn : v.n.ownBlock = some g := by rw [evn]; rfl
  obtain ⟨p, cap, ev, hcap⟩ := row_form h.rp
  have c1 : w.cell? ⟨b, 1, none⟩ = some (.slice (some ⟨g, 0, none⟩) s.now.length capn) := by rw [h.blk.cell 1, ← evn]; rfl
  have ci : w.cell? ⟨g, i, none⟩ = some (.string (s.now.getD i ByteArray.empty)) := by rw [(own_at h.rn hgn i hi).1, strs_at _ _ hi]
  have fi : w.frozen? ⟨g, i, none⟩ = false := (own_at h.rn hgn i hi).2
  have h2 := h.setNow g i hgn t
  have c2 : (w.setCell ⟨g, i, none⟩ (.string t)).cell? ⟨b, 2, none⟩ = some (.slice p s.pend.length cap) := by rw [h2.blk.cell 2, ← ev]; rfl
  have H := hide (h2.alloc (.cells #[.int .i64 (i : Int), .string t] 149))
  have HS := hide (show Only (Fd b v) w (w.setCell ⟨g, i, none⟩ (.string t)) from (Only.refl _ w).setCell _ _ (fun _ => .inr (.inr (.inl hgn))))
  have HE := hide ev
  obtain ⟨i0, hi0, hz0, hz1, hz2⟩ := info_parts infoW
  have HI := hide (And.intro hi0 (And.intro hz0 (And.intro hz1 hz2)))
  clear h ev evn hi0 hz0 hz1 hz2 h2 hgn
  go_enter Tryz.func60, Tryz.ntmps60
  go_wp2_with (refine wpList_append_lies _ rfl (.tmp 17) (.tmp 21) 95 rfl base 149 i0 (.agg #[.int .i64 0, .string ⟨#[]⟩]) 2 24 Tryz.underlying95 (unhide HI).1 (unhide HI).2.1 (unhide HI).2.2.1 (unhide HI).2.2.2 rfl (by decide) _ s.pend.length (wrs s.pend) (unhide HE).symm (unhide H).rp ⟨w.heap.size, 0, none⟩ 1 1 (wrs [(i, t)]) rfl rfl (fun j u hu => by have := news_two (w.setCell ⟨g, i, none⟩ (.string t)) 149 _ _ j u hu; simpa using this) (by simp [wrs, Value.oneCell']) (by decide) (by unfold maxLen; omega) (by omega) (by simp; omega) _ rfl ?_)
  intro g' cap' w1 ho hg hor hlt
  have HP := hide ((unhide H).appP g' cap' (i, t) ho hg (by simpa using hor))
  have B1 : Blk w1 b _ _ := (unhide H).blk.only (grown_only hg) (unhide H).nb.2.2.1
  have c3' : w1.cell? ⟨b, 2, none⟩ = some v.p := by rw [B1.cell 2]; rfl
  have f3' := B1.frozen 2
  clear ho hg hor hlt B1
  go_wp2
  go_end0
  exact ⟨rfl, DPost.trans ((unhide HS).alloc _) (fun _ q => .inl q) (unhide HP)⟩
end Go.Proofs.YtnfdedolgfcmfaaGreatDoor

namespace Go.Proofs.YtnfdedolgfcmfaaGreatDoor
open Go.RowKit
def layP (l : List ByteArray) (ps : List (Nat × ByteArray)) : List ByteArray := ps.foldl (fun l p => l.set p.1 p.2) l
theorem layP_len (ps : List (Nat × ByteArray)) : ∀ l : List ByteArray, (layP l ps).length = l.length := by
  induction ps with
  | nil => intro l; rfl
  | cons p r ih => intro l; show (layP (l.set p.1 p.2) r).length = _; rw [ih]; simp
theorem layP_snoc (l : List ByteArray) (ps : List (Nat × ByteArray)) (p : Nat × ByteArray) : layP l (ps ++ [p]) = (layP l ps).set p.1 p.2 := by simp [layP]
theorem wrs_at : ∀ (l : List (Nat × ByteArray)) (k : Nat) (hk : k < l.length), (wrs l)[k * 2]? = some (.int .i64 ((l[k].1 : Nat) : Int)) ∧ (wrs l)[k * 2 + 1]? = some (.string l[k].2)
  | p :: r, 0, _ => by simp [wrs]
  | p :: r, k + 1, hk => by
    have := wrs_at r k (by simpa using hk)
    rw [show (k + 1) * 2 = k * 2 + 1 + 1 by omega]
    simpa [wrs] using this
theorem own_at2 {w : World} {base : Nat} {e : TypeId} {n m : Nat} {v : Value} {xs : List Value} {g : Nat} (h : w.ownsRow base e m v n xs) (hv : v.ownBlock = some g) (i : Nat) (hi : i < n * m) : w.cell? ⟨g, i, none⟩ = xs[i]? ∧ w.frozen? ⟨g, i, none⟩ = false := by
  rcases h.2 with ⟨h1, h2⟩ | ⟨g', cap, cur, rfl, hb, hg, hn, hc, hs, hx⟩
  · subst h2; omega
  · obtain rfl : g' = g := by simpa [Value.ownBlock] using hv
    have hB : Blk w g' cur e := hg
    refine ⟨?_, hB.frozen i⟩
    rw [hB.cell i, ← hx, List.getElem?_take, if_pos hi]
    simp
theorem Dk.drew {w : World} {base b : Nat} {v : DV} {s : DSt} (h : Dk w base b v s) : Dk w.drew base b v s := h.below ((Below.refl _ w).drew)
theorem Dk.nilP {w : World} {base b : Nat} {v : DV} {s : DSt} (h : Dk w base b v s) : DPost base b v { s with pend := [] } w (w.setCell ⟨b, 2, none⟩ (.slice none 0 0)) := by
  refine ⟨{ v with p := .slice none 0 0 }, h.cells 2 _ _ _ rfl (owns_setO h.rl _ _ h.nb.1) (owns_setO h.rn _ _ h.nb.2.1) (World.ownsRow_nil _ _ _ _) (owns_setO h.ra _ _ h.nb.2.2.2) h.ne, only_b (Only.refl _ _) _ _, fun k hk => ?_⟩
  rcases hk with hk | hk | hk | hk | hk
  · exact .inl (.inl hk)
  · exact .inl (.inr (.inl hk))
  · exact .inl (.inr (.inr (.inl hk)))
  · cases hk
  · exact .inl (.inr (.inr (.inr (.inr hk))))
def pendOk (s : DSt) : Prop := ∀ p, p ∈ s.pend → p.1 < s.last.length
set_option maxRecDepth 100000 in
set_option maxHeartbeats 2000000 in
theorem settle_any (w : World) (base b : Nat) (v : DV) (s : DSt) (h : Dk w base b v s) (hk : pendOk s) (hz : s.pend.length ≤ 1000000000) (hl : 0 < s.last.length) :
    Calls Tryz.prog 63 #[.pointer (some ⟨b, 0, none⟩)] w fun e w' => e = .returned (.tuple #[]) ∧ DPost base b v { s with last := layP s.last s.pend, pend := [] } w w' := by
  obtain ⟨gl, capl, evl⟩ : ∃ g cap, v.l = .slice (some ⟨g, 0, none⟩) s.last.length cap := by
    obtain ⟨g, cap, e, _⟩ := h.rl.form hl
    exact ⟨g, cap, e⟩
  obtain ⟨p, cap, ev, hcap⟩ := row_form h.rp
  have c2 : w.cell? ⟨b, 2, none⟩ = some (.slice p s.pend.length cap) := by rw [h.blk.cell 2, ← ev]; rfl
  have H := hide h
  have HE := hide ev
  have HL := hide evl
  have HK := hide hk
  clear h ev evl hk
  go_enter Tryz.func63, Tryz.ntmps63
  go_wp2
  go_loopw [9] (fun i wr => ∃ k : Nat, k ≤ s.pend.length ∧ i = .int .i64 (k : Int) ∧ Dk wr base b v { s with last := layP s.last (s.pend.take k) } ∧ Only (Fd b v) w wr) (fun i _ => s.pend.length - (intOf i).toNat)
  case atStart => exact ⟨0, by omega, rfl, unhide H, Only.refl _ _⟩
  case round =>
    obtain ⟨k, hk, rfl, hD, hO⟩ := hrel
    have XD := hide hD
    have XO := hide hO
    clear hD hO
    by_cases hkl : k < s.pend.length
    · obtain ⟨gp, rfl⟩ : ∃ gp, p = some ⟨gp, 0, none⟩ := by
        obtain ⟨g, cap', e, _⟩ := (unhide XD).rp.form (by simpa using (show 0 < s.pend.length by omega))
        rw [unhide HE] at e
        simp at e
        exact ⟨g, e.1⟩
      have hgp : v.p.ownBlock = some gp := by rw [unhide HE]; rfl
      obtain ⟨w0, w1⟩ := wrs_at s.pend k hkl
      have cp0 : wr.cell? ⟨gp, k * 2, none⟩ = some (.int .i64 ((s.pend[k].1 : Nat) : Int)) := by rw [(own_at2 (unhide XD).rp hgp (k * 2) (by simp; omega)).1]; exact w0
      have cp1 : wr.cell? ⟨gp, k * 2 + 1, none⟩ = some (.string s.pend[k].2) := by rw [(own_at2 (unhide XD).rp hgp (k * 2 + 1) (by simp; omega)).1]; exact w1
      have hjl : s.pend[k].1 < s.last.length := unhide HK _ (List.getElem_mem hkl)
      have HT := hide (show s.pend.take (k + 1) = s.pend.take k ++ [s.pend[k]] by simp)
      obtain ⟨j, hj⟩ : ∃ j, j = s.pend[k].1 := ⟨_, rfl⟩
      obtain ⟨t, ht⟩ : ∃ t, t = s.pend[k].2 := ⟨_, rfl⟩
      rw [← hj] at cp0 hjl
      rw [← ht] at cp1
      have HJ := hide hj
      have HTT := hide ht
      have hgl : v.l.ownBlock = some gl := by rw [unhide HL]; rfl
      have D1 := (unhide XD).alloc (.cells #[.int .i64 (j : Int), .string t] 149)
      have hlen : (layP s.last (s.pend.take k)).length = s.last.length := layP_len _ _
      have d0 : (wr.alloc (.cells #[.int .i64 (j : Int), .string t] 149)).cell? ⟨b, 0, none⟩ = some (.slice (some ⟨gl, 0, none⟩) s.last.length capl) := by rw [D1.blk.cell 0, ← unhide HL]; rfl
      have dj : (wr.alloc (.cells #[.int .i64 (j : Int), .string t] 149)).cell? ⟨gl, j, none⟩ = some (.string ((layP s.last (s.pend.take k)).getD j ByteArray.empty)) := by rw [(own_at D1.rl hgl j (by simpa [hlen] using hjl)).1]; exact strs_at _ _ (by simpa [hlen] using hjl)
      have fj : (wr.alloc (.cells #[.int .i64 (j : Int), .string t] 149)).frozen? ⟨gl, j, none⟩ = false := (own_at D1.rl hgl j (by simpa [hlen] using hjl)).2
      have DB := Blk.new wr 149 #[.int .i64 (j : Int), .string t]
      have n0 : (wr.alloc (.cells #[.int .i64 (j : Int), .string t] 149)).cell? ⟨wr.heap.size, 0, none⟩ = some (.int .i64 (j : Int)) := DB.cell 0
      have n1 : (wr.alloc (.cells #[.int .i64 (j : Int), .string t] 149)).cell? ⟨wr.heap.size, 1, none⟩ = some (.string t) := DB.cell 1
      have X1 := hide D1
      have XO1 := hide ((unhide XO).alloc (.cells #[.int .i64 (j : Int), .string t] 149))
      have HGL := hide hgl
      have HLN := hide hlen
      clear w0 w1 hj ht hgp D1 DB hgl hlen XD XO
      go_wp2_with fail
      clear cp0 cp1
      generalize hx1 : wr.alloc (.cells #[.int .i64 (j : Int), .string t] 149) = x1 at *
      generalize wr.heap.size = gh at *
      clear hx1
      generalize (layP s.last (s.pend.take k)).getD j ByteArray.empty = old at *
      have i0 : 0 ≤ (j : Int) := by omega
      have i1 : (j : Int) < (s.last.length : Int) := by omega
      go_still_tail 9, (by kernel_rfl)
      change wpList _ _ _ _ _ x1.drew
      go_wp2
      go_roundw
      case rel =>
        refine ⟨k + 1, by omega, by go_num, ?_, (unhide XO1).drew.setCell _ _ (fun _ => .inr (.inl (unhide HGL)))⟩
        rw [unhide HT, layP_snoc, ← unhide HJ, ← unhide HTT]
        exact (unhide X1).drew.setLast gl j (unhide HGL) t
      case measure => simp [intOf]; omega
    · have hk' : k = s.pend.length := by omega
      subst hk'
      rw [List.take_length] at XD
      have f2 := (unhide XD).blk.frozen 2
      have c2' : wr.cell? ⟨b, 2, none⟩ = some v.p := by rw [(unhide XD).blk.cell 2]; rfl
      have HP := hide (unhide XD).nilP
      clear XD H HK HL
      go_wp2
      go_end0
      exact ⟨rfl, DPost.trans (unhide XO) (fun _ q => .inl q) (unhide HP)⟩
end Go.Proofs.YtnfdedolgfcmfaaGreatDoor

namespace Go.Proofs.YtnfdedolgfcmfaaGreatDoor
open Go.RowKit
theorem owns_base {w : World} {B B' : Nat} {e : TypeId} {k n : Nat} {v : Value} {xs : List Value} (h : w.ownsRow B e k v n xs) (hb : B' ≤ B) : w.ownsRow B' e k v n xs := by
  refine ⟨h.1, ?_⟩
  rcases h.2 with hn | ⟨g, cap, cur, rfl, hg, rest⟩
  · exact .inl hn
  · exact .inr ⟨g, cap, cur, rfl, by omega, rest⟩
end Go.Proofs.YtnfdedolgfcmfaaGreatDoor
