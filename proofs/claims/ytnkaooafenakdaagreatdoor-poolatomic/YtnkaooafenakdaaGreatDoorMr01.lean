import Derived.Test.YtnkaooafenakdaaGreatDoorMr00
import Derived.RangeFuncBox
import Derived.Deep.AppendLies
namespace Go.Proofs.YtnkaooafenakdaaGreatDoor
open Go.RowKit
/-- Block b is this row of cells, of type T, none of them frozen. -/
def Blk (w : World) (b : Nat) (cur : Array Value) (T : TypeId) : Prop := w.heap[b]? = some (.cells cur T (0, 0))
theorem Blk.lt {w : World} {b : Nat} {cur : Array Value} {T : TypeId} (h : Blk w b cur T) : b < w.heap.size := (Array.getElem?_eq_some_iff.1 h).1
theorem Blk.cell {w : World} {b : Nat} {cur : Array Value} {T : TypeId} (h : Blk w b cur T) (j : Nat) : w.cell? ⟨b, j, none⟩ = cur[j]? := by simp [World.cell?, show w.heap[b]? = _ from h]
theorem Blk.frozen {w : World} {b : Nat} {cur : Array Value} {T : TypeId} (h : Blk w b cur T) (j : Nat) : w.frozen? ⟨b, j, none⟩ = false := by simp [World.frozen?, show w.heap[b]? = _ from h]
theorem Blk.new (w : World) (T : TypeId) (cur : Array Value) : Blk (w.alloc (.cells cur T)) w.heap.size cur T := World.alloc_heap_new w _
theorem Blk.kept {w w' : World} {b : Nat} {cur : Array Value} {T : TypeId} (h : Blk w b cur T) (e : w'.heap[b]? = w.heap[b]?) : Blk w' b cur T := e.trans h
theorem Blk.alloc {w : World} {b : Nat} {cur : Array Value} {T : TypeId} (h : Blk w b cur T) (o : Obj) : Blk (w.alloc o) b cur T :=
  h.kept ((World.grownBy_alloc w o none).block b h.lt (by simp))
theorem Blk.set {w : World} {b : Nat} {cur : Array Value} {T : TypeId} (h : Blk w b cur T) (o : Nat) (v : Value) : Blk (w.setCell ⟨b, o, none⟩ v) b (cur.setIfInBounds o v) T := by
  obtain ⟨hlt, hk⟩ := Array.getElem?_eq_some_iff.1 h
  show (w.heap.modify b _)[b]? = _
  rw [Array.getElem?_eq_getElem (by rw [Array.size_modify]; exact hlt), Array.getElem_modify_self, hk]
  rfl
theorem Blk.other {w : World} {b : Nat} {cur : Array Value} {T : TypeId} (h : Blk w b cur T) (a : Addr) (v : Value) (ha : a.block ≠ b) : Blk (w.setCell a v) b cur T :=
  h.kept (Below.heap_setCell _ _ _ _ (fun e => ha e.symm))
theorem Blk.below {w w' : World} {B b : Nat} {cur : Array Value} {T : TypeId} (h : Blk w b cur T) (hb : Below B w w') (hB : b < B) : Blk w' b cur T := h.kept (hb.block b hB)
theorem Blk.not_row {w : World} {b : Nat} {cur : Array Value} {T e : TypeId} (h : Blk w b cur T) (hte : T ≠ e) {base size k : Nat} {v : Value} {xs : List Value} (hr : w.ownsRow base e size v k xs) : v.ownBlock ≠ some b := by
  rcases hr.2 with ⟨rfl, _⟩ | ⟨g, cap, cur', rfl, _, hgb, _⟩
  · simp [Value.ownBlock]
  · intro e'
    obtain rfl : g = b := by simpa [Value.ownBlock] using e'
    have := (show w.heap[g]? = _ from h).symm.trans hgb
    simp at this
    exact hte this.2
/-- From w to w' nothing that lay there has changed but in blocks of P. -/
def Only (P : Nat → Prop) (w w' : World) : Prop := Below 0 w w' ∧ ∀ k, k < w.heap.size → ¬ P k → w'.heap[k]? = w.heap[k]?
theorem Only.refl (P : Nat → Prop) (w : World) : Only P w w := ⟨Below.refl _ _, fun _ _ _ => rfl⟩
theorem Only.trans {P Q : Nat → Prop} {w w1 w2 : World} (h : Only P w w1) (k : Only Q w1 w2) (hq : ∀ k, k < w.heap.size → Q k → P k) : Only P w w2 :=
  ⟨h.1.trans k.1, fun j hj hp => (k.2 j (Nat.lt_of_lt_of_le hj h.1.size) (fun q => hp (hq j hj q))).trans (h.2 j hj hp)⟩
theorem Only.mono {P Q : Nat → Prop} {w w' : World} (h : Only P w w') (hq : ∀ k, k < w.heap.size → P k → Q k) : Only Q w w' := ⟨h.1, fun j hj hp => h.2 j hj (fun q => hp (hq j hj q))⟩
theorem Only.of_below {P : Nat → Prop} {w w' : World} (h : Below w.heap.size w w') : Only P w w' := ⟨h.mono (Nat.zero_le _), fun k hk _ => h.block k hk⟩
theorem Only.below {P : Nat → Prop} {w w' : World} {B : Nat} (h : Only P w w') (hB : B ≤ w.heap.size) (hp : ∀ k, k < B → ¬ P k) : Below B w w' :=
  ⟨h.1.os, h.1.tape, h.1.output, h.1.size, fun k hk => h.2 k (by omega) (hp k hk)⟩
theorem Only.setCell {P : Nat → Prop} {w w' : World} (h : Only P w w') (a : Addr) (v : Value) (ha : a.block < w.heap.size → P a.block) : Only P w (w'.setCell a v) :=
  ⟨h.1.setCell (Nat.zero_le _) v, fun k hk hp => (Below.heap_setCell _ _ _ _ (fun e => by subst e; exact hp (ha hk))).trans (h.2 k hk hp)⟩
theorem Only.alloc {P : Nat → Prop} {w w' : World} (h : Only P w w') (o : Obj) : Only P w (w'.alloc o) :=
  h.trans (Q := fun _ => False) ⟨(Below.refl 0 w').alloc (Nat.zero_le _) o, fun k hk _ => (World.grownBy_alloc w' o none).block k hk (by simp)⟩ (fun _ _ q => q.elim)
theorem Only.drew {P : Nat → Prop} {w w' : World} (h : Only P w w') : Only P w w'.drew := ⟨h.1.drew, h.2⟩
theorem Only.drewN {P : Nat → Prop} {w w' : World} (h : Only P w w') (n : Nat) : Only P w (w'.drewN n) := ⟨below_drewN h.1 n, h.2⟩
theorem Only.grown {P : Nat → Prop} {w w1 w2 : World} {row : Option Nat} (h : Only P w w1) (hg : w1.grownBy w2 row) (hr : ∀ k, k < w.heap.size → row = some k → P k) : Only P w w2 :=
  h.trans (Q := fun k => row = some k) ⟨⟨hg.os, hg.tape, hg.output, hg.size, fun k hk => absurd hk (Nat.not_lt_zero k)⟩, fun k hk hn => hg.block k hk (fun e => hn e.symm)⟩ hr
theorem Only.size {P : Nat → Prop} {w w' : World} (h : Only P w w') : w.heap.size ≤ w'.heap.size := h.1.size
theorem Blk.only {w w' : World} {b : Nat} {cur : Array Value} {T : TypeId} {P : Nat → Prop} (h : Blk w b cur T) (ho : Only P w w') (hp : ¬ P b) : Blk w' b cur T := h.kept (ho.2 b h.lt hp)
theorem Arr.only {w w' : World} {c o : Nat} {k : IntKind} {l : List Int} {P : Nat → Prop} (h : Arr w c o k l) (ho : Only P w w') (hp : ¬ P c) (hc : c < w.heap.size) : Arr w' c o k l := by
  intro j hj
  have e := ho.2 c hc hp
  rw [World.cell?_of_block (a := ⟨c, o + j, none⟩) e, World.frozen?_of_block (a := ⟨c, o + j, none⟩) e]
  exact h j hj
theorem owns_only {w w' : World} {base : Nat} {e : TypeId} {size n : Nat} {v : Value} {xs : List Value} {P : Nat → Prop} (h : w.ownsRow base e size v n xs) (ho : Only P w w') (hp : ∀ k, v.ownBlock = some k → ¬ P k) : w'.ownsRow base e size v n xs := by
  refine ⟨h.1, ?_⟩
  rcases h.2 with hn | ⟨g, cap, cur, rfl, hb, hg, rest⟩
  · exact .inl hn
  · exact .inr ⟨g, cap, cur, rfl, hb, (ho.2 g (Array.getElem?_eq_some_iff.1 hg).1 (hp g rfl)).trans hg, rest⟩
/-- Appending nothing. -/
theorem run_append_none (w : World) (p q : Option Addr) (n c c' : Nat) (hn : n ≤ c) (ty : TypeId) :
    (Builtin.append_ #[97, 97] ty #[.slice p n c, .slice q 0 c']).run Tryz.prog w = .ok (.slice p n c) w := by
  obtain ⟨i0, hi, hz0, hz1, hz2⟩ := info_parts info5
  have hl : ∀ a, (loadCells a 0).run Tryz.prog w = .ok #[] w := fun a => rfl
  cases p <;> cases q <;> simp [hl, Builtin.append_, run_underlying Tryz.underlying97, sizeOf, typeInfo, hi, hz1, Builtin.lenOf, hn, Builtin.firstCells, storeCells, Result.andThen]
end Go.Proofs.YtnkaooafenakdaaGreatDoor

namespace Go.Proofs.YtnkaooafenakdaaGreatDoor
open Go.RowKit
/-- What a disk is: its sectors as they last, as they were written last; the pending writes; the acts (kind, sector); its fuse; is it dead. -/
structure DSt where
  last : List ByteArray
  now : List ByteArray
  pend : List (Nat × ByteArray)
  acts : List (Nat × Nat)
  fuse : Int
  dead : Bool
def strs (l : List ByteArray) : List Value := l.map Value.string
def wrs : List (Nat × ByteArray) → List Value
  | [] => []
  | p :: r => .int .i64 (p.1 : Int) :: .string p.2 :: wrs r
def acs : List (Nat × Nat) → List Value
  | [] => []
  | p :: r => .int .u8 (p.1 : Int) :: .int .u16 (p.2 : Int) :: acs r
/-- The rows of a disk. -/
structure DV where
  l : Value
  n : Value
  p : Value
  a : Value
/-- At block b lies a disk with the rows v, which is s. -/
structure Dk (w : World) (base b : Nat) (v : DV) (s : DSt) : Prop where
  blk : Blk w b #[v.l, v.n, v.p, v.a, .int .i64 s.fuse, .bool s.dead] 62
  rl : w.ownsRow base 9 1 v.l s.last.length (strs s.last)
  rn : w.ownsRow base 9 1 v.n s.now.length (strs s.now)
  rp : w.ownsRow base 75 2 v.p s.pend.length (wrs s.pend)
  ra : w.ownsRow base 110 2 v.a s.acts.length (acs s.acts)
  ne : ∀ k, v.l.ownBlock = some k → v.n.ownBlock ≠ some k
  lo : base ≤ b
/-- The blocks of a disk. -/
def Fd (b : Nat) (v : DV) (k : Nat) : Prop := k = b ∨ v.l.ownBlock = some k ∨ v.n.ownBlock = some k ∨ v.p.ownBlock = some k ∨ v.a.ownBlock = some k
/-- Behind a call of the disk at b, whose rows were v: it is s now. -/
def DPost (base b : Nat) (v : DV) (s : DSt) (w w' : World) : Prop :=
  ∃ v', Dk w' base b v' s ∧ Only (Fd b v) w w' ∧ ∀ k, Fd b v' k → Fd b v k ∨ w.heap.size ≤ k
theorem Dk.only {w w' : World} {base b : Nat} {v : DV} {s : DSt} {P : Nat → Prop} (h : Dk w base b v s) (ho : Only P w w') (hp : ∀ k, Fd b v k → ¬ P k) : Dk w' base b v s :=
  ⟨h.blk.only ho (hp b (.inl rfl)), owns_only h.rl ho (fun k hk => hp k (.inr (.inl hk))), owns_only h.rn ho (fun k hk => hp k (.inr (.inr (.inl hk)))), owns_only h.rp ho (fun k hk => hp k (.inr (.inr (.inr (.inl hk))))), owns_only h.ra ho (fun k hk => hp k (.inr (.inr (.inr (.inr hk))))), h.ne, h.lo⟩
theorem Dk.below {w w' : World} {base b : Nat} {v : DV} {s : DSt} (h : Dk w base b v s) (hb : Below w.heap.size w w') : Dk w' base b v s := h.only (Only.of_below (P := fun _ => False) hb) (fun _ _ q => q)
theorem DPost.refl {w : World} {base b : Nat} {v : DV} {s : DSt} (h : Dk w base b v s) : DPost base b v s w w := ⟨v, h, Only.refl _ _, fun _ hk => .inl hk⟩
theorem row_form {w : World} {base n : Nat} {e : TypeId} {k : Nat} {v : Value} {xs : List Value} (h : w.ownsRow base e k v n xs) : ∃ p cap, v = .slice p n cap ∧ n ≤ cap := by
  rcases h.2 with ⟨h1, h2⟩ | ⟨g, cap, cur, h1, _, _, h3, _⟩
  · exact ⟨none, 0, by rw [h1, h2], by omega⟩
  · exact ⟨_, cap, h1, h3⟩
theorem strs_len (l : List ByteArray) : (strs l).length = l.length := by simp [strs]
theorem wrs_len : ∀ l : List (Nat × ByteArray), (wrs l).length = l.length * 2
  | [] => rfl
  | _ :: r => by simp [wrs, wrs_len r]; omega
theorem acs_len : ∀ l : List (Nat × Nat), (acs l).length = l.length * 2
  | [] => rfl
  | _ :: r => by simp [acs, acs_len r]; omega
theorem wrs_app : ∀ l m : List (Nat × ByteArray), wrs (l ++ m) = wrs l ++ wrs m
  | [], m => rfl
  | p :: r, m => by simp [wrs, wrs_app r m]
theorem acs_app : ∀ l m : List (Nat × Nat), acs (l ++ m) = acs l ++ acs m
  | [], m => rfl
  | p :: r, m => by simp [acs, acs_app r m]
set_option maxRecDepth 100000 in
set_option maxHeartbeats 1000000 in
theorem pending_any (w : World) (base b : Nat) (v : DV) (s : DSt) (h : Dk w base b v s) :
    Calls Tryz.prog 25 #[.pointer (some ⟨b, 0, none⟩)] w fun e w' => e = .returned (.int .i64 (s.pend.length : Int)) ∧ w' = w := by
  obtain ⟨p, cap, e, hc⟩ := row_form h.rp
  have c2 : w.cell? ⟨b, 2, none⟩ = some (.slice p s.pend.length cap) := by rw [h.blk.cell 2, ← e]; rfl
  clear h
  go_enter Tryz.func25, Tryz.ntmps25
  go_wp2
  go_ret
  exact ⟨rfl, rfl⟩
set_option maxRecDepth 100000 in
set_option maxHeartbeats 1000000 in
theorem size_any (w : World) (base b : Nat) (v : DV) (s : DSt) (h : Dk w base b v s) :
    Calls Tryz.prog 73 #[.pointer (some ⟨b, 0, none⟩)] w fun e w' => e = .returned (.int .i64 (s.last.length : Int)) ∧ w' = w := by
  obtain ⟨p, cap, e, hc⟩ := row_form h.rl
  have c2 : w.cell? ⟨b, 0, none⟩ = some (.slice p s.last.length cap) := by rw [h.blk.cell 0, ← e]; rfl
  clear h
  go_enter Tryz.func73, Tryz.ntmps73
  go_wp2
  go_ret
  exact ⟨rfl, rfl⟩
set_option maxRecDepth 100000 in
set_option maxHeartbeats 1000000 in
theorem has_any (w : World) (base b : Nat) (v : DV) (s : DSt) (h : Dk w base b v s) (i : Int) :
    Calls Tryz.prog 89 #[.pointer (some ⟨b, 0, none⟩), .int .i64 i] w fun e w' => e = .returned (.bool (decide (0 ≤ i ∧ i < (s.last.length : Int)))) ∧ w' = w := by
  have H := hide h
  clear h
  by_cases h0 : 0 ≤ i
  · go_enter Tryz.func89, Tryz.ntmps89
    go_wp2_with fail
    refine (size_any w base b v s (unhide H)).mono ?_
    rintro ev x1 ⟨rfl, rfl⟩
    go_wp2
    go_ret
    exact ⟨by simp [h0], rfl⟩
  · go_enter Tryz.func89, Tryz.ntmps89
    go_wp2
    go_ret
    exact ⟨by simp; omega, rfl⟩
set_option maxRecDepth 100000 in
set_option maxHeartbeats 1000000 in
theorem isSector_any (t : ByteArray) (w : World) :
    Calls Tryz.prog 60 #[.string t] w fun e w' => e = .returned (.bool (decide (t.size = 256))) ∧ w' = w := by
  go_enter Tryz.func60, Tryz.ntmps60
  go_wp2
  go_ret
  refine ⟨?_, rfl⟩
  by_cases h : t.size = 256
  · simp [h]
  · have : ¬ ((t.size : Int) = 256) := by omega
    simp [h, this]
set_option maxRecDepth 100000 in
set_option maxHeartbeats 1000000 in
theorem isSize_any (n : Int) (w : World) :
    Calls Tryz.prog 59 #[.int .i64 n] w fun e w' => e = .returned (.bool (decide (128 ≤ n ∧ n ≤ 1024))) ∧ w' = w := by
  by_cases h0 : 128 ≤ n
  · go_enter Tryz.func59, Tryz.ntmps59
    go_wp2
    go_ret
    exact ⟨by simp [h0], rfl⟩
  · go_enter Tryz.func59, Tryz.ntmps59
    go_wp2
    go_ret
    exact ⟨by simp; omega, rfl⟩
end Go.Proofs.YtnkaooafenakdaaGreatDoor

namespace Go.Proofs.YtnkaooafenakdaaGreatDoor
open Go.RowKit
/-- Another cell of a row of one's own. -/
theorem owns_set {w : World} {base : Nat} {e : TypeId} {k n : Nat} {v : Value} {xs : List Value} (h : w.ownsRow base e k v n xs) {g : Nat} (hv : v.ownBlock = some g) (j : Nat) (u : Value) : (w.setCell ⟨g, j, none⟩ u).ownsRow base e k v n (xs.set j u) := by
  refine ⟨by rw [List.length_set]; exact h.1, ?_⟩
  rcases h.2 with ⟨h1, h2⟩ | ⟨g', cap, cur, rfl, hb, hg, hn, hc, hs, hx⟩
  · rw [h1] at hv; cases hv
  · obtain rfl : g' = g := by simpa [Value.ownBlock] using hv
    refine .inr ⟨g', cap, cur.setIfInBounds j u, rfl, hb, Blk.set hg j u, hn, hc, by simpa using hs, ?_⟩
    rw [← hx]
    simp [List.take_set]
theorem owns_setO {w : World} {base : Nat} {e : TypeId} {k n : Nat} {v : Value} {xs : List Value} (h : w.ownsRow base e k v n xs) (a : Addr) (u : Value) (hv : v.ownBlock ≠ some a.block) : (w.setCell a u).ownsRow base e k v n xs :=
  owns_only h ((Only.refl (fun k => k = a.block) w).setCell a u (fun _ => rfl)) (fun _ hk hkb => hv (hkb ▸ hk))
theorem Dk.nb {w : World} {base b : Nat} {v : DV} {s : DSt} (h : Dk w base b v s) : v.l.ownBlock ≠ some b ∧ v.n.ownBlock ≠ some b ∧ v.p.ownBlock ≠ some b ∧ v.a.ownBlock ≠ some b :=
  ⟨h.blk.not_row (by decide) h.rl, h.blk.not_row (by decide) h.rn, h.blk.not_row (by decide) h.rp, h.blk.not_row (by decide) h.ra⟩
theorem rows_ne {w : World} {base : Nat} {e1 e2 : TypeId} {k1 k2 n1 n2 : Nat} {v1 v2 : Value} {xs1 xs2 : List Value} (h1 : w.ownsRow base e1 k1 v1 n1 xs1) (h2 : w.ownsRow base e2 k2 v2 n2 xs2) (he : e1 ≠ e2) (g : Nat) (hg : v1.ownBlock = some g) : v2.ownBlock ≠ some g := by
  rcases h1.2 with ⟨q1, q2⟩ | ⟨g', cap, cur, rfl, hb, hh, _⟩
  · rw [q1] at hg; cases hg
  · obtain rfl : g' = g := by simpa [Value.ownBlock] using hg
    exact Blk.not_row hh he h2
/-- The disk's own cells are written. -/
theorem Dk.cells {w : World} {base b : Nat} {v : DV} {s : DSt} (h : Dk w base b v s) (j : Nat) (u : Value) (v' : DV) (s' : DSt) (hb : (#[v.l, v.n, v.p, v.a, .int .i64 s.fuse, .bool s.dead] : Array Value).setIfInBounds j u = #[v'.l, v'.n, v'.p, v'.a, .int .i64 s'.fuse, .bool s'.dead])
    (hl : (w.setCell ⟨b, j, none⟩ u).ownsRow base 9 1 v'.l s'.last.length (strs s'.last)) (hn : (w.setCell ⟨b, j, none⟩ u).ownsRow base 9 1 v'.n s'.now.length (strs s'.now)) (hp : (w.setCell ⟨b, j, none⟩ u).ownsRow base 75 2 v'.p s'.pend.length (wrs s'.pend)) (ha : (w.setCell ⟨b, j, none⟩ u).ownsRow base 110 2 v'.a s'.acts.length (acs s'.acts))
    (hne : ∀ k, v'.l.ownBlock = some k → v'.n.ownBlock ≠ some k) : Dk (w.setCell ⟨b, j, none⟩ u) base b v' s' :=
  ⟨by rw [← hb]; exact h.blk.set j u, hl, hn, hp, ha, hne, h.lo⟩
theorem Dk.setFuse {w : World} {base b : Nat} {v : DV} {s : DSt} (h : Dk w base b v s) (n : Int) : Dk (w.setCell ⟨b, 4, none⟩ (.int .i64 n)) base b v { s with fuse := n } :=
  h.cells 4 _ v _ rfl (owns_setO h.rl _ _ h.nb.1) (owns_setO h.rn _ _ h.nb.2.1) (owns_setO h.rp _ _ h.nb.2.2.1) (owns_setO h.ra _ _ h.nb.2.2.2) h.ne
theorem Dk.setDead {w : World} {base b : Nat} {v : DV} {s : DSt} (h : Dk w base b v s) (n : Bool) : Dk (w.setCell ⟨b, 5, none⟩ (.bool n)) base b v { s with dead := n } :=
  h.cells 5 _ v _ rfl (owns_setO h.rl _ _ h.nb.1) (owns_setO h.rn _ _ h.nb.2.1) (owns_setO h.rp _ _ h.nb.2.2.1) (owns_setO h.ra _ _ h.nb.2.2.2) h.ne
theorem only_b {w w' : World} {b : Nat} {v : DV} (h : Only (Fd b v) w w') (j : Nat) (u : Value) : Only (Fd b v) w (w'.setCell ⟨b, j, none⟩ u) := h.setCell _ _ (fun _ => .inl rfl)
def diesS (s : DSt) : DSt := if 0 < s.fuse then { s with fuse := s.fuse - 1, dead := decide (s.fuse = 1) } else s
set_option maxRecDepth 100000 in
set_option maxHeartbeats 1000000 in
theorem dies_any (w : World) (base b : Nat) (v : DV) (s : DSt) (h : Dk w base b v s) (hf : I64 s.fuse) :
    Calls Tryz.prog 90 #[.pointer (some ⟨b, 0, none⟩)] w fun e w' => e = .returned (.bool (diesS s).dead) ∧ Dk w' base b v (diesS s) ∧ Only (Fd b v) w w' := by
  have c4 : w.cell? ⟨b, 4, none⟩ = some (.int .i64 s.fuse) := by rw [h.blk.cell 4]; rfl
  have c5 : w.cell? ⟨b, 5, none⟩ = some (.bool s.dead) := by rw [h.blk.cell 5]; rfl
  have f4 := h.blk.frozen 4
  have f5 := h.blk.frozen 5
  have H := hide h
  clear h
  by_cases h0 : 0 < s.fuse
  · have e1 : diesS s = { s with fuse := s.fuse - 1, dead := decide (s.fuse = 1) } := by rw [diesS, if_pos h0]
    rw [e1]
    have hb := hf.2
    clear hf e1
    go_enter Tryz.func90, Tryz.ntmps90
    go_wp2
    go_ret
    have eb : (s.fuse - 1 == 0) = decide (s.fuse = 1) := by
      by_cases h1 : s.fuse = 1
      · simp [h1]
      · have : ¬ s.fuse - 1 = 0 := by omega
        simp [h1, this]
    rw [eb]
    exact ⟨rfl, ((unhide H).setFuse _).setDead _, only_b (only_b (Only.refl _ _) _ _) _ _⟩
  · have e1 : diesS s = s := by rw [diesS, if_neg h0]
    rw [e1]
    clear e1 hf
    go_enter Tryz.func90, Tryz.ntmps90
    go_wp2
    go_ret
    exact ⟨rfl, unhide H, Only.refl _ _⟩
def armE (s : DSt) (n : Int) : Int := if n < 0 then 1 else if s.dead then 2 else 0
def armS (s : DSt) (n : Int) : DSt := if n < 0 then s else if s.dead then s else { s with fuse := n }
set_option maxRecDepth 100000 in
set_option maxHeartbeats 1000000 in
theorem arm_any (w : World) (base b : Nat) (v : DV) (s : DSt) (h : Dk w base b v s) (n : Int) :
    Calls Tryz.prog 24 #[.pointer (some ⟨b, 0, none⟩), .int .i64 n] w fun e w' => e = .returned (.int .i64 (armE s n)) ∧ Dk w' base b v (armS s n) ∧ Only (Fd b v) w w' := by
  have c4 : w.cell? ⟨b, 4, none⟩ = some (.int .i64 s.fuse) := by rw [h.blk.cell 4]; rfl
  have c5 : w.cell? ⟨b, 5, none⟩ = some (.bool s.dead) := by rw [h.blk.cell 5]; rfl
  have f4 := h.blk.frozen 4
  have H := hide h
  clear h
  by_cases h0 : n < 0
  · rw [armE, armS, if_pos h0, if_pos h0]
    go_enter Tryz.func24, Tryz.ntmps24
    go_wp2
    go_ret
    exact ⟨rfl, unhide H, Only.refl _ _⟩
  · rw [armE, armS, if_neg h0, if_neg h0]
    by_cases hd : s.dead = true
    · rw [if_pos hd, if_pos hd]
      rw [hd] at c5
      go_enter Tryz.func24, Tryz.ntmps24
      go_wp2
      go_ret
      exact ⟨rfl, unhide H, Only.refl _ _⟩
    · rw [if_neg hd, if_neg hd]
      rw [Bool.not_eq_true] at hd
      rw [hd] at c5
      clear hd
      go_enter Tryz.func24, Tryz.ntmps24
      go_wp2
      go_ret
      exact ⟨rfl, (unhide H).setFuse n, only_b (Only.refl _ _) _ _⟩
end Go.Proofs.YtnkaooafenakdaaGreatDoor
