import Derived.Test.YtifjmldmilmfjaaGreatDoorMp00
import Derived.Test.YtifjmldmilmfjaaGreatDoorMp08
import Derived.Test.YtifjmldmilmfjaaGreatDoorMp07
import Derived.RangeFuncBox
import Derived.Deep.AppendLies
import Derived.BigQuiet
namespace Go.Proofs.YtifjmldmilmfjaaGreatDoor
open Go.RowKit
/-- Which error a part of a stream has; the part. -/
def errP (key : ByteArray) (f n : Int) : Int := if key.size = 32 then (if 0 ≤ f ∧ 0 ≤ n ∧ f + n ≤ 65536 then 0 else 21) else 20
theorem errP_zero {key : ByteArray} {f n : Int} : errP key f n = 0 ↔ key.size = 32 ∧ 0 ≤ f ∧ 0 ≤ n ∧ f + n ≤ 65536 := by
  unfold errP
  by_cases h1 : key.size = 32
  · by_cases h2 : 0 ≤ f ∧ 0 ≤ n ∧ f + n ≤ 65536
    · simp [h1, h2]
    · simp [h1, h2]
  · simp [h1]
theorem errP_20 {key : ByteArray} {f n : Int} (h : ¬ key.size = 32) : errP key f n = 20 := by simp [errP, h]
theorem errP_21 {key : ByteArray} {f n : Int} (h : key.size = 32) (h2 : ¬ (0 ≤ f ∧ 0 ≤ n ∧ f + n ≤ 65536)) : errP key f n = 21 := by
  unfold errP
  rw [if_pos h, if_neg h2]
def streamB (key : ByteArray) (f n : Int) : ByteArray := if errP key f n = 0 then strOfNums (partP (nums key) f.toNat n.toNat) else ⟨#[]⟩
def xorB (key : ByteArray) (f : Int) (s : ByteArray) : ByteArray := if errP key f s.size = 0 then strOfNums (laidP (nums s) (partP (nums key) f.toNat s.size)) else ⟨#[]⟩
set_option maxHeartbeats 400000 in
theorem partErrno_any (key : ByteArray) (f n : Int) (_hf : I64 f) (hn : I64 n) (w : World) :
    Calls Tryz.prog 93 #[.string key, .int .i64 f, .int .i64 n] w fun e w' => e = .returned (.int .i64 (errP key f n)) ∧ w' = w := by
  obtain ⟨hn1, hn2⟩ := hn
  by_cases hk : key.size = 32
  · have hd : decide (key.size = 32) = true := by simp [hk]
    by_cases h1 : f < 0
    · have HE := hide (errP_21 (f := f) (n := n) hk (by omega))
      clear hk
      go_enter Tryz.func93, Tryz.ntmps93
      go_wp2_with fail
      refine (isKey_any key w).mono ?_
      rintro e w1 ⟨rfl, rfl⟩
      rw [hd]
      go_wp2
      go_ret
      exact ⟨by rw [unhide HE]; rfl, rfl⟩
    · by_cases h2 : n < 0
      · have HE := hide (errP_21 (f := f) (n := n) hk (by omega))
        have h1' : 0 ≤ f := by omega
        clear hk
        go_enter Tryz.func93, Tryz.ntmps93
        go_wp2_with fail
        refine (isKey_any key w).mono ?_
        rintro e w1 ⟨rfl, rfl⟩
        rw [hd]
        go_wp2
        go_ret
        exact ⟨by rw [unhide HE]; rfl, rfl⟩
      · have h1' : 0 ≤ f := by omega
        have h2' : 0 ≤ n := by omega
        by_cases h3 : 65536 - n < f
        · have HE := hide (errP_21 (f := f) (n := n) hk (by omega))
          clear hk
          go_enter Tryz.func93, Tryz.ntmps93
          go_wp2_with fail
          refine (isKey_any key w).mono ?_
          rintro e w1 ⟨rfl, rfl⟩
          rw [hd]
          go_wp2
          go_ret
          exact ⟨by rw [unhide HE]; rfl, rfl⟩
        · have HE := hide ((errP_zero (f := f) (n := n)).2 ⟨hk, h1', h2', by omega⟩)
          have h3' : f ≤ 65536 - n := by omega
          clear hk
          go_enter Tryz.func93, Tryz.ntmps93
          go_wp2_with fail
          refine (isKey_any key w).mono ?_
          rintro e w1 ⟨rfl, rfl⟩
          rw [hd]
          go_wp2
          go_ret
          exact ⟨by rw [unhide HE]; rfl, rfl⟩
  · have hd : decide (key.size = 32) = false := by simp [hk]
    have HE := hide (errP_20 (f := f) (n := n) hk)
    clear hk
    go_enter Tryz.func93, Tryz.ntmps93
    go_wp2_with fail
    refine (isKey_any key w).mono ?_
    rintro e w1 ⟨rfl, rfl⟩
    rw [hd]
    go_wp2
    go_ret
    exact ⟨by rw [unhide HE]; rfl, rfl⟩
set_option maxHeartbeats 400000 in
theorem xor_any (key : ByteArray) (f : Int) (s : ByteArray) (hf : I64 f) (hs : s.size ≤ 140737488355328) (w : World) (hK : KTab w) :
    Calls Tryz.prog 69 #[.string key, .int .i64 f, .string s] w fun e w' => e = .returned (.tuple #[.string (xorB key f s), .int .i64 (errP key f s.size)]) ∧ Below w.heap.size w w' := by
  have hn : I64 (s.size : Int) := ⟨by omega, by omega⟩
  by_cases h : errP key f s.size = 0
  · obtain ⟨h1, h2, h3, h4⟩ := errP_zero.1 h
    obtain ⟨F, rfl⟩ := Int.eq_ofNat_of_zero_le h2
    have HS := hide (show xorB key F s = strOfNums (laidP (nums s) (partP (nums key) F s.size)) by rw [xorB, if_pos h]; rfl)
    have HC := hide (partErrno_any key F s.size hf hn w)
    have HP := hide (laidOn_any key F s (by omega) (by omega) w hK)
    have H := hide h
    rw [unhide HS, unhide H]
    clear hf hn h h1 h2 h3 h4 hK
    go_enter Tryz.func69, Tryz.ntmps69
    go_wp2_with fail
    refine (unhide HC).mono ?_
    rintro e w1 ⟨rfl, rfl⟩
    rw [unhide H]
    go_wp2_with fail
    refine (unhide HP).mono ?_
    rintro e w2 ⟨rfl, hB⟩
    have HB := hide hB
    clear hB
    go_wp2
    go_ret2
    exact ⟨rfl, unhide HB⟩
  · have HS := hide (show xorB key f s = ⟨#[]⟩ by rw [xorB, if_neg h])
    have HC := hide (partErrno_any key f s.size hf hn w)
    rw [unhide HS]
    generalize errP key f s.size = E at *
    clear hf hn hK
    go_enter Tryz.func69, Tryz.ntmps69
    go_wp2_with fail
    refine (unhide HC).mono ?_
    rintro e w1 ⟨rfl, rfl⟩
    go_wp2
    go_ret2
    exact ⟨rfl, Below.refl _ _⟩
end Go.Proofs.YtifjmldmilmfjaaGreatDoor

namespace Go.Proofs.YtifjmldmilmfjaaGreatDoor
open Go.RowKit
/-- Block b is this row of cells, of type T, none of them frozen. -/
def Blk (w : World) (b : Nat) (cur : Array Value) (T : TypeId) : Prop := w.heap[b]? = some (.cells cur T (0, 0))
theorem Blk.lt {w : World} {b : Nat} {cur : Array Value} {T : TypeId} (h : Blk w b cur T) : b < w.heap.size := (Array.getElem?_eq_some_iff.1 h).1
theorem Blk.cell {w : World} {b : Nat} {cur : Array Value} {T : TypeId} (h : Blk w b cur T) (j : Nat) : w.cell? ⟨b, j, none⟩ = cur[j]? := by simp [World.cell?, show w.heap[b]? = _ from h]
theorem Blk.frozen {w : World} {b : Nat} {cur : Array Value} {T : TypeId} (h : Blk w b cur T) (j : Nat) : w.frozen? ⟨b, j, none⟩ = false := by simp [World.frozen?, show w.heap[b]? = _ from h]
theorem Blk.new (w : World) (T : TypeId) (cur : Array Value) : Blk (w.alloc (.cells cur T)) w.heap.size cur T := World.alloc_heap_new w _
theorem Blk.kept {w w' : World} {b : Nat} {cur : Array Value} {T : TypeId} (h : Blk w b cur T) (e : w'.heap[b]? = w.heap[b]?) : Blk w' b cur T := e.trans h
theorem Blk.alloc {w : World} {b : Nat} {cur : Array Value} {T : TypeId} (h : Blk w b cur T) (o : Obj) : Blk (w.alloc o) b cur T :=
  h.kept ((World.grownBy_alloc w o none).block b h.lt (by simp))
theorem Blk.set {w : World} {b : Nat} {cur : Array Value} {T : TypeId} (h : Blk w b cur T) (o : Nat) (v : Value) : Blk (w.setCell ⟨b, o, none⟩ v) b (cur.setIfInBounds o v) T := by
  obtain ⟨hlt, hk⟩ := Array.getElem?_eq_some_iff.1 h
  show (w.heap.modify b _)[b]? = _
  rw [Array.getElem?_eq_getElem (by rw [Array.size_modify]; exact hlt), Array.getElem_modify_self, hk]
  rfl
theorem Blk.other {w : World} {b : Nat} {cur : Array Value} {T : TypeId} (h : Blk w b cur T) (a : Addr) (v : Value) (ha : a.block ≠ b) : Blk (w.setCell a v) b cur T :=
  h.kept (Below.heap_setCell _ _ _ _ (fun e => ha e.symm))
theorem Blk.below {w w' : World} {B b : Nat} {cur : Array Value} {T : TypeId} (h : Blk w b cur T) (hb : Below B w w') (hB : b < B) : Blk w' b cur T := h.kept (hb.block b hB)
theorem Blk.not_row {w : World} {b : Nat} {cur : Array Value} {T e : TypeId} (h : Blk w b cur T) (hte : T ≠ e) {base size k : Nat} {v : Value} {xs : List Value} (hr : w.ownsRow base e size v k xs) : v.ownBlock ≠ some b := by
  rcases hr.2 with ⟨rfl, _⟩ | ⟨g, cap, cur', rfl, _, hgb, _⟩
  · simp [Value.ownBlock]
  · intro e'
    obtain rfl : g = b := by simpa [Value.ownBlock] using e'
    have := (show w.heap[g]? = _ from h).symm.trans hgb
    simp at this
    exact hte this.2
/-- From w to w' nothing that lay there has changed but in blocks of P. -/
def Only (P : Nat → Prop) (w w' : World) : Prop := Below 0 w w' ∧ ∀ k, k < w.heap.size → ¬ P k → w'.heap[k]? = w.heap[k]?
theorem Only.refl (P : Nat → Prop) (w : World) : Only P w w := ⟨Below.refl _ _, fun _ _ _ => rfl⟩
theorem Only.trans {P Q : Nat → Prop} {w w1 w2 : World} (h : Only P w w1) (k : Only Q w1 w2) (hq : ∀ k, k < w.heap.size → Q k → P k) : Only P w w2 :=
  ⟨h.1.trans k.1, fun j hj hp => (k.2 j (Nat.lt_of_lt_of_le hj h.1.size) (fun q => hp (hq j hj q))).trans (h.2 j hj hp)⟩
theorem Only.mono {P Q : Nat → Prop} {w w' : World} (h : Only P w w') (hq : ∀ k, k < w.heap.size → P k → Q k) : Only Q w w' := ⟨h.1, fun j hj hp => h.2 j hj (fun q => hp (hq j hj q))⟩
theorem Only.of_below {P : Nat → Prop} {w w' : World} (h : Below w.heap.size w w') : Only P w w' := ⟨h.mono (Nat.zero_le _), fun k hk _ => h.block k hk⟩
theorem Only.below {P : Nat → Prop} {w w' : World} {B : Nat} (h : Only P w w') (hB : B ≤ w.heap.size) (hp : ∀ k, k < B → ¬ P k) : Below B w w' :=
  ⟨h.1.os, h.1.tape, h.1.output, h.1.size, fun k hk => h.2 k (by omega) (hp k hk)⟩
theorem Only.setCell {P : Nat → Prop} {w w' : World} (h : Only P w w') (a : Addr) (v : Value) (ha : a.block < w.heap.size → P a.block) : Only P w (w'.setCell a v) :=
  ⟨h.1.setCell (Nat.zero_le _) v, fun k hk hp => (Below.heap_setCell _ _ _ _ (fun e => by subst e; exact hp (ha hk))).trans (h.2 k hk hp)⟩
theorem Only.alloc {P : Nat → Prop} {w w' : World} (h : Only P w w') (o : Obj) : Only P w (w'.alloc o) :=
  h.trans (Q := fun _ => False) ⟨(Below.refl 0 w').alloc (Nat.zero_le _) o, fun k hk _ => (World.grownBy_alloc w' o none).block k hk (by simp)⟩ (fun _ _ q => q.elim)
theorem Only.drew {P : Nat → Prop} {w w' : World} (h : Only P w w') : Only P w w'.drew := ⟨h.1.drew, h.2⟩
theorem Only.drewN {P : Nat → Prop} {w w' : World} (h : Only P w w') (n : Nat) : Only P w (w'.drewN n) := ⟨below_drewN h.1 n, h.2⟩
theorem Only.grown {P : Nat → Prop} {w w1 w2 : World} {row : Option Nat} (h : Only P w w1) (hg : w1.grownBy w2 row) (hr : ∀ k, k < w.heap.size → row = some k → P k) : Only P w w2 :=
  h.trans (Q := fun k => row = some k) ⟨⟨hg.os, hg.tape, hg.output, hg.size, fun k hk => absurd hk (Nat.not_lt_zero k)⟩, fun k hk hn => hg.block k hk (fun e => hn e.symm)⟩ hr
theorem Only.size {P : Nat → Prop} {w w' : World} (h : Only P w w') : w.heap.size ≤ w'.heap.size := h.1.size
theorem Blk.only {w w' : World} {b : Nat} {cur : Array Value} {T : TypeId} {P : Nat → Prop} (h : Blk w b cur T) (ho : Only P w w') (hp : ¬ P b) : Blk w' b cur T := h.kept (ho.2 b h.lt hp)
theorem Arr.only {w w' : World} {c o : Nat} {k : IntKind} {l : List Int} {P : Nat → Prop} (h : Arr w c o k l) (ho : Only P w w') (hp : ¬ P c) (hc : c < w.heap.size) : Arr w' c o k l := by
  intro j hj
  have e := ho.2 c hc hp
  rw [World.cell?_of_block (a := ⟨c, o + j, none⟩) e, World.frozen?_of_block (a := ⟨c, o + j, none⟩) e]
  exact h j hj
theorem owns_only {w w' : World} {base : Nat} {e : TypeId} {size n : Nat} {v : Value} {xs : List Value} {P : Nat → Prop} (h : w.ownsRow base e size v n xs) (ho : Only P w w') (hp : ∀ k, v.ownBlock = some k → ¬ P k) : w'.ownsRow base e size v n xs := by
  refine ⟨h.1, ?_⟩
  rcases h.2 with hn | ⟨g, cap, cur, rfl, hb, hg, rest⟩
  · exact .inl hn
  · exact .inr ⟨g, cap, cur, rfl, hb, (ho.2 g (Array.getElem?_eq_some_iff.1 hg).1 (hp g rfl)).trans hg, rest⟩
/-- Appending nothing. -/
theorem run_append_none (w : World) (p q : Option Addr) (n c c' : Nat) (hn : n ≤ c) (ty : TypeId) :
    (Builtin.append_ #[86, 86] ty #[.slice p n c, .slice q 0 c']).run Tryz.prog w = .ok (.slice p n c) w := by
  obtain ⟨i0, hi, hz0, hz1, hz2⟩ := info_parts info5
  have hl : ∀ a, (loadCells a 0).run Tryz.prog w = .ok #[] w := fun a => rfl
  cases p <;> cases q <;> simp [hl, Builtin.append_, run_underlying Tryz.underlying86, sizeOf, typeInfo, hi, hz1, Builtin.lenOf, hn, Builtin.firstCells, storeCells, Result.andThen]
end Go.Proofs.YtifjmldmilmfjaaGreatDoor

namespace Go.Proofs.YtifjmldmilmfjaaGreatDoor
open Go.RowKit
/-- At block b lies a Writer, whose row is v: the bytes l; what was wrong first is e. -/
def Wtr (w : World) (base b : Nat) (v : Value) (l : List Int) (e : Int) : Prop :=
  Blk w b #[v, .int .i64 e] 141 ∧ w.ownsRow base 5 1 v l.length (l.map (Value.int .u8)) ∧ base ≤ b
/-- The blocks of a Writer. -/
def Fp (b : Nat) (v : Value) (k : Nat) : Prop := k = b ∨ v.ownBlock = some k
/-- Behind a call of the Writer at b, whose row was v. -/
def WPost (base b : Nat) (v : Value) (l : List Int) (e : Int) (w w' : World) : Prop :=
  ∃ v', Wtr w' base b v' l e ∧ Only (Fp b v) w w' ∧ ∀ k, v'.ownBlock = some k → v.ownBlock = some k ∨ w.heap.size ≤ k
theorem Wtr.lt {w : World} {base b : Nat} {v : Value} {l : List Int} {e : Int} (h : Wtr w base b v l e) : b < w.heap.size := h.1.lt
theorem Wtr.form {w : World} {base b : Nat} {v : Value} {l : List Int} {e : Int} (h : Wtr w base b v l e) : ∃ p cap, v = .slice p l.length cap ∧ l.length ≤ cap := by
  rcases h.2.1.2 with ⟨h1, h2⟩ | ⟨g, cap, cur, h1, _, _, h3, _⟩
  · exact ⟨none, 0, by rw [h1, h2], by omega⟩
  · exact ⟨_, cap, h1, h3⟩
theorem Wtr.apart {w : World} {base b : Nat} {v : Value} {l : List Int} {e : Int} (h : Wtr w base b v l e) : v.ownBlock ≠ some b := h.1.not_row (by decide) h.2.1
theorem Wtr.only {w w' : World} {base b : Nat} {v : Value} {l : List Int} {e : Int} {P : Nat → Prop} (h : Wtr w base b v l e) (ho : Only P w w') (hp : ∀ k, Fp b v k → ¬ P k) : Wtr w' base b v l e :=
  ⟨h.1.only ho (hp b (.inl rfl)), owns_only h.2.1 ho (fun k hk => hp k (.inr hk)), h.2.2⟩
theorem WPost.refl {w : World} {base b : Nat} {v : Value} {l : List Int} {e : Int} (h : Wtr w base b v l e) : WPost base b v l e w w := ⟨v, h, Only.refl _ _, fun _ hk => .inl hk⟩
theorem WPost.trans {w w1 w2 : World} {base b : Nat} {v v1 : Value} {l2 : List Int} {e2 : Int} (h : Only (Fp b v) w w1) (hv : ∀ k, v1.ownBlock = some k → v.ownBlock = some k ∨ w.heap.size ≤ k)
    (h2 : WPost base b v1 l2 e2 w1 w2) : WPost base b v l2 e2 w w2 := by
  obtain ⟨v2, a, o, q⟩ := h2
  refine ⟨v2, a, h.trans o (fun k hk hf => ?_), fun k hk => ?_⟩
  · rcases hf with rfl | hf
    · exact .inl rfl
    · rcases hv k hf with h3 | h3
      · exact .inr h3
      · omega
  · rcases q k hk with h3 | h3
    · exact hv k h3
    · exact .inr (Nat.le_trans h.size h3)
theorem wpList_append_none {ops : Array Oper} {rest : List Oper} {op : Oper} {a : Act} {w : World} {Q : Exit → Act → World → Prop} (hgd : op.guard = none) (d x : Operand) (hop : op.op = Op.call { callee := Callee.builtin Builtin.append, args := #[d, x], argTypes := #[86, 86] })
    (p q : Option Addr) (n c c' : Nat) (hd : a.eval d = .slice p n c) (hx : a.eval x = .slice q 0 c') (hn : n ≤ c) (h : wpList Tryz.prog ops Q rest (a.put op.dst (.slice p n c)) w) : wpList Tryz.prog ops Q (op :: rest) a w := by
  refine wpList_plain hgd fun K hK => ?_
  have hrun := run_append_none w p q n c c' hn op.type
  unfold Oper.wp
  simp only [execOp, hop]
  simp [resolve, invoke, builtin, hd, hx, hrun, Result.andThen]
  exact hK _ _ h
set_option maxHeartbeats 400000 in
theorem newWriter_any (w : World) :
    Calls Tryz.prog 66 #[] w fun e w' => e = .returned (.pointer (some ⟨w.heap.size, 0, none⟩)) ∧ Wtr w' w.heap.size w.heap.size (.slice none 0 0) [] 0 ∧ Below w.heap.size w w' ∧ w'.heap.size = w.heap.size + 1 := by
  go_enter Tryz.func66, Tryz.ntmps66
  go_wp2
  go_ret
  exact ⟨rfl, ⟨Blk.new _ _ _, World.ownsRow_nil _ _ _ _, Nat.le_refl _⟩, (Below.refl _ _).alloc (Nat.le_refl _) _, by simp⟩
set_option maxRecDepth 100000 in
set_option maxHeartbeats 1000000 in
theorem lay_any (w : World) (base b : Nat) (v : Value) (l : List Int) (e : Int) (h : Wtr w base b v l e) (hb : base ≤ w.heap.size) (ad : Addr) (m c : Nat) (news : List Int) (hl : news.length = m)
    (hn : ∀ j, j < m → w.cell? (ad.add j) = some (.int .u8 (news.getD j 0))) (hsz : l.length + m ≤ 140737488355328) :
    Calls Tryz.prog 92 #[.pointer (some ⟨b, 0, none⟩), .slice (some ad) m c] w fun ev w' => ev = .returned (.tuple #[]) ∧ WPost base b v (if e = 0 then l ++ news else l) e w w' := by
  obtain ⟨p, cap, rfl, hcap⟩ := h.form
  have c0 : w.cell? ⟨b, 0, none⟩ = some (.slice p l.length cap) := by rw [h.1.cell 0]; rfl
  have c1 : w.cell? ⟨b, 1, none⟩ = some (.int .i64 e) := by rw [h.1.cell 1]; rfl
  have f0 := h.1.frozen 0
  have HW := hide h
  have HP := hide h.apart
  by_cases he : e = 0
  · subst he
    rw [if_pos rfl]
    by_cases hm : m = 0
    · subst hm
      obtain rfl : news = [] := List.eq_nil_of_length_eq_zero hl
      rw [List.append_nil]
      clear h hn
      go_enter Tryz.func92, Tryz.ntmps92
      go_wp2_with (refine wpList_append_none rfl (.tmp 13) (.tmp 14) rfl p (some ad) l.length cap c rfl rfl hcap ?_)
      go_end0
      refine ⟨rfl, .slice p l.length cap, ⟨(unhide HW).1.set 0 _, owns_only (unhide HW).2.1 ((Only.refl (fun k => k = b) w).setCell _ _ (fun _ => rfl)) (fun k hk hkb => unhide HP (hkb ▸ hk)), (unhide HW).2.2⟩, (Only.refl _ w).setCell _ _ (fun _ => .inl rfl), fun k hk => .inl hk⟩
    · obtain ⟨i0, hi, hz0, hz1, hz2⟩ := info_parts info5
      have HN := hide hn
      have HI := hide (And.intro hi (And.intro hz0 (And.intro hz1 hz2)))
      clear h hn hi hz0 hz1 hz2
      go_enter Tryz.func92, Tryz.ntmps92
      go_wp2_with (refine wpList_append_lies w rfl (.tmp 13) (.tmp 14) 86 rfl base 5 i0 (.int .u8 0) 1 1 Tryz.underlying86 (unhide HI).1 (unhide HI).2.1 (unhide HI).2.2.1 (unhide HI).2.2.2 rfl (by decide) _ l.length (l.map (Value.int .u8)) rfl (unhide HW).2.1 ad m c (news.map (Value.int .u8)) rfl (by simp [hl]) ?_ (by simp [Value.oneCell']) (by omega) (by unfold maxLen; omega) (by omega) hb w.heap.size rfl ?_)
      · intro j u hu
        rw [List.getElem?_map] at hu
        cases hq : news[j]? with
        | none => simp [hq] at hu
        | some x =>
          obtain ⟨hj, ex⟩ := List.getElem?_eq_some_iff.1 hq
          rw [hq] at hu
          simp at hu
          rw [unhide HN j (by omega), ← hu]
          simp [hq]
      · intro g cap' w1 ho hg hor hlt
        have B1 : Blk w1 b #[.slice p l.length cap, .int .i64 0] 141 := (unhide HW).1.kept (hg.block b (unhide HW).lt (fun e => unhide HP e.symm))
        have d0 : w1.cell? ⟨b, 0, none⟩ = some (.slice p l.length cap) := by rw [B1.cell 0]; rfl
        have f0' := B1.frozen 0
        have HO := hide ho
        have HG := hide hg
        have HB1 := hide B1
        have HOR := hide hor
        clear ho hg B1 hor
        go_wp2
        go_end0
        have ho := unhide HO
        have hgb : g ≠ b := fun e => by
          subst e
          exact (unhide HB1).not_row (by decide) ho rfl
        have hO1 : Only (Fp b (.slice p l.length cap)) w w1 := (Only.refl _ w).grown (unhide HG) (fun k _ e => .inr e)
        refine ⟨rfl, .slice (some ⟨g, 0, none⟩) (l.length + m) cap', ⟨(unhide HB1).set 0 _, ?_, (unhide HW).2.2⟩, hO1.setCell _ _ (fun _ => .inl rfl), fun k hk => ?_⟩
        · have := owns_only ho ((Only.refl (fun k => k = b) w1).setCell ⟨b, 0, none⟩ (.slice (some ⟨g, 0, none⟩) (l.length + m) cap') (fun _ => rfl)) (fun k hk hkb => hgb (by rw [← hkb]; simpa [Value.ownBlock] using hk))
          simpa [hl] using this
        · obtain rfl : g = k := by simpa [Value.ownBlock] using hk
          rcases unhide HOR with h | h
          · exact .inl h
          · exact .inr (by omega)
  · rw [if_neg he]
    clear h hn
    have hne : (e == 0) = false := by simp [he]
    go_enter Tryz.func92, Tryz.ntmps92
    go_wp2
    go_end0
    exact ⟨rfl, WPost.refl (unhide HW)⟩
set_option maxRecDepth 100000 in
set_option maxHeartbeats 1000000 in
theorem refuse_any (w : World) (base b : Nat) (v : Value) (l : List Int) (e : Int) (h : Wtr w base b v l e) (x : Int) :
    Calls Tryz.prog 90 #[.pointer (some ⟨b, 0, none⟩), .int .i64 x] w fun ev w' => ev = .returned (.tuple #[]) ∧ WPost base b v (if e = 0 then [] else l) (if e = 0 then x else e) w w' := by
  obtain ⟨p, cap, rfl, hcap⟩ := h.form
  have c0 : w.cell? ⟨b, 0, none⟩ = some (.slice p l.length cap) := by rw [h.1.cell 0]; rfl
  have c1 : w.cell? ⟨b, 1, none⟩ = some (.int .i64 e) := by rw [h.1.cell 1]; rfl
  have f0 := h.1.frozen 0
  have f1 := h.1.frozen 1
  have HW := hide h
  by_cases he : e = 0
  · subst he
    rw [if_pos rfl, if_pos rfl]
    clear h
    go_enter Tryz.func90, Tryz.ntmps90
    go_wp2
    go_end0
    exact ⟨rfl, .slice none 0 0, ⟨((unhide HW).1.set 0 _).set 1 _, World.ownsRow_nil _ _ _ _, (unhide HW).2.2⟩, ((Only.refl _ w).setCell _ _ (fun _ => .inl rfl)).setCell _ _ (fun _ => .inl rfl), fun k hk => by cases hk⟩
  · rw [if_neg he, if_neg he]
    clear h
    have hne : (e == 0) = false := by simp [he]
    go_enter Tryz.func90, Tryz.ntmps90
    go_wp2
    go_end0
    exact ⟨rfl, WPost.refl (unhide HW)⟩
end Go.Proofs.YtifjmldmilmfjaaGreatDoor

namespace Go.Proofs.YtifjmldmilmfjaaGreatDoor
open Go.RowKit
theorem numB_take (v : Int) (size j : Nat) (h : j < size) : (numB v size).take (j + 1) = (numB v size).take j ++ [v / 2 ^ (8 * (size - 1 - j)) % 256] := by
  have hl : j < (numB v size).length := by rw [numB_len]; exact h
  rw [List.take_add_one, List.getElem?_eq_getElem hl]
  simp [numB]
theorem numB_all (v : Int) (size : Nat) : (numB v size).take size = numB v size := List.take_of_length_le (by rw [numB_len]; exact Nat.le_refl _)
/-- May a number stand in so many bytes? -/
def fitsP (n : Int) (k : Nat) : Prop := 0 ≤ n ∧ n / 2 ^ (8 * k) = 0
instance (n : Int) (k : Nat) : Decidable (fitsP n k) := inferInstanceAs (Decidable (_ ∧ _))
def errN (bytes : Int) (L : List Int) : Int := if bytes < 1 ∨ 8 < bytes then 1 else if ∀ n ∈ L, fitsP n bytes.toNat then 0 else 30
def outN (k : Nat) (L : List Int) : List Int := L.flatMap (fun n => numB n k)
theorem outN_len (k : Nat) (L : List Int) : (outN k L).length = k * L.length := by
  induction L with
  | nil => simp [outN]
  | cons x L ih => simp [outN, numB_len] at *; rw [ih]; grind
theorem outN_snoc (k : Nat) (L : List Int) (i : Nat) (hi : i < L.length) : outN k (L.take (i + 1)) = outN k (L.take i) ++ numB (L.getD i 0) k := by
  rw [List.take_add_one, List.getElem?_eq_getElem hi, List.getD_eq_getElem?_getD, List.getElem?_eq_getElem hi]
  show (L.take i ++ [L[i]]).flatMap _ = _
  rw [List.flatMap_append]
  simp [outN]
/-- The row and the first fault behind a call that lays 'out' down, or with which 'err' is wrong. -/
def wl (l : List Int) (e err : Int) (out : List Int) : List Int := if e = 0 then (if err = 0 then l ++ out else []) else l
def we (e err : Int) : Int := if e = 0 then err else e
theorem wl_ok (l : List Int) (e : Int) (out : List Int) : wl l e 0 out = if e = 0 then l ++ out else l := by simp [wl]
theorem wl_two (l : List Int) (e : Int) (o1 o2 : List Int) : wl (wl l e 0 o1) e 0 o2 = wl l e 0 (o1 ++ o2) := by
  by_cases h : e = 0 <;> simp [wl, h]
theorem wl_nil (l : List Int) (e : Int) : wl l e 0 [] = l := by simp [wl]
theorem wl_len (l : List Int) (e : Int) (out : List Int) : (wl l e 0 out).length ≤ l.length + out.length := by
  by_cases h : e = 0 <;> simp [wl, h]
theorem we_ok (e : Int) : we e 0 = e := by unfold we; split <;> omega
theorem wl_bad (l : List Int) (e err : Int) (o1 o2 : List Int) (h : err ≠ 0) : (if e = 0 then [] else wl l e 0 o1) = wl l e err o2 := by
  by_cases he : e = 0 <;> simp [wl, he, h]
end Go.Proofs.YtifjmldmilmfjaaGreatDoor

namespace Go.Proofs.YtifjmldmilmfjaaGreatDoor
open Go.RowKit
set_option maxHeartbeats 400000 in
theorem isWidth_any (n : Int) (w : World) : Calls Tryz.prog 74 #[.int .i64 n] w fun e w' => e = .returned (.bool (decide (1 ≤ n ∧ n ≤ 8))) ∧ w' = w := by
  by_cases h : 1 ≤ n
  · by_cases h8 : n ≤ 8
    · have hd : decide (1 ≤ n ∧ n ≤ 8) = true := decide_eq_true ⟨h, h8⟩
      rw [hd]
      go_enter Tryz.func74, Tryz.ntmps74
      go_wp2
      go_ret
      exact ⟨rfl, rfl⟩
    · have hd : decide (1 ≤ n ∧ n ≤ 8) = false := decide_eq_false (fun q => h8 q.2)
      rw [hd]
      go_enter Tryz.func74, Tryz.ntmps74
      go_wp2
      go_ret
      exact ⟨rfl, rfl⟩
  · have hd : decide (1 ≤ n ∧ n ≤ 8) = false := decide_eq_false (fun q => h q.1)
    rw [hd]
    go_enter Tryz.func74, Tryz.ntmps74
    go_wp2
    go_ret
    exact ⟨rfl, rfl⟩
set_option maxHeartbeats 400000 in
theorem fits_any (n : Int) (k : Nat) (hk : k ≤ 8) (w : World) : Calls Tryz.prog 91 #[.int .i64 n, .int .i64 (k : Int)] w fun e w' => e = .returned (.bool (decide (fitsP n k))) ∧ w' = w := by
  by_cases h : 0 ≤ n
  · obtain ⟨q, hq⟩ : ∃ q, n / 2 ^ (8 * k) = q := ⟨_, rfl⟩
    have ht : (8 * (k : Int)).toNat = 8 * k := by omega
    have hd : decide (fitsP n k) = (q == 0) := by
      rw [show (q == 0) = decide (q = 0) from rfl]
      apply decide_eq_decide.2
      rw [← hq]
      exact ⟨fun x => x.2, fun x => ⟨h, x⟩⟩
    rw [hd]
    clear hd
    have h2 : 8 * (k : Int) ≤ 64 := by omega
    go_enter Tryz.func91, Tryz.ntmps91
    go_wp2
    go_ret
    exact ⟨by rw [← hq]; rfl, rfl⟩
  · have hd : decide (fitsP n k) = false := decide_eq_false (fun q => h q.1)
    rw [hd]
    go_enter Tryz.func91, Tryz.ntmps91
    go_wp2
    go_ret
    exact ⟨rfl, rfl⟩
/-- One byte more, behind what was done since w. -/
theorem lay1 {w wr : World} {base b : Nat} {v : Value} {l : List Int} {e : Int} (h : WPost base b v l e w wr) (hb : base ≤ w.heap.size) (x : Int) (T : TypeId) (hsz : l.length + 1 ≤ 140737488355328) :
    Calls Tryz.prog 92 #[.pointer (some ⟨b, 0, none⟩), .slice (some ⟨wr.heap.size, 0, none⟩) 1 1] (wr.alloc (Obj.cells #[.int .u8 x] T)) fun ev w' => ev = .returned (.tuple #[]) ∧ WPost base b v (wl l e 0 [x]) e w w' := by
  obtain ⟨v1, h1, h2, h3⟩ := h
  have hA := (Only.refl (fun _ => False) wr).alloc (Obj.cells #[.int .u8 x] T)
  have hsw := h2.size
  refine (lay_any (wr.alloc (Obj.cells #[.int .u8 x] T)) base b v1 l e (h1.only hA (fun _ _ q => q)) (by simp; omega) ⟨wr.heap.size, 0, none⟩ 1 1 [x] rfl (fun j hj => ?_) hsz).mono ?_
  · obtain rfl : j = 0 := by omega
    simp [Addr.add]
  · rintro ev w' ⟨rfl, hp⟩
    refine ⟨rfl, ?_⟩
    rw [wl_ok]
    exact WPost.trans (h2.alloc _) h3 hp
end Go.Proofs.YtifjmldmilmfjaaGreatDoor

namespace Go.Proofs.YtifjmldmilmfjaaGreatDoor
open Go.RowKit
theorem refuseP {w wr : World} {base b : Nat} {v : Value} {l : List Int} {e : Int} (h : WPost base b v l e w wr) (x : Int) :
    Calls Tryz.prog 90 #[.pointer (some ⟨b, 0, none⟩), .int .i64 x] wr fun ev w' => ev = .returned (.tuple #[]) ∧ WPost base b v (if e = 0 then [] else l) (if e = 0 then x else e) w w' := by
  obtain ⟨v1, h1, h2, h3⟩ := h
  exact (refuse_any wr base b v1 l e h1 x).mono (by rintro ev w' ⟨rfl, hp⟩; exact ⟨rfl, WPost.trans h2 h3 hp⟩)
set_option maxRecDepth 100000 in
set_option maxHeartbeats 2000000 in
theorem num_any (w : World) (base b : Nat) (v : Value) (l : List Int) (e : Int) (h : Wtr w base b v l e) (hb : base ≤ w.heap.size) (bytes : Int) (L : List Int) (p : Option Addr) (cap : Nat)
    (hp : L = [] ∨ ∃ lb lo, p = some ⟨lb, lo, none⟩ ∧ lb < w.heap.size ∧ ¬ Fp b v lb ∧ ∀ j, j < L.length → w.cell? ⟨lb, lo + j, none⟩ = some (.int .i64 (L.getD j 0)))
    (hsz : l.length + 8 * L.length ≤ 140737488355328) :
    Calls Tryz.prog 67 #[.pointer (some ⟨b, 0, none⟩), .int .i64 bytes, .slice p L.length cap] w fun ev w' => ev = .returned (.tuple #[]) ∧ WPost base b v (wl l e (errN bytes L) (outN bytes.toNat L)) (we e (errN bytes L)) w w' := by
  by_cases hw : 1 ≤ bytes ∧ bytes ≤ 8
  · obtain ⟨k, rfl⟩ := Int.eq_ofNat_of_zero_le (show 0 ≤ bytes by omega)
    have HW := hide (fun W => isWidth_any (k : Int) W)
    rw [decide_eq_true hw] at HW
    obtain ⟨hk1, hk8⟩ := hw
    have hE : errN (k : Int) L = if ∀ n ∈ L, fitsP n k then 0 else 30 := by rw [errN, if_neg (by omega), Int.toNat_natCast]
    rw [Int.toNat_natCast]
    have HS := hide (show WPost base b v (wl l e 0 (outN k (L.take 0))) e w w by
      rw [List.take_zero, show outN k [] = [] from rfl, wl_nil]
      exact WPost.refl h)
    have HE := hide hE
    clear hE h
    have hk1' : 1 ≤ k := by omega
    have hk8' : k ≤ 8 := by omega
    clear hk1 hk8
    have HPT := hide hp
    clear hp
    generalize errN (k : Int) L = E at *
    go_enter Tryz.func67, Tryz.ntmps67
    go_wp2_with (go_at_call 74; refine (unhide HW _).mono ?_; rintro ev w' ⟨rfl, rfl⟩)
    go_loopw [16] (fun u wr => ∃ i : Nat, i ≤ L.length ∧ u = .int .i64 (i : Int) ∧ (∀ n ∈ L.take i, fitsP n k) ∧ WPost base b v (wl l e 0 (outN k (L.take i))) e w' wr) (fun u _ => L.length - (intOf u).toNat)
    case atStart => exact ⟨0, by omega, rfl, fun n hn => by simp at hn, unhide HS⟩
    case round =>
      obtain ⟨i, hi, rfl, hall, hP⟩ := hrel
      have HP := hide hP
      have HA := hide hall
      clear hP hall HS HW
      obtain ⟨wo, rfl⟩ : ∃ wo, wo = wr := ⟨_, rfl⟩
      by_cases hiL : i < L.length
      · have hlen : (wl l e 0 (outN k (L.take i))).length + k ≤ 140737488355328 := by
          have h1 := wl_len l e (outN k (L.take i))
          rw [outN_len, List.length_take, Nat.min_eq_left (by omega)] at h1
          have h2 : k * i + k ≤ 8 * L.length := by
            have : k * (i + 1) ≤ 8 * L.length := Nat.mul_le_mul hk8' hiL
            rw [Nat.mul_succ] at this
            exact this
          omega
        obtain ⟨lb, lo, rfl, hlb, hfp, hc⟩ : ∃ lb lo, p = some ⟨lb, lo, none⟩ ∧ lb < w'.heap.size ∧ ¬ Fp b v lb ∧ ∀ j, j < L.length → w'.cell? ⟨lb, lo + j, none⟩ = some (.int .i64 (L.getD j 0)) := by
          rcases unhide HPT with h | h
          · subst h; simp at hiL
          · exact h
        have c1 : wo.cell? ⟨lb, lo + i, none⟩ = some (.int .i64 (L.getD i 0)) := by
          obtain ⟨v1, _, h2, _⟩ := unhide HP
          rw [World.cell?_of_block (w := w') (a := ⟨lb, lo + i, none⟩) (h2.2 lb hlb hfp)]
          exact hc i hiL
        have HN := hide (outN_snoc k L i hiL)
        have hmem : L.getD i 0 ∈ L := by
          rw [List.getD_eq_getElem?_getD, List.getElem?_eq_getElem hiL]
          exact List.getElem_mem _
        have HM := hide hmem
        have HT : Hid (L.take (i + 1) = L.take i ++ [L.getD i 0]) := hide (by rw [List.take_add_one, List.getElem?_eq_getElem hiL, List.getD_eq_getElem?_getD, List.getElem?_eq_getElem hiL]; rfl)
        clear hc hmem
        generalize L.getD i 0 = n at *
        have HF := hide (fun W => fits_any n k hk8' W)
        by_cases hf : fitsP n k
        · rw [decide_eq_true hf] at HF
          go_wp2_with (go_at_call 91; refine (unhide HF _).mono ?_; rintro ev w1 ⟨rfl, rfl⟩)
          clear c1 HF
          go_loopw [8] (fun u wr => ∃ q j : Nat, q + j = k ∧ u = .int .i64 ((q : Int) - 1) ∧ WPost base b v (wl l e 0 (outN k (L.take i) ++ (numB n k).take j)) e w' wr) (fun u _ => ((intOf u) + 1).toNat)
          case atStart => exact ⟨k, 0, by omega, rfl, by rw [List.take_zero, List.append_nil]; exact unhide HP⟩
          case round =>
            obtain ⟨q, j, hqj, rfl, hP2⟩ := hrel
            have HP2 := hide hP2
            clear hP2 HP
            cases q with
            | zero =>
              have hj : j = k := by omega
              subst hj
              go_wp2
              go_roundw
              case rel => exact ⟨i + 1, by omega, by go_num, fun x hx => by
                rw [unhide HT] at hx
                rcases List.mem_append.1 hx with h | h
                · exact unhide HA x h
                · rw [List.mem_singleton.1 h]; exact hf, by rw [unhide HN, ← numB_all n j]; exact unhide HP2⟩
              case measure => simp [intOf]; omega
            | succ q =>
              have hq1 : ((q + 1 : Nat) : Int) - 1 = (q : Int) := by omega
              rw [hq1]
              have ht : (8 * (q : Int)).toNat = 8 * q := by omega
              have h64 : 8 * (q : Int) ≤ 64 := by omega
              have hl2 : (wl l e 0 (outN k (L.take i) ++ (numB n k).take j)).length + 1 ≤ 140737488355328 := by
                have h1 := wl_len (wl l e 0 (outN k (L.take i))) e ((numB n k).take j)
                rw [wl_two] at h1
                have h2 : ((numB n k).take j).length ≤ j := by simp; omega
                omega
              have HX := hide (numB_take n k j (by omega))
              rw [show k - 1 - j = q by omega] at HX
              have hq8 : q ≤ 8 := by omega
              clear hq1
              go_wp2_with (go_at_call 92; refine (lay1 (unhide HP2) (by assumption) _ _ hl2).mono ?_; rintro ev w2 ⟨rfl, hP3⟩; have HP3 := hide hP3; clear hP3)
              go_roundw
              case rel => exact ⟨q, j + 1, by omega, by go_num, by rw [unhide HX, ← List.append_assoc, ← wl_two]; exact unhide HP3⟩
              case measure => simp [intOf]
        · rw [decide_eq_false hf] at HF
          have hEE : E = 30 := by rw [unhide HE, if_neg (fun q => hf (q n (unhide HM)))]
          go_wp2_with (first | (go_at_call 91; refine (unhide HF _).mono ?_; rintro ev w1 ⟨rfl, rfl⟩) | (go_at_call 90; refine (refuseP (unhide HP) 30).mono ?_; rintro ev w2 ⟨rfl, hP3⟩; have HP3 := hide hP3; clear hP3))
          (try simp only [Exit.inBlock, Exit.then])
          refine bodyPost_ret (results_none rfl _ _ _) rfl ⟨rfl, ?_⟩
          rw [← wl_bad l e E (outN k (L.take i)) _ (by omega), we, hEE]
          exact unhide HP3
      · have hEE : E = 0 := by
          rw [unhide HE, if_pos (fun n hn => unhide HA n (by rw [List.take_of_length_le (by omega)]; exact hn))]
        have HPE : Hid (WPost base b v (wl l e E (outN k L)) (we e E) w' wo) := hide (by
          have := unhide HP
          rw [List.take_of_length_le (by omega)] at this
          rw [hEE, we_ok]
          exact this)
        clear hEE
        go_wp2
        go_end0
        exact ⟨rfl, unhide HPE⟩
  · have HW := hide (fun W => isWidth_any bytes W)
    rw [decide_eq_false hw] at HW
    have hE : errN bytes L = 1 := by rw [errN, if_pos (by omega)]
    rw [hE]
    have HR := hide (refuse_any w base b v l e h 1)
    have e1 : (if e = 0 then [] else l) = wl l e 1 (outN bytes.toNat L) := by simp [wl]
    have e2 : (if e = 0 then (1 : Int) else e) = we e 1 := rfl
    rw [e1, e2] at HR
    generalize wl l e 1 (outN bytes.toNat L) = X at *
    generalize we e 1 = Y at *
    clear h hp hE e1 e2
    go_enter Tryz.func67, Tryz.ntmps67
    go_wp2_with (first | (go_at_call 74; refine (unhide HW _).mono ?_; rintro ev w1 ⟨rfl, rfl⟩) | (go_at_call 90; refine (unhide HR).mono ?_; rintro ev w2 ⟨rfl, hP3⟩; have HP3 := hide hP3; clear hP3))
    (try simp only [Exit.inBlock, Exit.then])
    exact bodyPost_ret (results_none rfl _ _ _) rfl ⟨rfl, unhide HP3⟩
end Go.Proofs.YtifjmldmilmfjaaGreatDoor

namespace Go.Proofs.YtifjmldmilmfjaaGreatDoor
open Go.RowKit
theorem Arr.of_owns {w : World} {base g cap n : Nat} {l : List Int} (h : w.ownsRow base 5 1 (.slice (some ⟨g, 0, none⟩) n cap) l.length (l.map (Value.int .u8))) : Arr w g 0 .u8 l := by
  intro j hj
  rcases h.2 with ⟨h1, _⟩ | ⟨g', cap', cur, h1, _, hh, hn, _, hs, hx⟩
  · cases h1
  · obtain ⟨rfl, rfl, rfl⟩ : g = g' ∧ n = l.length ∧ cap = cap' := by simpa using h1
    rw [Nat.mul_one] at hs hx
    rw [Nat.zero_add, cell_of_row w g j cur 5 (0, 0) hh]
    refine ⟨?_, by simp [World.frozen?, hh]⟩
    have e : cur.toList[j]? = (l.map (Value.int .u8))[j]? := by rw [← hx, List.getElem?_take, if_pos hj]
    rw [← Array.getElem?_toList, e]
    simp [hj]
set_option maxRecDepth 100000 in
set_option maxHeartbeats 1000000 in
theorem done_any (w : World) (base b : Nat) (v : Value) (l : List Int) (e : Int) (h : Wtr w base b v l e) :
    Calls Tryz.prog 68 #[.pointer (some ⟨b, 0, none⟩)] w fun ev w' => ev = .returned (.tuple #[.string (strOfNums l), .int .i64 e]) ∧ Below w.heap.size w w' := by
  have hcv : ∃ p cap, v = .slice p l.length cap ∧ (convert 86 9 (.slice p l.length cap)).run Tryz.prog w.drew = .ok (.string (strOfNums l)) w.drew := by
    rcases h.2.1.2 with ⟨h1, h2⟩ | ⟨g, cap, cur, h1, _, hh, hn, _, hs, hx⟩
    · obtain rfl : l = [] := List.eq_nil_of_length_eq_zero h2
      exact ⟨none, 0, h1, run_convert_bytes_nil (P := Tryz.prog) w.drew 86 5 Tryz.underlying86 Tryz.underlying5 0 0 9 Tryz.underlying9⟩
    · subst h1
      have hA : Arr w g 0 .u8 l := Arr.of_owns h.2.1
      exact ⟨some ⟨g, 0, none⟩, cap, rfl, run_convert_bytes_arg (P := Tryz.prog) w.drew 86 5 Tryz.underlying86 Tryz.underlying5 g 0 l.length cap l rfl (fun i hi => hA.get i hi) 9 Tryz.underlying9⟩
  obtain ⟨p, cap, rfl, hcv⟩ := hcv
  have c0 : w.cell? ⟨b, 0, none⟩ = some (.slice p l.length cap) := by rw [h.1.cell 0]; rfl
  have c1 : w.cell? ⟨b, 1, none⟩ = some (.int .i64 e) := by rw [h.1.cell 1]; rfl
  clear h
  generalize strOfNums l = S at *
  go_enter Tryz.func68, Tryz.ntmps68
  go_wp2
  go_region
  all_goals (try go_wp2)
  all_goals (go_ret2; exact ⟨rfl, (Below.refl _ _).drew⟩)
end Go.Proofs.YtifjmldmilmfjaaGreatDoor
