import Derived.Test.YtpjoibolhkgkhaaGreatDoorBlk
namespace Go.Proofs.YtpjoibolhkgkhaaGreatDoor
open Go.RowKit
/-- At block b lies a Writer, whose row is v: the bytes l; what was wrong first is e. -/
def Wtr (w : World) (base b : Nat) (v : Value) (l : List Int) (e : Int) : Prop :=
  Blk w b #[v, .int .i64 e] 96 ∧ w.ownsRow base 5 1 v l.length (l.map (Value.int .u8)) ∧ base ≤ b
/-- The blocks of a Writer. -/
def Fp (b : Nat) (v : Value) (k : Nat) : Prop := k = b ∨ v.ownBlock = some k
/-- Behind a call of the Writer at b, whose row was v. -/
def WPost (base b : Nat) (v : Value) (l : List Int) (e : Int) (w w' : World) : Prop :=
  ∃ v', Wtr w' base b v' l e ∧ Only (Fp b v) w w' ∧ ∀ k, v'.ownBlock = some k → v.ownBlock = some k ∨ w.heap.size ≤ k
theorem Wtr.lt {w : World} {base b : Nat} {v : Value} {l : List Int} {e : Int} (h : Wtr w base b v l e) : b < w.heap.size := h.1.lt
theorem Wtr.form {w : World} {base b : Nat} {v : Value} {l : List Int} {e : Int} (h : Wtr w base b v l e) : ∃ p cap, v = .slice p l.length cap ∧ l.length ≤ cap := by
  rcases h.2.1.2 with ⟨h1, h2⟩ | ⟨g, cap, cur, h1, _, _, h3, _⟩
  · exact ⟨none, 0, by rw [h1, h2], by omega⟩
  · exact ⟨_, cap, h1, h3⟩
theorem Wtr.apart {w : World} {base b : Nat} {v : Value} {l : List Int} {e : Int} (h : Wtr w base b v l e) : v.ownBlock ≠ some b := h.1.not_row (by decide) h.2.1
theorem Wtr.only {w w' : World} {base b : Nat} {v : Value} {l : List Int} {e : Int} {P : Nat → Prop} (h : Wtr w base b v l e) (ho : Only P w w') (hp : ∀ k, Fp b v k → ¬ P k) : Wtr w' base b v l e :=
  ⟨h.1.only ho (hp b (.inl rfl)), owns_only h.2.1 ho (fun k hk => hp k (.inr hk)), h.2.2⟩
theorem WPost.refl {w : World} {base b : Nat} {v : Value} {l : List Int} {e : Int} (h : Wtr w base b v l e) : WPost base b v l e w w := ⟨v, h, Only.refl _ _, fun _ hk => .inl hk⟩
theorem WPost.trans {w w1 w2 : World} {base b : Nat} {v v1 : Value} {l2 : List Int} {e2 : Int} (h : Only (Fp b v) w w1) (hv : ∀ k, v1.ownBlock = some k → v.ownBlock = some k ∨ w.heap.size ≤ k)
    (h2 : WPost base b v1 l2 e2 w1 w2) : WPost base b v l2 e2 w w2 := by
  obtain ⟨v2, a, o, q⟩ := h2
  refine ⟨v2, a, h.trans o (fun k hk hf => ?_), fun k hk => ?_⟩
  · rcases hf with rfl | hf
    · exact .inl rfl
    · rcases hv k hf with h3 | h3
      · exact .inr h3
      · omega
  · rcases q k hk with h3 | h3
    · exact hv k h3
    · exact .inr (Nat.le_trans h.size h3)
theorem wpList_append_none {ops : Array Oper} {rest : List Oper} {op : Oper} {a : Act} {w : World} {Q : Exit → Act → World → Prop} (hgd : op.guard = none) (d x : Operand) (hop : op.op = Op.call { callee := Callee.builtin Builtin.append, args := #[d, x], argTypes := #[61, 61] })
    (p q : Option Addr) (n c c' : Nat) (hd : a.eval d = .slice p n c) (hx : a.eval x = .slice q 0 c') (hn : n ≤ c) (h : wpList Tryz.prog ops Q rest (a.put op.dst (.slice p n c)) w) : wpList Tryz.prog ops Q (op :: rest) a w := by
  refine wpList_plain hgd fun K hK => ?_
  have hrun := run_append_none w p q n c c' hn op.type
  unfold Oper.wp
  simp only [execOp, hop]
  simp [resolve, invoke, builtin, hd, hx, hrun, Result.andThen]
  exact hK _ _ h
set_option maxHeartbeats 400000 in
theorem newWriter_any (w : World) :
    Calls Tryz.prog 28 #[] w fun e w' => e = .returned (.pointer (some ⟨w.heap.size, 0, none⟩)) ∧ Wtr w' w.heap.size w.heap.size (.slice none 0 0) [] 0 ∧ Below w.heap.size w w' ∧ w'.heap.size = w.heap.size + 1 := by
  go_enter Tryz.func28, Tryz.ntmps28
  go_wp2
  go_ret
  exact ⟨rfl, ⟨Blk.new _ _ _, World.ownsRow_nil _ _ _ _, Nat.le_refl _⟩, (Below.refl _ _).alloc (Nat.le_refl _) _, by simp⟩
set_option maxRecDepth 100000 in
set_option maxHeartbeats 1000000 in
theorem lay_any (w : World) (base b : Nat) (v : Value) (l : List Int) (e : Int) (h : Wtr w base b v l e) (hb : base ≤ w.heap.size) (ad : Addr) (m c : Nat) (news : List Int) (hl : news.length = m)
    (hn : ∀ j, j < m → w.cell? (ad.add j) = some (.int .u8 (news.getD j 0))) (hsz : l.length + m ≤ 140737488355328) :
    Calls Tryz.prog 60 #[.pointer (some ⟨b, 0, none⟩), .slice (some ad) m c] w fun ev w' => ev = .returned (.tuple #[]) ∧ WPost base b v (if e = 0 then l ++ news else l) e w w' := by
  obtain ⟨p, cap, rfl, hcap⟩ := h.form
  have c0 : w.cell? ⟨b, 0, none⟩ = some (.slice p l.length cap) := by rw [h.1.cell 0]; rfl
  have c1 : w.cell? ⟨b, 1, none⟩ = some (.int .i64 e) := by rw [h.1.cell 1]; rfl
  have f0 := h.1.frozen 0
  have HW := hide h
  have HP := hide h.apart
  by_cases he : e = 0
  · subst he
    rw [if_pos rfl]
    by_cases hm : m = 0
    · subst hm
      obtain rfl : news = [] := List.eq_nil_of_length_eq_zero hl
      rw [List.append_nil]
      clear h hn
      go_enter Tryz.func60, Tryz.ntmps60
      go_wp2_with (refine wpList_append_none rfl (.tmp 13) (.tmp 14) rfl p (some ad) l.length cap c rfl rfl hcap ?_)
      go_end0
      refine ⟨rfl, .slice p l.length cap, ⟨(unhide HW).1.set 0 _, owns_only (unhide HW).2.1 ((Only.refl (fun k => k = b) w).setCell _ _ (fun _ => rfl)) (fun k hk hkb => unhide HP (hkb ▸ hk)), (unhide HW).2.2⟩, (Only.refl _ w).setCell _ _ (fun _ => .inl rfl), fun k hk => .inl hk⟩
    · obtain ⟨i0, hi, hz0, hz1, hz2⟩ := info_parts info5
      have HN := hide hn
      have HI := hide (And.intro hi (And.intro hz0 (And.intro hz1 hz2)))
      clear h hn hi hz0 hz1 hz2
      go_enter Tryz.func60, Tryz.ntmps60
      go_wp2_with (refine wpList_append_lies w rfl (.tmp 13) (.tmp 14) 61 rfl base 5 i0 (.int .u8 0) 1 1 Tryz.underlying61 (unhide HI).1 (unhide HI).2.1 (unhide HI).2.2.1 (unhide HI).2.2.2 rfl (by decide) _ l.length (l.map (Value.int .u8)) rfl (unhide HW).2.1 ad m c (news.map (Value.int .u8)) rfl (by simp [hl]) ?_ (by simp [Value.oneCell']) (by omega) (by unfold maxLen; omega) (by omega) hb w.heap.size rfl ?_)
      · intro j u hu
        rw [List.getElem?_map] at hu
        cases hq : news[j]? with
        | none => simp [hq] at hu
        | some x =>
          obtain ⟨hj, ex⟩ := List.getElem?_eq_some_iff.1 hq
          rw [hq] at hu
          simp at hu
          rw [unhide HN j (by omega), ← hu]
          simp [hq]
      · intro g cap' w1 ho hg hor hlt
        have B1 : Blk w1 b #[.slice p l.length cap, .int .i64 0] 96 := (unhide HW).1.kept (hg.block b (unhide HW).lt (fun e => unhide HP e.symm))
        have d0 : w1.cell? ⟨b, 0, none⟩ = some (.slice p l.length cap) := by rw [B1.cell 0]; rfl
        have f0' := B1.frozen 0
        have HO := hide ho
        have HG := hide hg
        have HB1 := hide B1
        have HOR := hide hor
        clear ho hg B1 hor
        go_wp2
        go_end0
        have ho := unhide HO
        have hgb : g ≠ b := fun e => by
          subst e
          exact (unhide HB1).not_row (by decide) ho rfl
        have hO1 : Only (Fp b (.slice p l.length cap)) w w1 := (Only.refl _ w).grown (unhide HG) (fun k _ e => .inr e)
        refine ⟨rfl, .slice (some ⟨g, 0, none⟩) (l.length + m) cap', ⟨(unhide HB1).set 0 _, ?_, (unhide HW).2.2⟩, hO1.setCell _ _ (fun _ => .inl rfl), fun k hk => ?_⟩
        · have := owns_only ho ((Only.refl (fun k => k = b) w1).setCell ⟨b, 0, none⟩ (.slice (some ⟨g, 0, none⟩) (l.length + m) cap') (fun _ => rfl)) (fun k hk hkb => hgb (by rw [← hkb]; simpa [Value.ownBlock] using hk))
          simpa [hl] using this
        · obtain rfl : g = k := by simpa [Value.ownBlock] using hk
          rcases unhide HOR with h | h
          · exact .inl h
          · exact .inr (by omega)
  · rw [if_neg he]
    clear h hn
    have hne : (e == 0) = false := by simp [he]
    go_enter Tryz.func60, Tryz.ntmps60
    go_wp2
    go_end0
    exact ⟨rfl, WPost.refl (unhide HW)⟩
set_option maxRecDepth 100000 in
set_option maxHeartbeats 1000000 in
theorem refuse_any (w : World) (base b : Nat) (v : Value) (l : List Int) (e : Int) (h : Wtr w base b v l e) (x : Int) :
    Calls Tryz.prog 58 #[.pointer (some ⟨b, 0, none⟩), .int .i64 x] w fun ev w' => ev = .returned (.tuple #[]) ∧ WPost base b v (if e = 0 then [] else l) (if e = 0 then x else e) w w' := by
  obtain ⟨p, cap, rfl, hcap⟩ := h.form
  have c0 : w.cell? ⟨b, 0, none⟩ = some (.slice p l.length cap) := by rw [h.1.cell 0]; rfl
  have c1 : w.cell? ⟨b, 1, none⟩ = some (.int .i64 e) := by rw [h.1.cell 1]; rfl
  have f0 := h.1.frozen 0
  have f1 := h.1.frozen 1
  have HW := hide h
  by_cases he : e = 0
  · subst he
    rw [if_pos rfl, if_pos rfl]
    clear h
    go_enter Tryz.func58, Tryz.ntmps58
    go_wp2
    go_end0
    exact ⟨rfl, .slice none 0 0, ⟨((unhide HW).1.set 0 _).set 1 _, World.ownsRow_nil _ _ _ _, (unhide HW).2.2⟩, ((Only.refl _ w).setCell _ _ (fun _ => .inl rfl)).setCell _ _ (fun _ => .inl rfl), fun k hk => by cases hk⟩
  · rw [if_neg he, if_neg he]
    clear h
    have hne : (e == 0) = false := by simp [he]
    go_enter Tryz.func58, Tryz.ntmps58
    go_wp2
    go_end0
    exact ⟨rfl, WPost.refl (unhide HW)⟩
end Go.Proofs.YtpjoibolhkgkhaaGreatDoor
