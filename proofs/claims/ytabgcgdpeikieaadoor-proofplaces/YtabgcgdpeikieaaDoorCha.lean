import Derived.Conc.LoneCalls
import Derived.StillTail
import Derived.StillTailTactics
namespace Go.Proofs.YtabgcgdpeikieaaDoor
open Go.RowKit Go.Conc
section
variable {P : Program} {ops : Array Oper} {Q : Exit → Act → World → Prop} {md : Region.Mode} {w : World}
/-- A row of a region's operations, said of the machine itself: so that a communication may be one of them. -/
def SOps (P : Program) (ops : Array Oper) (Q : Exit → Act → World → Prop) (l : List Nat) (a : Act) (w : World) : Prop :=
  ∀ (b : Frame) (k : List Item) (cs : List Frame), ∃ e a' w', Q e a' w' ∧ Arrives P (lone (b.at a (.inRegion ops l :: k)) cs w) b k cs e a' w'
theorem SOps.of_wp {l : List Nat} {a : Act} (h : wpOps P ops Q l a w) : SOps P ops Q l a w := fun b k cs => wp_ops l a w h b k cs
theorem sops_yields {i : Nat} {rest : List Nat} {o : Oper} {v : Value} {a : Act} (ho : ops[i]? = some o) (hy : YieldsAt P ops w o v a) (h : SOps P ops Q rest (a.put o.dst v) w) : SOps P ops Q (i :: rest) a w := by
  intro b k cs
  have hfin : ∀ v, (b.at a (.inRegion ops (i :: rest) :: k)).finish v = b.at (a.put o.dst v) (.inRegion ops rest :: k) := by
    intro v; rw [Frame.finish_at, ho]; rfl
  obtain ⟨e, a', w'', hq, harr⟩ := h b k cs
  rcases hy with ⟨hw, hv | ⟨hv, rfl⟩ | ⟨f, args, hv, hc⟩⟩ | ⟨hw, rfl⟩
  · refine ⟨e, a', w'', hq, .of_steps (.one (step_lone_go ?_)) harr⟩
    rw [stepG_op ho hw, ← hfin]; simp [stepG.apply, hv]
  · refine ⟨e, a', w'', hq, .of_steps (.one (step_lone_go ?_)) harr⟩
    rw [stepG_op ho hw, ← hfin]; simp [stepG.apply, hv]
  · obtain ⟨e1, w1, fr, ⟨rfl, rfl⟩, hsteps, _, hleave⟩ := hc (b.at a (.inRegion ops (i :: rest) :: k) :: cs)
    have henter : step P (lone (b.at a (.inRegion ops (i :: rest) :: k)) cs w1) = .next (lone (Frame.enter P f args .normal) (b.at a (.inRegion ops (i :: rest) :: k) :: cs) w1) :=
      step_lone_go (by rw [stepG_op ho hw]; simp [stepG.apply, hv, Frame.at])
    refine ⟨e, a', w'', hq, .of_steps (.head henter (Steps.trans hsteps (.one ?_))) harr⟩
    rw [← hfin]; exact step_leave_returned hleave
  · have hs := step_op_skip (P := P) (b := b) (a := a) (k := k) (cs := cs) (w := w) (ops := ops) (i := i) (rest := rest) (by simp [ho]; simpa using hw)
    simp only [ho, Option.bind_some] at hs
    exact ⟨e, a', w'', hq, .of_steps (.one hs) harr⟩
theorem sops_still : ∀ (l : List Oper) (k : Nat) (rest : List Nat) (a : Act), (∀ j, j < l.length → l[j]? = ops[k + j]?) → wpStill P ops w (fun a' => SOps P ops Q rest a' w) l a → SOps P ops Q (List.range' k l.length ++ rest) a w
  | [], _, _, _, _, h => h
  | o :: l, k, rest, a, hl, h => by
    have h0 : ops[k]? = some o := by simpa using (hl 0 (by simp)).symm
    have hst : stOp P ops w k (wpStill P ops w (fun a' => SOps P ops Q rest a' w) l) a := by unfold stOp; simp only [h0]; exact h
    obtain ⟨v, hy, hK⟩ := yieldsAt_of_stOp h0 hst
    rw [List.length_cons, List.range'_succ, List.cons_append]
    exact sops_yields h0 hy (sops_still l (k + 1) rest _ (fun j hj => by have := hl (j + 1) (by simp; omega); simpa [Nat.add_assoc, Nat.add_comm 1 j] using this) hK)
/-- A region in the text's order: its first n operations read alone; then what is said of the machine. -/
theorem wp_region_sops {id : Nat} {a : Act} {l : List Oper} (n m : Nat) (hn : l.length = n + m) (h : wpStill P l.toArray w (fun a' => SOps P l.toArray Q (List.range' n m) a' w) (l.take n) a) : (Code.region id l.toArray false).wp P Q a w := by
  intro b k cs
  have htl : (l.take n).length = n := by simp; omega
  have H := sops_still (P := P) (Q := Q) (l.take n) 0 (List.range' n m) a (fun j hj => by
    have hj' : j < n := by rw [htl] at hj; exact hj
    simp [hj']) h
  rw [htl] at H
  have e : List.range' 0 n ++ List.range' n m = List.range l.toArray.size := by
    rw [List.range_eq_range', List.size_toArray, hn]
    have := List.range'_append (s := 0) (m := n) (n := m) (step := 1)
    simpa using this
  rw [e] at H
  obtain ⟨e, a', w', q, r⟩ := H b k cs
  exact ⟨e, a', w', q, .of_steps (.one step_region) r⟩
theorem stepG_comm_any {b : Frame} {k : List Item} {cs : List Frame} {a : Act} {i : Nat} {rest : List Nat} {o : Oper} {cases : Array CommCase} {blocking : Bool} {shape : CommShape} {w' : World} (ho : ops[i]? = some o) (hw : Region.wanted o (yielded ops a.tmps) = true)
    (hr : (execOp a.eval o).run P w = .ok (.comm cases blocking shape) w') :
    ∃ es, stepG P true (G (b.at a (.inRegion ops (i :: rest) :: k)) cs) w = .comm (G (b.at a (.inRegion ops (i :: rest) :: k)) cs) cases blocking shape w' es := by
  rw [stepG_oper ho hw]
  simp [stepG.apply, hr, G, Frame.at, GStep.after]
theorem sops_recv {i : Nat} {rest : List Nat} {o : Oper} {a : Act} {w₁ : World} {c cap s r : Nat} {buf : Array Value} {z : Value} {tm closed : Bool} (ho : ops[i]? = some o) (hw : Region.wanted o (yielded ops a.tmps) = true)
    (hr : (execOp a.eval o).run P w = .ok (.comm #[rcase c z] true (.recv false)) w₁) (hc : w₁.heap[c]? = some (.chan cap buf closed s r tm)) (hsome : 0 < buf.size)
    (h : SOps P ops Q rest (a.put o.dst (buf.getD 0 undef)) (w₁.setChan c cap (buf.extract 1 buf.size) closed s (r + 1) tm)) : SOps P ops Q (i :: rest) a w := by
  intro b k cs
  obtain ⟨es, hs⟩ := stepG_comm_any (b := b) (k := k) (cs := cs) (rest := rest) ho hw hr
  have hst := step_lone_recv_buf false hs hc hsome
  rw [Frame.finish_at, ho] at hst
  obtain ⟨e, a', w'', hq, harr⟩ := h b k cs
  exact ⟨e, a', w'', hq, .of_steps (.one hst) harr⟩
theorem sops_send {i : Nat} {rest : List Nat} {o : Oper} {a : Act} {w₁ : World} {c cap s r : Nat} {buf : Array Value} {v z : Value} {tm : Bool} (ho : ops[i]? = some o) (hw : Region.wanted o (yielded ops a.tmps) = true)
    (hr : (execOp a.eval o).run P w = .ok (.comm #[scase c v z] true .send) w₁) (hc : w₁.heap[c]? = some (.chan cap buf false s r tm)) (hroom : buf.size < cap)
    (h : SOps P ops Q rest (a.put o.dst undef) (w₁.setChan c cap (buf.push v) false (s + 1) r tm)) : SOps P ops Q (i :: rest) a w := by
  intro b k cs
  obtain ⟨es, hs⟩ := stepG_comm_any (b := b) (k := k) (cs := cs) (rest := rest) ho hw hr
  have hst := step_lone_send_room hs hc hroom
  rw [Frame.finish_at, ho] at hst
  obtain ⟨e, a', w'', hq, harr⟩ := h b k cs
  exact ⟨e, a', w'', hq, .of_steps (.one hst) harr⟩
theorem wpStill_load {Q : Act → Prop} {op : Oper} {rest : List Oper} {a : Act} (hgd : op.guard = none) (ty : TypeId) (x : Operand) (ho : op.op = .load ty x) (ad : Addr) (hx : a.eval x = .pointer (some ad)) {v : Value} (hl : (loadVar ty ad).run P w = .ok v w)
    (h : wpStill P ops w Q rest (a.put op.dst v)) : wpStill P ops w Q (op :: rest) a := by
  refine wpStill_step fun K hK => ?_
  have hw : Region.wanted op (yielded ops a.tmps) = true := by simp [Region.wanted, hgd]
  rw [if_pos hw]
  unfold Oper.still execOp
  simp only [ho, hx, Instr.loadAt, Instr.sureAddr, Sem.run_bind, Sem.run_pure, Result.andThen_ok, hl]
  exact ⟨rfl, hK _ h⟩
theorem sops_list {a : Act} (l : List Oper) (k m : Nat) (hm : m = l.length) (hl : ∀ j, l[j]? = ops[k + j]?) (h : wpList P ops Q l a w) : SOps P ops Q (List.range' k m) a w := by
  subst hm
  refine SOps.of_wp ?_
  rw [wpOps_eq_wpList l k hl]
  exact h
theorem sops_drop {a : Act} {l : List Oper} (k m : Nat) (hm : m = l.length - k) (h : wpList P l.toArray Q (l.drop k) a w) : SOps P l.toArray Q (List.range' k m) a w :=
  sops_list (l.drop k) k m (by rw [hm, List.length_drop]) (fun j => by simp) h
theorem sops_nil {a : Act} (h : Q .normal a w) : SOps P ops Q [] a w := SOps.of_wp h
theorem sops_of_anyL {n g : Nat} {L : Array Bool → Act → Prop} (hL : ∀ t listed a, L listed a → SOps P ops Q (Region.linearise.go md ops g t listed []) a w) :
    ∀ (f t : Nat) (listed : Array Bool) (a : Act), wpAnyL P md ops w n L f listed a → SOps P ops Q (Region.linearise.go md ops (f + g) t listed []) a w := by
  intro f
  induction f with
  | zero => intro t listed a h; rw [Nat.zero_add]; exact hL _ _ _ h
  | succ f ih =>
    intro t listed a h
    obtain ⟨h₀, h₁⟩ := h
    rw [show f + 1 + g = (f + g) + 1 by omega]
    simp only [Region.linearise.go]
    change SOps P ops Q (match (Region.ready md ops listed)[t % (Region.ready md ops listed).length]? with
      | some i => Region.linearise.go md ops (f + g) (t / (Region.ready md ops listed).length) (listed.setIfInBounds i true) [i]
      | none => [].reverse) a w
    cases hi : (Region.ready md ops listed)[t % (Region.ready md ops listed).length]? with
    | none =>
      exfalso
      cases hr : Region.ready md ops listed with
      | nil => exact h₀ hr
      | cons x xs =>
        rw [hr] at hi
        have hlt : t % (x :: xs).length < (x :: xs).length := Nat.mod_lt _ (by simp)
        simp at hi
        simp at hlt
        omega
    | some i =>
      simp only []
      rw [linearise_go_acc, List.reverse_singleton, List.singleton_append]
      have hm := List.mem_of_getElem? hi
      obtain ⟨_, oi, hoi, _⟩ := mem_ready.1 hm
      obtain ⟨v, hy, hK⟩ := yieldsAt_of_stOp hoi (h₁ i hm).2
      exact sops_yields hoi hy (ih _ _ _ hK)
/-- A region that draws its order, of which all but the last operation read alone, and the last one waits for all of them. -/
theorem wp_region_sops_draw {id : Nat} {a : Act} {l : List Oper} (n : Nat) (hlen : l.length = n + 1) (hm : P.follows .mixedOrders = true) (hB : Region.lexTailB .any l.toArray n = true)
    (h : wpStill P l.toArray w.drew (fun a' => SOps P l.toArray Q [n] a' w.drew) (l.take n) a) : (Code.region id l.toArray true).wp P Q a w := by
  simp only [Region.lexTailB, Bool.and_eq_true, decide_eq_true_eq] at hB
  obtain ⟨⟨⟨⟨hsel, hn⟩, hs⟩, hc⟩, hlex⟩ := hB
  have htl : (l.take n).length = n := by simp; omega
  have hg : l.toArray.size - n = 1 := by simp; omega
  rw [hg] at hlex
  have inv0 : HeadInv .any l.toArray n (Array.replicate l.toArray.size false) :=
    ⟨by simp, fun j oj _ hl => (by rw [getD_replicate_false] at hl; cases hl), fun t _ ht => getD_in (by simpa using ht) (getD_replicate_false _ _)⟩
  have H := wpAnyL_lex (md := .any) (g := 1) hsel hs hc hn (l.take n) 0 _ a (fun j hj => by
    have hj' : j < n := by rw [htl] at hj; exact hj
    simp [hj']) (by simpa using htl) inv0 (by rw [htl]; exact hlex) h
  rw [htl] at H
  have hall : ∀ t, SOps P l.toArray Q (Region.linearise.go .any l.toArray (n + 1) t (Array.replicate l.toArray.size false) []) a w.drew := fun t =>
    sops_of_anyL (n := n) (g := 1) (fun t listed a' hL => by
      obtain ⟨hq, hS⟩ := hL
      simp only [Region.seqB, Bool.and_eq_true, decide_eq_true_eq] at hq
      have e : Region.linearise.go .any l.toArray 1 t listed [] = [n] := by
        simp only [Region.linearise.go]
        change (match (Region.ready .any l.toArray listed)[t % (Region.ready .any l.toArray listed).length]? with
          | some i => [i].reverse
          | none => [].reverse) = [n]
        rw [hq.1]
        simp [Nat.mod_one]
      rw [e]
      exact hS) n t _ a H
  intro b k cs
  have hsz : l.toArray.size = n + 1 := by simp [hlen]
  obtain ⟨e, a', w', q, r⟩ := hall (w.tape w.drawn (.order b.fn id)) b k cs
  refine ⟨e, a', w', q, .of_steps (.one step_region_draw) ?_⟩
  have e2 : Region.schedule (P.follows .mixedOrders) l.toArray (w.tape w.drawn (.order b.fn id)) = Region.linearise.go .any l.toArray (n + 1) (w.tape w.drawn (.order b.fn id)) (Array.replicate l.toArray.size false) [] := by
    simp only [Region.schedule, hm, Bool.true_or, if_true, Region.linearise, hsz]
  rw [e2]
  exact r
end
end Go.Proofs.YtabgcgdpeikieaaDoor
