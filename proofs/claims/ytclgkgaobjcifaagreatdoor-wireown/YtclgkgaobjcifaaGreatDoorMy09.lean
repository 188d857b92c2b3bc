import Derived.Test.YtclgkgaobjcifaaGreatDoorMy00
import Derived.Recover
import Derived.Test.YtclgkgaobjcifaaGreatDoorMy08
namespace Go.Proofs.YtclgkgaobjcifaaGreatDoor
open Go.RowKit
section
variable {P : Program} {ops : Array Oper} {Q : Exit → Act → List Frame → World → Prop} {md : Region.Mode}
/-- One operation of a region in a deferred function: it may recover. -/
def wpOpS (P : Program) (ops : Array Oper) (Q : Exit → Act → List Frame → World → Prop) (i : Nat) (K : Act → List Frame → World → Prop) (a : Act) (cs : List Frame) (w : World) : Prop :=
  match ops[i]? with
  | none => K a cs w
  | some o =>
    if Region.wanted o (yielded ops a.tmps) then
      match (execOp a.eval o).run P w with
      | .ok .recover w' =>
        match recoverD cs with
        | some (v, cs') => K (a.put o.dst v) cs' w'
        | none => K (a.put o.dst .nilIface) cs w'
      | r => o.upon P a (fun a' w' => K a' cs w') (fun e a' w' => Q e a' cs w') r
    else K (a.put o.dst undef) cs w
theorem wpOpsS_cons (i : Nat) (rest : List Nat) (a : Act) (cs : List Frame) (w : World) : wpOpsS P ops Q (i :: rest) a cs w = wpOpS P ops Q i (wpOpsS P ops Q rest) a cs w := rfl
theorem upon_mono {o : Oper} {a : Act} {K K' : Act → World → Prop} {R : Exit → Act → World → Prop} (h : ∀ a w, K a w → K' a w) (r : Result Next) (hh : o.upon P a K R r) : o.upon P a K' R r := by
  cases r with
  | ok n w' =>
    cases n <;> simp only [Oper.upon] at hh ⊢ <;>
      first
        | exact h _ _ hh
        | exact Calls.mono hh (fun e w'' he => by cases e <;> first | exact h _ _ he | exact he)
        | exact Rows.mono hh (fun _ _ he => h _ _ he)
  | halt x w' => cases x <;> simp only [Oper.upon] at hh ⊢ <;> exact hh
theorem wpOpS_mono {i : Nat} {a : Act} {cs : List Frame} {w : World} {K K' : Act → List Frame → World → Prop} (h : ∀ a cs w, K a cs w → K' a cs w) (hh : wpOpS P ops Q i K a cs w) : wpOpS P ops Q i K' a cs w := by
  unfold wpOpS at *
  cases ho : ops[i]? with
  | none => simp only [ho] at hh ⊢; exact h _ _ _ hh
  | some o =>
    simp only [ho] at hh ⊢
    by_cases hw : Region.wanted o (yielded ops a.tmps) = true
    · simp only [hw, if_true] at hh ⊢
      split at hh
      · split at hh
        · exact h _ _ _ hh
        · exact h _ _ _ hh
      · exact upon_mono (fun a w => h a cs w) _ hh
    · simp only [hw] at hh ⊢
      exact h _ _ _ hh
/-- Whatever order the edges allow. -/
def wpAnyS (P : Program) (md : Region.Mode) (ops : Array Oper) (Q : Exit → Act → List Frame → World → Prop) : Nat → Array Bool → Act → List Frame → World → Prop
  | 0, listed, a, cs, w => Region.ready md ops listed = [] ∧ Q .normal a cs w
  | fuel + 1, listed, a, cs, w =>
    (Region.ready md ops listed = [] → Q .normal a cs w) ∧
    ∀ i ∈ Region.ready md ops listed, wpOpS P ops Q i (wpAnyS P md ops Q fuel (listed.setIfInBounds i true)) a cs w
theorem wpAnyS_sound : ∀ (fuel t : Nat) (listed : Array Bool) (a : Act) (cs : List Frame) (w : World), wpAnyS P md ops Q fuel listed a cs w →
    wpOpsS P ops Q (Region.linearise.go md ops fuel t listed []) a cs w := by
  intro fuel
  induction fuel with
  | zero => intro t listed a cs w h; simpa [Region.linearise.go, wpOpsS] using h.2
  | succ fuel ih =>
    intro t listed a cs w h
    obtain ⟨h₀, h₁⟩ := h
    simp only [Region.linearise.go]
    change wpOpsS P ops Q (match (Region.ready md ops listed)[t % (Region.ready md ops listed).length]? with
      | some i => Region.linearise.go md ops fuel (t / (Region.ready md ops listed).length) (listed.setIfInBounds i true) [i]
      | none => [].reverse) a cs w
    cases hi : (Region.ready md ops listed)[t % (Region.ready md ops listed).length]? with
    | none =>
      have hnil : Region.ready md ops listed = [] := by
        cases hr : Region.ready md ops listed with
        | nil => rfl
        | cons x xs =>
          rw [hr] at hi
          have hlt : t % (x :: xs).length < (x :: xs).length := Nat.mod_lt _ (by simp)
          simp at hi
          simp at hlt
          omega
      simpa [wpOpsS] using h₀ hnil
    | some i =>
      simp only []
      rw [linearise_go_acc, List.reverse_singleton, List.singleton_append, wpOpsS_cons]
      exact wpOpS_mono (fun a cs w => ih _ _ a cs w) (h₁ i (List.mem_of_getElem? hi))
theorem wpS_region_any {id : Nat} {a : Act} {cs : List Frame} {w : World} (hm : P.follows .mixedOrders = true)
    (h : wpAnyS P .any ops Q ops.size (Array.replicate ops.size false) a cs { w with drawn := w.drawn + 1 }) : (Code.region id ops true).wpS P Q a cs w :=
  fun b k hb hr => by
    obtain ⟨e, a', cs', w', q, r⟩ := wp_opsS (Region.schedule (P.follows .mixedOrders) ops (w.tape w.drawn (.order b.fn id))) a cs { w with drawn := w.drawn + 1 } (by
      simp only [Region.schedule, hm, Bool.true_or, if_true]
      exact wpAnyS_sound ops.size _ _ a cs _ h) b k hb hr
    exact ⟨e, a', cs', w', q, .of_steps (.one step_region_draw) r⟩
end
end Go.Proofs.YtclgkgaobjcifaaGreatDoor

namespace Go.Proofs.YtclgkgaobjcifaaGreatDoor
open Go.RowKit Go.Extern.Stop Go.Stop Go.Extern
/-- At block b lies a Reader: what is left, how much was taken, what was wrong first. -/
def Rdr (w : World) (b : Nat) (r : ByteArray) (t e : Int) : Prop := Blk w b #[.string r, .int .i64 t, .int .i64 e] 114
theorem as_b (x : Int) (t : Addr) (old : Value) (w : World) (hg : ETy w) (ht0 : w.cell? t = some old) (hf0 : w.frozen? t = false) :
    Calls Tryz.prog 88 #[.iface 117 (.agg #[.int .i64 x]), .iface 154 (.pointer (some t))] w fun ev w' => ev = .returned (.bool true) ∧ w'.cell? t = some (.int .i64 x) ∧ Only (fun k => k = t.block) w w' := by
  have htl : t.block < w.heap.size := World.block_lt_of_cell? w _ ht0
  refine (as_hit x t old w hg ht0 hf0).mono ?_
  rintro ev w' ⟨rfl, rfl⟩
  refine ⟨rfl, ?_, (((((Only.refl _ w).alloc _).alloc _).alloc _).alloc _).setCell _ _ (fun _ => rfl)⟩
  exact World.cell?_setCell_same _ _ _ (u := old) (by
    rw [World.cell?_alloc_lt _ _ t (by simp; omega), World.cell?_alloc_lt _ _ t (by simp; omega), World.cell?_alloc_lt _ _ t (by simp; omega), World.cell?_alloc_lt _ _ t htl]
    exact ht0)
theorem ea_isError (v : Value) (w : World) : (Instr.typeAssert (.iface 117 v) 20 151 true).run Tryz.prog w = .ok (.tuple #[.iface 117 v, .bool true]) w := run_typeAssert_hasB Tryz.underlying151 (by kernel_rfl) v 20 w
set_option maxRecDepth 100000 in
set_option maxHeartbeats 400000 in
theorem settle_nil (b : Nat) (t : Int) (w : World) :
    Calls Tryz.prog 70 #[.pointer (some ⟨b, 0, none⟩), .int .i64 t, .nilIface] w fun ev w' => ev = .returned (.tuple #[]) ∧ w' = w := by
  go_enter Tryz.func70, Tryz.ntmps70
  go_wp2
  (try simp only [Exit.inBlock, Exit.then])
  exact bodyPost_ret (results_none rfl _ _ _) rfl ⟨rfl, rfl⟩
set_option maxRecDepth 100000 in
set_option maxHeartbeats 2000000 in
theorem settle_hit (b : Nat) (r : ByteArray) (t0 t e x : Int) (w : World) (hg : ETy w) (h : Rdr w b r t0 e) :
    Calls Tryz.prog 70 #[.pointer (some ⟨b, 0, none⟩), .int .i64 t, .iface 117 (.agg #[.int .i64 x])] w fun ev w' => ev = .returned (.tuple #[]) ∧ Rdr w' b ⟨#[]⟩ t x ∧ Only (fun k => k = b) w w' := by
  have hE := ea_isError
  have hA0 := (Only.refl (fun _ => False) w).alloc (Obj.cells #[Value.int .i64 0] 117)
  have HA := hide (as_b x ⟨w.heap.size, 0, none⟩ (.int .i64 0) (w.alloc (Obj.cells #[Value.int .i64 0] 117)) (hg.only hA0 (fun q => q)) (by simp) (by simp))
  have HR := hide h
  have hlt := h.lt
  clear h hg hA0
  go_enter Tryz.func70, Tryz.ntmps70
  go_wp2_with fail
  refine (unhide HA).mono ?_
  rintro ev w2 ⟨rfl, hc, hO⟩
  have HO := hide hO
  clear hO
  have hB2 : Blk w2 b #[.string r, .int .i64 t0, .int .i64 e] 114 := Blk.only (Blk.alloc (unhide HR) _) (unhide HO) (by show ¬ b = w.heap.size; omega)
  have c0 : w2.cell? ⟨b, 0, none⟩ = some (.string r) := by rw [hB2.cell 0]; rfl
  have c1 : w2.cell? ⟨b, 1, none⟩ = some (.int .i64 t0) := by rw [hB2.cell 1]; rfl
  have c2 : w2.cell? ⟨b, 2, none⟩ = some (.int .i64 e) := by rw [hB2.cell 2]; rfl
  have f0 := hB2.frozen 0
  have f1 := hB2.frozen 1
  have f2 := hB2.frozen 2
  have HB2 := hide hB2
  clear hB2
  have HS := hide hc
  go_wp2
  (try simp only [Exit.inBlock, Exit.then])
  refine bodyPost_ret (results_none rfl _ _ _) rfl ⟨rfl, ?_, ?_⟩
  · exact (((unhide HB2).set 0 _).set 1 _).set 2 _
  · have h1 : Only (fun k => k = b) w w2 := ((Only.refl _ w).alloc _).trans (unhide HO) (fun k hk hq => by
      have : k = w.heap.size := hq
      omega)
    exact ((h1.setCell _ _ (fun _ => rfl)).setCell _ _ (fun _ => rfl)).setCell _ _ (fun _ => rfl)
end Go.Proofs.YtclgkgaobjcifaaGreatDoor
