import Derived.Test.YtifjmldmilmfjaaGreatDoorMp09
import Derived.LaidEql
import Derived.Stop.Asserts
import Derived.RowKitTokens
import Derived.Test.YtifjmldmilmfjaaGreatDoorMp00
import Derived.Recover
namespace Go.Proofs.YtifjmldmilmfjaaGreatDoor
open Go.RowKit
theorem WPost.below {w wr w2 : World} {base b : Nat} {v : Value} {l : List Int} {e : Int} (h : WPost base b v l e w wr) (hb : Below wr.heap.size wr w2) : WPost base b v l e w w2 := by
  obtain ⟨v1, h1, h2, h3⟩ := h
  have hO : Only (fun _ => False) wr w2 := Only.of_below hb
  exact ⟨v1, h1.only hO (fun _ _ q => q), h2.trans hO (fun _ _ q => q.elim), h3⟩
theorem WPost.only {w wr w2 : World} {base b : Nat} {v : Value} {l : List Int} {e : Int} {P : Nat → Prop} (h : WPost base b v l e w wr) (hO : Only P wr w2) (hp : ∀ k, P k → k < w.heap.size ∧ ¬ Fp b v k) (hb : b < w.heap.size) : ∃ v', Wtr w2 base b v' l e ∧ (∀ k, v'.ownBlock = some k → v.ownBlock = some k ∨ w.heap.size ≤ k) := by
  obtain ⟨v1, h1, h2, h3⟩ := h
  refine ⟨v1, h1.only hO (fun k hk hpk => ?_), h3⟩
  obtain ⟨q1, q2⟩ := hp k hpk
  rcases hk with rfl | hk
  · exact q2 (.inl rfl)
  · rcases h3 k hk with h | h
    · exact q2 (.inr h)
    · omega
theorem WPost.alloc {w wr : World} {base b : Nat} {v : Value} {l : List Int} {e : Int} (h : WPost base b v l e w wr) (o : Obj) : WPost base b v l e w (wr.alloc o) := h.below ((Below.refl _ _).alloc (Nat.le_refl _) o)
theorem WPost.size {w wr : World} {base b : Nat} {v : Value} {l : List Int} {e : Int} (h : WPost base b v l e w wr) : w.heap.size ≤ wr.heap.size := by obtain ⟨_, _, h2, _⟩ := h; exact h2.size
theorem WPost.blk {w wr : World} {base b : Nat} {v : Value} {l : List Int} {e : Int} (h : WPost base b v l e w wr) {k : Nat} {cur : Array Value} {T : TypeId} (hB : Blk w k cur T) (hk : ¬ Fp b v k) : Blk wr k cur T := by obtain ⟨_, _, h2, _⟩ := h; exact hB.only h2 hk
theorem numK {w wr : World} {base b : Nat} {v : Value} {l : List Int} {e : Int} (h : WPost base b v l e w wr) (hb : base ≤ w.heap.size) (bytes : Int) (L : List Int) (cur : Array Value) (hc : cur = (L.map (Value.int .i64)).toArray) (hsz : l.length + 8 * L.length ≤ 140737488355328) (m : Nat) (hm : m = L.length) :
    Calls Tryz.prog 67 #[.pointer (some ⟨b, 0, none⟩), .int .i64 bytes, .slice (some ⟨wr.heap.size, 0, none⟩) m m] (wr.alloc (Obj.cells cur 3)) fun ev w' => ev = .returned (.tuple #[]) ∧ WPost base b v (wl l e (errN bytes L) (outN bytes.toNat L)) (we e (errN bytes L)) w w' := by
  subst hc hm
  obtain ⟨v1, h1, h2, h3⟩ := h
  have hA := (Only.refl (fun _ => False) wr).alloc (Obj.cells (L.map (Value.int .i64)).toArray 3)
  have hB := Blk.new wr 3 (L.map (Value.int .i64)).toArray
  refine (num_any (wr.alloc (Obj.cells (L.map (Value.int .i64)).toArray 3)) base b v1 l e (h1.only hA (fun _ _ q => q)) (by have := h2.size; simp; omega) bytes L (some ⟨wr.heap.size, 0, none⟩) L.length (.inr ⟨wr.heap.size, 0, rfl, by simp, ?_, fun j hj => ?_⟩) hsz).mono ?_
  · rintro (hq | hq)
    · have := h1.lt; omega
    · have := (h1.2.1.lt _ hq).2; omega
  · rw [Nat.zero_add, hB.cell j]
    simp [hj]
  · rintro ev w' ⟨rfl, hp⟩
    exact ⟨rfl, WPost.trans (h2.alloc _) h3 hp⟩
theorem doneK {w wr : World} {base b : Nat} {v : Value} {l : List Int} {e : Int} (h : WPost base b v l e w wr) :
    Calls Tryz.prog 68 #[.pointer (some ⟨b, 0, none⟩)] wr fun ev w' => ev = .returned (.tuple #[.string (strOfNums l), .int .i64 e]) ∧ WPost base b v l e w w' := by
  have h' := h
  obtain ⟨v1, h1, h2, h3⟩ := h
  exact (done_any wr base b v1 l e h1).mono (by rintro ev w' ⟨rfl, hb⟩; exact ⟨rfl, h'.below hb⟩)
theorem wl_good (l out : List Int) : wl l 0 0 out = l ++ out := by simp [wl]
theorem we_good : we 0 0 = 0 := rfl
end Go.Proofs.YtifjmldmilmfjaaGreatDoor

namespace Go.Proofs.YtifjmldmilmfjaaGreatDoor
open Go.RowKit Go.Extern.Stop Go.Stop Go.Extern
/-! errors.As at the target *giveUp, of an error that is a giveUp: after the kit's worked toy 'toyas'. -/
theorem ea_valueOfP (t : Addr) (w : World) : (ReflectliteValue.unpack (.iface 150 (.pointer (some t)))).run Tryz.prog w
    = .ok (.agg #[.pointer (some ⟨2, 150, none⟩), .pointer (some ⟨w.heap.size, 0, none⟩), .int .u64 150]) (w.alloc (.cells #[.pointer (some t)] 150)) := by kernel_rfl
theorem ea_typeP (a : Addr) (w : World) : (ReflectliteValue.methodAny (ReflectliteValue.valueError "reflectlite.Value.Type" 0) (fun t _ _ _ => ReflectliteType.toType t) #[.agg #[.pointer (some ⟨2, 150, none⟩), .pointer (some a), .int .u64 150]]).run Tryz.prog w
    = .ok (.iface 187 (.agg #[.pointer (some ⟨2, 150, none⟩)])) w := by kernel_rfl
theorem ea_methodKind (h : Value) (w : World) : (Go.method 327 187 (.agg #[h]) "Kind").run Tryz.prog w = .ok (136, h) w := by kernel_rfl
theorem ea_kindP (w : World) : ((ReflectliteType.abiMethod fun t => (fun a : Nat => Value.int IntKind.u8 (a : Int)) <$> Rtype.kind t) #[.pointer (some ⟨2, 150, none⟩)]).run Tryz.prog w = .ok (.int .u8 22) w := by kernel_rfl
theorem ea_kindS (w : World) : ((ReflectliteType.abiMethod fun t => (fun a : Nat => Value.int IntKind.u8 (a : Int)) <$> Rtype.kind t) #[.pointer (some ⟨2, 122, none⟩)]).run Tryz.prog w = .ok (.int .u8 25) w := by kernel_rfl
theorem rlm (z : Sem Value) (f : TypeId → Addr → Nat → Nat → Sem Value) (v : Value) :
    ReflectliteValue.method z f #[v] = (do match ← ReflectliteValue.parts v with | none => z | some (t, a, fl) => f t a fl (fl % 32)) := rfl
theorem ea_partsP (a : Addr) (w : World) : (ReflectliteValue.parts (.agg #[.pointer (some ⟨2, 150, none⟩), .pointer (some a), .int .u64 150])).run Tryz.prog w = .ok (some (150, a, 150)) w := by kernel_rfl
theorem ea_isNilP (a p : Addr) (W : World) (ha : W.cell? a = some (.pointer (some p))) :
    (ReflectliteValue.method (ReflectliteValue.valueError "reflectlite.Value.IsNil" 0) ReflectliteValue.isNil #[.agg #[.pointer (some ⟨2, 150, none⟩), .pointer (some a), .int .u64 150]]).run Tryz.prog W = .ok (.bool false) W := by
  rw [rlm]
  simp only [Sem.run_bind, ea_partsP, Result.andThen]
  simp [ReflectliteValue.isNil, loadVar, isAgg, underlying, Tryz.underlying150, ha, Result.andThen]
theorem ea_methodElem (h : Value) (w : World) : (Go.method 327 187 (.agg #[h]) "Elem").run Tryz.prog w = .ok (149, .agg #[h]) w := by kernel_rfl
theorem ea_methodImplements (h : Value) (w : World) : (Go.method 327 187 (.agg #[h]) "Implements").run Tryz.prog w = .ok (150, .agg #[h]) w := by kernel_rfl
theorem ea_methodAssignableTo (h : Value) (w : World) : (Go.method 327 187 (.agg #[h]) "AssignableTo").run Tryz.prog w = .ok (147, .agg #[h]) w := by kernel_rfl
theorem ea_elemP (w : World) : (ReflectliteType.method ReflectliteType.elem #[.agg #[.pointer (some ⟨2, 150, none⟩)]]).run Tryz.prog w = .ok (.iface 187 (.agg #[.pointer (some ⟨2, 122, none⟩)])) w := by kernel_rfl
theorem ea_implementsS (w : World) : (ReflectliteType.relation "Implements" ReflectliteType.implements_ #[.agg #[.pointer (some ⟨2, 122, none⟩)], .iface 187 (.agg #[.pointer (some ⟨2, 147, none⟩)])]).run Tryz.prog w = .ok (.bool true) w := by kernel_rfl
theorem ea_typeOfS (v : Value) (w : World) : (ReflectliteType.typeOf #[.iface 122 v]).run Tryz.prog w = .ok (.iface 187 (.agg #[.pointer (some ⟨2, 122, none⟩)])) w := by kernel_rfl
theorem ea_assignableS (w : World) : (ReflectliteType.relation "AssignableTo" ReflectliteType.assignableTo #[.agg #[.pointer (some ⟨2, 122, none⟩)], .iface 187 (.agg #[.pointer (some ⟨2, 122, none⟩)])]).run Tryz.prog w = .ok (.bool true) w := by kernel_rfl
theorem ea_valueOfS (x : Int) (w : World) : (ReflectliteValue.unpack (.iface 122 (.agg #[.int .i64 x]))).run Tryz.prog w
    = .ok (.agg #[.pointer (some ⟨2, 122, none⟩), .pointer (some ⟨w.heap.size, 0, none⟩), .int .u64 153]) (w.alloc (.cells #[.int .i64 x] 122)) := by kernel_rfl
theorem ea_elemOfP (w : World) : (Rtype.elem? 150).run Tryz.prog w = .ok (some 122) w := by kernel_rfl
theorem ea_mkS (p : Addr) (w : World) : (ReflectliteValue.mk 122 p ReflectliteValue.flagAddr).run Tryz.prog w = .ok (.agg #[.pointer (some ⟨2, 122, none⟩), .pointer (some p), .int .u64 409]) w := by kernel_rfl
theorem ea_elemVP (a p : Addr) (W : World) (ha : W.cell? a = some (.pointer (some p))) :
    (ReflectliteValue.method (ReflectliteValue.valueError "reflectlite.Value.Elem" 0) ReflectliteValue.elem #[.agg #[.pointer (some ⟨2, 150, none⟩), .pointer (some a), .int .u64 150]]).run Tryz.prog W
      = .ok (.agg #[.pointer (some ⟨2, 122, none⟩), .pointer (some p), .int .u64 409]) W := by
  rw [rlm]
  simp only [Sem.run_bind, ea_partsP, Result.andThen]
  simp [ReflectliteValue.elem, loadVar, isAgg, underlying, Tryz.underlying150, ha, Result.andThen, ea_elemOfP, ea_mkS]
theorem rls (v x : Value) : ReflectliteValue.set #[v, x] = (do
    let (some (dst, a, fl), some (src, b, _)) := (← ReflectliteValue.parts v, ← ReflectliteValue.parts x)
      | unsupported (.noEntry "extern/(internal/reflectlite.Value).Set.zeroValue")
    if fl / ReflectliteValue.flagAddr % 2 == 0 then unsupported (.noEntry "extern/(internal/reflectlite.Value).Set.unaddressable")
    let val ← loadVar src b
    if ← Rtype.directlyAssignable dst src then storeVar dst a val
    else if ← Rtype.implements dst src then
      if (← Rtype.kind src) == 20 then
        match val with
        | .nilIface => unsupported (.noEntry "extern/reflectlite: a nil value of one interface type handed on as a value of another")
        | _ => storeVar dst a val
      else storeVar dst a (.iface src val)
    else panicString ("reflectlite.Set: value of type " ++ (← Rtype.spelt src) ++ " is not assignable to type " ++ (← Rtype.spelt dst))
    pure (.tuple #[])) := rfl
theorem ea_partsSa (a : Addr) (w : World) : (ReflectliteValue.parts (.agg #[.pointer (some ⟨2, 122, none⟩), .pointer (some a), .int .u64 409])).run Tryz.prog w = .ok (some (122, a, 409)) w := by kernel_rfl
theorem ea_partsS (a : Addr) (w : World) : (ReflectliteValue.parts (.agg #[.pointer (some ⟨2, 122, none⟩), .pointer (some a), .int .u64 153])).run Tryz.prog w = .ok (some (122, a, 153)) w := by kernel_rfl
theorem ea_directS (w : World) : (Rtype.directlyAssignable 122 122).run Tryz.prog w = .ok true w := by kernel_rfl
theorem ea_setS (ta b : Addr) (x : Int) (old : Value) (W : World) (hb : W.cell? b = some (.int .i64 x)) (ht : W.cell? ta = some old) (hf : W.frozen? ta = false) :
    (ReflectliteValue.set #[.agg #[.pointer (some ⟨2, 122, none⟩), .pointer (some ta), .int .u64 409], .agg #[.pointer (some ⟨2, 122, none⟩), .pointer (some b), .int .u64 153]]).run Tryz.prog W
      = .ok (.tuple #[]) (W.setCell ta (.int .i64 x)) := by
  rw [rls]
  simp only [Sem.run_bind, ea_partsSa, ea_partsS, Result.andThen]
  have hlv : (loadVar 122 b).run Tryz.prog W = .ok (.agg #[.int .i64 x]) W := by
    simp [loadVar, isAgg, underlying, Tryz.underlying122, Result.andThen, loadCells, loadCellsFrom, Addr.add, hb]
  simp [ReflectliteValue.flagAddr, hlv, Result.andThen, ea_directS, storeVar, Value.cells, storeCells, Addr.add]
  rw [run_store Tryz.prog W ta _ _ (by rfl)]
  simp [ht, hf]
end Go.Proofs.YtifjmldmilmfjaaGreatDoor

namespace Go.Proofs.YtifjmldmilmfjaaGreatDoor
open Go.RowKit Go.Extern.Stop Go.Stop Go.Extern
/-- What the laid variable errors.errorType gives. -/
def ETy (w : World) : Prop := w.cell? ⟨0, 0, none⟩ = some (.iface 187 (.agg #[.pointer (some ⟨2, 147, none⟩)]))
theorem ETy.lt {w : World} (h : ETy w) : 0 < w.heap.size := World.block_lt_of_cell? w _ h
theorem ETy.below {w w' : World} {B : Nat} (h : ETy w) (hb : Below B w w') (hB : 0 < B) : ETy w' := (hb.cell (p := ⟨0, 0, none⟩) hB).trans h
theorem ETy.only {w w' : World} {P : Nat → Prop} (h : ETy w) (ho : Only P w w') (hp : ¬ P 0) : ETy w' := (World.cell?_of_block (a := ⟨0, 0, none⟩) (ho.2 0 h.lt hp)).trans h
set_option maxRecDepth 100000 in
set_option maxHeartbeats 4000000 in
theorem as_hit (x : Int) (t : Addr) (old : Value) (w : World) (hg : ETy w) (ht0 : w.cell? t = some old) (hf0 : w.frozen? t = false) :
    Calls Tryz.prog 95 #[.iface 122 (.agg #[.int .i64 x]), .iface 150 (.pointer (some t))] w fun ev w' => ev = .returned (.bool true) ∧ w' = ((((w.alloc (.cells #[.pointer (some t)] 150)).alloc (.cells #[.pointer (some ⟨2, 150, none⟩), .pointer (some ⟨w.heap.size, 0, none⟩), .int .u64 150] 170)).alloc (.cells #[.pointer (some ⟨2, 150, none⟩), .pointer (some ⟨w.heap.size, 0, none⟩), .int .u64 150] 170)).alloc (.cells #[.int .i64 x] 122)).setCell t (.int .i64 x) := by
  have hVO := @run_callFunc_extern Tryz.prog 108 _ (fun args => ReflectliteValue.unpack (args.getD 0 (.tuple #[]))) Tryz.func108 (by kernel_rfl) (by kernel_rfl) (by kernel_rfl) (by kernel_rfl)
  have hTY := @run_callFunc_extern Tryz.prog 109 _ (ReflectliteValue.methodAny (ReflectliteValue.valueError "reflectlite.Value.Type" 0) (fun t _ _ _ => ReflectliteType.toType t)) Tryz.func109 (by kernel_rfl) (by kernel_rfl) (by kernel_rfl) (by kernel_rfl)
  have hNI := @run_callFunc_extern Tryz.prog 110 _ (ReflectliteValue.method (ReflectliteValue.valueError "reflectlite.Value.IsNil" 0) ReflectliteValue.isNil) Tryz.func110 (by kernel_rfl) (by kernel_rfl) (by kernel_rfl) (by kernel_rfl)
  have hKI := @run_callFunc_extern Tryz.prog 136 _ (ReflectliteType.abiMethod fun t => do pure (.int .u8 (← Rtype.kind t))) Tryz.func136 (by kernel_rfl) (by kernel_rfl) (by kernel_rfl) (by kernel_rfl)
  have hEL := @run_callFunc_extern Tryz.prog 149 _ (ReflectliteType.method ReflectliteType.elem) Tryz.func149 (by kernel_rfl) (by kernel_rfl) (by kernel_rfl) (by kernel_rfl)
  have hIM := @run_callFunc_extern Tryz.prog 150 _ (ReflectliteType.relation "Implements" ReflectliteType.implements_) Tryz.func150 (by kernel_rfl) (by kernel_rfl) (by kernel_rfl) (by kernel_rfl)
  have hTO := @run_callFunc_extern Tryz.prog 117 _ ReflectliteType.typeOf Tryz.func117 (by kernel_rfl) (by kernel_rfl) (by kernel_rfl) (by kernel_rfl)
  have hAT := @run_callFunc_extern Tryz.prog 147 _ (ReflectliteType.relation "AssignableTo" ReflectliteType.assignableTo) Tryz.func147 (by kernel_rfl) (by kernel_rfl) (by kernel_rfl) (by kernel_rfl)
  have hVE := @run_callFunc_extern Tryz.prog 118 _ (ReflectliteValue.method (ReflectliteValue.valueError "reflectlite.Value.Elem" 0) ReflectliteValue.elem) Tryz.func118 (by kernel_rfl) (by kernel_rfl) (by kernel_rfl) (by kernel_rfl)
  have hSE := @run_callFunc_extern Tryz.prog 119 _ ReflectliteValue.set Tryz.func119 (by kernel_rfl) (by kernel_rfl) (by kernel_rfl) (by kernel_rfl)
  have tO := ea_typeOfS
  have mA := ea_methodAssignableTo
  have a25 := ea_assignableS
  have v25 := ea_valueOfS
  have f6 := ea_valueOfP
  have f7 := ea_typeP
  have mK := ea_methodKind
  have mE := ea_methodElem
  have mI := ea_methodImplements
  have k27 := ea_kindP
  have k25 := ea_kindS
  have e27 := ea_elemP
  have i25 := ea_implementsS
  have n8 := ea_isNilP ⟨w.heap.size, 0, none⟩ t ((w.alloc (.cells #[.pointer (some t)] 150)).alloc (.cells #[.pointer (some ⟨2, 150, none⟩), .pointer (some ⟨w.heap.size, 0, none⟩), .int .u64 150] 170)) (by simp)
  have hlt : 0 < w.heap.size := hg.lt
  have hg2 : ((w.alloc (.cells #[.pointer (some t)] 150)).alloc (.cells #[.pointer (some ⟨2, 150, none⟩), .pointer (some ⟨w.heap.size, 0, none⟩), .int .u64 150] 170)).cell? ⟨0, 0, none⟩ = some (.iface 187 (.agg #[.pointer (some ⟨2, 147, none⟩)])) := by
    rw [World.cell?_alloc_lt _ _ ⟨0, 0, none⟩ (by simp <;> omega), World.cell?_alloc_lt _ _ ⟨0, 0, none⟩ hlt]; exact hg
  have htl : t.block < w.heap.size := World.block_lt_of_cell? w _ ht0
  have el := ea_elemVP ⟨w.heap.size, 0, none⟩ t (((w.alloc (.cells #[.pointer (some t)] 150)).alloc (.cells #[.pointer (some ⟨2, 150, none⟩), .pointer (some ⟨w.heap.size, 0, none⟩), .int .u64 150] 170)).alloc (.cells #[.pointer (some ⟨2, 150, none⟩), .pointer (some ⟨w.heap.size, 0, none⟩), .int .u64 150] 170)) (by rw [World.cell?_alloc_lt _ _ ⟨w.heap.size, 0, none⟩ (by simp; omega)]; simp)
  have st := ea_setS t ⟨w.heap.size + 1 + 1 + 1, 0, none⟩ x old ((((w.alloc (.cells #[.pointer (some t)] 150)).alloc (.cells #[.pointer (some ⟨2, 150, none⟩), .pointer (some ⟨w.heap.size, 0, none⟩), .int .u64 150] 170)).alloc (.cells #[.pointer (some ⟨2, 150, none⟩), .pointer (some ⟨w.heap.size, 0, none⟩), .int .u64 150] 170)).alloc (.cells #[.int .i64 x] 122))
    (by rw [World.cell?_alloc_at _ _ _ _ (by simp)]; rfl)
    (by rw [World.cell?_alloc_lt _ _ t (by simp; omega), World.cell?_alloc_lt _ _ t (by simp; omega), World.cell?_alloc_lt _ _ t (by simp; omega), World.cell?_alloc_lt _ _ t htl]; exact ht0)
    (by rw [World.frozen?_alloc_old _ _ t (by simp; omega), World.frozen?_alloc_old _ _ t (by simp; omega), World.frozen?_alloc_old _ _ t (by simp; omega), World.frozen?_alloc_old _ _ t (Nat.ne_of_lt htl)]; exact hf0)
  clear hg ht0 hf0
  go_enter Tryz.func95, Tryz.ntmps95
  go_wp2
  refine wp_loop_rounds 1 ?_
  rw [rounds_succ]
  go_wp2
  go_ret
  exact ⟨rfl, rfl⟩
end Go.Proofs.YtifjmldmilmfjaaGreatDoor

namespace Go.Proofs.YtifjmldmilmfjaaGreatDoor
open Go.RowKit
section
variable {P : Program} {ops : Array Oper} {Q : Exit → Act → List Frame → World → Prop} {md : Region.Mode}
/-- One operation of a region in a deferred function: it may recover. -/
def wpOpS (P : Program) (ops : Array Oper) (Q : Exit → Act → List Frame → World → Prop) (i : Nat) (K : Act → List Frame → World → Prop) (a : Act) (cs : List Frame) (w : World) : Prop :=
  match ops[i]? with
  | none => K a cs w
  | some o =>
    if Region.wanted o (yielded ops a.tmps) then
      match (execOp a.eval o).run P w with
      | .ok .recover w' =>
        match recoverD cs with
        | some (v, cs') => K (a.put o.dst v) cs' w'
        | none => K (a.put o.dst .nilIface) cs w'
      | r => o.upon P a (fun a' w' => K a' cs w') (fun e a' w' => Q e a' cs w') r
    else K (a.put o.dst undef) cs w
theorem wpOpsS_cons (i : Nat) (rest : List Nat) (a : Act) (cs : List Frame) (w : World) : wpOpsS P ops Q (i :: rest) a cs w = wpOpS P ops Q i (wpOpsS P ops Q rest) a cs w := rfl
theorem upon_mono {o : Oper} {a : Act} {K K' : Act → World → Prop} {R : Exit → Act → World → Prop} (h : ∀ a w, K a w → K' a w) (r : Result Next) (hh : o.upon P a K R r) : o.upon P a K' R r := by
  cases r with
  | ok n w' =>
    cases n <;> simp only [Oper.upon] at hh ⊢ <;>
      first
        | exact h _ _ hh
        | exact Calls.mono hh (fun e w'' he => by cases e <;> first | exact h _ _ he | exact he)
        | exact Rows.mono hh (fun _ _ he => h _ _ he)
  | halt x w' => cases x <;> simp only [Oper.upon] at hh ⊢ <;> exact hh
theorem wpOpS_mono {i : Nat} {a : Act} {cs : List Frame} {w : World} {K K' : Act → List Frame → World → Prop} (h : ∀ a cs w, K a cs w → K' a cs w) (hh : wpOpS P ops Q i K a cs w) : wpOpS P ops Q i K' a cs w := by
  unfold wpOpS at *
  cases ho : ops[i]? with
  | none => simp only [ho] at hh ⊢; exact h _ _ _ hh
  | some o =>
    simp only [ho] at hh ⊢
    by_cases hw : Region.wanted o (yielded ops a.tmps) = true
    · simp only [hw, if_true] at hh ⊢
      split at hh
      · split at hh
        · exact h _ _ _ hh
        · exact h _ _ _ hh
      · exact upon_mono (fun a w => h a cs w) _ hh
    · simp only [hw] at hh ⊢
      exact h _ _ _ hh
/-- Whatever order the edges allow. -/
def wpAnyS (P : Program) (md : Region.Mode) (ops : Array Oper) (Q : Exit → Act → List Frame → World → Prop) : Nat → Array Bool → Act → List Frame → World → Prop
  | 0, listed, a, cs, w => Region.ready md ops listed = [] ∧ Q .normal a cs w
  | fuel + 1, listed, a, cs, w =>
    (Region.ready md ops listed = [] → Q .normal a cs w) ∧
    ∀ i ∈ Region.ready md ops listed, wpOpS P ops Q i (wpAnyS P md ops Q fuel (listed.setIfInBounds i true)) a cs w
theorem wpAnyS_sound : ∀ (fuel t : Nat) (listed : Array Bool) (a : Act) (cs : List Frame) (w : World), wpAnyS P md ops Q fuel listed a cs w →
    wpOpsS P ops Q (Region.linearise.go md ops fuel t listed []) a cs w := by
  intro fuel
  induction fuel with
  | zero => intro t listed a cs w h; simpa [Region.linearise.go, wpOpsS] using h.2
  | succ fuel ih =>
    intro t listed a cs w h
    obtain ⟨h₀, h₁⟩ := h
    simp only [Region.linearise.go]
    change wpOpsS P ops Q (match (Region.ready md ops listed)[t % (Region.ready md ops listed).length]? with
      | some i => Region.linearise.go md ops fuel (t / (Region.ready md ops listed).length) (listed.setIfInBounds i true) [i]
      | none => [].reverse) a cs w
    cases hi : (Region.ready md ops listed)[t % (Region.ready md ops listed).length]? with
    | none =>
      have hnil : Region.ready md ops listed = [] := by
        cases hr : Region.ready md ops listed with
        | nil => rfl
        | cons x xs =>
          rw [hr] at hi
          have hlt : t % (x :: xs).length < (x :: xs).length := Nat.mod_lt _ (by simp)
          simp at hi
          simp at hlt
          omega
      simpa [wpOpsS] using h₀ hnil
    | some i =>
      simp only []
      rw [linearise_go_acc, List.reverse_singleton, List.singleton_append, wpOpsS_cons]
      exact wpOpS_mono (fun a cs w => ih _ _ a cs w) (h₁ i (List.mem_of_getElem? hi))
theorem wpS_region_any {id : Nat} {a : Act} {cs : List Frame} {w : World} (hm : P.follows .mixedOrders = true)
    (h : wpAnyS P .any ops Q ops.size (Array.replicate ops.size false) a cs { w with drawn := w.drawn + 1 }) : (Code.region id ops true).wpS P Q a cs w :=
  fun b k hb hr => by
    obtain ⟨e, a', cs', w', q, r⟩ := wp_opsS (Region.schedule (P.follows .mixedOrders) ops (w.tape w.drawn (.order b.fn id))) a cs { w with drawn := w.drawn + 1 } (by
      simp only [Region.schedule, hm, Bool.true_or, if_true]
      exact wpAnyS_sound ops.size _ _ a cs _ h) b k hb hr
    exact ⟨e, a', cs', w', q, .of_steps (.one step_region_draw) r⟩
end
end Go.Proofs.YtifjmldmilmfjaaGreatDoor

namespace Go.Proofs.YtifjmldmilmfjaaGreatDoor
open Go.RowKit Go.Extern.Stop Go.Stop Go.Extern
/-- At block b lies a Reader: what is left, how much was taken, what was wrong first. -/
def Rdr (w : World) (b : Nat) (r : ByteArray) (t e : Int) : Prop := Blk w b #[.string r, .int .i64 t, .int .i64 e] 119
theorem as_b (x : Int) (t : Addr) (old : Value) (w : World) (hg : ETy w) (ht0 : w.cell? t = some old) (hf0 : w.frozen? t = false) :
    Calls Tryz.prog 95 #[.iface 122 (.agg #[.int .i64 x]), .iface 150 (.pointer (some t))] w fun ev w' => ev = .returned (.bool true) ∧ w'.cell? t = some (.int .i64 x) ∧ Only (fun k => k = t.block) w w' := by
  have htl : t.block < w.heap.size := World.block_lt_of_cell? w _ ht0
  refine (as_hit x t old w hg ht0 hf0).mono ?_
  rintro ev w' ⟨rfl, rfl⟩
  refine ⟨rfl, ?_, (((((Only.refl _ w).alloc _).alloc _).alloc _).alloc _).setCell _ _ (fun _ => rfl)⟩
  exact World.cell?_setCell_same _ _ _ (u := old) (by
    rw [World.cell?_alloc_lt _ _ t (by simp; omega), World.cell?_alloc_lt _ _ t (by simp; omega), World.cell?_alloc_lt _ _ t (by simp; omega), World.cell?_alloc_lt _ _ t htl]
    exact ht0)
theorem ea_isError (v : Value) (w : World) : (Instr.typeAssert (.iface 122 v) 20 147 true).run Tryz.prog w = .ok (.tuple #[.iface 122 v, .bool true]) w := run_typeAssert_hasB Tryz.underlying147 (by kernel_rfl) v 20 w
set_option maxRecDepth 100000 in
set_option maxHeartbeats 400000 in
theorem settle_nil (b : Nat) (t : Int) (w : World) :
    Calls Tryz.prog 71 #[.pointer (some ⟨b, 0, none⟩), .int .i64 t, .nilIface] w fun ev w' => ev = .returned (.tuple #[]) ∧ w' = w := by
  go_enter Tryz.func71, Tryz.ntmps71
  go_wp2
  (try simp only [Exit.inBlock, Exit.then])
  exact bodyPost_ret (results_none rfl _ _ _) rfl ⟨rfl, rfl⟩
set_option maxRecDepth 100000 in
set_option maxHeartbeats 2000000 in
theorem settle_hit (b : Nat) (r : ByteArray) (t0 t e x : Int) (w : World) (hg : ETy w) (h : Rdr w b r t0 e) :
    Calls Tryz.prog 71 #[.pointer (some ⟨b, 0, none⟩), .int .i64 t, .iface 122 (.agg #[.int .i64 x])] w fun ev w' => ev = .returned (.tuple #[]) ∧ Rdr w' b ⟨#[]⟩ t x ∧ Only (fun k => k = b) w w' := by
  have hE := ea_isError
  have hA0 := (Only.refl (fun _ => False) w).alloc (Obj.cells #[Value.int .i64 0] 122)
  have HA := hide (as_b x ⟨w.heap.size, 0, none⟩ (.int .i64 0) (w.alloc (Obj.cells #[Value.int .i64 0] 122)) (hg.only hA0 (fun q => q)) (by simp) (by simp))
  have HR := hide h
  have hlt := h.lt
  clear h hg hA0
  go_enter Tryz.func71, Tryz.ntmps71
  go_wp2_with fail
  refine (unhide HA).mono ?_
  rintro ev w2 ⟨rfl, hc, hO⟩
  have HO := hide hO
  clear hO
  have hB2 : Blk w2 b #[.string r, .int .i64 t0, .int .i64 e] 119 := Blk.only (Blk.alloc (unhide HR) _) (unhide HO) (by show ¬ b = w.heap.size; omega)
  have c0 : w2.cell? ⟨b, 0, none⟩ = some (.string r) := by rw [hB2.cell 0]; rfl
  have c1 : w2.cell? ⟨b, 1, none⟩ = some (.int .i64 t0) := by rw [hB2.cell 1]; rfl
  have c2 : w2.cell? ⟨b, 2, none⟩ = some (.int .i64 e) := by rw [hB2.cell 2]; rfl
  have f0 := hB2.frozen 0
  have f1 := hB2.frozen 1
  have f2 := hB2.frozen 2
  have HB2 := hide hB2
  clear hB2
  have HS := hide hc
  go_wp2
  (try simp only [Exit.inBlock, Exit.then])
  refine bodyPost_ret (results_none rfl _ _ _) rfl ⟨rfl, ?_, ?_⟩
  · exact (((unhide HB2).set 0 _).set 1 _).set 2 _
  · have h1 : Only (fun k => k = b) w w2 := ((Only.refl _ w).alloc _).trans (unhide HO) (fun k hk hq => by
      have : k = w.heap.size := hq
      omega)
    exact ((h1.setCell _ _ (fun _ => rfl)).setCell _ _ (fun _ => rfl)).setCell _ _ (fun _ => rfl)
end Go.Proofs.YtifjmldmilmfjaaGreatDoor
