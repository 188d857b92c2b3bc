import Derived.Test.YtiokejnlioghiaaGreatDoorMv04
import Derived.Lib.RowBridge
import Derived.Lib.OwnBridge
import Derived.Lib.AppendIntMem
import Derived.Test.YtiokejnlioghiaaGreatDoorMv00
import Derived.LaidEql
import Derived.Stop.Asserts
import Derived.RowKitTokens
import Derived.Recover
namespace Go.Proofs.YtiokejnlioghiaaGreatDoor
open Go.RowKit
theorem compact_nodup (zs : List Int) : (Lib.compact (zs.mergeSort fun x y => decide (x ≤ y))).length < zs.length ↔ ¬ zs.Nodup := by
  have hp := List.mergeSort_perm zs (fun x y => decide (x ≤ y))
  have hs : (zs.mergeSort fun x y => decide (x ≤ y)).Pairwise (fun x y => decide (x ≤ y) = true) := List.pairwise_mergeSort (fun a b c h1 h2 => by simp at *; omega) (fun a b => by simp; omega) zs
  rw [← hp.nodup_iff, ← hp.length_eq]
  generalize (zs.mergeSort fun x y => decide (x ≤ y)) = S at *
  have hle := Lib.compact_length_le S
  constructor
  · intro h hn
    have : Lib.compact S = S := Lib.compact_all S (fun j hj => by
      by_cases h0 : j = 0
      · exact Lib.keeps_lt_one _ j (by omega)
      · refine Lib.keeps_pos ?_
        intro e
        have e1 : S.toArray[j]! = S[j] := by simp [hj]
        have e2 : S.toArray[j - 1]! = S[j - 1]'(by omega) := by simp [show j - 1 < S.length by omega]
        rw [e1, e2] at e
        exact (List.pairwise_iff_getElem.1 (show S.Pairwise (· ≠ ·) from hn)) (j - 1) j (by omega) hj (by omega) e.symm)
    rw [this] at h
    omega
  · intro h
    refine Nat.lt_of_le_of_ne hle (fun e => h ?_)
    have hk : ∀ j, j < S.length → Lib.keeps S.toArray j = true := by
      unfold Lib.compact Lib.compactUpTo at e
      rw [List.length_map] at e
      have e' : ((List.range S.length).filter (Lib.keeps S.toArray)).length = (List.range S.length).length := by rw [e, List.length_range]
      have := List.length_filter_eq_length_iff.1 e'
      exact fun j hj => this j (List.mem_range.2 hj)
    rw [List.nodup_iff_pairwise_ne, List.pairwise_iff_getElem]
    intro i j hi hj hij e
    have h1 := hk j hj
    have e1 : S.toArray[j]! = S[j] := by simp [hj]
    have e2 : S.toArray[j - 1]! = S[j - 1]'(by omega) := by simp [show j - 1 < S.length by omega]
    have hne : S[j] ≠ S[j - 1]'(by omega) := fun q => by
      have := Lib.keeps_neg (d := S.toArray) (m := j) (by omega) (by rw [e1, e2]; exact q)
      rw [this] at h1
      cases h1
    rw [List.pairwise_iff_getElem] at hs
    have a1 := hs (j - 1) j (by omega) hj (by omega)
    simp at a1
    by_cases hq : i = j - 1
    · subst hq
      exact hne e.symm
    · have a2 := hs i (j - 1) hi (by omega) (by omega)
      simp at a2
      omega
def freeP (size : Int) (x : Wr1) : Bool := !decide (19 ≤ x.1 ∧ x.1 < size)
def longP (x : Wr1) : Bool := decide (x.2.size ≠ 256)
/-- Why a list may not be committed. -/
def refE (l : List Wr1) (size : Int) : Int := if 16 < l.length then 50 else if l.any (freeP size) then 52 else if ¬ (secs l).Nodup then 51 else if l.any longP then 42 else 0
set_option maxRecDepth 100000 in
set_option maxHeartbeats 400000 in
theorem isFree_any (z size : Int) (w : World) : Calls Tryz.prog 106 #[.int .i64 z, .int .i64 size] w fun e w' => e = .returned (.bool (decide (19 ≤ z ∧ z < size))) ∧ w' = w := by
  by_cases h : 19 ≤ z
  · go_enter Tryz.func106, Tryz.ntmps106
    go_wp2
    go_ret
    exact ⟨by simp [h], rfl⟩
  · go_enter Tryz.func106, Tryz.ntmps106
    go_wp2
    go_ret
    exact ⟨by simp; omega, rfl⟩
/-- A question of a write, asked in whatever world leaves all that was there. -/
def PredW (g : Nat) (lb : Array Value) (q : Wr1 → Bool) (w : World) : Prop := ∀ (W : World) (x : Wr1), Below w.heap.size w W → Calls Tryz.prog g (#[.agg #[.int .i64 x.1, .string x.2]] ++ lb) W fun e w' => e = .returned (.bool (q x)) ∧ Below w.heap.size w w'
set_option maxRecDepth 100000 in
set_option maxHeartbeats 400000 in
theorem pred1_any (size : Int) (B : Nat) (w : World) (hB : B < w.heap.size) (hc : w.cell? ⟨B, 0, none⟩ = some (.int .i64 size)) : PredW 105 #[.pointer (some ⟨B, 0, none⟩)] (freeP size) w := fun W x hb => by
  have hc2 : W.cell? ⟨B, 0, none⟩ = some (.int .i64 size) := (hb.cell (p := ⟨B, 0, none⟩) hB).trans hc
  have hlt : B < W.heap.size := Nat.lt_of_lt_of_le hB hb.size
  obtain ⟨z, t⟩ := x
  show Calls Tryz.prog 105 #[.agg #[.int .i64 z, .string t], .pointer (some ⟨B, 0, none⟩)] W fun e w' => e = .returned (.bool (!decide (19 ≤ z ∧ z < size))) ∧ Below w.heap.size w w'
  have HF := hide (fun W => isFree_any z size W)
  obtain ⟨x1, hx1⟩ : ∃ x, x = W.alloc (Obj.cells #[.int .i64 z, .string t] 36) := ⟨_, rfl⟩
  have hb1 : Below w.heap.size w x1 := by rw [hx1]; exact hb.alloc hb.size _
  have HB := hide hb1
  have hne : B ≠ W.heap.size := by omega
  generalize decide (19 ≤ z ∧ z < size) = r at *
  clear hb hb1
  go_enter Tryz.func105, Tryz.ntmps105
  go_wp2_with fail
  rw [← hx1]
  refine (unhide HF _).mono ?_
  rintro e x2 ⟨rfl, rfl⟩
  replace hx1 := hide hx1
  go_wp2
  go_ret
  exact ⟨rfl, unhide HB⟩
set_option maxRecDepth 100000 in
set_option maxHeartbeats 400000 in
theorem pred2_any (w : World) : PredW 110 #[] longP w := fun W x hb => by
  obtain ⟨z, t⟩ := x
  show Calls Tryz.prog 110 #[.agg #[.int .i64 z, .string t]] W fun e w' => e = .returned (.bool (decide (t.size ≠ 256))) ∧ Below w.heap.size w w'
  have e : decide (t.size ≠ 256) = ((t.size : Int) != 256) := by
    by_cases h : t.size = 256
    · simp [h]
    · have : ¬ ((t.size : Int) = 256) := by omega
      simp [h, this]
  rw [e]
  clear e
  go_enter Tryz.func110, Tryz.ntmps110
  go_wp2
  go_ret
  exact ⟨rfl, hb.alloc hb.size _⟩
theorem any_drop (l : List Wr1) (q : Wr1 → Bool) (k : Nat) (hk : k < l.length) : (l.drop k).any q = (q (l.getD k wr0) || (l.drop (k + 1)).any q) := by
  rw [List.drop_eq_getElem_cons hk, List.any_cons, getD_of hk]
set_option maxRecDepth 100000 in
set_option maxHeartbeats 2000000 in
theorem idxf_any (w : World) (p : Option Addr) (c : Nat) (l : List Wr1) (n : Nat) (hn : n = l.length) (hl : Wls w p l) (hz : l.length ≤ 1000000) (g : Nat) (lb : Array Value) (q : Wr1 → Bool) (eg : ∀ args w, (callFunc g args).run Tryz.prog w = .ok (.enter g args) w) (hq : PredW g lb q w) :
    Calls Tryz.prog 148 #[.slice p n c, .func (.func g) #[] lb] w fun e w' => ∃ r : Int, e = .returned (.int .i64 r) ∧ (decide (0 ≤ r) = l.any q) ∧ Below w.heap.size w w' := by
  have HL := hide hl
  have HN := hide hn
  have HQ := hide hq
  have hzn : n ≤ 1000000 := by omega
  clear hl hn hq hz
  go_enter Tryz.func148, Tryz.ntmps148
  go_wp2
  go_loopw [8] (fun i wr => ∃ k : Nat, k ≤ n ∧ i = .int .i64 (k : Int) ∧ Hid (l.any q = (l.drop k).any q) ∧ Hid (Below w.heap.size w wr)) (fun i _ => n - (intOf i).toNat)
  case atStart => exact ⟨0, by omega, rfl, hide rfl, hide (Below.refl _ _)⟩
  case round =>
    obtain ⟨k, hk, rfl, hA, hB⟩ := hrel
    obtain ⟨wo, rfl⟩ : ∃ wo, wo = wr := ⟨_, rfl⟩
    by_cases hkl : k < n
    · have hkl2 : k < l.length := by rw [← unhide HN]; exact hkl
      obtain ⟨gb, o, rfl, hg, c0, c1⟩ := (unhide HL).below (unhide hB) k hkl2
      have hst := any_drop l q k hkl2
      obtain ⟨z, hz⟩ : ∃ z, (l.getD k wr0).1 = z := ⟨_, rfl⟩
      obtain ⟨t, ht⟩ : ∃ t, (l.getD k wr0).2 = t := ⟨_, rfl⟩
      have hx : l.getD k wr0 = (z, t) := by rw [← hz, ← ht]
      rw [hz] at c0
      rw [ht] at c1
      rw [hx] at hst
      have hld := load_wr wo gb (o + k * 2) z t c0 c1
      have hcall := unhide HQ wo (z, t) (unhide hB)
      have HS := hide hst
      clear hst hz ht hx hkl2
      cases hqv : q (z, t) with
      | true =>
        rw [hqv] at hcall
        have HA := hide (show l.any q = true from by rw [unhide hA, unhide HS, hqv]; rfl)
        clear hA HS hB hqv
        go_wp2_with (go_at_fn g; refine hcall.mono ?_; rintro e w' ⟨rfl, hb'⟩)
        go_ret
        exact ⟨(k : Int), rfl, by rw [unhide HA]; simp, hb'⟩
      | false =>
        rw [hqv] at hcall
        have HA := hide (show l.any q = (l.drop (k + 1)).any q from by rw [unhide hA, unhide HS, hqv]; rfl)
        clear hA HS hB hqv
        go_wp2_with (go_at_fn g; refine hcall.mono ?_; rintro e w' ⟨rfl, hb'⟩)
        have HB' := hide hb'
        clear hb'
        go_roundw
        case rel => exact ⟨k + 1, by omega, by go_num, HA, HB'⟩
        case measure => simp [intOf]; omega
    · have hk' : k = n := by omega
      subst hk'
      have HA := hide (show l.any q = false from by rw [unhide hA, unhide HN, List.drop_length]; rfl)
      clear hA hkl
      go_wp2
      go_ret
      exact ⟨-1, rfl, by rw [unhide HA]; rfl, unhide hB⟩
set_option maxRecDepth 100000 in
set_option maxHeartbeats 400000 in
theorem contf_any (w : World) (p : Option Addr) (c : Nat) (l : List Wr1) (n : Nat) (hn : n = l.length) (hl : Wls w p l) (hz : l.length ≤ 1000000) (g : Nat) (lb : Array Value) (q : Wr1 → Bool) (eg : ∀ args w, (callFunc g args).run Tryz.prog w = .ok (.enter g args) w) (hq : PredW g lb q w) :
    Calls Tryz.prog 104 #[.slice p n c, .func (.func g) #[] lb] w fun e w' => e = .returned (.bool (l.any q)) ∧ Below w.heap.size w w' := by
  have HC := hide (idxf_any w p c l n hn hl hz g lb q eg hq)
  clear hl hn hq hz
  go_enter Tryz.func104, Tryz.ntmps104
  go_wp2_with fail
  refine (unhide HC).mono ?_
  rintro e x1 ⟨r, rfl, hr, hb⟩
  have HB := hide hb
  have HR := hide hr
  clear hr hb
  go_wp2
  go_ret
  refine ⟨?_, unhide HB⟩
  show Ending.returned (.bool (decide (0 ≤ r))) = _
  rw [unhide HR]
end Go.Proofs.YtiokejnlioghiaaGreatDoor

namespace Go.Proofs.YtiokejnlioghiaaGreatDoor
open Go.RowKit Go.Extern.Stop Go.Stop Go.Extern
/-! errors.As at the target *giveUp, of an error that is a giveUp: after the kit's worked toy 'toyas'. -/
theorem ea_valueOfP (t : Addr) (w : World) : (ReflectliteValue.unpack (.iface 204 (.pointer (some t)))).run Tryz.prog w
    = .ok (.agg #[.pointer (some ⟨2, 204, none⟩), .pointer (some ⟨w.heap.size, 0, none⟩), .int .u64 150]) (w.alloc (.cells #[.pointer (some t)] 204)) := by kernel_rfl
theorem ea_typeP (a : Addr) (w : World) : (ReflectliteValue.methodAny (ReflectliteValue.valueError "reflectlite.Value.Type" 0) (fun t _ _ _ => ReflectliteType.toType t) #[.agg #[.pointer (some ⟨2, 204, none⟩), .pointer (some a), .int .u64 150]]).run Tryz.prog w
    = .ok (.iface 237 (.agg #[.pointer (some ⟨2, 204, none⟩)])) w := by kernel_rfl
theorem ea_methodKind (h : Value) (w : World) : (Go.method 378 237 (.agg #[h]) "Kind").run Tryz.prog w = .ok (209, h) w := by kernel_rfl
theorem ea_kindP (w : World) : ((ReflectliteType.abiMethod fun t => (fun a : Nat => Value.int IntKind.u8 (a : Int)) <$> Rtype.kind t) #[.pointer (some ⟨2, 204, none⟩)]).run Tryz.prog w = .ok (.int .u8 22) w := by kernel_rfl
theorem ea_kindS (w : World) : ((ReflectliteType.abiMethod fun t => (fun a : Nat => Value.int IntKind.u8 (a : Int)) <$> Rtype.kind t) #[.pointer (some ⟨2, 193, none⟩)]).run Tryz.prog w = .ok (.int .u8 25) w := by kernel_rfl
theorem rlm (z : Sem Value) (f : TypeId → Addr → Nat → Nat → Sem Value) (v : Value) :
    ReflectliteValue.method z f #[v] = (do match ← ReflectliteValue.parts v with | none => z | some (t, a, fl) => f t a fl (fl % 32)) := rfl
theorem ea_partsP (a : Addr) (w : World) : (ReflectliteValue.parts (.agg #[.pointer (some ⟨2, 204, none⟩), .pointer (some a), .int .u64 150])).run Tryz.prog w = .ok (some (204, a, 150)) w := by kernel_rfl
theorem ea_isNilP (a p : Addr) (W : World) (ha : W.cell? a = some (.pointer (some p))) :
    (ReflectliteValue.method (ReflectliteValue.valueError "reflectlite.Value.IsNil" 0) ReflectliteValue.isNil #[.agg #[.pointer (some ⟨2, 204, none⟩), .pointer (some a), .int .u64 150]]).run Tryz.prog W = .ok (.bool false) W := by
  rw [rlm]
  simp only [Sem.run_bind, ea_partsP, Result.andThen]
  simp [ReflectliteValue.isNil, loadVar, isAgg, underlying, Tryz.underlying204, ha, Result.andThen]
theorem ea_methodElem (h : Value) (w : World) : (Go.method 378 237 (.agg #[h]) "Elem").run Tryz.prog w = .ok (222, .agg #[h]) w := by kernel_rfl
theorem ea_methodImplements (h : Value) (w : World) : (Go.method 378 237 (.agg #[h]) "Implements").run Tryz.prog w = .ok (223, .agg #[h]) w := by kernel_rfl
theorem ea_methodAssignableTo (h : Value) (w : World) : (Go.method 378 237 (.agg #[h]) "AssignableTo").run Tryz.prog w = .ok (220, .agg #[h]) w := by kernel_rfl
theorem ea_elemP (w : World) : (ReflectliteType.method ReflectliteType.elem #[.agg #[.pointer (some ⟨2, 204, none⟩)]]).run Tryz.prog w = .ok (.iface 237 (.agg #[.pointer (some ⟨2, 193, none⟩)])) w := by kernel_rfl
theorem ea_implementsS (w : World) : (ReflectliteType.relation "Implements" ReflectliteType.implements_ #[.agg #[.pointer (some ⟨2, 193, none⟩)], .iface 237 (.agg #[.pointer (some ⟨2, 137, none⟩)])]).run Tryz.prog w = .ok (.bool true) w := by kernel_rfl
theorem ea_typeOfS (v : Value) (w : World) : (ReflectliteType.typeOf #[.iface 193 v]).run Tryz.prog w = .ok (.iface 237 (.agg #[.pointer (some ⟨2, 193, none⟩)])) w := by kernel_rfl
theorem ea_assignableS (w : World) : (ReflectliteType.relation "AssignableTo" ReflectliteType.assignableTo #[.agg #[.pointer (some ⟨2, 193, none⟩)], .iface 237 (.agg #[.pointer (some ⟨2, 193, none⟩)])]).run Tryz.prog w = .ok (.bool true) w := by kernel_rfl
theorem ea_valueOfS (x : Int) (w : World) : (ReflectliteValue.unpack (.iface 193 (.agg #[.int .i64 x]))).run Tryz.prog w
    = .ok (.agg #[.pointer (some ⟨2, 193, none⟩), .pointer (some ⟨w.heap.size, 0, none⟩), .int .u64 153]) (w.alloc (.cells #[.int .i64 x] 193)) := by kernel_rfl
theorem ea_elemOfP (w : World) : (Rtype.elem? 204).run Tryz.prog w = .ok (some 193) w := by kernel_rfl
theorem ea_mkS (p : Addr) (w : World) : (ReflectliteValue.mk 193 p ReflectliteValue.flagAddr).run Tryz.prog w = .ok (.agg #[.pointer (some ⟨2, 193, none⟩), .pointer (some p), .int .u64 409]) w := by kernel_rfl
theorem ea_elemVP (a p : Addr) (W : World) (ha : W.cell? a = some (.pointer (some p))) :
    (ReflectliteValue.method (ReflectliteValue.valueError "reflectlite.Value.Elem" 0) ReflectliteValue.elem #[.agg #[.pointer (some ⟨2, 204, none⟩), .pointer (some a), .int .u64 150]]).run Tryz.prog W
      = .ok (.agg #[.pointer (some ⟨2, 193, none⟩), .pointer (some p), .int .u64 409]) W := by
  rw [rlm]
  simp only [Sem.run_bind, ea_partsP, Result.andThen]
  simp [ReflectliteValue.elem, loadVar, isAgg, underlying, Tryz.underlying204, ha, Result.andThen, ea_elemOfP, ea_mkS]
theorem rls (v x : Value) : ReflectliteValue.set #[v, x] = (do
    let (some (dst, a, fl), some (src, b, _)) := (← ReflectliteValue.parts v, ← ReflectliteValue.parts x)
      | unsupported (.noEntry "extern/(internal/reflectlite.Value).Set.zeroValue")
    if fl / ReflectliteValue.flagAddr % 2 == 0 then unsupported (.noEntry "extern/(internal/reflectlite.Value).Set.unaddressable")
    let val ← loadVar src b
    if ← Rtype.directlyAssignable dst src then storeVar dst a val
    else if ← Rtype.implements dst src then
      if (← Rtype.kind src) == 20 then
        match val with
        | .nilIface => unsupported (.noEntry "extern/reflectlite: a nil value of one interface type handed on as a value of another")
        | _ => storeVar dst a val
      else storeVar dst a (.iface src val)
    else panicString ("reflectlite.Set: value of type " ++ (← Rtype.spelt src) ++ " is not assignable to type " ++ (← Rtype.spelt dst))
    pure (.tuple #[])) := rfl
theorem ea_partsSa (a : Addr) (w : World) : (ReflectliteValue.parts (.agg #[.pointer (some ⟨2, 193, none⟩), .pointer (some a), .int .u64 409])).run Tryz.prog w = .ok (some (193, a, 409)) w := by kernel_rfl
theorem ea_partsS (a : Addr) (w : World) : (ReflectliteValue.parts (.agg #[.pointer (some ⟨2, 193, none⟩), .pointer (some a), .int .u64 153])).run Tryz.prog w = .ok (some (193, a, 153)) w := by kernel_rfl
theorem ea_directS (w : World) : (Rtype.directlyAssignable 193 193).run Tryz.prog w = .ok true w := by kernel_rfl
theorem ea_setS (ta b : Addr) (x : Int) (old : Value) (W : World) (hb : W.cell? b = some (.int .i64 x)) (ht : W.cell? ta = some old) (hf : W.frozen? ta = false) :
    (ReflectliteValue.set #[.agg #[.pointer (some ⟨2, 193, none⟩), .pointer (some ta), .int .u64 409], .agg #[.pointer (some ⟨2, 193, none⟩), .pointer (some b), .int .u64 153]]).run Tryz.prog W
      = .ok (.tuple #[]) (W.setCell ta (.int .i64 x)) := by
  rw [rls]
  simp only [Sem.run_bind, ea_partsSa, ea_partsS, Result.andThen]
  have hlv : (loadVar 193 b).run Tryz.prog W = .ok (.agg #[.int .i64 x]) W := by
    simp [loadVar, isAgg, underlying, Tryz.underlying193, Result.andThen, loadCells, loadCellsFrom, Addr.add, hb]
  simp [ReflectliteValue.flagAddr, hlv, Result.andThen, ea_directS, storeVar, Value.cells, storeCells, Addr.add]
  rw [run_store Tryz.prog W ta _ _ (by rfl)]
  simp [ht, hf]
end Go.Proofs.YtiokejnlioghiaaGreatDoor

namespace Go.Proofs.YtiokejnlioghiaaGreatDoor
open Go.RowKit Go.Extern.Stop Go.Stop Go.Extern
/-- What the laid variable errors.errorType gives. -/
def ETy (w : World) : Prop := w.cell? ⟨1, 0, none⟩ = some (.iface 237 (.agg #[.pointer (some ⟨2, 137, none⟩)]))
theorem ETy.lt {w : World} (h : ETy w) : 1 < w.heap.size := World.block_lt_of_cell? w _ h
theorem ETy.below {w w' : World} {B : Nat} (h : ETy w) (hb : Below B w w') (hB : 1 < B) : ETy w' := (hb.cell (p := ⟨1, 0, none⟩) hB).trans h
theorem ETy.only {w w' : World} {P : Nat → Prop} (h : ETy w) (ho : Only P w w') (hp : ¬ P 1) : ETy w' := (World.cell?_of_block (a := ⟨1, 0, none⟩) (ho.2 1 h.lt hp)).trans h
set_option maxRecDepth 100000 in
set_option maxHeartbeats 4000000 in
theorem as_hit (x : Int) (t : Addr) (old : Value) (w : World) (hg : ETy w) (ht0 : w.cell? t = some old) (hf0 : w.frozen? t = false) :
    Calls Tryz.prog 161 #[.iface 193 (.agg #[.int .i64 x]), .iface 204 (.pointer (some t))] w fun ev w' => ev = .returned (.bool true) ∧ w' = ((((w.alloc (.cells #[.pointer (some t)] 204)).alloc (.cells #[.pointer (some ⟨2, 204, none⟩), .pointer (some ⟨w.heap.size, 0, none⟩), .int .u64 150] 220)).alloc (.cells #[.pointer (some ⟨2, 204, none⟩), .pointer (some ⟨w.heap.size, 0, none⟩), .int .u64 150] 220)).alloc (.cells #[.int .i64 x] 193)).setCell t (.int .i64 x) := by
  have hVO := @run_callFunc_extern Tryz.prog 178 _ (fun args => ReflectliteValue.unpack (args.getD 0 (.tuple #[]))) Tryz.func178 (by kernel_rfl) (by kernel_rfl) (by kernel_rfl) (by kernel_rfl)
  have hTY := @run_callFunc_extern Tryz.prog 179 _ (ReflectliteValue.methodAny (ReflectliteValue.valueError "reflectlite.Value.Type" 0) (fun t _ _ _ => ReflectliteType.toType t)) Tryz.func179 (by kernel_rfl) (by kernel_rfl) (by kernel_rfl) (by kernel_rfl)
  have hNI := @run_callFunc_extern Tryz.prog 180 _ (ReflectliteValue.method (ReflectliteValue.valueError "reflectlite.Value.IsNil" 0) ReflectliteValue.isNil) Tryz.func180 (by kernel_rfl) (by kernel_rfl) (by kernel_rfl) (by kernel_rfl)
  have hKI := @run_callFunc_extern Tryz.prog 209 _ (ReflectliteType.abiMethod fun t => do pure (.int .u8 (← Rtype.kind t))) Tryz.func209 (by kernel_rfl) (by kernel_rfl) (by kernel_rfl) (by kernel_rfl)
  have hEL := @run_callFunc_extern Tryz.prog 222 _ (ReflectliteType.method ReflectliteType.elem) Tryz.func222 (by kernel_rfl) (by kernel_rfl) (by kernel_rfl) (by kernel_rfl)
  have hIM := @run_callFunc_extern Tryz.prog 223 _ (ReflectliteType.relation "Implements" ReflectliteType.implements_) Tryz.func223 (by kernel_rfl) (by kernel_rfl) (by kernel_rfl) (by kernel_rfl)
  have hTO := @run_callFunc_extern Tryz.prog 190 _ ReflectliteType.typeOf Tryz.func190 (by kernel_rfl) (by kernel_rfl) (by kernel_rfl) (by kernel_rfl)
  have hAT := @run_callFunc_extern Tryz.prog 220 _ (ReflectliteType.relation "AssignableTo" ReflectliteType.assignableTo) Tryz.func220 (by kernel_rfl) (by kernel_rfl) (by kernel_rfl) (by kernel_rfl)
  have hVE := @run_callFunc_extern Tryz.prog 191 _ (ReflectliteValue.method (ReflectliteValue.valueError "reflectlite.Value.Elem" 0) ReflectliteValue.elem) Tryz.func191 (by kernel_rfl) (by kernel_rfl) (by kernel_rfl) (by kernel_rfl)
  have hSE := @run_callFunc_extern Tryz.prog 192 _ ReflectliteValue.set Tryz.func192 (by kernel_rfl) (by kernel_rfl) (by kernel_rfl) (by kernel_rfl)
  have tO := ea_typeOfS
  have mA := ea_methodAssignableTo
  have a25 := ea_assignableS
  have v25 := ea_valueOfS
  have f6 := ea_valueOfP
  have f7 := ea_typeP
  have mK := ea_methodKind
  have mE := ea_methodElem
  have mI := ea_methodImplements
  have k27 := ea_kindP
  have k25 := ea_kindS
  have e27 := ea_elemP
  have i25 := ea_implementsS
  have n8 := ea_isNilP ⟨w.heap.size, 0, none⟩ t ((w.alloc (.cells #[.pointer (some t)] 204)).alloc (.cells #[.pointer (some ⟨2, 204, none⟩), .pointer (some ⟨w.heap.size, 0, none⟩), .int .u64 150] 220)) (by simp)
  have hlt : 1 < w.heap.size := hg.lt
  have hg2 : ((w.alloc (.cells #[.pointer (some t)] 204)).alloc (.cells #[.pointer (some ⟨2, 204, none⟩), .pointer (some ⟨w.heap.size, 0, none⟩), .int .u64 150] 220)).cell? ⟨1, 0, none⟩ = some (.iface 237 (.agg #[.pointer (some ⟨2, 137, none⟩)])) := by
    rw [World.cell?_alloc_lt _ _ ⟨1, 0, none⟩ (by simp <;> omega), World.cell?_alloc_lt _ _ ⟨1, 0, none⟩ hlt]; exact hg
  have htl : t.block < w.heap.size := World.block_lt_of_cell? w _ ht0
  have el := ea_elemVP ⟨w.heap.size, 0, none⟩ t (((w.alloc (.cells #[.pointer (some t)] 204)).alloc (.cells #[.pointer (some ⟨2, 204, none⟩), .pointer (some ⟨w.heap.size, 0, none⟩), .int .u64 150] 220)).alloc (.cells #[.pointer (some ⟨2, 204, none⟩), .pointer (some ⟨w.heap.size, 0, none⟩), .int .u64 150] 220)) (by rw [World.cell?_alloc_lt _ _ ⟨w.heap.size, 0, none⟩ (by simp; omega)]; simp)
  have st := ea_setS t ⟨w.heap.size + 1 + 1 + 1, 0, none⟩ x old ((((w.alloc (.cells #[.pointer (some t)] 204)).alloc (.cells #[.pointer (some ⟨2, 204, none⟩), .pointer (some ⟨w.heap.size, 0, none⟩), .int .u64 150] 220)).alloc (.cells #[.pointer (some ⟨2, 204, none⟩), .pointer (some ⟨w.heap.size, 0, none⟩), .int .u64 150] 220)).alloc (.cells #[.int .i64 x] 193))
    (by rw [World.cell?_alloc_at _ _ _ _ (by simp)]; rfl)
    (by rw [World.cell?_alloc_lt _ _ t (by simp; omega), World.cell?_alloc_lt _ _ t (by simp; omega), World.cell?_alloc_lt _ _ t (by simp; omega), World.cell?_alloc_lt _ _ t htl]; exact ht0)
    (by rw [World.frozen?_alloc_old _ _ t (by simp; omega), World.frozen?_alloc_old _ _ t (by simp; omega), World.frozen?_alloc_old _ _ t (by simp; omega), World.frozen?_alloc_old _ _ t (Nat.ne_of_lt htl)]; exact hf0)
  clear hg ht0 hf0
  go_enter Tryz.func161, Tryz.ntmps161
  go_wp2
  refine wp_loop_rounds 1 ?_
  rw [rounds_succ]
  go_wp2
  go_ret
  exact ⟨rfl, rfl⟩
end Go.Proofs.YtiokejnlioghiaaGreatDoor

namespace Go.Proofs.YtiokejnlioghiaaGreatDoor
open Go.RowKit
section
variable {P : Program} {ops : Array Oper} {Q : Exit → Act → List Frame → World → Prop} {md : Region.Mode}
/-- One operation of a region in a deferred function: it may recover. -/
def wpOpS (P : Program) (ops : Array Oper) (Q : Exit → Act → List Frame → World → Prop) (i : Nat) (K : Act → List Frame → World → Prop) (a : Act) (cs : List Frame) (w : World) : Prop :=
  match ops[i]? with
  | none => K a cs w
  | some o =>
    if Region.wanted o (yielded ops a.tmps) then
      match (execOp a.eval o).run P w with
      | .ok .recover w' =>
        match recoverD cs with
        | some (v, cs') => K (a.put o.dst v) cs' w'
        | none => K (a.put o.dst .nilIface) cs w'
      | r => o.upon P a (fun a' w' => K a' cs w') (fun e a' w' => Q e a' cs w') r
    else K (a.put o.dst undef) cs w
theorem wpOpsS_cons (i : Nat) (rest : List Nat) (a : Act) (cs : List Frame) (w : World) : wpOpsS P ops Q (i :: rest) a cs w = wpOpS P ops Q i (wpOpsS P ops Q rest) a cs w := rfl
theorem upon_mono {o : Oper} {a : Act} {K K' : Act → World → Prop} {R : Exit → Act → World → Prop} (h : ∀ a w, K a w → K' a w) (r : Result Next) (hh : o.upon P a K R r) : o.upon P a K' R r := by
  cases r with
  | ok n w' =>
    cases n <;> simp only [Oper.upon] at hh ⊢ <;>
      first
        | exact h _ _ hh
        | exact Calls.mono hh (fun e w'' he => by cases e <;> first | exact h _ _ he | exact he)
        | exact Rows.mono hh (fun _ _ he => h _ _ he)
  | halt x w' => cases x <;> simp only [Oper.upon] at hh ⊢ <;> exact hh
theorem wpOpS_mono {i : Nat} {a : Act} {cs : List Frame} {w : World} {K K' : Act → List Frame → World → Prop} (h : ∀ a cs w, K a cs w → K' a cs w) (hh : wpOpS P ops Q i K a cs w) : wpOpS P ops Q i K' a cs w := by
  unfold wpOpS at *
  cases ho : ops[i]? with
  | none => simp only [ho] at hh ⊢; exact h _ _ _ hh
  | some o =>
    simp only [ho] at hh ⊢
    by_cases hw : Region.wanted o (yielded ops a.tmps) = true
    · simp only [hw, if_true] at hh ⊢
      split at hh
      · split at hh
        · exact h _ _ _ hh
        · exact h _ _ _ hh
      · exact upon_mono (fun a w => h a cs w) _ hh
    · simp only [hw] at hh ⊢
      exact h _ _ _ hh
/-- Whatever order the edges allow. -/
def wpAnyS (P : Program) (md : Region.Mode) (ops : Array Oper) (Q : Exit → Act → List Frame → World → Prop) : Nat → Array Bool → Act → List Frame → World → Prop
  | 0, listed, a, cs, w => Region.ready md ops listed = [] ∧ Q .normal a cs w
  | fuel + 1, listed, a, cs, w =>
    (Region.ready md ops listed = [] → Q .normal a cs w) ∧
    ∀ i ∈ Region.ready md ops listed, wpOpS P ops Q i (wpAnyS P md ops Q fuel (listed.setIfInBounds i true)) a cs w
theorem wpAnyS_sound : ∀ (fuel t : Nat) (listed : Array Bool) (a : Act) (cs : List Frame) (w : World), wpAnyS P md ops Q fuel listed a cs w →
    wpOpsS P ops Q (Region.linearise.go md ops fuel t listed []) a cs w := by
  intro fuel
  induction fuel with
  | zero => intro t listed a cs w h; simpa [Region.linearise.go, wpOpsS] using h.2
  | succ fuel ih =>
    intro t listed a cs w h
    obtain ⟨h₀, h₁⟩ := h
    simp only [Region.linearise.go]
    change wpOpsS P ops Q (match (Region.ready md ops listed)[t % (Region.ready md ops listed).length]? with
      | some i => Region.linearise.go md ops fuel (t / (Region.ready md ops listed).length) (listed.setIfInBounds i true) [i]
      | none => [].reverse) a cs w
    cases hi : (Region.ready md ops listed)[t % (Region.ready md ops listed).length]? with
    | none =>
      have hnil : Region.ready md ops listed = [] := by
        cases hr : Region.ready md ops listed with
        | nil => rfl
        | cons x xs =>
          rw [hr] at hi
          have hlt : t % (x :: xs).length < (x :: xs).length := Nat.mod_lt _ (by simp)
          simp at hi
          simp at hlt
          omega
      simpa [wpOpsS] using h₀ hnil
    | some i =>
      simp only []
      rw [linearise_go_acc, List.reverse_singleton, List.singleton_append, wpOpsS_cons]
      exact wpOpS_mono (fun a cs w => ih _ _ a cs w) (h₁ i (List.mem_of_getElem? hi))
theorem wpS_region_any {id : Nat} {a : Act} {cs : List Frame} {w : World} (hm : P.follows .mixedOrders = true)
    (h : wpAnyS P .any ops Q ops.size (Array.replicate ops.size false) a cs { w with drawn := w.drawn + 1 }) : (Code.region id ops true).wpS P Q a cs w :=
  fun b k hb hr => by
    obtain ⟨e, a', cs', w', q, r⟩ := wp_opsS (Region.schedule (P.follows .mixedOrders) ops (w.tape w.drawn (.order b.fn id))) a cs { w with drawn := w.drawn + 1 } (by
      simp only [Region.schedule, hm, Bool.true_or, if_true]
      exact wpAnyS_sound ops.size _ _ a cs _ h) b k hb hr
    exact ⟨e, a', cs', w', q, .of_steps (.one step_region_draw) r⟩
end
end Go.Proofs.YtiokejnlioghiaaGreatDoor

namespace Go.Proofs.YtiokejnlioghiaaGreatDoor
open Go.RowKit Go.Extern.Stop Go.Stop Go.Extern
/-- At block b lies a Reader: what is left, how much was taken, what was wrong first. -/
def Rdr (w : World) (b : Nat) (r : ByteArray) (t e : Int) : Prop := Blk w b #[.string r, .int .i64 t, .int .i64 e] 190
theorem as_b (x : Int) (t : Addr) (old : Value) (w : World) (hg : ETy w) (ht0 : w.cell? t = some old) (hf0 : w.frozen? t = false) :
    Calls Tryz.prog 161 #[.iface 193 (.agg #[.int .i64 x]), .iface 204 (.pointer (some t))] w fun ev w' => ev = .returned (.bool true) ∧ w'.cell? t = some (.int .i64 x) ∧ Only (fun k => k = t.block) w w' := by
  have htl : t.block < w.heap.size := World.block_lt_of_cell? w _ ht0
  refine (as_hit x t old w hg ht0 hf0).mono ?_
  rintro ev w' ⟨rfl, rfl⟩
  refine ⟨rfl, ?_, (((((Only.refl _ w).alloc _).alloc _).alloc _).alloc _).setCell _ _ (fun _ => rfl)⟩
  exact World.cell?_setCell_same _ _ _ (u := old) (by
    rw [World.cell?_alloc_lt _ _ t (by simp; omega), World.cell?_alloc_lt _ _ t (by simp; omega), World.cell?_alloc_lt _ _ t (by simp; omega), World.cell?_alloc_lt _ _ t htl]
    exact ht0)
theorem ea_isError (v : Value) (w : World) : (Instr.typeAssert (.iface 193 v) 20 137 true).run Tryz.prog w = .ok (.tuple #[.iface 193 v, .bool true]) w := run_typeAssert_hasB Tryz.underlying137 (by kernel_rfl) v 20 w
set_option maxRecDepth 100000 in
set_option maxHeartbeats 400000 in
theorem settle_nil (b : Nat) (t : Int) (w : World) :
    Calls Tryz.prog 146 #[.pointer (some ⟨b, 0, none⟩), .int .i64 t, .nilIface] w fun ev w' => ev = .returned (.tuple #[]) ∧ w' = w := by
  go_enter Tryz.func146, Tryz.ntmps146
  go_wp2
  (try simp only [Exit.inBlock, Exit.then])
  exact bodyPost_ret (results_none rfl _ _ _) rfl ⟨rfl, rfl⟩
set_option maxRecDepth 100000 in
set_option maxHeartbeats 2000000 in
theorem settle_hit (b : Nat) (r : ByteArray) (t0 t e x : Int) (w : World) (hg : ETy w) (h : Rdr w b r t0 e) :
    Calls Tryz.prog 146 #[.pointer (some ⟨b, 0, none⟩), .int .i64 t, .iface 193 (.agg #[.int .i64 x])] w fun ev w' => ev = .returned (.tuple #[]) ∧ Rdr w' b ⟨#[]⟩ t x ∧ Only (fun k => k = b) w w' := by
  have hE := ea_isError
  have hA0 := (Only.refl (fun _ => False) w).alloc (Obj.cells #[Value.int .i64 0] 193)
  have HA := hide (as_b x ⟨w.heap.size, 0, none⟩ (.int .i64 0) (w.alloc (Obj.cells #[Value.int .i64 0] 193)) (hg.only hA0 (fun q => q)) (by simp) (by simp))
  have HR := hide h
  have hlt := h.lt
  clear h hg hA0
  go_enter Tryz.func146, Tryz.ntmps146
  go_wp2_with fail
  refine (unhide HA).mono ?_
  rintro ev w2 ⟨rfl, hc, hO⟩
  have HO := hide hO
  clear hO
  have hB2 : Blk w2 b #[.string r, .int .i64 t0, .int .i64 e] 190 := Blk.only (Blk.alloc (unhide HR) _) (unhide HO) (by show ¬ b = w.heap.size; omega)
  have c0 : w2.cell? ⟨b, 0, none⟩ = some (.string r) := by rw [hB2.cell 0]; rfl
  have c1 : w2.cell? ⟨b, 1, none⟩ = some (.int .i64 t0) := by rw [hB2.cell 1]; rfl
  have c2 : w2.cell? ⟨b, 2, none⟩ = some (.int .i64 e) := by rw [hB2.cell 2]; rfl
  have f0 := hB2.frozen 0
  have f1 := hB2.frozen 1
  have f2 := hB2.frozen 2
  have HB2 := hide hB2
  clear hB2
  have HS := hide hc
  go_wp2
  (try simp only [Exit.inBlock, Exit.then])
  refine bodyPost_ret (results_none rfl _ _ _) rfl ⟨rfl, ?_, ?_⟩
  · exact (((unhide HB2).set 0 _).set 1 _).set 2 _
  · have h1 : Only (fun k => k = b) w w2 := ((Only.refl _ w).alloc _).trans (unhide HO) (fun k hk hq => by
      have : k = w.heap.size := hq
      omega)
    exact ((h1.setCell _ _ (fun _ => rfl)).setCell _ _ (fun _ => rfl)).setCell _ _ (fun _ => rfl)
end Go.Proofs.YtiokejnlioghiaaGreatDoor
