import Derived.Test.YtnfcnpolflfpfaaGreatDoorMr27
import Derived.Test.YtnfcnpolflfpfaaGreatDoorMr33
import Derived.DeepKeys4
import Derived.Test.YtnfcnpolflfpfaaGreatDoorMr26
import Derived.Test.YtnfcnpolflfpfaaGreatDoorMr12
import Derived.Test.YtnfcnpolflfpfaaGreatDoorMr06
namespace Go.Proofs.YtnfcnpolflfpfaaGreatDoor
open Go.RowKit Go.Maps Go.ChangeMaps Go.MapKept
theorem mapM_someI {α β : Type} (f : α → Option β) (g : α → β) : ∀ (L : List α), (∀ x ∈ L, f x = some (g x)) → L.mapM f = some (L.map g)
  | [], _ => rfl
  | x :: r, h => by
    rw [List.mapM_cons, h x (by simp), mapM_someI f g r (fun y hy => h y (by simp [hy]))]
    rfl
theorem flat1 {α β : Type} (f : α → β) : ∀ L : List α, (L.flatMap fun x => [f x]) = L.map f
  | [] => rfl
  | x :: r => by rw [List.flatMap_cons, flat1 f r]; rfl
theorem laidOutI : laidOutB Tryz.prog = true := by kernel_rfl
theorem keyRow : (154 : TypeId) < Tryz.prog.types.size := of_decide_eq_true (by kernel_rfl)
theorem keyWide : (match Tryz.prog.underlying 154 with | some (.array _ _) | some (.struct _) => true | _ => false) = true := by kernel_rfl
set_option maxRecDepth 100000 in
theorem lawKey : Keyed Tryz.prog 154 := Keyed.of_law (deep_law_laid laidOutI (m := 2) (by omega) keyRow (by kernel_rfl) keyWide)
theorem keyCells : Tryz.prog.cellsOf 154 = 32 := by kernel_rfl
theorem keyType : Tryz.prog.keyType 154 = true := by kernel_rfl
theorem types_succ : ∃ n, Tryz.prog.types.size = n + 1 := ⟨Tryz.prog.types.size - 1, by have : 0 < Tryz.prog.types.size := Nat.lt_of_le_of_lt (Nat.zero_le _) keyRow; omega⟩
theorem bytes1 (n : Nat) : bytesBE 1 n = [UInt8.ofNat (n % 256)] := rfl
theorem lits_u8 (m : Nat) (x : Int) (h0 : 0 ≤ x) (h1 : x < 256) : Tryz.prog.keyLits (m + 1) 5 [.int .u8 x] = some [.int .u8 x] := by
  have hw : (Lit.int .u8 x).wf = true := by simp [Lit.wf, IntKind.min, IntKind.max, IntKind.signed, IntKind.bits]; omega
  simp [Program.keyLits, Tryz.underlying5, hw]
theorem cells5 : Tryz.prog.cellsOf 5 = 1 := by kernel_rfl
set_option maxRecDepth 100000 in
theorem keyOf_key (d : ByteArray) (hd : d.size = 32) : keyOf Tryz.prog 154 (.agg (kC d).toArray) = some (.string d.data.toList) := by
  have hl := kC_len d hd
  have hf : (Value.agg (kC d).toArray).formed Tryz.prog 154 = true := by
    simp [Value.formed, Tryz.underlying154, keyCells, hl]
  have hk : Tryz.prog.keyLits (Tryz.prog.types.size + 1) 154 (kC d) = some ((List.range 32).map fun i => Lit.int .u8 ((nums d).getD i 0)) := by
    obtain ⟨m, hm⟩ := types_succ
    rw [hm]
    unfold Program.keyLits
    rw [Tryz.underlying154]
    simp only [keyCells, hl, if_true, cells5, Nat.mul_one]
    rw [mapM_someI _ (fun i => [Lit.int .u8 ((nums d).getD i 0)]) (List.range 32) (fun i hi => by
      have hi' := List.mem_range.1 hi
      have hb := nums_bytes d i
      have e : ((kC d).drop i).take 1 = [.int .u8 ((nums d).getD i 0)] := by
        have hn : i < (nums d).length := by rw [nums_len, hd]; exact hi'
        rw [List.drop_eq_getElem_cons (by rw [hl]; exact hi')]
        simp [kC, hn]
      rw [e]
      exact lits_u8 m _ hb.1 hb.2)]
    simp only [Option.map_some, Option.some.injEq]
    generalize List.range 32 = R
    induction R with
    | nil => rfl
    | cons a r ih => rw [List.map_cons, List.flatten_cons, ih]; rfl
  unfold keyOf
  rw [Tryz.underlying154]
  simp only [keyType, hf, Value.cells, Bool.and_self, if_true, hk, Option.map_some]
  congr 2
  unfold keyBytes
  have h1 : ∀ i, (Lit.int .u8 ((nums d).getD i 0)).keyBytes = [UInt8.ofNat ((nums d).getD i 0).toNat] := fun i => by
    have hb := nums_bytes d i
    generalize (nums d).getD i 0 = x at *
    show bytesBE 1 (x % 256).toNat = _
    rw [bytes1]
    congr 2
    omega
  rw [List.flatMap_map]
  simp only [h1]
  have h2 : ((List.range 32).flatMap fun i => [UInt8.ofNat ((nums d).getD i 0).toNat]) = (nums d).map (fun x => UInt8.ofNat x.toNat) := by
    have hn : (nums d).length = 32 := by rw [nums_len, hd]
    rw [← hn]
    generalize nums d = l
    rw [flat1 (fun i => UInt8.ofNat (l.getD i 0).toNat)]
    apply List.ext_getElem
    · simp
    · intro i h1 h2
      simp at h1
      simp [h1]
  rw [h2]
  unfold nums
  have h3 : ∀ x : UInt8, UInt8.ofNat ((x.toNat : Nat) : Int).toNat = x := fun x => by simp
  rw [List.map_map]
  have h4 : ((fun x : Int => UInt8.ofNat x.toNat) ∘ fun x : UInt8 => (x.toNat : Int)) = id := by funext x; exact h3 x
  rw [h4, List.map_id]
/-- The row of entries in memory. -/
def ER (w : World) (eb n : Nat) (T : Nat → En) : Prop := ∃ cs : List Value, Blk w eb cs.toArray 157 ∧ cs.length = 33 * n ∧ ∀ i, i < n → (cs.drop (i * 33)).take 33 = enC (T i)
theorem ER.lt {w : World} {eb n : Nat} {T : Nat → En} (h : ER w eb n T) : eb < w.heap.size := by
  obtain ⟨cs, h1, _⟩ := h
  exact h1.lt
theorem ER.only {w w' : World} {eb n : Nat} {T : Nat → En} {P : Nat → Prop} (h : ER w eb n T) (ho : Only P w w') (hp : ¬ P eb) : ER w' eb n T := by
  obtain ⟨cs, h1, h2⟩ := h
  exact ⟨cs, h1.only ho hp, h2⟩
theorem ER.below {w w' : World} {eb n : Nat} {T : Nat → En} (h : ER w eb n T) (hb : Below w.heap.size w w') : ER w' eb n T := h.only (Only.of_below (P := fun _ => False) hb) (fun q => q)
theorem ER.range {w : World} {eb n : Nat} {T : Nat → En} (h : ER w eb n T) (i : Nat) (hi : i < n) : w.rangeAt eb (i * 33) (enC (T i)) := by
  obtain ⟨cs, h1, h2, h3⟩ := h
  intro j v hv
  rw [← h3 i hi] at hv
  rw [h1.cell]
  rw [List.getElem?_take] at hv
  split at hv
  · rw [List.getElem?_drop] at hv
    simpa using hv
  · cases hv
theorem ER.there {w : World} {eb n : Nat} {T : Nat → En} (h : ER w eb n T) (i : Nat) (hi : i < n) : w.there eb (i * 33) 33 := by
  obtain ⟨cs, h1, h2, h3⟩ := h
  intro j hj
  refine ⟨?_, h1.frozen _⟩
  rw [h1.cell]
  simp
  omega
theorem ER.set {w : World} {eb n : Nat} {T : Nat → En} (h : ER w eb n T) (p : Nat) (hp : p < n) (e : En) (he : EnOk e) : ER (w.setCells eb (p * 33) (enC e)) eb n (upd T p e) := by
  obtain ⟨cs, h1, h2, h3⟩ := h
  have hle := enC_len e he
  have hpl : (cs.take (p * 33)).length = p * 33 := by rw [List.length_take]; omega
  have hb := setCells_blk (enC e) (cs.take (p * 33)) (cs.drop (p * 33 + 33)) h1 ((cs.drop (p * 33)).take 33) (by rw [hle, List.length_take, List.length_drop]; omega) (by
    congr 1
    rw [List.append_assoc, ← List.drop_drop (i := 33) (j := p * 33), List.take_append_drop, List.take_append_drop])
  rw [hpl] at hb
  refine ⟨_, hb, ?_, fun i hi => ?_⟩
  · rw [List.length_append, List.length_append, hpl, hle, List.length_drop]
    omega
  · by_cases e1 : i = p
    · subst e1
      rw [List.append_assoc, List.drop_append_of_le_length (by omega), List.drop_of_length_le (by omega), List.nil_append, List.take_append_of_le_length (by omega), List.take_of_length_le (by omega)]
      unfold upd
      rw [if_pos rfl]
    · unfold upd
      rw [if_neg e1, ← h3 i hi]
      by_cases e2 : i < p
      · rw [List.append_assoc, List.drop_append_of_le_length (by omega), List.take_append_of_le_length (by rw [List.length_drop]; omega), List.drop_take, List.take_take]
        congr 1
        omega
      · rw [List.drop_append, List.drop_of_length_le (by rw [List.length_append, hpl, hle]; omega), List.nil_append, List.length_append, hpl, hle, List.drop_drop]
        congr 2
        omega
theorem ER.ne {w : World} {eb n : Nat} {T : Nat → En} (h : ER w eb n T) {b : Nat} {cur : Array Value} {U : TypeId} (hb : Blk w b cur U) (hU : U ≠ 157) : eb ≠ b := fun e => by
  obtain ⟨cs, h1, _⟩ := h
  subst e
  have := (show w.heap[eb]? = _ from h1).symm.trans hb
  simp at this
  exact hU this.2.symm
/-- What the map of places tells. -/
def PD (D : DataW Unit) (T : Nat → En) : Prop := (∀ kl, has D kl = true → ∃ i d c, T i = some (d, c) ∧ kl = .string d.data.toList) ∧ ∀ i d c, T i = some (d, c) → has D (.string d.data.toList) = true ∧ ∀ z, D.atKey (.string d.data.toList) z = .lit (.int .i64 (i : Int))
def PM (w : World) (bm n : Nat) (T : Nat → En) : Prop := ∃ D, w.ownsMap Tryz.prog 154 (plainElem Tryz.prog 3) bm n D ∧ PD D T
theorem PM.lt {w : World} {bm n : Nat} {T : Nat → En} (h : PM w bm n T) : bm < w.heap.size := by
  obtain ⟨D, h1, _⟩ := h
  exact h1.lt
theorem PM.only {w w' : World} {bm n : Nat} {T : Nat → En} {P : Nat → Prop} (h : PM w bm n T) (ho : Only P w w') (hp : ¬ P bm) : PM w' bm n T := by
  obtain ⟨D, h1, h2⟩ := h
  have hlt := h1.lt
  obtain ⟨es, clock, hb, F, hs, hD⟩ := h1
  exact ⟨D, ⟨es, clock, (ho.2 bm hlt hp).trans hb, F, hs, hD⟩, h2⟩
theorem PM.below {w w' : World} {bm n : Nat} {T : Nat → En} (h : PM w bm n T) (hb : Below w.heap.size w w') : PM w' bm n T := h.only (Only.of_below (P := fun _ => False) hb) (fun q => q)
theorem PM.ne {w : World} {bm n : Nat} {T : Nat → En} (h : PM w bm n T) {b : Nat} {cur : Array Value} {U : TypeId} (hb : Blk w b cur U) : bm ≠ b := fun e => by
  obtain ⟨D, ⟨es, clock, hm, _⟩, _⟩ := h
  subst e
  have := (show w.heap[bm]? = _ from hb).symm.trans hm
  simp at this
theorem PM.made (w : World) (n : Nat) : PM (w.alloc (.map #[] 0)) w.heap.size n (fun _ => none) :=
  ⟨_, (World.ownsMap_made w _ _ _).mono (Nat.zero_le _), ⟨fun kl h => (by cases h), fun i d c h => (by cases h)⟩⟩
theorem zero3 (w : World) : (zeroValue 3).run Tryz.prog w = .ok (.int .i64 0) w := by kernel_rfl
theorem data_inj {d d' : ByteArray} (h : Lit.string d.data.toList = Lit.string d'.data.toList) : d = d' := ba_eq (by injection h)
theorem PM.hit {w : World} {bm n : Nat} {T : Nat → En} (h : PM w bm n T) {i : Nat} {d : ByteArray} {c : Nat} (hT : T i = some (d, c)) (hd : d.size = 32) :
    (Instr.lookup 124 (.map (some bm)) (.agg (kC d).toArray) true).run Tryz.prog w = .ok (.tuple #[.int .i64 (i : Int), .bool true]) w := by
  obtain ⟨D, h1, h2⟩ := h
  have hz0 : plainElem (H := Unit) Tryz.prog 3 (.int .i64 0) = some (.lit (.int .i64 0), []) := plainElem_int Tryz.underlying3 (by decide)
  obtain ⟨v, ps, hrun, hv⟩ := h1.look_ok lawKey Tryz.underlying124 (zero3 w) hz0 (keyOf_key d hd)
  obtain ⟨q1, q2⟩ := h2.2 i d c hT
  rw [q2] at hv
  obtain ⟨a, rfl, hz, _⟩ := plainElem_int_inv Tryz.underlying3 hv
  rw [hrun, q1]
  have : (i : Int) = a := by simpa using congrArg Prod.fst hz
  rw [this]
theorem PM.miss {w : World} {bm n : Nat} {T : Nat → En} (h : PM w bm n T) {d : ByteArray} (hd : d.size = 32) (hT : ∀ i c, T i ≠ some (d, c)) :
    (Instr.lookup 124 (.map (some bm)) (.agg (kC d).toArray) true).run Tryz.prog w = .ok (.tuple #[.int .i64 0, .bool false]) w := by
  obtain ⟨D, h1, h2⟩ := h
  have hz0 : plainElem (H := Unit) Tryz.prog 3 (.int .i64 0) = some (.lit (.int .i64 0), []) := plainElem_int Tryz.underlying3 (by decide)
  obtain ⟨v, ps, hrun, hv⟩ := h1.look_ok lawKey Tryz.underlying124 (zero3 w) hz0 (keyOf_key d hd)
  have hh : has D (.string d.data.toList) = false := by
    cases hq : has D (.string d.data.toList) with
    | false => rfl
    | true =>
      obtain ⟨i, d', c, e1, e2⟩ := h2.1 _ hq
      rw [← data_inj e2] at e1
      exact absurd e1 (hT i c)
  rw [atKey_of_not_has hh] at hv
  obtain ⟨a, rfl, hz, _⟩ := plainElem_int_inv Tryz.underlying3 hv
  rw [hrun, hh]
  have : (0 : Int) = a := by simpa using congrArg Prod.fst hz
  rw [this]
theorem nodup_subL {α : Type} [DecidableEq α] : ∀ (a b : List α), a.Nodup → (∀ x ∈ a, x ∈ b) → a.length ≤ b.length
  | [], _, _, _ => Nat.zero_le _
  | x :: r, b, h, hs => by
    obtain ⟨h1, h2⟩ := List.nodup_cons.1 h
    have hx := hs x (by simp)
    have ih := nodup_subL r (b.erase x) h2 (fun y hy => by
      have hne : y ≠ x := fun e => h1 (by rw [← e]; exact hy)
      exact (List.mem_erase_of_ne hne).2 (hs y (by simp [hy])))
    rw [List.length_erase_of_mem hx] at ih
    have := List.length_pos_of_mem hx
    simp only [List.length_cons]
    omega
/-- As many keys as places, at most. -/
theorem pd_size {D : DataW Unit} {T : Nat → En} {n m bm : Nat} {w : World} (h0 : w.ownsMap Tryz.prog 154 (plainElem Tryz.prog 3) bm m D) (h : PD D T) (hT : TOk n T) : Maps.size D ≤ n := by
  obtain ⟨es, rfl, hp, hkl⟩ := h0.entries lawKey
  rw [size_eq]
  have hn : (es.map (·.1)).Nodup := List.pairwise_map.2 hp
  have hs := @nodup_subL Lit (fun a b => Classical.propDecidable (a = b)) (es.map (·.1)) ((List.range n).map fun i => Lit.string (enD (T i)).data.toList) hn (fun x hx => by
    obtain ⟨p, hp', rfl⟩ := List.mem_map.1 hx
    have hh : has (.map es) p.1 = true := by
      rw [has_eq, List.any_eq_true]
      exact ⟨p, hp', WideAt.sameKey_self (hkl p hp')⟩
    obtain ⟨i, d, c, e1, e2⟩ := h.1 _ hh
    refine List.mem_map.2 ⟨i, List.mem_range.2 (hT.lt e1), ?_⟩
    rw [e1, e2]
    rfl)
  simpa using hs
theorem keyLitS (l : List UInt8) : WideAt.IsKeyLit (.string l) := by trivial
theorem PM.del {w : World} {bm n : Nat} {T : Nat → En} (h : PM w bm n T) (hT : TOk n T) {p : Nat} {d : ByteArray} {c : Nat} (hp : T p = some (d, c)) (ty : TypeId) :
    ∃ w', (Builtin.delete_ #[124, 154] ty #[.map (some bm), .agg (kC d).toArray]).run Tryz.prog w = .ok (.tuple #[]) w' ∧ PM w' bm n (upd T p none) ∧ Only (fun x => x = bm) w w' ∧ w'.heap.size = w.heap.size := by
  obtain ⟨D, h1, h2⟩ := h
  obtain ⟨w', hrun, hm, ht⟩ := h1.drop lawKey Tryz.underlying124 (keyOf_key d ((hT.ok p d c hp).1)) ty
  refine ⟨w', hrun, ⟨_, hm, fun kl hk => ?_, fun i d' c' hi => ?_⟩, Only.turned ht, turned_size ht⟩
  · have hne : kl ≠ .string d.data.toList := fun e => by
      rw [e, has_del_same] at hk
      cases hk
    rw [has_del_other hne] at hk
    obtain ⟨i, d', c', e1, e2⟩ := h2.1 kl hk
    refine ⟨i, d', c', ?_, e2⟩
    unfold upd
    rw [if_neg (fun e => ?_)]
    · exact e1
    · rw [e, hp] at e1
      injection e1 with e1
      injection e1 with e1
      exact hne (by rw [e2, e1])
  · unfold upd at hi
    by_cases e : i = p
    · rw [if_pos e] at hi
      cases hi
    · rw [if_neg e] at hi
      have hne : Lit.string d'.data.toList ≠ .string d.data.toList := fun q => by
        rw [data_inj q] at hi
        exact e (hT.one i p d c' c hi hp)
      obtain ⟨q1, q2⟩ := h2.2 i d' c' hi
      exact ⟨by rw [has_del_other hne]; exact q1, fun z => by rw [atKey_del_other hne]; exact q2 z⟩
theorem PM.put {w : World} {bm n : Nat} {T : Nat → En} (h : PM w bm n T) (hT : TOk n T) (hn : n ≤ 1024) {p : Nat} (hpn : p < n) (hp : T p = none) {d : ByteArray} {c : Nat} (hd : EnOk (some (d, c))) (hf : ∀ i c', T i ≠ some (d, c')) :
    ∃ w', (Instr.mapUpdate 124 (.map (some bm)) (.agg (kC d).toArray) (.int .i64 (p : Int))).run Tryz.prog w = .ok () w' ∧ PM w' bm n (upd T p (some (d, c))) ∧ Only (fun x => x = bm) w w' ∧ w'.heap.size = w.heap.size := by
  obtain ⟨D, h1, h2⟩ := h
  obtain ⟨w', hrun, hm, ht⟩ := h1.store lawKey Tryz.underlying124 (by unfold maxLen; omega) (keyOf_key d ((hd d c rfl).1)) (plainElem_int Tryz.underlying3 (wf_of (k := (p : Int)) (by omega) (by omega)))
  have hD := h1.isMap
  have hPD : PD (D.put (.string d.data.toList) (.lit (.int .i64 (p : Int)))) (upd T p (some (d, c))) := by
    refine ⟨fun kl hk => ?_, fun i d' c' hi => ?_⟩
    · by_cases hne : kl = .string d.data.toList
      · exact ⟨p, d, c, by unfold upd; rw [if_pos rfl], hne⟩
      · rw [has_put_other hne] at hk
        obtain ⟨i, d', c', e1, e2⟩ := h2.1 kl hk
        refine ⟨i, d', c', ?_, e2⟩
        unfold upd
        rw [if_neg (fun e => by rw [e, hp] at e1; cases e1)]
        exact e1
    · unfold upd at hi
      by_cases e : i = p
      · rw [if_pos e] at hi
        injection hi with hi
        injection hi with hi1 hi2
        subst hi1 e
        exact ⟨has_put_same hD (keyLitS _) _, fun z => atKey_put_same hD (keyLitS _) _ z⟩
      · rw [if_neg e] at hi
        have hne : Lit.string d'.data.toList ≠ .string d.data.toList := fun q => by
          rw [data_inj q] at hi
          exact hf i c' hi
        obtain ⟨q1, q2⟩ := h2.2 i d' c' hi
        exact ⟨by rw [has_put_other hne]; exact q1, fun z => by rw [atKey_put_other hne]; exact q2 z⟩
  have hTO : TOk n (upd T p (some (d, c))) := hT.upd p hpn _ hd (fun d' c' e j c'' hj => by
    have e1 : d = d' := congrArg (fun q : En => (q.getD (d, 0)).1) e
    subst e1
    exact absurd hj (hf j c''))
  exact ⟨w', hrun, ⟨_, (ownsMap_tight hm).mono (pd_size hm hPD hTO), hPD⟩, Only.turned ht, turned_size ht⟩
end Go.Proofs.YtnfcnpolflfpfaaGreatDoor

namespace Go.Proofs.YtnfcnpolflfpfaaGreatDoor
open Go.RowKit
theorem isectorOf_any (k : Nat) (b : ByteArray) (w : World) : Calls Tryz.prog 58 #[.int .i64 (k : Int), .string b] w fun e w' => e = .returned (.string (pgI k b)) ∧ Below w.heap.size w w' := by
  have HM := hide (fun W => make_any rep_ok 4 (k : Int) b W)
  have HP := hide (show pgI k b = makeB 4 (k : Int) b from rfl)
  generalize pgI k b = t at *
  generalize makeB 4 (k : Int) b = t2 at *
  generalize errM 4 (k : Int) b.size = er at *
  go_enter Tryz.func58, Tryz.ntmps58
  go_wp2_with (go_at_call 18; refine (unhide HM _).mono ?_; rintro e w1 ⟨rfl, hb⟩)
  go_ret
  exact ⟨by rw [unhide HP]; rfl, hb⟩
/-- Is this sector page k of an index? -/
def ibOk (t : ByteArray) (k : Nat) : Prop := prOk t ∧ pkd t = 4 ∧ pnm t = (k : Int) ∧ (pbd t).size = 222
instance instDecPr (t : ByteArray) : Decidable (prOk t) := inferInstanceAs (Decidable (_ ∧ _))
instance instDecIb (t : ByteArray) (k : Nat) : Decidable (ibOk t k) := inferInstanceAs (Decidable (_ ∧ _))
def ibT (t : ByteArray) (k : Nat) : ByteArray := if ibOk t k then pbd t else ⟨#[]⟩
theorem ib_page (k : Nat) (hk : k < 1024) (b : ByteArray) (hb : b.size = 222) : ibOk (pgI k b) k ∧ ibT (pgI k b) k = b := by
  obtain ⟨h1, h2, h3, h4⟩ := pgI_parse k hk b hb
  have h : ibOk (pgI k b) k := ⟨h1, h2, h3, by rw [h4]; exact hb⟩
  exact ⟨h, by rw [ibT, if_pos h, h4]⟩
set_option maxRecDepth 100000 in
set_option maxHeartbeats 1000000 in
theorem ibodyOf_any (t : ByteArray) (ht : t.size ≤ 9223372036854775807) (k : Nat) (w : World) (hg : ETy w) : Calls Tryz.prog 119 #[.string t, .int .i64 (k : Int)] w fun e w' => e = .returned (.tuple #[.string (ibT t k), .bool (decide (ibOk t k))]) ∧ Below w.heap.size w w' := by
  have HP := hide (parse_any rep_ok t ht w hg)
  clear ht hg
  go_enter Tryz.func119, Tryz.ntmps119
  go_wp2_with fail
  refine (unhide HP).mono ?_
  rintro e x1 ⟨q, hb1⟩
  have HB1 := hide hb1
  clear HP hb1
  rcases q with ⟨hpr, rfl⟩ | ⟨hpr, rfl⟩
  · by_cases h : ibOk t k
    · have HT := hide (show ibT t k = pbd t ∧ decide (ibOk t k) = true from ⟨by rw [ibT, if_pos h], decide_eq_true h⟩)
      obtain ⟨h1, h2, h3, h4⟩ := h
      rw [h2, h3]
      have h4' : (((pbd t).size : Int) != 222) = false := by rw [h4]; rfl
      have h3' : ((k : Int) != (k : Int)) = false := by simp
      clear h1 h2 h3 hpr h4
      generalize pbd t = bd at *
      go_wp2
      go_ret2
      rw [(unhide HT).1, (unhide HT).2]
      exact ⟨rfl, (unhide HB1).trans (((Below.refl _ x1).alloc (Nat.le_refl _) _).mono (unhide HB1).size)⟩
    · have HT := hide (show ibT t k = ⟨#[]⟩ ∧ decide (ibOk t k) = false from ⟨by rw [ibT, if_neg h], decide_eq_false h⟩)
      have hc : ¬ (pkd t = 4 ∧ pnm t = (k : Int) ∧ (pbd t).size = 222) := fun q => h ⟨hpr, q.1, q.2.1, q.2.2⟩
      clear h hpr
      generalize pkd t = kd at *
      generalize pnm t = nm at *
      generalize pbd t = bd at *
      by_cases q1 : kd = 4
      · subst q1
        by_cases q2 : nm = (k : Int)
        · subst q2
          have q3 : ((bd.size : Int) != 222) = true := by
            simp only [true_and] at hc
            simp; omega
          have h3' : ((k : Int) != (k : Int)) = false := by simp
          clear hc
          go_wp2
          go_ret2
          rw [(unhide HT).1, (unhide HT).2]
          exact ⟨rfl, (unhide HB1).trans (((Below.refl _ x1).alloc (Nat.le_refl _) _).mono (unhide HB1).size)⟩
        · have q2' : (nm != (k : Int)) = true := by simpa using q2
          clear hc q2
          go_wp2
          go_ret2
          rw [(unhide HT).1, (unhide HT).2]
          exact ⟨rfl, (unhide HB1).trans (((Below.refl _ x1).alloc (Nat.le_refl _) _).mono (unhide HB1).size)⟩
      · have q1' : (kd != 4) = true := by simpa using q1
        clear hc q1
        go_wp2
        go_ret2
        rw [(unhide HT).1, (unhide HT).2]
        exact ⟨rfl, (unhide HB1).trans (((Below.refl _ x1).alloc (Nat.le_refl _) _).mono (unhide HB1).size)⟩
  · have h : ¬ ibOk t k := fun q => hpr q.1
    have HT := hide (show ibT t k = ⟨#[]⟩ ∧ decide (ibOk t k) = false from ⟨by rw [ibT, if_neg h], decide_eq_false h⟩)
    clear h hpr
    go_wp2
    go_ret2
    rw [(unhide HT).1, (unhide HT).2]
    exact ⟨rfl, (unhide HB1).trans (((Below.refl _ x1).alloc (Nat.le_refl _) _).mono (unhide HB1).size)⟩
end Go.Proofs.YtnfcnpolflfpfaaGreatDoor
