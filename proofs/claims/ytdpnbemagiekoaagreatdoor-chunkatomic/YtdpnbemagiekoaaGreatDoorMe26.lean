import Derived.Test.YtdpnbemagiekoaaGreatDoorMe24
import Derived.DeepKeys4
import Derived.Test.YtdpnbemagiekoaaGreatDoorMe17
set_option maxHeartbeats 2000000
set_option maxRecDepth 100000
namespace Go.Proofs.YtdpnbemagiekoaaGreatDoor
section
open Go.RowKit Go.Maps Go.ChangeMaps Go.MapKept
theorem zFe {α β : Type} (f : α -> Option β) (g : α -> β) : ∀ (L : List α), (∀ x ∈ L, f x = some (g x)) -> L.mapM f = some (L.map g)
 | [], _ => rfl
 | x :: r, h => by
  rw [List.mapM_cons, h x (by simp), zFe f g r (fun y hy => h y (by simp [hy]))]
  rfl
theorem zPh {α β : Type} (f : α -> β) : ∀ L : List α, (L.flatMap fun x => [f x]) = L.map f
 | [] => rfl
 | x :: r => by rw [List.flatMap_cons, zPh f r]; rfl
theorem zLQ : laidOutB Tryz.prog = true := by kernel_rfl
theorem zNm : (99 : TypeId) < Tryz.prog.types.size := of_decide_eq_true (by kernel_rfl)
theorem zNU : (match Tryz.prog.underlying 99 with | some (.array _ _) | some (.struct _) => true | _ => false) = true := by kernel_rfl
theorem zEV : Keyed Tryz.prog 99 := Keyed.of_law (deep_law_laid zLQ (m := 2) (by omega) zNm (by kernel_rfl) zNU)
theorem zIB : Tryz.prog.cellsOf 99 = 32 := by kernel_rfl
theorem keyType : Tryz.prog.keyType 99 = true := by kernel_rfl
theorem zJA : ∃ n, Tryz.prog.types.size = n + 1 := ⟨Tryz.prog.types.size - 1, by have : 0 < Tryz.prog.types.size := Nat.lt_of_le_of_lt (Nat.zero_le _) zNm; omega⟩
theorem zPd (n : Nat) : bytesBE 1 n = [UInt8.ofNat (n % 256)] := rfl
theorem zNK (m : Nat) (x : Int) (h0 : 0 <= x) (h1 : x < 256) : Tryz.prog.keyLits (m + 1) 5 [.int .u8 x] = some [.int .u8 x] := by
 have hw : (Lit.int .u8 x).wf = true := by simp [Lit.wf, IntKind.min, IntKind.max, IntKind.signed, IntKind.bits]; omega
 simp [Program.keyLits, Tryz.underlying5, hw]
theorem zOU : Tryz.prog.cellsOf 5 = 1 := by kernel_rfl
theorem zDc (d : ByteArray) (hd : d.size = 32) : keyOf Tryz.prog 99 (.agg (kC d).toArray) = some (.string d.data.toList) := by
 have hl := zBm d hd
 have hf : (Value.agg (kC d).toArray).formed Tryz.prog 99 = true := by
  simp [Value.formed, Tryz.underlying99, zIB, hl]
 have hk : Tryz.prog.keyLits (Tryz.prog.types.size + 1) 99 (kC d) = some ((List.range 32).map fun i => Lit.int .u8 ((nums d).getD i 0)) := by
  obtain ⟨m, hm⟩ := zJA
  rw [hm]
  unfold Program.keyLits
  rw [Tryz.underlying99]
  simp only [zIB, hl, if_true, zOU, Nat.mul_one]
  rw [zFe _ (fun i => [Lit.int .u8 ((nums d).getD i 0)]) (List.range 32) (fun i hi => by
   have hi' := List.mem_range.1 hi
   have hb := zAt d i
   have e : ((kC d).drop i).take 1 = [.int .u8 ((nums d).getD i 0)] := by
    have hn : i < (nums d).length := by rw [zAf, hd]; exact hi'
    rw [List.drop_eq_getElem_cons (by rw [hl]; exact hi')]
    simp [kC, hn]
   rw [e]
   exact zNK m _ hb.1 hb.2)]
  simp only [Option.map_some, Option.some.injEq]
  generalize List.range 32 = R
  induction R with
  | nil => rfl
  | cons a r ih => rw [List.map_cons, List.flatten_cons, ih]; rfl
 unfold keyOf
 rw [Tryz.underlying99]
 simp only [keyType, hf, Value.cells, Bool.and_self, if_true, hk, Option.map_some]
 congr 2
 unfold keyBytes
 have h1 : ∀ i, (Lit.int .u8 ((nums d).getD i 0)).keyBytes = [UInt8.ofNat ((nums d).getD i 0).toNat] := fun i => by
  have hb := zAt d i
  generalize (nums d).getD i 0 = x at *
  show bytesBE 1 (x % 256).toNat = _
  rw [zPd]
  congr 2
  omega
 rw [List.flatMap_map]
 simp only [h1]
 have h2 : ((List.range 32).flatMap fun i => [UInt8.ofNat ((nums d).getD i 0).toNat]) = (nums d).map (fun x => UInt8.ofNat x.toNat) := by
  have hn : (nums d).length = 32 := by rw [zAf, hd]
  rw [<- hn]
  generalize nums d = l
  rw [zPh (fun i => UInt8.ofNat (l.getD i 0).toNat)]
  apply List.ext_getElem
  ·simp
  ·intro i h1 h2
   simp at h1
   simp [h1]
 rw [h2]
 unfold nums
 have h3 : ∀ x : UInt8, UInt8.ofNat ((x.toNat : Nat) : Int).toNat = x := fun x => by simp
 rw [List.map_map]
 have h4 : ((fun x : Int => UInt8.ofNat x.toNat) ∘ fun x : UInt8 => (x.toNat : Int)) = id := by funext x; exact h3 x
 rw [h4, List.map_id]
def ER (w : World) (eb n : Nat) (T : Nat -> En) : Prop := ∃ cs : List Value, Blk w eb cs.toArray 104 /\ cs.length = 33 * n /\ ∀ i, i < n -> (cs.drop (i * 33)).take 33 = enC (T i)
theorem ER.lt {w : World} {eb n : Nat} {T : Nat -> En} (h : ER w eb n T) : eb < w.heap.size := by
 obtain ⟨cs, h1, _⟩ := h
 exact h1.lt
theorem ER.only {w w' : World} {eb n : Nat} {T : Nat -> En} {P : Nat -> Prop} (h : ER w eb n T) (ho : Only P w w') (hp : ¬ P eb) : ER w' eb n T := by
 obtain ⟨cs, h1, h2⟩ := h
 exact ⟨cs, h1.only ho hp, h2⟩
theorem ER.below {w w' : World} {eb n : Nat} {T : Nat -> En} (h : ER w eb n T) (hb : Below w.heap.size w w') : ER w' eb n T := h.only (Only.of_below (P := fun _ => False) hb) (fun q => q)
theorem ER.range {w : World} {eb n : Nat} {T : Nat -> En} (h : ER w eb n T) (i : Nat) (hi : i < n) : w.rangeAt eb (i * 33) (enC (T i)) := by
 obtain ⟨cs, h1, h2, h3⟩ := h
 intro j v hv
 rw [<- h3 i hi] at hv
 rw [h1.cell]
 rw [List.getElem?_take] at hv
 split at hv
 ·rw [List.getElem?_drop] at hv
  simpa using hv
 ·cases hv
theorem ER.there {w : World} {eb n : Nat} {T : Nat -> En} (h : ER w eb n T) (i : Nat) (hi : i < n) : w.there eb (i * 33) 33 := by
 obtain ⟨cs, h1, h2, h3⟩ := h
 intro j hj
 refine ⟨?_, h1.frozen _⟩
 rw [h1.cell]
 simp
 omega
theorem ER.set {w : World} {eb n : Nat} {T : Nat -> En} (h : ER w eb n T) (p : Nat) (hp : p < n) (e : En) (he : EnOk e) : ER (w.setCells eb (p * 33) (enC e)) eb n (upd T p e) := by
 obtain ⟨cs, h1, h2, h3⟩ := h
 have hle := zA0 e he
 have hpl : (cs.take (p * 33)).length = p * 33 := by rw [List.length_take]; omega
 have hb := zAr (enC e) (cs.take (p * 33)) (cs.drop (p * 33 + 33)) h1 ((cs.drop (p * 33)).take 33) (by rw [hle, List.length_take, List.length_drop]; omega) (by
  congr 1
  rw [List.append_assoc, <- List.drop_drop (i := 33) (j := p * 33), List.take_append_drop, List.take_append_drop])
 rw [hpl] at hb
 refine ⟨_, hb, ?_, fun i hi => ?_⟩
 ·rw [List.length_append, List.length_append, hpl, hle, List.length_drop]
  omega
 ·by_cases e1 : i = p
  ·subst e1
   rw [List.append_assoc, List.drop_append_of_le_length (by omega), List.drop_of_length_le (by omega), List.nil_append, List.take_append_of_le_length (by omega), List.take_of_length_le (by omega)]
   unfold upd
   rw [if_pos rfl]
  ·unfold upd
   rw [if_neg e1, <- h3 i hi]
   by_cases e2 : i < p
   ·rw [List.append_assoc, List.drop_append_of_le_length (by omega), List.take_append_of_le_length (by rw [List.length_drop]; omega), List.drop_take, List.take_take]
    congr 1
    omega
   ·rw [List.drop_append, List.drop_of_length_le (by rw [List.length_append, hpl, hle]; omega), List.nil_append, List.length_append, hpl, hle, List.drop_drop]
    congr 2
    omega
theorem ER.ne {w : World} {eb n : Nat} {T : Nat -> En} (h : ER w eb n T) {b : Nat} {cur : Array Value} {U : TypeId} (hb : Blk w b cur U) (hU : U ≠ 104) : eb ≠ b := fun e => by
 obtain ⟨cs, h1, _⟩ := h
 subst e
 have := (show w.heap[eb]? = _ from h1).symm.trans hb
 simp at this
 exact hU this.2.symm
def PD (D : DataW Unit) (T : Nat -> En) : Prop := (∀ kl, has D kl = true -> ∃ i d c, T i = some (d, c) /\ kl = .string d.data.toList) /\ ∀ i d c, T i = some (d, c) -> has D (.string d.data.toList) = true /\ ∀ z, D.atKey (.string d.data.toList) z = .lit (.int .i64 (i : Int))
def PM (w : World) (bm n : Nat) (T : Nat -> En) : Prop := ∃ D, w.ownsMap Tryz.prog 99 (plainElem Tryz.prog 3) bm n D /\ PD D T
theorem PM.lt {w : World} {bm n : Nat} {T : Nat -> En} (h : PM w bm n T) : bm < w.heap.size := by
 obtain ⟨D, h1, _⟩ := h
 exact h1.lt
theorem PM.only {w w' : World} {bm n : Nat} {T : Nat -> En} {P : Nat -> Prop} (h : PM w bm n T) (ho : Only P w w') (hp : ¬ P bm) : PM w' bm n T := by
 obtain ⟨D, h1, h2⟩ := h
 have hlt := h1.lt
 obtain ⟨es, clock, hb, F, hs, hD⟩ := h1
 exact ⟨D, ⟨es, clock, (ho.2 bm hlt hp).trans hb, F, hs, hD⟩, h2⟩
theorem PM.below {w w' : World} {bm n : Nat} {T : Nat -> En} (h : PM w bm n T) (hb : Below w.heap.size w w') : PM w' bm n T := h.only (Only.of_below (P := fun _ => False) hb) (fun q => q)
theorem PM.ne {w : World} {bm n : Nat} {T : Nat -> En} (h : PM w bm n T) {b : Nat} {cur : Array Value} {U : TypeId} (hb : Blk w b cur U) : bm ≠ b := fun e => by
 obtain ⟨D, ⟨es, clock, hm, _⟩, _⟩ := h
 subst e
 have := (show w.heap[bm]? = _ from hb).symm.trans hm
 simp at this
theorem PM.made (w : World) (n : Nat) : PM (w.alloc (.map #[] 0)) w.heap.size n (fun _ => none) :=
 ⟨_, (World.ownsMap_made w _ _ _).mono (Nat.zero_le _), ⟨fun kl h => (by cases h), fun i d c h => (by cases h)⟩⟩
theorem zO1 (w : World) : (zeroValue 3).run Tryz.prog w = .ok (.int .i64 0) w := by kernel_rfl
theorem zEf {d d' : ByteArray} (h : Lit.string d.data.toList = Lit.string d'.data.toList) : d = d' := zO0 (by injection h)
theorem PM.hit {w : World} {bm n : Nat} {T : Nat -> En} (h : PM w bm n T) {i : Nat} {d : ByteArray} {c : Nat} (hT : T i = some (d, c)) (hd : d.size = 32) :
  (Instr.lookup 92 (.map (some bm)) (.agg (kC d).toArray) true).run Tryz.prog w = .ok (.tuple #[.int .i64 (i : Int), .bool true]) w := by
 obtain ⟨D, h1, h2⟩ := h
 have hz0 : plainElem (H := Unit) Tryz.prog 3 (.int .i64 0) = some (.lit (.int .i64 0), []) := plainElem_int Tryz.underlying3 (by decide)
 obtain ⟨v, ps, hrun, hv⟩ := h1.look_ok zEV Tryz.underlying92 (zO1 w) hz0 (zDc d hd)
 obtain ⟨q1, q2⟩ := h2.2 i d c hT
 rw [q2] at hv
 obtain ⟨a, rfl, hz, _⟩ := plainElem_int_inv Tryz.underlying3 hv
 rw [hrun, q1]
 have : (i : Int) = a := by simpa using congrArg Prod.fst hz
 rw [this]
theorem PM.miss {w : World} {bm n : Nat} {T : Nat -> En} (h : PM w bm n T) {d : ByteArray} (hd : d.size = 32) (hT : ∀ i c, T i ≠ some (d, c)) :
  (Instr.lookup 92 (.map (some bm)) (.agg (kC d).toArray) true).run Tryz.prog w = .ok (.tuple #[.int .i64 0, .bool false]) w := by
 obtain ⟨D, h1, h2⟩ := h
 have hz0 : plainElem (H := Unit) Tryz.prog 3 (.int .i64 0) = some (.lit (.int .i64 0), []) := plainElem_int Tryz.underlying3 (by decide)
 obtain ⟨v, ps, hrun, hv⟩ := h1.look_ok zEV Tryz.underlying92 (zO1 w) hz0 (zDc d hd)
 have hh : has D (.string d.data.toList) = false := by
  cases hq : has D (.string d.data.toList) with
  | false => rfl
  | true =>
   obtain ⟨i, d', c, e1, e2⟩ := h2.1 _ hq
   rw [<- zEf e2] at e1
   exact absurd e1 (hT i c)
 rw [atKey_of_not_has hh] at hv
 obtain ⟨a, rfl, hz, _⟩ := plainElem_int_inv Tryz.underlying3 hv
 rw [hrun, hh]
 have : (0 : Int) = a := by simpa using congrArg Prod.fst hz
 rw [this]
theorem zFl {α : Type} [DecidableEq α] : ∀ (a b : List α), a.Nodup -> (∀ x ∈ a, x ∈ b) -> a.length <= b.length
 | [], _, _, _ => Nat.zero_le _
 | x :: r, b, h, hs => by
  obtain ⟨h1, h2⟩ := List.nodup_cons.1 h
  have hx := hs x (by simp)
  have ih := zFl r (b.erase x) h2 (fun y hy => by
   have hne : y ≠ x := fun e => h1 (by rw [<- e]; exact hy)
   exact (List.mem_erase_of_ne hne).2 (hs y (by simp [hy])))
  rw [List.length_erase_of_mem hx] at ih
  have := List.length_pos_of_mem hx
  simp only [List.length_cons]
  omega
theorem zOm {D : DataW Unit} {T : Nat -> En} {n m bm : Nat} {w : World} (h0 : w.ownsMap Tryz.prog 99 (plainElem Tryz.prog 3) bm m D) (h : PD D T) (hT : TOk n T) : Maps.size D <= n := by
 obtain ⟨es, rfl, hp, hkl⟩ := h0.entries zEV
 rw [size_eq]
 have hn : (es.map (·.1)).Nodup := List.pairwise_map.2 hp
 have hs := @zFl Lit (fun a b => Classical.propDecidable (a = b)) (es.map (·.1)) ((List.range n).map fun i => Lit.string (enD (T i)).data.toList) hn (fun x hx => by
  obtain ⟨p, hp', rfl⟩ := List.mem_map.1 hx
  have hh : has (.map es) p.1 = true := by
   rw [has_eq, List.any_eq_true]
   exact ⟨p, hp', WideAt.sameKey_self (hkl p hp')⟩
  obtain ⟨i, d, c, e1, e2⟩ := h.1 _ hh
  refine List.mem_map.2 ⟨i, List.mem_range.2 (hT.lt e1), ?_⟩
  rw [e1, e2]
  rfl)
 simpa using hs
theorem zH7 (l : List UInt8) : WideAt.IsKeyLit (.string l) := by trivial
theorem PM.del {w : World} {bm n : Nat} {T : Nat -> En} (h : PM w bm n T) (hT : TOk n T) {p : Nat} {d : ByteArray} {c : Nat} (hp : T p = some (d, c)) (ty : TypeId) :
  ∃ w', (Builtin.delete_ #[92, 99] ty #[.map (some bm), .agg (kC d).toArray]).run Tryz.prog w = .ok (.tuple #[]) w' /\ PM w' bm n (upd T p none) /\ Only (fun x => x = bm) w w' /\ w'.heap.size = w.heap.size := by
 obtain ⟨D, h1, h2⟩ := h
 obtain ⟨w', hrun, hm, ht⟩ := h1.drop zEV Tryz.underlying92 (zDc d ((hT.ok p d c hp).1)) ty
 refine ⟨w', hrun, ⟨_, hm, fun kl hk => ?_, fun i d' c' hi => ?_⟩, Only.turned ht, zBL ht⟩
 ·have hne : kl ≠ .string d.data.toList := fun e => by
   rw [e, has_del_same] at hk
   cases hk
  rw [has_del_other hne] at hk
  obtain ⟨i, d', c', e1, e2⟩ := h2.1 kl hk
  refine ⟨i, d', c', ?_, e2⟩
  unfold upd
  rw [if_neg (fun e => ?_)]
  ·exact e1
  ·rw [e, hp] at e1
   injection e1 with e1
   injection e1 with e1
   exact hne (by rw [e2, e1])
 ·unfold upd at hi
  by_cases e : i = p
  ·rw [if_pos e] at hi
   cases hi
  ·rw [if_neg e] at hi
   have hne : Lit.string d'.data.toList ≠ .string d.data.toList := fun q => by
    rw [zEf q] at hi
    exact e (hT.one i p d c' c hi hp)
   obtain ⟨q1, q2⟩ := h2.2 i d' c' hi
   exact ⟨by rw [has_del_other hne]; exact q1, fun z => by rw [atKey_del_other hne]; exact q2 z⟩
theorem PM.put {w : World} {bm n : Nat} {T : Nat -> En} (h : PM w bm n T) (hT : TOk n T) (hn : n <= 1024) {p : Nat} (hpn : p < n) (hp : T p = none) {d : ByteArray} {c : Nat} (hd : EnOk (some (d, c))) (hf : ∀ i c', T i ≠ some (d, c')) :
  ∃ w', (Instr.mapUpdate 92 (.map (some bm)) (.agg (kC d).toArray) (.int .i64 (p : Int))).run Tryz.prog w = .ok () w' /\ PM w' bm n (upd T p (some (d, c))) /\ Only (fun x => x = bm) w w' /\ w'.heap.size = w.heap.size := by
 obtain ⟨D, h1, h2⟩ := h
 obtain ⟨w', hrun, hm, ht⟩ := h1.store zEV Tryz.underlying92 (by unfold maxLen; omega) (zDc d ((hd d c rfl).1)) (plainElem_int Tryz.underlying3 (zPm (k := (p : Int)) (by omega) (by omega)))
 have hD := h1.isMap
 have hPD : PD (D.put (.string d.data.toList) (.lit (.int .i64 (p : Int)))) (upd T p (some (d, c))) := by
  refine ⟨fun kl hk => ?_, fun i d' c' hi => ?_⟩
  ·by_cases hne : kl = .string d.data.toList
   ·exact ⟨p, d, c, by unfold upd; rw [if_pos rfl], hne⟩
   ·rw [has_put_other hne] at hk
    obtain ⟨i, d', c', e1, e2⟩ := h2.1 kl hk
    refine ⟨i, d', c', ?_, e2⟩
    unfold upd
    rw [if_neg (fun e => by rw [e, hp] at e1; cases e1)]
    exact e1
  ·unfold upd at hi
   by_cases e : i = p
   ·rw [if_pos e] at hi
    injection hi with hi
    injection hi with hi1 hi2
    subst hi1 e
    exact ⟨has_put_same hD (zH7 _) _, fun z => atKey_put_same hD (zH7 _) _ z⟩
   ·rw [if_neg e] at hi
    have hne : Lit.string d'.data.toList ≠ .string d.data.toList := fun q => by
     rw [zEf q] at hi
     exact hf i c' hi
    obtain ⟨q1, q2⟩ := h2.2 i d' c' hi
    exact ⟨by rw [has_put_other hne]; exact q1, fun z => by rw [atKey_put_other hne]; exact q2 z⟩
 have hTO : TOk n (upd T p (some (d, c))) := hT.upd p hpn _ hd (fun d' c' e j c'' hj => by
  have e1 : d = d' := congrArg (fun q : En => (q.getD (d, 0)).1) e
  subst e1
  exact absurd hj (hf j c''))
 exact ⟨w', hrun, ⟨_, (zCa hm).mono (zOm hm hPD hTO), hPD⟩, Only.turned ht, zBL ht⟩
end
section
open Go.RowKit Go.Maps
structure MM (w : World) (mb mo eb bm n : Nat) (T : Nat -> En) : Prop where
 c0 : w.cell? ⟨mb, mo, none⟩ = some (.slice (some ⟨eb, 0, none⟩) n n)
 c1 : w.cell? ⟨mb, mo + 1, none⟩ = some (.map (some bm))
 er : ER w eb n T
 pm : PM w bm n T
 ne : mb ≠ eb
 nb : mb ≠ bm
 nx : eb ≠ bm
 lt : mb < w.heap.size
theorem MM.only {w w' : World} {mb mo eb bm n : Nat} {T : Nat -> En} {P : Nat -> Prop} (h : MM w mb mo eb bm n T) (ho : Only P w w') (h1 : ¬ P mb) (h2 : ¬ P eb) (h3 : ¬ P bm) : MM w' mb mo eb bm n T := by
 have e := ho.2 mb h.lt h1
 refine ⟨?_, ?_, h.er.only ho h2, h.pm.only ho h3, h.ne, h.nb, h.nx, Nat.lt_of_lt_of_le h.lt ho.size⟩
 ·rw [World.cell?_of_block (a := ⟨mb, mo, none⟩) e]; exact h.c0
 ·rw [World.cell?_of_block (a := ⟨mb, mo + 1, none⟩) e]; exact h.c1
theorem MM.below {w w' : World} {mb mo eb bm n : Nat} {T : Nat -> En} (h : MM w mb mo eb bm n T) (hb : Below w.heap.size w w') : MM w' mb mo eb bm n T := h.only (Only.of_below (P := fun _ => False) hb) (fun q => q) (fun q => q) (fun q => q)
theorem zC5 {w : World} {mb mo eb bm n : Nat} {T : Nat -> En} (h : MM w mb mo eb bm n T) (z : Int) : Calls Tryz.prog 47 #[.pointer (some ⟨mb, mo, none⟩), .int .i64 z] w fun e w' => e = .returned (.bool (decide (0 <= z) && decide (z < (n : Int)))) /\ w' = w := by
 have c0 := h.c0
 clear h
 by_cases h0 : 0 <= z
 ·have hd : decide ((0 : Int) <= z) = true := by simpa using h0
  rw [hd, Bool.true_and]
  clear h0
  generalize hdz : decide (z < (n : Int)) = dz at *
  go_enter Tryz.func47, Tryz.ntmps47
  go_wp2
  go_ret
  exact ⟨rfl, rfl⟩
 ·have hd : decide ((0 : Int) <= z) = false := by simpa using h0
  rw [hd, Bool.false_and]
  clear h0
  go_enter Tryz.func47, Tryz.ntmps47
  go_wp2
  go_ret
  exact ⟨rfl, rfl⟩
theorem zBX {w : World} {mb mo eb bm n : Nat} {T : Nat -> En} (h : MM w mb mo eb bm n T) (d : ByteArray) (hd : d.size = 32) (i : Int) (is : Bool)
  (hl : ∀ W, PM W bm n T -> (Instr.lookup 92 (.map (some bm)) (.agg (kC d).toArray) true).run Tryz.prog W = .ok (.tuple #[.int .i64 i, .bool is]) W) :
  Calls Tryz.prog 45 #[.pointer (some ⟨mb, mo, none⟩), .agg (kC d).toArray] w fun e w' => e = .returned (.tuple #[.int .i64 i, .bool is]) /\ Below w.heap.size w w' := by
 obtain ⟨x1, hx1⟩ : ∃ q, w.alloc (.cells (kC d).toArray 99) = q := ⟨_, rfl⟩
 obtain ⟨g, hg⟩ : ∃ g, w.heap.size = g := ⟨_, rfl⟩
 have B1 : Blk x1 g (kC d).toArray 99 := by rw [<- hx1, <- hg]; exact Blk.new w _ _
 have hb1 : Below g w x1 := by rw [<- hx1, <- hg]; exact (Below.refl _ w).alloc (Nat.le_refl _) _
 have M1 : MM x1 mb mo eb bm n T := h.below (by rw [hg]; exact hb1)
 have hr1 : x1.rangeAt g 0 (kC d) := fun j v hv => by rw [B1.cell, Nat.zero_add]; simpa using hv
 have hl1 := hl x1 M1.pm
 have c1 := M1.c1
 have HL := uB hl
 have HKL := uB (zBm d hd)
 have HB := uB hb1
 have HPM := uB M1.pm
 have HX := uB hx1
 have HP0 := uB (show ∀ W, W.cell? ⟨mb, mo + 1, none⟩ = some (.map (some bm)) /\ W.rangeAt g 0 (kC d) /\ PM W bm n T -> (Instr.lookup 92 (.map (some bm)) (.agg (kC d).toArray) true).run Tryz.prog W = .ok (.tuple #[.int .i64 i, .bool is]) W from fun W q => hl W q.2.2)
 clear hl hl1 hb1 B1 h hd
 rw [hg]
 go_enter Tryz.func45, Tryz.ntmps45
 go_wp2
 refine wp_region_held_drew (S := fun w' => w'.cell? ⟨mb, mo + 1, none⟩ = some (.map (some bm)) /\ w'.rangeAt g 0 (kC d) /\ PM w' bm n T) (by kernel_rfl) ⟨c1, hr1, M1.pm⟩ ?_
 intro hS
 refine yL 0 (some 9) (.pointer (some ⟨mb, mo, none⟩)) rfl (fun w hSw => by obtain ⟨q1, q2, q3⟩ := hSw; clear q2 q3; go_simp) hS ?_
 refine yL 1 (some 10) (.pointer (some ⟨mb, mo, none⟩)) rfl (fun w hSw => by obtain ⟨q1, q2, q3⟩ := hSw; clear q2 q3; go_simp) hS ?_
 refine yL 2 (some 11) (.pointer (some ⟨mb, mo + 1, none⟩)) rfl (fun w hSw => by obtain ⟨q1, q2, q3⟩ := hSw; clear q2 q3; go_simp) hS ?_
 refine yL 3 (some 12) (.map (some bm)) rfl (fun w hSw => by obtain ⟨q1, q2, q3⟩ := hSw; clear q2 q3; go_simp) hS ?_
 refine yK 4 (some 13) (.agg (kC d).toArray) rfl (yieldsIf_load_mid (by rfl) 99 (.tmp 3) rfl g 0 rfl _ _ (fun w h => h.2.1) Tryz.underlying99 rfl (by rw [zBp, uA HKL])) hS ?_
 refine yL 5 (some 14) (.tuple #[.int .i64 i, .bool is]) rfl (fun w hSw => by have q9 := uA HP0 _ hSw; clear hSw; go_simp) hS ?_
 refine yL 6 (some 8) (.tuple #[.int .i64 i, .bool is]) rfl (fun w hSw => by obtain ⟨q1, q2, q3⟩ := hSw; clear q2 q3; go_simp) hS ?_
 refine yL 7 (some 15) (.int .i64 i) rfl (fun w hSw => by obtain ⟨q1, q2, q3⟩ := hSw; clear q2 q3; go_simp) hS ?_
 refine yL 8 (some 16) (.bool is) rfl (fun w hSw => by obtain ⟨q1, q2, q3⟩ := hSw; clear q2 q3; go_simp) hS ?_
 refine yL 9 (some 6) (.int .i64 i) rfl (fun w hSw => by obtain ⟨q1, q2, q3⟩ := hSw; clear q2 q3; go_simp) hS ?_
 refine yL 10 (some 7) (.bool is) rfl (fun w hSw => by obtain ⟨q1, q2, q3⟩ := hSw; clear q2 q3; go_simp) hS ?_
 refine wpAnyH_done (by kernel_rfl) ?_ _
 go_wp2
 go_ret2
 exact ⟨rfl, (uA HB).drew⟩
theorem zGC {w : World} {mb mo eb bm n : Nat} {T : Nat -> En} (h : MM w mb mo eb bm n T) (hT : TOk n T) (i : Nat) (hi : i < n) (hn : n <= 1024) (d : ByteArray) (c : Nat) (hTi : T i = some (d, c)) :
  Calls Tryz.prog 134 #[.pointer (some ⟨mb, mo, none⟩), .int .i64 (i : Int)] w fun e w' => e = .returned (.agg #[.int .i64 (i : Int), .string d, .int .i64 (c : Int)]) /\ Below w.heap.size w w' := by
 obtain ⟨x1, hx1⟩ : ∃ q, w.alloc (.cells #[.int .i64 0, .string ⟨#[]⟩, .int .i64 0] 40) = q := ⟨_, rfl⟩
 obtain ⟨g, hg⟩ : ∃ g, w.heap.size = g := ⟨_, rfl⟩
 have hb1 : Below g w x1 := by rw [<- hx1, <- hg]; exact (Below.refl _ w).alloc (Nat.le_refl _) _
 have hs1 : x1.heap.size = g + 1 := by rw [<- hx1, <- hg]; simp
 have G1 : Blk x1 g #[.int .i64 0, .string ⟨#[]⟩, .int .i64 0] 40 := by rw [<- hx1, <- hg]; exact Blk.new w _ _
 have M1 : MM x1 mb mo eb bm n T := h.below (by rw [hg]; exact hb1)
 have c0 := M1.c0
 have HR := uB (M1.er.range i hi)
 rw [hTi] at HR
 have hd := (hT.ok i d c hTi).1
 have HEL := uB (zEX d hd (c : Int))
 have HE1 := uB (all_oneCell_toArray (zFm d (c : Int)))
 obtain ⟨x2, hx2⟩ : ∃ q, x1.alloc (.cells #[.int .u8 0, .int .u8 0, .int .u8 0, .int .u8 0, .int .u8 0, .int .u8 0, .int .u8 0, .int .u8 0, .int .u8 0, .int .u8 0, .int .u8 0, .int .u8 0, .int .u8 0, .int .u8 0, .int .u8 0, .int .u8 0, .int .u8 0, .int .u8 0, .int .u8 0, .int .u8 0, .int .u8 0, .int .u8 0, .int .u8 0, .int .u8 0, .int .u8 0, .int .u8 0, .int .u8 0, .int .u8 0, .int .u8 0, .int .u8 0, .int .u8 0, .int .u8 0, .int .i64 0] 104) = q := ⟨_, rfl⟩
 have BZ : Blk x2 (g + 1) #[.int .u8 0, .int .u8 0, .int .u8 0, .int .u8 0, .int .u8 0, .int .u8 0, .int .u8 0, .int .u8 0, .int .u8 0, .int .u8 0, .int .u8 0, .int .u8 0, .int .u8 0, .int .u8 0, .int .u8 0, .int .u8 0, .int .u8 0, .int .u8 0, .int .u8 0, .int .u8 0, .int .u8 0, .int .u8 0, .int .u8 0, .int .u8 0, .int .u8 0, .int .u8 0, .int .u8 0, .int .u8 0, .int .u8 0, .int .u8 0, .int .u8 0, .int .u8 0, .int .i64 0] 104 := by rw [<- hx2, <- hs1]; exact Blk.new x1 _ _
 have HTZ := uB (zAN BZ 33 rfl)
 obtain ⟨x3, hx3⟩ : ∃ q, x2.setCells (g + 1) 0 (eC d (c : Int)) = q := ⟨_, rfl⟩
 have B3 : Blk x3 (g + 1) (eC d (c : Int)).toArray 104 := by
  rw [<- hx3]
  have := zAr (eC d (c : Int)) [] [] BZ (#[.int .u8 0, .int .u8 0, .int .u8 0, .int .u8 0, .int .u8 0, .int .u8 0, .int .u8 0, .int .u8 0, .int .u8 0, .int .u8 0, .int .u8 0, .int .u8 0, .int .u8 0, .int .u8 0, .int .u8 0, .int .u8 0, .int .u8 0, .int .u8 0, .int .u8 0, .int .u8 0, .int .u8 0, .int .u8 0, .int .u8 0, .int .u8 0, .int .u8 0, .int .u8 0, .int .u8 0, .int .u8 0, .int .u8 0, .int .u8 0, .int .u8 0, .int .u8 0, .int .i64 0] : Array Value).toList (by rw [uA HEL]; rfl) (by simp)
  simpa using this
 have G3 : Blk x3 g #[.int .i64 0, .string ⟨#[]⟩, .int .i64 0] 40 := by rw [<- hx3, <- hx2]; exact zAA _ _ (G1.alloc _) (g + 1) (by omega)
 have L3 := uB (show Below g w x3 from by rw [<- hx3, <- hx2]; exact zAc (by omega) _ _ (hb1.alloc (by omega) _))
 obtain ⟨f1, f2, f3, f4⟩ := zAn hd B3
 have q0 : x3.cell? ⟨g, 0, none⟩ = some (.int .i64 0) := G3.cell 0
 have q1 : x3.cell? ⟨g, 1, none⟩ = some (.string ⟨#[]⟩) := G3.cell 1
 have q2 : x3.cell? ⟨g, 2, none⟩ = some (.int .i64 0) := G3.cell 2
 have p0 := G3.frozen 0
 have p1 := G3.frozen 1
 have p2 := G3.frozen 2
 have HG3 := uB G3
 have HHD := uB (show (nums d).length = 32 by rw [zAf, hd])
 have HIX := uB (And.intro hi hn)
 have i0 : (0 : Int) <= (i : Int) := by omega
 have i1 : (i : Int) < (n : Int) := by omega
 clear h hT hTi hb1 G1 M1 hd BZ B3 G3 f2 f4 hi
 have HS1 := uB hs1
 have HX3 := uB hx3
 have HX2 := uB hx2
 clear hs1 hx3 hx2
 rw [hg]
 go_enter Tryz.func134, Tryz.ntmps134
 go_wp2_with (first | refine wpList_load_mid rfl 104 (.tmp 11) rfl eb (i * 33) (by rfl) _ _ (uA HR) Tryz.underlying104 rfl (by rw [zAk]; exact congrArg some (uA HEL).symm) ?_ | refine wpList_store_mid rfl 104 (.tmp 5) (.tmp 12) rfl (g + 1) 0 (eC d (c : Int)).toArray (by rw [<- uA HS1]; rfl) rfl (by rw [List.size_toArray, uA HEL, uA HX2]; exact uA HTZ) (by rw [zAk, List.size_toArray, uA HEL]) (uA HE1) ?_)
 rw [uA HX2, uA HX3, uA HS1]
 refine wp_region_held_drew (S := fun w' => Arr w' (g + 1) 0 .u8 (nums d) /\ w'.cell? ⟨g + 1, 32, none⟩ = some (.int .i64 (c : Int))) (by kernel_rfl) ⟨f1, f3⟩ ?_
 intro hS
 refine yL 0 (some 13) (.int .i64 (i : Int)) rfl (fun w hSw => by obtain ⟨q1, q2⟩ := hSw; clear q1; go_simp) hS ?_
 refine yL 1 (some 14) (.pointer (some ⟨g + 1, 0, none⟩)) rfl (fun w hSw => by obtain ⟨q1, q2⟩ := hSw; clear q1; go_simp) hS ?_
 refine yL 2 (some 15) (.slice (some ⟨g + 1, 0, none⟩) 32 32) rfl (fun w hSw => by obtain ⟨q1, q2⟩ := hSw; clear q1; go_simp) hS ?_
 refine yL 3 (some 16) (.string d) rfl (fun w hSw => by have q9 := run_convert_bytes_arg (P := Tryz.prog) w 119 5 Tryz.underlying119 Tryz.underlying5 (g + 1) 0 32 32 (nums d) (uA HHD) (fun j hj => hSw.1.get j (by rw [uA HHD]; exact hj)) 9 Tryz.underlying9; rw [zAV] at q9; clear hSw; go_simp) hS ?_
 refine yL 4 (some 17) (.pointer (some ⟨g + 1, 32, none⟩)) rfl (fun w hSw => by obtain ⟨q1, q2⟩ := hSw; clear q1; go_simp) hS ?_
 refine yL 5 (some 18) (.int .i64 (c : Int)) rfl (fun w hSw => by obtain ⟨q1, q2⟩ := hSw; clear q1; go_simp) hS ?_
 refine yL 6 (some 19) (.agg #[.int .i64 (i : Int), .string d, .int .i64 (c : Int)]) rfl (fun w hSw => by obtain ⟨q1, q2⟩ := hSw; clear q1; go_simp) hS ?_
 refine wpAnyH_ready (rs := [7]) (by kernel_rfl) (by simp) ?_
 refine AllReadyH.cons rfl (fun K hK => ?_) AllReadyH.nil
 simp only [List.getElem_toArray, List.getElem_cons_succ, List.getElem_cons_zero]
 go_simp
 have G4 := ((((uA HG3).set 0 (.int .i64 (i : Int))).set 1 (.string d)).set 2 (.int .i64 (c : Int)))
 have L4 := uB (((((uA L3).setCell (p := ⟨g, 0, none⟩) (Nat.le_refl _) (.int .i64 (i : Int))).setCell (p := ⟨g, 1, none⟩) (Nat.le_refl _) (.string d)).setCell (p := ⟨g, 2, none⟩) (Nat.le_refl _) (.int .i64 (c : Int))).drew)
 have HG4 := uB G4
 have A4 := uB (((f1.other ⟨g, 0, none⟩ (.int .i64 (i : Int)) (.inl (by show g ≠ g + 1; omega))).other ⟨g, 1, none⟩ (.string d) (.inl (by show g ≠ g + 1; omega))).other ⟨g, 2, none⟩ (.int .i64 (c : Int)) (.inl (by show g ≠ g + 1; omega)))
 have C4 := uB (show (((x3.setCell ⟨g, 0, none⟩ (.int .i64 (i : Int))).setCell ⟨g, 1, none⟩ (.string d)).setCell ⟨g, 2, none⟩ (.int .i64 (c : Int))).cell? ⟨g + 1, 32, none⟩ = some (.int .i64 (c : Int)) from by
  rw [World.cell?_setCell_other _ _ _ _ (by simp), World.cell?_setCell_other _ _ _ _ (by simp), World.cell?_setCell_other _ _ _ _ (by simp)]; exact f3)
 clear G4 f1 f3 q0 q1 q2 p0 p1 p2
 refine hK.out _ _ ⟨(uA A4), (uA C4)⟩ (fun hS => ?_)
 clear hK K
 refine wpAnyH_done (by kernel_rfl) ?_ _
 clear hS
 go_wp2
 have hG4 : Blk ((((x3.setCell ⟨g, 0, none⟩ (.int .i64 (i : Int))).setCell ⟨g, 1, none⟩ (.string d)).setCell ⟨g, 2, none⟩ (.int .i64 (c : Int))).drew) g #[.int .i64 (i : Int), .string d, .int .i64 (c : Int)] 40 := uA HG4
 have hld := zBd 40 _ hG4 Tryz.underlying40 rfl (by kernel_rfl)
 refine bodyPost_ret (v := .agg #[.int .i64 (i : Int), .string d, .int .i64 (c : Int)]) (zAv rfl _ _ _ ⟨g, 0, none⟩ rfl _ hld) rfl ⟨rfl, uA L4⟩
theorem zOl : (Tryz.prog.info? 104).map (fun i => (i.zero, i.size, i.bytes)) = some (some (.agg #[.int .u8 0, .int .u8 0, .int .u8 0, .int .u8 0, .int .u8 0, .int .u8 0, .int .u8 0, .int .u8 0, .int .u8 0, .int .u8 0, .int .u8 0, .int .u8 0, .int .u8 0, .int .u8 0, .int .u8 0, .int .u8 0, .int .u8 0, .int .u8 0, .int .u8 0, .int .u8 0, .int .u8 0, .int .u8 0, .int .u8 0, .int .u8 0, .int .u8 0, .int .u8 0, .int .u8 0, .int .u8 0, .int .u8 0, .int .u8 0, .int .u8 0, .int .u8 0, .int .i64 0]), 33, 40) := by kernel_rfl
theorem zNS (w : World) (n : Nat) : ER (w.alloc (.cells (madeCells (enC none).toArray (n * 33)) 104)) w.heap.size n (fun _ => none) := by
 have hz : (enC none).length = 33 := zA0 none (fun _ _ h => by cases h)
 refine ⟨(madeCells (enC none).toArray (n * 33)).toList, by rw [Array.toArray_toList]; exact Blk.new w _ _, by rw [Array.length_toList, size_madeCells]; omega, fun i hi => ?_⟩
 apply List.ext_getElem
 ·rw [List.length_take, List.length_drop, Array.length_toList, size_madeCells, hz]
  omega
 ·intro j h1 h2
  rw [hz] at h2
  rw [List.getElem_take, List.getElem_drop]
  simp only [madeCells, Array.getElem_toList, Array.getElem_map, Array.getElem_range]
  have e : (i * 33 + j) % (enC none).toArray.size = j := by
   rw [List.size_toArray, hz]
   omega
  rw [e]
  simp [hz, h2]
theorem imake (n : Nat) (hn : n <= 1024) (w : World) : (Instr.makeSlice 91 (.int .i64 (n : Int)) (.int .i64 (n : Int))).run Tryz.prog w = .ok (.slice (some ⟨w.heap.size, 0, none⟩) n n) (w.alloc (.cells (madeCells (enC none).toArray (n * 33)) 104)) := by
 have h := zOl
 cases hq : Tryz.prog.info? 104 with
 | none => rw [hq] at h; cases h
 | some i =>
  rw [hq] at h
  simp only [Option.map_some, Option.some.injEq, Prod.mk.injEq] at h
  obtain ⟨hz, hs, hbt⟩ := h
  have := run_makeSlice (P := Tryz.prog) w 91 104 i _ Tryz.underlying91 hq hz .i64 .i64 (n : Int) (n : Int) (by omega) (by omega) (by rw [hs, Int.toNat_natCast]; omega) (by rw [hbt]; omega) (by omega)
  rw [Int.toNat_natCast, hs] at this
  rw [this]
  have e : (Value.agg #[.int .u8 0, .int .u8 0, .int .u8 0, .int .u8 0, .int .u8 0, .int .u8 0, .int .u8 0, .int .u8 0, .int .u8 0, .int .u8 0, .int .u8 0, .int .u8 0, .int .u8 0, .int .u8 0, .int .u8 0, .int .u8 0, .int .u8 0, .int .u8 0, .int .u8 0, .int .u8 0, .int .u8 0, .int .u8 0, .int .u8 0, .int .u8 0, .int .u8 0, .int .u8 0, .int .u8 0, .int .u8 0, .int .u8 0, .int .u8 0, .int .u8 0, .int .u8 0, .int .i64 0]).cells = (enC none).toArray := by rw [zCA]; rfl
  rw [e]
theorem zDr (n : Nat) (hn : n <= 1024) (w : World) : Calls Tryz.prog 59 #[.int .i64 (n : Int)] w fun e w' => ∃ eb bm, e = .returned (.agg #[.slice (some ⟨eb, 0, none⟩) n n, .map (some bm)]) /\ w.heap.size <= eb /\ w.heap.size <= bm /\ ER w' eb n (fun _ => none) /\ PM w' bm n (fun _ => none) /\ Below w.heap.size w w' := by
 have hmm := @run_makeMap Tryz.prog
 obtain ⟨x1, hx1⟩ : ∃ q, w.alloc (.cells #[.slice none 0 0, .map none] 94) = q := ⟨_, rfl⟩
 obtain ⟨g, hg⟩ : ∃ g, w.heap.size = g := ⟨_, rfl⟩
 have hb1 : Below g w x1 := by rw [<- hx1, <- hg]; exact (Below.refl _ w).alloc (Nat.le_refl _) _
 have hs1 : x1.heap.size = g + 1 := by rw [<- hx1, <- hg]; simp
 have G1 : Blk x1 g #[.slice none 0 0, .map none] 94 := by rw [<- hx1, <- hg]; exact Blk.new w _ _
 obtain ⟨x2, hx2⟩ : ∃ q, x1.alloc (.cells (madeCells (enC none).toArray (n * 33)) 104) = q := ⟨_, rfl⟩
 have hmk := imake n hn x1
 rw [hx2, hs1] at hmk
 have E2 : ER x2 (g + 1) n (fun _ => none) := by rw [<- hx2, <- hs1]; exact zNS x1 n
 have hs2 : x2.heap.size = g + 2 := by rw [<- hx2]; simp [hs1]
 have G2 : Blk x2 g #[.slice none 0 0, .map none] 94 := by rw [<- hx2]; exact G1.alloc _
 have hb2 : Below g w x2 := by rw [<- hx2]; exact hb1.alloc (by omega) _
 have hmm2 := hmm 92 x2
 obtain ⟨x3, hx3⟩ : ∃ q, x2.alloc (.map #[] 0) = q := ⟨_, rfl⟩
 rw [hx3, hs2] at hmm2
 have G3 : Blk x3 g #[.slice none 0 0, .map none] 94 := by rw [<- hx3]; exact G2.alloc _
 have E3 : ER x3 (g + 1) n (fun _ => none) := E2.below (by rw [<- hx3]; exact (Below.refl _ _).alloc (Nat.le_refl _) _)
 have P3 : PM x3 (g + 2) n (fun _ => none) := by rw [<- hx3, <- hs2]; exact PM.made x2 n
 have L3 : Below g w x3 := by rw [<- hx3]; exact hb2.alloc (by omega) _
 have q0 : x3.cell? ⟨g, 0, none⟩ = some (.slice none 0 0) := G3.cell 0
 have q1 : x3.cell? ⟨g, 1, none⟩ = some (.map none) := G3.cell 1
 have p0 := G3.frozen 0
 have p1 := G3.frozen 1
 have HX := uB (And.intro G3 (And.intro E3 (And.intro P3 L3)))
 clear hb1 hs1 G1 E2 hs2 G2 hb2 G3 E3 P3 L3 hmm hx2 hx3
 rw [hg]
 go_enter Tryz.func59, Tryz.ntmps59
 go_wp2
 obtain ⟨G3, E3, P3, L3⟩ := uA HX
 have G4 := (G3.set 0 (.slice (some ⟨g + 1, 0, none⟩) n n)).set 1 (.map (some (g + 2)))
 have hO : Only (fun k => k = g) x3 ((x3.setCell ⟨g, 0, none⟩ (.slice (some ⟨g + 1, 0, none⟩) n n)).setCell ⟨g, 1, none⟩ (.map (some (g + 2)))) := ((Only.refl (fun k => k = g) x3).setCell ⟨g, 0, none⟩ _ (fun _ => rfl)).setCell ⟨g, 1, none⟩ _ (fun _ => rfl)
 have hld := zBd 94 _ G4 Tryz.underlying94 rfl (by kernel_rfl)
 refine bodyPost_ret (v := .agg #[.slice (some ⟨g + 1, 0, none⟩) n n, .map (some (g + 2))]) (zAv rfl _ _ _ ⟨g, 0, none⟩ rfl _ hld) rfl ⟨_, _, rfl, by omega, by omega, E3.only hO (by omega), P3.only hO (by omega), (L3.setCell (p := ⟨g, 0, none⟩) (Nat.le_refl _) _).setCell (p := ⟨g, 1, none⟩) (Nat.le_refl _) _⟩
end
end Go.Proofs.YtdpnbemagiekoaaGreatDoor
