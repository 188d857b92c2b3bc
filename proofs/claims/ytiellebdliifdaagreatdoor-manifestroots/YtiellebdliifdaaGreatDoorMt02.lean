import Derived.Test.YtiellebdliifdaaGreatDoorMt00
import Derived.Test.YtiellebdliifdaaGreatDoorMt01
import Derived.Laws.Bits64b
namespace Go.Proofs.YtiellebdliifdaaGreatDoor
open Go.RowKit
def numB (v : Int) (size : Nat) : List Int := (List.range size).map (fun i => v / 2 ^ (8 * (size - 1 - i)) % 256)
theorem numB_len (v : Int) (size : Nat) : (numB v size).length = size := by simp [numB]
theorem numB_bytes (v : Int) (size : Nat) : Bytes (numB v size) := by
 intro j
 by_cases h : j < size
 ·have : (numB v size).getD j 0 = v / 2 ^ (8 * (size - 1 - j)) % 256 := by simp [numB, h]
  rw [this]
  omega
 ·have : (numB v size).getD j 0 = 0 := by simp [numB, h]
  rw [this]
  omega
theorem numB_take (v : Int) (size j : Nat) (h : j < size) : (numB v size).take (j + 1) = (numB v size).take j ++ [v / 2 ^ (8 * (size - 1 - j)) % 256] := by
 have hl : j < (numB v size).length := by rw [numB_len]; exact h
 rw [List.take_add_one, List.getElem?_eq_getElem hl]
 simp [numB]
theorem numB_all (v : Int) (size : Nat) : (numB v size).take size = numB v size := List.take_of_length_le (by rw [numB_len]; exact Nat.le_refl _)
def fitsP (n : Int) (k : Nat) : Prop := 0 ≤ n ∧ n / 2 ^ (8 * k) = 0
instance (n : Int) (k : Nat) : Decidable (fitsP n k) := inferInstanceAs (Decidable (_ ∧ _))
def errN (bytes : Int) (L : List Int) : Int := if bytes < 1 ∨ 8 < bytes then 1 else if ∀ n ∈ L, fitsP n bytes.toNat then 0 else 30
def outN (k : Nat) (L : List Int) : List Int := L.flatMap (fun n => numB n k)
theorem outN_len (k : Nat) (L : List Int) : (outN k L).length = k * L.length := by
 induction L with
 | nil => simp [outN]
 | cons x L ih => simp [outN, numB_len] at *; rw [ih]; grind
theorem outN_snoc (k : Nat) (L : List Int) (i : Nat) (hi : i < L.length) : outN k (L.take (i + 1)) = outN k (L.take i) ++ numB (L.getD i 0) k := by
 rw [List.take_add_one, List.getElem?_eq_getElem hi, List.getD_eq_getElem?_getD, List.getElem?_eq_getElem hi]
 show (L.take i ++ [L[i]]).flatMap _ = _
 rw [List.flatMap_append]
 simp [outN]
def wl (l : List Int) (e err : Int) (out : List Int) : List Int := if e = 0 then (if err = 0 then l ++ out else []) else l
def we (e err : Int) : Int := if e = 0 then err else e
theorem wl_ok (l : List Int) (e : Int) (out : List Int) : wl l e 0 out = if e = 0 then l ++ out else l := by simp [wl]
theorem wl_two (l : List Int) (e : Int) (o1 o2 : List Int) : wl (wl l e 0 o1) e 0 o2 = wl l e 0 (o1 ++ o2) := by
 by_cases h : e = 0 <;> simp [wl, h]
theorem wl_nil (l : List Int) (e : Int) : wl l e 0 [] = l := by simp [wl]
theorem wl_len (l : List Int) (e : Int) (out : List Int) : (wl l e 0 out).length ≤ l.length + out.length := by
 by_cases h : e = 0 <;> simp [wl, h]
theorem we_ok (e : Int) : we e 0 = e := by unfold we; split <;> omega
theorem wl_bad (l : List Int) (e err : Int) (o1 o2 : List Int) (h : err ≠ 0) : (if e = 0 then [] else wl l e 0 o1) = wl l e err o2 := by
 by_cases he : e = 0 <;> simp [wl, he, h]
end Go.Proofs.YtiellebdliifdaaGreatDoor
namespace Go.Proofs.YtiellebdliifdaaGreatDoor
open Go.RowKit
def beN (l : List Int) : Int := l.foldl (fun n b => 256 * n + b) 0
theorem beN_snoc (l : List Int) (x : Int) : beN (l ++ [x]) = 256 * beN l + x := by simp [beN]
theorem beN_nil : beN [] = 0 := rfl
theorem or_add' (A c k B : Nat) (hc : c = 2 ^ k) (h : B < c) : B ||| A * c = A * c + B := by
 subst hc
 have := Nat.shiftLeft_add_eq_or_of_lt h A
 rw [Nat.shiftLeft_eq] at this
 rw [Nat.or_comm]
 exact this.symm
theorem i64_or_nat (a b : Nat) (ha : a < 9223372036854775808) (hb : b < 9223372036854775808) : bits .or .i64 (a : Int) (b : Int) = ((a ||| b : Nat) : Int) := by
 have hx : a ||| b < 2 ^ 63 := Nat.or_lt_two_pow (by omega) (by omega)
 have h1 : (BitVec.ofInt 64 (a : Int)).toNat = a := by
  rw [BitVec.ofInt_natCast, BitVec.toNat_ofNat]; exact Nat.mod_eq_of_lt (by omega)
 have h2 : (BitVec.ofInt 64 (b : Int)).toNat = b := by
  rw [BitVec.ofInt_natCast, BitVec.toNat_ofNat]; exact Nat.mod_eq_of_lt (by omega)
 show IntKind.i64.wrap ((BitVec.ofInt 64 (a : Int) ||| BitVec.ofInt 64 (b : Int)).toNat : Int) = _
 rw [BitVec.toNat_or, h1, h2, IntKind.wrap_i64]
 omega
theorem nums_extract (s : ByteArray) (a b : Nat) : nums (s.extract a b) = ((nums s).take b).drop a := by
 simp [nums, ByteArray.data_extract, List.map_take, List.map_drop, List.drop_take]
theorem nums_tail (s : ByteArray) (a : Nat) : nums (s.extract a s.size) = (nums s).drop a := by
 rw [nums_extract, List.take_of_length_le (by rw [nums_len]; exact Nat.le_refl _)]
theorem extract_tail (s : ByteArray) (a b : Nat) : (s.extract a s.size).extract b (s.extract a s.size).size = s.extract (a + b) s.size := by
 have h : nums ((s.extract a s.size).extract b (s.extract a s.size).size) = nums (s.extract (a + b) s.size) := by
  rw [nums_tail, nums_tail, nums_tail, List.drop_drop]
 have h2 := congrArg strOfNums h
 rwa [strOfNums_nums, strOfNums_nums] at h2
theorem nums_inj {s t : ByteArray} (h : nums s = nums t) : s = t := by
 have h2 := congrArg strOfNums h
 rwa [strOfNums_nums, strOfNums_nums] at h2
end Go.Proofs.YtiellebdliifdaaGreatDoor
namespace Go.Proofs.YtiellebdliifdaaGreatDoor
open Go.RowKit
def gave (x : Int) : List PanicEntry := [{ v := .iface 225 (.agg #[.int .i64 x]), recovered := false }]
def Thr (b : Nat) (w w' : World) : Prop := (∃ r t, Rdr w' b r t 0) ∧ Only (fun k => k = b) w w'
theorem Rdr.cells {w : World} {b : Nat} {r : ByteArray} {t e : Int} (h : Rdr w b r t e) : w.cell? ⟨b, 0, none⟩ = some (.string r) ∧ w.cell? ⟨b, 1, none⟩ = some (.int .i64 t) ∧ w.cell? ⟨b, 2, none⟩ = some (.int .i64 e) ∧ w.frozen? ⟨b, 0, none⟩ = false ∧ w.frozen? ⟨b, 1, none⟩ = false ∧ w.frozen? ⟨b, 2, none⟩ = false := by
 have h' : Blk w b #[.string r, .int .i64 t, .int .i64 e] 222 := h
 refine ⟨?_, ?_, ?_, h'.frozen 0, h'.frozen 1, h'.frozen 2⟩
 ·rw [h'.cell 0]; rfl
 ·rw [h'.cell 1]; rfl
 ·rw [h'.cell 2]; rfl
set_option maxRecDepth 100000 in
set_option maxHeartbeats 1000000 in
theorem take_ok (w : World) (b : Nat) (r : ByteArray) (t e : Int) (h : Rdr w b r t e) (n : Nat) (hn : n ≤ r.size) (ht : 0 ≤ t) (hr : t + (r.size : Int) ≤ 9223372036854775807) :
  Calls Tryz.prog 184 #[.pointer (some ⟨b, 0, none⟩), .int .i64 (n : Int)] w fun ev w' => ev = .returned (.string (r.extract 0 n)) ∧ Rdr w' b (r.extract n r.size) (t + (n : Int)) e ∧ Only (fun k => k = b) w w' := by
 obtain ⟨c0, c1, c2, f0, f1, f2⟩ := h.cells
 have HB := hide h
 clear h
 go_enter Tryz.func184, Tryz.ntmps184
 go_wp2
 go_ret
 refine ⟨rfl, ?_, ((Only.refl (fun k => k = b) w).setCell ⟨b, 0, none⟩ _ (fun _ => rfl)).setCell ⟨b, 1, none⟩ _ (fun _ => rfl)⟩
 exact (Blk.set (unhide HB) 0 _).set 1 _
set_option maxRecDepth 100000 in
set_option maxHeartbeats 1000000 in
theorem take_short (w : World) (b : Nat) (r : ByteArray) (t : Int) (h : Rdr w b r t 0) (n : Int) (hn : (r.size : Int) < n) :
  Calls Tryz.prog 184 #[.pointer (some ⟨b, 0, none⟩), .int .i64 n] w fun ev w' => ev = .panicked (gave 31) ∧ Thr b w w' := by
 obtain ⟨c0, c1, c2, f0, f1, f2⟩ := h.cells
 have HB := hide h
 clear h
 go_enter Tryz.func184, Tryz.ntmps184
 go_wp2
 (try simp only [Exit.inBlock, Exit.then])
 exact ⟨rfl, rfl, ⟨r, t, unhide HB⟩, Only.refl _ _⟩
set_option maxRecDepth 100000 in
set_option maxHeartbeats 1000000 in
theorem number_short (w : World) (b : Nat) (r : ByteArray) (t : Int) (h : Rdr w b r t 0) (n : Int) (hn : (r.size : Int) < n) :
  Calls Tryz.prog 182 #[.pointer (some ⟨b, 0, none⟩), .int .i64 n] w fun ev w' => ev = .panicked (gave 31) ∧ Thr b w w' := by
 have HT := hide (take_short w b r t h n hn)
 clear h
 go_enter Tryz.func182, Tryz.ntmps182
 go_wp2_with (go_at_call 184; refine (unhide HT).mono ?_; rintro ev w2 ⟨rfl, hP⟩; have HP := hide hP; clear hP)
 (try simp only [Exit.inBlock, Exit.then])
 exact ⟨rfl, rfl, unhide HP⟩
theorem be_take (l : List Int) (i : Nat) (hi : i < l.length) : beN (l.take (i + 1)) = 256 * beN (l.take i) + l.getD i 0 := by
 rw [List.take_add_one, List.getElem?_eq_getElem hi, List.getD_eq_getElem?_getD, List.getElem?_eq_getElem hi]
 exact beN_snoc _ _
theorem be_bound (l : List Int) (h : Bytes l) : ∀ i, 0 ≤ beN (l.take i) ∧ beN (l.take i) < 256 ^ i := by
 intro i
 induction i with
 | zero => simp [beN]
 | succ i ih =>
  by_cases hi : i < l.length
  ·rw [be_take l i hi, Int.pow_succ]
   have := h i
   omega
  ·rw [List.take_of_length_le (by omega)] at ih ⊢
   have : (256 : Int) ^ i ≤ 256 ^ (i + 1) := by rw [Int.pow_succ]; have : (0:Int) < 256 ^ i := Int.pow_pos (by decide); omega
   omega
def NumPost (b : Nat) (r : ByteArray) (t : Int) (n : Nat) (Z : Int) (w : World) (ev : Ending) (w' : World) : Prop :=
 (Z ≤ 9223372036854775807 → ev = .returned (.int .i64 Z) ∧ Rdr w' b (r.extract n r.size) (t + (n : Int)) 0 ∧ Only (fun k => k = b) w w') ∧ (9223372036854775807 < Z → ev = .panicked (gave 30) ∧ Thr b w w')
set_option maxRecDepth 100000 in
set_option maxHeartbeats 2000000 in
theorem number_any (w : World) (b : Nat) (r : ByteArray) (t : Int) (h : Rdr w b r t 0) (n : Nat) (hn : n ≤ r.size) (hn8 : n ≤ 8) (ht : 0 ≤ t) (hr : t + (r.size : Int) ≤ 9223372036854775807) (Z : Int) (hZ : Z = beN ((nums r).take n)) :
  Calls Tryz.prog 182 #[.pointer (some ⟨b, 0, none⟩), .int .i64 (n : Int)] w fun ev w' => NumPost b r t n Z w ev w' := by
 have HT := hide (take_ok w b r t 0 h n hn ht hr)
 have hsz : (r.extract 0 n).size = n := by simp; omega
 have hnm : nums (r.extract 0 n) = (nums r).take n := by rw [nums_extract, List.drop_zero]
 generalize r.extract 0 n = s at *
 rw [← hnm] at hZ
 have HZ := hide hZ
 clear h hnm hZ
 go_enter Tryz.func182, Tryz.ntmps182
 go_wp2_with fail
 refine (unhide HT).mono ?_
 rintro ev w2 ⟨rfl, hR2, hO2⟩
 obtain ⟨cap, W, hrun, hB, hbel⟩ := Bsl.of_string w2 s (by omega)
 rw [hsz] at hrun
 have hlt2 : b < w2.heap.size := Blk.lt hR2
 have HR2 := hide hR2
 have HO2 := hide hO2
 have HRW := hide (show Rdr W b (r.extract n r.size) (t + (n : Int)) 0 from Blk.below hR2 hbel hlt2)
 have HOW := hide (show Only (fun k => k = b) w W from hO2.trans (Only.of_below (P := fun _ => False) hbel) (fun _ _ q => q.elim))
 have HA := hide hB.2.2.2.2.1
 have hb8 := be_bound (nums s) (nums_bytes s)
 have hHB := hide hb8
 clear hR2 hO2 hB hbel hb8 HT HR2 HO2
 go_wp2
 go_loopw [5, 13] (fun u i wr => ∃ j : Nat, j ≤ n ∧ i = .int .i64 (j : Int) ∧ u = .int .u64 (beN ((nums s).take j)) ∧ wr = W) (fun _ i _ => n - (intOf i).toNat)
 case atStart => exact ⟨0, by omega, rfl, rfl, rfl⟩
 case round =>
  obtain ⟨j, hj, rfl, rfl, rfl⟩ := hrel
  have hbj := unhide hHB j
  by_cases hjn : j < n
  ·have hl : j < (nums s).length := by rw [nums_len, hsz]; exact hjn
   have c1 := (unhide HA).get0 j hl
   have hx := nums_bytes s j
   have HN := hide (be_take (nums s) j hl)
   have hp : (256 : Int) ^ j ≤ 256 ^ 7 := by
    have h1 : (256 : Nat) ^ j ≤ 256 ^ 7 := Nat.pow_le_pow_right (by decide) (by omega)
    exact_mod_cast h1
   have h7 : (256 : Int) ^ 7 = 72057594037927936 := by decide
   obtain ⟨X, hX⟩ := Int.eq_ofNat_of_zero_le hx.1
   obtain ⟨N, hN⟩ := Int.eq_ofNat_of_zero_le hbj.1
   have hNl : N < 72057594037927936 := by omega
   have hXl : X < 256 := by omega
   rw [hX] at c1 HN
   rw [hN] at HN ⊢
   clear hp h7 hx hbj hX hN
   have hw1 : IntKind.u64.wrap ((N : Int) * 2 ^ (8 : Int).toNat) = ((N * 256 : Nat) : Int) := by
    rw [IntKind.wrap_u64]
    have : (8 : Int).toNat = 8 := rfl
    rw [this]
    omega
   have ho := bits_or_u64_nat (N * 256) X (by omega) (by omega)
   rw [Nat.or_comm, or_add' N 256 8 X (by decide) (by omega)] at ho
   go_wp2
   go_roundw
   case rel => exact ⟨j + 1, by omega, by go_num, by rw [unhide HN, show (256 * (N : Int) + (X : Int)) = ((N * 256 + X : Nat) : Int) by omega, ← ho]; rfl, trivial⟩
   case measure => simp [intOf]; omega
  ·have hjn' : j = n := by omega
   subst hjn'
   have hall : (nums s).take j = nums s := List.take_of_length_le (by rw [nums_len]; omega)
   rw [hall, ← unhide HZ] at hbj ⊢
   have hp : (256 : Int) ^ j ≤ 256 ^ 8 := by
    have h1 : (256 : Nat) ^ j ≤ 256 ^ 8 := Nat.pow_le_pow_right (by decide) (by omega)
    exact_mod_cast h1
   have h8 : (256 : Int) ^ 8 = 18446744073709551616 := by decide
   have hZ1 : Z < 18446744073709551616 := by omega
   have hZ0 := hbj.1
   clear hp h8 hbj hall
   by_cases hZm : Z ≤ 9223372036854775807
   ·have hng : ¬ 9223372036854775807 < Z := by omega
    go_wp2
    go_ret
    exact ⟨fun _ => ⟨rfl, unhide HRW, unhide HOW⟩, fun h => by omega⟩
   ·have hg : 9223372036854775807 < Z := by omega
    go_wp2
    (try simp only [Exit.inBlock, Exit.then])
    exact ⟨rfl, fun h => by omega, fun _ => ⟨rfl, ⟨_, _, unhide HRW⟩, unhide HOW⟩⟩
theorem be_one (x : Int) (l : List Int) : beN ((x :: l).take 1) = x := by simp [beN]
end Go.Proofs.YtiellebdliifdaaGreatDoor
namespace Go.Proofs.YtiellebdliifdaaGreatDoor
open Go.RowKit
def Wtr (w : World) (base b : Nat) (v : Value) (l : List Int) (e : Int) : Prop :=
 Blk w b #[v, .int .i64 e] 201 ∧ w.ownsRow base 5 1 v l.length (l.map (Value.int .u8)) ∧ base ≤ b
def Fp (b : Nat) (v : Value) (k : Nat) : Prop := k = b ∨ v.ownBlock = some k
def WPost (base b : Nat) (v : Value) (l : List Int) (e : Int) (w w' : World) : Prop :=
 ∃ v', Wtr w' base b v' l e ∧ Only (Fp b v) w w' ∧ ∀ k, v'.ownBlock = some k → v.ownBlock = some k ∨ w.heap.size ≤ k
theorem Wtr.lt {w : World} {base b : Nat} {v : Value} {l : List Int} {e : Int} (h : Wtr w base b v l e) : b < w.heap.size := h.1.lt
theorem Wtr.form {w : World} {base b : Nat} {v : Value} {l : List Int} {e : Int} (h : Wtr w base b v l e) : ∃ p cap, v = .slice p l.length cap ∧ l.length ≤ cap := by
 rcases h.2.1.2 with ⟨h1, h2⟩ | ⟨g, cap, cur, h1, _, _, h3, _⟩
 ·exact ⟨none, 0, by rw [h1, h2], by omega⟩
 ·exact ⟨_, cap, h1, h3⟩
theorem Wtr.apart {w : World} {base b : Nat} {v : Value} {l : List Int} {e : Int} (h : Wtr w base b v l e) : v.ownBlock ≠ some b := h.1.not_row (by decide) h.2.1
theorem Wtr.only {w w' : World} {base b : Nat} {v : Value} {l : List Int} {e : Int} {P : Nat → Prop} (h : Wtr w base b v l e) (ho : Only P w w') (hp : ∀ k, Fp b v k → ¬ P k) : Wtr w' base b v l e :=
 ⟨h.1.only ho (hp b (.inl rfl)), owns_only h.2.1 ho (fun k hk => hp k (.inr hk)), h.2.2⟩
theorem WPost.refl {w : World} {base b : Nat} {v : Value} {l : List Int} {e : Int} (h : Wtr w base b v l e) : WPost base b v l e w w := ⟨v, h, Only.refl _ _, fun _ hk => .inl hk⟩
theorem WPost.trans {w w1 w2 : World} {base b : Nat} {v v1 : Value} {l2 : List Int} {e2 : Int} (h : Only (Fp b v) w w1) (hv : ∀ k, v1.ownBlock = some k → v.ownBlock = some k ∨ w.heap.size ≤ k)
  (h2 : WPost base b v1 l2 e2 w1 w2) : WPost base b v l2 e2 w w2 := by
 obtain ⟨v2, a, o, q⟩ := h2
 refine ⟨v2, a, h.trans o (fun k hk hf => ?_), fun k hk => ?_⟩
 ·rcases hf with rfl | hf
  ·exact .inl rfl
  ·rcases hv k hf with h3 | h3
   ·exact .inr h3
   ·omega
 ·rcases q k hk with h3 | h3
  ·exact hv k h3
  ·exact .inr (Nat.le_trans h.size h3)
theorem wpList_append_none {ops : Array Oper} {rest : List Oper} {op : Oper} {a : Act} {w : World} {Q : Exit → Act → World → Prop} (hgd : op.guard = none) (d x : Operand) (hop : op.op = Op.call { callee := Callee.builtin Builtin.append, args := #[d, x], argTypes := #[101, 101] })
  (p q : Option Addr) (n c c' : Nat) (hd : a.eval d = .slice p n c) (hx : a.eval x = .slice q 0 c') (hn : n ≤ c) (h : wpList Tryz.prog ops Q rest (a.put op.dst (.slice p n c)) w) : wpList Tryz.prog ops Q (op :: rest) a w := by
 refine wpList_plain hgd fun K hK => ?_
 have hrun := run_append_none w p q n c c' hn op.type
 unfold Oper.wp
 simp only [execOp, hop]
 simp [resolve, invoke, builtin, hd, hx, hrun, Result.andThen]
 exact hK _ _ h
set_option maxHeartbeats 400000 in
theorem newWriter_any (w : World) :
  Calls Tryz.prog 102 #[] w fun e w' => e = .returned (.pointer (some ⟨w.heap.size, 0, none⟩)) ∧ Wtr w' w.heap.size w.heap.size (.slice none 0 0) [] 0 ∧ Below w.heap.size w w' ∧ w'.heap.size = w.heap.size + 1 := by
 go_enter Tryz.func102, Tryz.ntmps102
 go_wp2
 go_ret
 exact ⟨rfl, ⟨Blk.new _ _ _, World.ownsRow_nil _ _ _ _, Nat.le_refl _⟩, (Below.refl _ _).alloc (Nat.le_refl _) _, by simp⟩
set_option maxRecDepth 100000 in
set_option maxHeartbeats 1000000 in
theorem lay_any (w : World) (base b : Nat) (v : Value) (l : List Int) (e : Int) (h : Wtr w base b v l e) (hb : base ≤ w.heap.size) (ad : Addr) (m c : Nat) (news : List Int) (hl : news.length = m)
  (hn : ∀ j, j < m → w.cell? (ad.add j) = some (.int .u8 (news.getD j 0))) (hsz : l.length + m ≤ 140737488355328) :
  Calls Tryz.prog 155 #[.pointer (some ⟨b, 0, none⟩), .slice (some ad) m c] w fun ev w' => ev = .returned (.tuple #[]) ∧ WPost base b v (if e = 0 then l ++ news else l) e w w' := by
 obtain ⟨p, cap, rfl, hcap⟩ := h.form
 have c0 : w.cell? ⟨b, 0, none⟩ = some (.slice p l.length cap) := by rw [h.1.cell 0]; rfl
 have c1 : w.cell? ⟨b, 1, none⟩ = some (.int .i64 e) := by rw [h.1.cell 1]; rfl
 have f0 := h.1.frozen 0
 have HW := hide h
 have HP := hide h.apart
 by_cases he : e = 0
 ·subst he
  rw [if_pos rfl]
  by_cases hm : m = 0
  ·subst hm
   obtain rfl : news = [] := List.eq_nil_of_length_eq_zero hl
   rw [List.append_nil]
   clear h hn
   go_enter Tryz.func155, Tryz.ntmps155
   go_wp2_with (refine wpList_append_none rfl (.tmp 13) (.tmp 14) rfl p (some ad) l.length cap c rfl rfl hcap ?_)
   go_end0
   refine ⟨rfl, .slice p l.length cap, ⟨(unhide HW).1.set 0 _, owns_only (unhide HW).2.1 ((Only.refl (fun k => k = b) w).setCell _ _ (fun _ => rfl)) (fun k hk hkb => unhide HP (hkb ▸ hk)), (unhide HW).2.2⟩, (Only.refl _ w).setCell _ _ (fun _ => .inl rfl), fun k hk => .inl hk⟩
  ·obtain ⟨i0, hi, hz0, hz1, hz2⟩ := info_parts info5
   have HN := hide hn
   have HI := hide (And.intro hi (And.intro hz0 (And.intro hz1 hz2)))
   clear h hn hi hz0 hz1 hz2
   go_enter Tryz.func155, Tryz.ntmps155
   go_wp2_with (refine wpList_append_lies w rfl (.tmp 13) (.tmp 14) 101 rfl base 5 i0 (.int .u8 0) 1 1 Tryz.underlying101 (unhide HI).1 (unhide HI).2.1 (unhide HI).2.2.1 (unhide HI).2.2.2 rfl (by decide) _ l.length (l.map (Value.int .u8)) rfl (unhide HW).2.1 ad m c (news.map (Value.int .u8)) rfl (by simp [hl]) ?_ (by simp [Value.oneCell']) (by omega) (by unfold maxLen; omega) (by omega) hb w.heap.size rfl ?_)
   ·intro j u hu
    rw [List.getElem?_map] at hu
    cases hq : news[j]? with
    | none => simp [hq] at hu
    | some x =>
     obtain ⟨hj, ex⟩ := List.getElem?_eq_some_iff.1 hq
     rw [hq] at hu
     simp at hu
     rw [unhide HN j (by omega), ← hu]
     simp [hq]
   ·intro g cap' w1 ho hg hor hlt
    have B1 : Blk w1 b #[.slice p l.length cap, .int .i64 0] 201 := (unhide HW).1.kept (hg.block b (unhide HW).lt (fun e => unhide HP e.symm))
    have d0 : w1.cell? ⟨b, 0, none⟩ = some (.slice p l.length cap) := by rw [B1.cell 0]; rfl
    have f0' := B1.frozen 0
    have HO := hide ho
    have HG := hide hg
    have HB1 := hide B1
    have HOR := hide hor
    clear ho hg B1 hor
    go_wp2
    go_end0
    have ho := unhide HO
    have hgb : g ≠ b := fun e => by
     subst e
     exact (unhide HB1).not_row (by decide) ho rfl
    have hO1 : Only (Fp b (.slice p l.length cap)) w w1 := (Only.refl _ w).grown (unhide HG) (fun k _ e => .inr e)
    refine ⟨rfl, .slice (some ⟨g, 0, none⟩) (l.length + m) cap', ⟨(unhide HB1).set 0 _, ?_, (unhide HW).2.2⟩, hO1.setCell _ _ (fun _ => .inl rfl), fun k hk => ?_⟩
    ·have := owns_only ho ((Only.refl (fun k => k = b) w1).setCell ⟨b, 0, none⟩ (.slice (some ⟨g, 0, none⟩) (l.length + m) cap') (fun _ => rfl)) (fun k hk hkb => hgb (by rw [← hkb]; simpa [Value.ownBlock] using hk))
     simpa [hl] using this
    ·obtain rfl : g = k := by simpa [Value.ownBlock] using hk
     rcases unhide HOR with h | h
     ·exact .inl h
     ·exact .inr (by omega)
 ·rw [if_neg he]
  clear h hn
  have hne : (e == 0) = false := by simp [he]
  go_enter Tryz.func155, Tryz.ntmps155
  go_wp2
  go_end0
  exact ⟨rfl, WPost.refl (unhide HW)⟩
set_option maxRecDepth 100000 in
set_option maxHeartbeats 1000000 in
theorem refuse_any (w : World) (base b : Nat) (v : Value) (l : List Int) (e : Int) (h : Wtr w base b v l e) (x : Int) :
  Calls Tryz.prog 154 #[.pointer (some ⟨b, 0, none⟩), .int .i64 x] w fun ev w' => ev = .returned (.tuple #[]) ∧ WPost base b v (if e = 0 then [] else l) (if e = 0 then x else e) w w' := by
 obtain ⟨p, cap, rfl, hcap⟩ := h.form
 have c0 : w.cell? ⟨b, 0, none⟩ = some (.slice p l.length cap) := by rw [h.1.cell 0]; rfl
 have c1 : w.cell? ⟨b, 1, none⟩ = some (.int .i64 e) := by rw [h.1.cell 1]; rfl
 have f0 := h.1.frozen 0
 have f1 := h.1.frozen 1
 have HW := hide h
 by_cases he : e = 0
 ·subst he
  rw [if_pos rfl, if_pos rfl]
  clear h
  go_enter Tryz.func154, Tryz.ntmps154
  go_wp2
  go_end0
  exact ⟨rfl, .slice none 0 0, ⟨((unhide HW).1.set 0 _).set 1 _, World.ownsRow_nil _ _ _ _, (unhide HW).2.2⟩, ((Only.refl _ w).setCell _ _ (fun _ => .inl rfl)).setCell _ _ (fun _ => .inl rfl), fun k hk => by cases hk⟩
 ·rw [if_neg he, if_neg he]
  clear h
  have hne : (e == 0) = false := by simp [he]
  go_enter Tryz.func154, Tryz.ntmps154
  go_wp2
  go_end0
  exact ⟨rfl, WPost.refl (unhide HW)⟩
end Go.Proofs.YtiellebdliifdaaGreatDoor
namespace Go.Proofs.YtiellebdliifdaaGreatDoor
open Go.RowKit
set_option maxHeartbeats 400000 in
theorem isWidth_any (n : Int) (w : World) : Calls Tryz.prog 153 #[.int .i64 n] w fun e w' => e = .returned (.bool (decide (1 ≤ n ∧ n ≤ 8))) ∧ w' = w := by
 by_cases h : 1 ≤ n
 ·by_cases h8 : n ≤ 8
  ·have hd : decide (1 ≤ n ∧ n ≤ 8) = true := decide_eq_true ⟨h, h8⟩
   rw [hd]
   go_enter Tryz.func153, Tryz.ntmps153
   go_wp2
   go_ret
   exact ⟨rfl, rfl⟩
  ·have hd : decide (1 ≤ n ∧ n ≤ 8) = false := decide_eq_false (fun q => h8 q.2)
   rw [hd]
   go_enter Tryz.func153, Tryz.ntmps153
   go_wp2
   go_ret
   exact ⟨rfl, rfl⟩
 ·have hd : decide (1 ≤ n ∧ n ≤ 8) = false := decide_eq_false (fun q => h q.1)
  rw [hd]
  go_enter Tryz.func153, Tryz.ntmps153
  go_wp2
  go_ret
  exact ⟨rfl, rfl⟩
set_option maxHeartbeats 400000 in
theorem fits_any (n : Int) (k : Nat) (hk : k ≤ 8) (w : World) : Calls Tryz.prog 147 #[.int .i64 n, .int .i64 (k : Int)] w fun e w' => e = .returned (.bool (decide (fitsP n k))) ∧ w' = w := by
 by_cases h : 0 ≤ n
 ·obtain ⟨q, hq⟩ : ∃ q, n / 2 ^ (8 * k) = q := ⟨_, rfl⟩
  have ht : (8 * (k : Int)).toNat = 8 * k := by omega
  have hd : decide (fitsP n k) = (q == 0) := by
   rw [show (q == 0) = decide (q = 0) from rfl]
   apply decide_eq_decide.2
   rw [← hq]
   exact ⟨fun x => x.2, fun x => ⟨h, x⟩⟩
  rw [hd]
  clear hd
  have h2 : 8 * (k : Int) ≤ 64 := by omega
  go_enter Tryz.func147, Tryz.ntmps147
  go_wp2
  go_ret
  exact ⟨by rw [← hq]; rfl, rfl⟩
 ·have hd : decide (fitsP n k) = false := decide_eq_false (fun q => h q.1)
  rw [hd]
  go_enter Tryz.func147, Tryz.ntmps147
  go_wp2
  go_ret
  exact ⟨rfl, rfl⟩
theorem lay1 {w wr : World} {base b : Nat} {v : Value} {l : List Int} {e : Int} (h : WPost base b v l e w wr) (hb : base ≤ w.heap.size) (x : Int) (T : TypeId) (hsz : l.length + 1 ≤ 140737488355328) :
  Calls Tryz.prog 155 #[.pointer (some ⟨b, 0, none⟩), .slice (some ⟨wr.heap.size, 0, none⟩) 1 1] (wr.alloc (Obj.cells #[.int .u8 x] T)) fun ev w' => ev = .returned (.tuple #[]) ∧ WPost base b v (wl l e 0 [x]) e w w' := by
 obtain ⟨v1, h1, h2, h3⟩ := h
 have hA := (Only.refl (fun _ => False) wr).alloc (Obj.cells #[.int .u8 x] T)
 have hsw := h2.size
 refine (lay_any (wr.alloc (Obj.cells #[.int .u8 x] T)) base b v1 l e (h1.only hA (fun _ _ q => q)) (by simp; omega) ⟨wr.heap.size, 0, none⟩ 1 1 [x] rfl (fun j hj => ?_) hsz).mono ?_
 ·obtain rfl : j = 0 := by omega
  simp [Addr.add]
 ·rintro ev w' ⟨rfl, hp⟩
  refine ⟨rfl, ?_⟩
  rw [wl_ok]
  exact WPost.trans (h2.alloc _) h3 hp
end Go.Proofs.YtiellebdliifdaaGreatDoor
namespace Go.Proofs.YtiellebdliifdaaGreatDoor
open Go.RowKit Go.Extern.Stop Go.Stop Go.Extern
theorem ETy.ne {w : World} {b : Nat} {r : ByteArray} {t e : Int} (h : ETy w) (hR : Rdr w b r t e) : b ≠ 1 := by
 intro hb
 subst hb
 have h1 := hR.cells.1
 have h2 : w.cell? ⟨1, 0, none⟩ = _ := h
 rw [h1] at h2
 cases h2
def rRest (r : ByteArray) (E : Int) (c : Nat) : ByteArray := if E = 0 then r.extract c r.size else ⟨#[]⟩
def rTak (t E : Int) (c : Nat) : Int := if E = 0 then t + (c : Int) else t
def RPost (b : Nat) (r : ByteArray) (t E : Int) (c : Nat) (v : Value) (w : World) (ev : Ending) (w' : World) : Prop :=
 ev = .returned v ∧ Rdr w' b (rRest r E c) (rTak t E c) E ∧ Only (fun k => k = b) w w'
theorem face_start {w : World} {b : Nat} {r : ByteArray} {t e : Int} (h : Rdr w b r t e) (hg : ETy w) :
  Rdr ((w.alloc (Obj.cells #[.pointer (some ⟨b, 0, none⟩)] 195)).alloc (Obj.cells #[.int .i64 t] 3)) b r t e ∧ ETy ((w.alloc (Obj.cells #[.pointer (some ⟨b, 0, none⟩)] 195)).alloc (Obj.cells #[.int .i64 t] 3)) ∧
  Only (fun k => k = b) w ((w.alloc (Obj.cells #[.pointer (some ⟨b, 0, none⟩)] 195)).alloc (Obj.cells #[.int .i64 t] 3)) := by
 have h1 := ((Only.refl (fun _ => False) w).alloc (Obj.cells #[.pointer (some ⟨b, 0, none⟩)] 195)).alloc (Obj.cells #[.int .i64 t] 3)
 exact ⟨Blk.only h h1 (fun q => q), hg.only h1 (fun q => q), h1.mono (fun _ _ q => q.elim)⟩
theorem face_cells {w w2 : World} {b : Nat} {t : Int} (hb : b < w.heap.size) (hO : Only (fun k => k = b) ((w.alloc (Obj.cells #[.pointer (some ⟨b, 0, none⟩)] 195)).alloc (Obj.cells #[.int .i64 t] 3)) w2) :
  w2.cell? ⟨w.heap.size, 0, none⟩ = some (.pointer (some ⟨b, 0, none⟩)) ∧ w2.cell? ⟨w.heap.size + 1, 0, none⟩ = some (.int .i64 t) := by
 have h1 : Blk ((w.alloc (Obj.cells #[.pointer (some ⟨b, 0, none⟩)] 195)).alloc (Obj.cells #[.int .i64 t] 3)) w.heap.size #[.pointer (some ⟨b, 0, none⟩)] 195 := (Blk.new w _ _).alloc _
 have h2 : Blk ((w.alloc (Obj.cells #[.pointer (some ⟨b, 0, none⟩)] 195)).alloc (Obj.cells #[.int .i64 t] 3)) (w.heap.size + 1) #[.int .i64 t] 3 := by
  have := Blk.new (w.alloc (Obj.cells #[.pointer (some ⟨b, 0, none⟩)] 195)) 3 #[.int .i64 t]
  simpa using this
 have k1 := h1.only hO (by show ¬ w.heap.size = b; omega)
 have k2 := h2.only hO (by show ¬ w.heap.size + 1 = b; omega)
 exact ⟨by rw [k1.cell 0]; rfl, by rw [k2.cell 0]; rfl⟩
set_option maxRecDepth 100000 in
set_option maxHeartbeats 2000000 in
theorem rNum_wrong (w : World) (b : Nat) (r : ByteArray) (t e : Int) (h : Rdr w b r t e) (he : e ≠ 0) (bytes : Int) :
  Calls Tryz.prog 145 #[.pointer (some ⟨b, 0, none⟩), .int .i64 bytes] w fun ev w' => ev = .returned (.int .i64 0) ∧ Rdr w' b r t e ∧ Only (fun k => k = b) w w' := by
 obtain ⟨c0, c1, c2, f0, f1, f2⟩ := h.cells
 have HB := hide (show Rdr (w.alloc (Obj.cells #[.pointer (some ⟨b, 0, none⟩)] 195)) b r t e ∧ Only (fun k => k = b) w (w.alloc (Obj.cells #[.pointer (some ⟨b, 0, none⟩)] 195)) from ⟨Blk.alloc h _, (Only.refl _ w).alloc _⟩)
 have hlt : b < w.heap.size := Blk.lt h
 have hne : (e != 0) = true := by simp [he]
 clear h
 go_enter_defers Tryz.func145, Tryz.ntmps145
 go_wp2
 refine ⟨_, results_tmp rfl _ _ _, ?_⟩
 exact ⟨rfl, unhide HB⟩
set_option maxRecDepth 100000 in
set_option maxHeartbeats 2000000 in
theorem rRaw_wrong (w : World) (b : Nat) (r : ByteArray) (t e : Int) (h : Rdr w b r t e) (he : e ≠ 0) (n : Int) :
  Calls Tryz.prog 146 #[.pointer (some ⟨b, 0, none⟩), .int .i64 n] w fun ev w' => ev = .returned (.string ⟨#[]⟩) ∧ Rdr w' b r t e ∧ Only (fun k => k = b) w w' := by
 obtain ⟨c0, c1, c2, f0, f1, f2⟩ := h.cells
 have HB := hide (show Rdr (w.alloc (Obj.cells #[.pointer (some ⟨b, 0, none⟩)] 195)) b r t e ∧ Only (fun k => k = b) w (w.alloc (Obj.cells #[.pointer (some ⟨b, 0, none⟩)] 195)) from ⟨Blk.alloc h _, (Only.refl _ w).alloc _⟩)
 have hlt : b < w.heap.size := Blk.lt h
 have hne : (e != 0) = true := by simp [he]
 clear h
 go_enter_defers Tryz.func146, Tryz.ntmps146
 go_wp2
 refine ⟨_, results_tmp rfl _ _ _, ?_⟩
 exact ⟨rfl, unhide HB⟩
def numE (bytes : Int) (r : ByteArray) : Int := if bytes < 1 ∨ 8 < bytes then 1 else if (r.size : Int) < bytes then 31 else if 9223372036854775807 < beN ((nums r).take bytes.toNat) then 30 else 0
def numV (bytes : Int) (r : ByteArray) : Int := if numE bytes r = 0 then beN ((nums r).take bytes.toNat) else 0
set_option maxRecDepth 100000 in
set_option maxHeartbeats 2000000 in
theorem rnum_any (w : World) (b : Nat) (r : ByteArray) (t : Int) (h : Rdr w b r t 0) (hg : ETy w) (ht : 0 ≤ t) (hr : t + (r.size : Int) ≤ 9223372036854775807) (bytes : Int) :
  Calls Tryz.prog 145 #[.pointer (some ⟨b, 0, none⟩), .int .i64 bytes] w fun ev w' => RPost b r t (numE bytes r) (bytes.toNat) (.int .i64 (numV bytes r)) w ev w' := by
 have hmf : ∀ (fn : Fn) (first cap : Array Value) (w : World), (Instr.makeFunc fn first cap).run Tryz.prog w = .ok (.func fn first cap) w := fun _ _ _ _ => rfl
 obtain ⟨c0, c1, c2, f0, f1, f2⟩ := h.cells
 obtain ⟨hR1, hG1, hO1⟩ := face_start h hg
 have hlt : b < w.heap.size := Blk.lt h
 have hne := hg.ne h
 have HG1 := hide hG1
 have HO1 := hide hO1
 have HR1 := hide hR1
 have HW := hide (fun W => isWidth_any bytes W)
 by_cases hw : 1 ≤ bytes ∧ bytes ≤ 8
 ·rw [decide_eq_true hw] at HW
  obtain ⟨k, rfl⟩ := Int.eq_ofNat_of_zero_le (show 0 ≤ bytes by omega)
  by_cases hs : (r.size : Int) < (k : Int)
  ·have HN := hide (number_short _ b r t hR1 (k : Int) hs)
   have hE : numE (k : Int) r = 31 := by rw [numE, if_neg (by omega), if_pos hs]
   have hV : numV (k : Int) r = 0 := by rw [numV, if_neg (by rw [hE]; decide)]
   rw [hE, hV]
   have HX := hide (show (31 : Int) ≠ 0 by decide)
   clear h hg hR1 hG1 hO1 hE hV
   go_enter_defers Tryz.func145, Tryz.ntmps145
   go_wp2_with fail
   refine (unhide HW _).mono ?_
   rintro ev w1 ⟨rfl, rfl⟩
   go_wp2_with fail
   refine (unhide HN).mono ?_
   rintro ev wP ⟨rfl, hTh⟩
   have HTR := hide hTh.1
   have HTO := hide hTh.2
   clear hTh
   go_wp2
   obtain ⟨r', t', hTR⟩ := unhide HTR
   have hcp := face_cells (t := t) hlt (unhide HTO)
   have HC := hide (Num1_hit ⟨w.heap.size, 0, none⟩ ⟨w.heap.size + 1, 0, none⟩ b r' t' t 0 31 [] _ ((unhide HG1).only (unhide HTO) (fun q => hne q.symm)) hTR hcp.1 hcp.2)
   clear hTR hcp
   refine leaves_cons (f := 180) (args := #[.pointer (some ⟨w.heap.size, 0, none⟩), .pointer (some ⟨w.heap.size + 1, 0, none⟩)]) (by simp) (by simp [go_sem]) ?_
   refine (unhide HC).mono ?_
   rintro e u' wF ⟨rfl, rfl, hRF, hOF⟩
   have hF : RPost b r t 31 ((k : Int).toNat) (.int .i64 0) w (.returned (.int .i64 0)) wF := ⟨rfl, by rw [rRest, if_neg (unhide HX), rTak, if_neg (unhide HX)]; exact hRF, (unhide HO1).trans ((unhide HTO).trans hOF (fun _ _ q => q)) (fun _ _ q => q)⟩
   simp [Leaves, Go.settle, results, Tryz.results145, go_sem]
   exact hF
  ·obtain ⟨Z, hZ⟩ : ∃ Z, Z = beN ((nums r).take k) := ⟨_, rfl⟩
   have HN := hide (number_any _ b r t hR1 k (by omega) (by omega) ht hr Z hZ)
   by_cases hZm : Z ≤ 9223372036854775807
   ·have hE : numE (k : Int) r = 0 := by rw [numE, if_neg (by omega), if_neg hs, Int.toNat_natCast, ← hZ, if_neg (by omega)]
    have hV : numV (k : Int) r = Z := by rw [numV, if_pos hE, Int.toNat_natCast, ← hZ]
    rw [hE, hV, Int.toNat_natCast]
    clear h hg hR1 hG1 hO1 hE hV hZ
    go_enter_defers Tryz.func145, Tryz.ntmps145
    go_wp2_with fail
    refine (unhide HW _).mono ?_
    rintro ev w1 ⟨rfl, rfl⟩
    go_wp2_with fail
    refine (unhide HN).mono ?_
    rintro ev wP hTh
    obtain ⟨rfl, hTR, hTO⟩ := hTh.1 hZm
    have HTR := hide hTR
    have HTO := hide hTO
    clear hTR hTO hTh
    go_wp2
    have hcp := face_cells (t := t) hlt (unhide HTO)
    have HC := hide (Num1_idle ⟨w.heap.size, 0, none⟩ ⟨w.heap.size + 1, 0, none⟩ b t _ hcp.1 hcp.2)
    clear hcp
    refine leaves_cons (f := 180) (args := #[.pointer (some ⟨w.heap.size, 0, none⟩), .pointer (some ⟨w.heap.size + 1, 0, none⟩)]) (by simp) (by simp [go_sem]) ?_
    refine (unhide HC).mono ?_
    rintro e u' wF ⟨rfl, rfl, rfl⟩
    have hF : RPost b r t 0 (k) (.int .i64 Z) w (.returned (.int .i64 Z)) (World.drew _) := ⟨rfl, by rw [rRest, if_pos rfl, rTak, if_pos rfl]; exact unhide HTR, (unhide HO1).trans ((unhide HTO).drew) (fun _ _ q => q)⟩
    refine ⟨_, results_tmp rfl _ _ _, ?_⟩
    exact hF
   ·have hE : numE (k : Int) r = 30 := by rw [numE, if_neg (by omega), if_neg hs, Int.toNat_natCast, ← hZ, if_pos (by omega)]
    have hV : numV (k : Int) r = 0 := by rw [numV, if_neg (by rw [hE]; decide)]
    rw [hE, hV, Int.toNat_natCast]
    have HX := hide (show (30 : Int) ≠ 0 by decide)
    clear h hg hR1 hG1 hO1 hE hV hZ
    go_enter_defers Tryz.func145, Tryz.ntmps145
    go_wp2_with fail
    refine (unhide HW _).mono ?_
    rintro ev w1 ⟨rfl, rfl⟩
    go_wp2_with fail
    refine (unhide HN).mono ?_
    rintro ev wP hTh
    obtain ⟨rfl, hTT⟩ := hTh.2 (by omega)
    have HTR := hide hTT.1
    have HTO := hide hTT.2
    clear hTT hTh
    go_wp2
    obtain ⟨r', t', hTR⟩ := unhide HTR
    have hcp := face_cells (t := t) hlt (unhide HTO)
    have HC := hide (Num1_hit ⟨w.heap.size, 0, none⟩ ⟨w.heap.size + 1, 0, none⟩ b r' t' t 0 30 [] _ ((unhide HG1).only (unhide HTO) (fun q => hne q.symm)) hTR hcp.1 hcp.2)
    clear hTR hcp
    refine leaves_cons (f := 180) (args := #[.pointer (some ⟨w.heap.size, 0, none⟩), .pointer (some ⟨w.heap.size + 1, 0, none⟩)]) (by simp) (by simp [go_sem]) ?_
    refine (unhide HC).mono ?_
    rintro e u' wF ⟨rfl, rfl, hRF, hOF⟩
    have hF : RPost b r t 30 (k) (.int .i64 0) w (.returned (.int .i64 0)) wF := ⟨rfl, by rw [rRest, if_neg (unhide HX), rTak, if_neg (unhide HX)]; exact hRF, (unhide HO1).trans ((unhide HTO).trans hOF (fun _ _ q => q)) (fun _ _ q => q)⟩
    simp [Leaves, Go.settle, results, Tryz.results145, go_sem]
    exact hF
 ·rw [decide_eq_false hw] at HW
  have hE : numE bytes r = 1 := by rw [numE, if_pos (by omega)]
  have hV : numV bytes r = 0 := by rw [numV, if_neg (by rw [hE]; decide)]
  rw [hE, hV]
  have HX := hide (show (1 : Int) ≠ 0 by decide)
  have HTR := hide (⟨r, t, hR1⟩ : ∃ r' t', Rdr _ b r' t' 0)
  have HTO := hide (Only.refl (fun k => k = b) ((w.alloc (Obj.cells #[.pointer (some ⟨b, 0, none⟩)] 195)).alloc (Obj.cells #[.int .i64 t] 3)))
  clear h hg hR1 hG1 hO1 hE hV
  go_enter_defers Tryz.func145, Tryz.ntmps145
  go_wp2_with (go_at_call 153; refine (unhide HW _).mono ?_; rintro ev w1 ⟨rfl, rfl⟩)
  obtain ⟨r', t', hTR⟩ := unhide HTR
  have hcp := face_cells (t := t) hlt (unhide HTO)
  have HC := hide (Num1_hit ⟨w.heap.size, 0, none⟩ ⟨w.heap.size + 1, 0, none⟩ b r' t' t 0 1 [] _ ((unhide HG1).only (unhide HTO) (fun q => hne q.symm)) hTR hcp.1 hcp.2)
  clear hTR hcp
  refine leaves_cons (f := 180) (args := #[.pointer (some ⟨w.heap.size, 0, none⟩), .pointer (some ⟨w.heap.size + 1, 0, none⟩)]) (by simp) (by simp [go_sem]) ?_
  refine (unhide HC).mono ?_
  rintro e u' wF ⟨rfl, rfl, hRF, hOF⟩
  have hF : RPost b r t 1 (bytes.toNat) (.int .i64 0) w (.returned (.int .i64 0)) wF := ⟨rfl, by rw [rRest, if_neg (unhide HX), rTak, if_neg (unhide HX)]; exact hRF, (unhide HO1).trans ((unhide HTO).trans hOF (fun _ _ q => q)) (fun _ _ q => q)⟩
  simp [Leaves, Go.settle, results, Tryz.results145, go_sem]
  exact hF
def rawE (n : Int) (r : ByteArray) : Int := if n < 0 then 1 else if (r.size : Int) < n then 31 else 0
def rawV (n : Int) (r : ByteArray) : ByteArray := if rawE n r = 0 then r.extract 0 n.toNat else ⟨#[]⟩
set_option maxRecDepth 100000 in
set_option maxHeartbeats 2000000 in
theorem rraw_any (w : World) (b : Nat) (r : ByteArray) (t : Int) (h : Rdr w b r t 0) (hg : ETy w) (ht : 0 ≤ t) (hr : t + (r.size : Int) ≤ 9223372036854775807) (n : Int) :
  Calls Tryz.prog 146 #[.pointer (some ⟨b, 0, none⟩), .int .i64 n] w fun ev w' => RPost b r t (rawE n r) (n.toNat) (.string (rawV n r)) w ev w' := by
 have hmf : ∀ (fn : Fn) (first cap : Array Value) (w : World), (Instr.makeFunc fn first cap).run Tryz.prog w = .ok (.func fn first cap) w := fun _ _ _ _ => rfl
 obtain ⟨c0, c1, c2, f0, f1, f2⟩ := h.cells
 obtain ⟨hR1, hG1, hO1⟩ := face_start h hg
 have hlt : b < w.heap.size := Blk.lt h
 have hne := hg.ne h
 have HG1 := hide hG1
 have HO1 := hide hO1
 have HR1 := hide hR1
 by_cases h0 : n < 0
 ·have hE : rawE n r = 1 := by rw [rawE, if_pos h0]
  have hV : rawV n r = ⟨#[]⟩ := by rw [rawV, if_neg (by rw [hE]; decide)]
  rw [hE, hV]
  have HX := hide (show (1 : Int) ≠ 0 by decide)
  have HTR := hide (⟨r, t, hR1⟩ : ∃ r' t', Rdr _ b r' t' 0)
  have HTO := hide (Only.refl (fun k => k = b) ((w.alloc (Obj.cells #[.pointer (some ⟨b, 0, none⟩)] 195)).alloc (Obj.cells #[.int .i64 t] 3)))
  clear h hg hR1 hG1 hO1 hE hV
  go_enter_defers Tryz.func146, Tryz.ntmps146
  go_wp2
  obtain ⟨r', t', hTR⟩ := unhide HTR
  have hcp := face_cells (t := t) hlt (unhide HTO)
  have HC := hide (Raw1_hit ⟨w.heap.size, 0, none⟩ ⟨w.heap.size + 1, 0, none⟩ b r' t' t 0 1 [] _ ((unhide HG1).only (unhide HTO) (fun q => hne q.symm)) hTR hcp.1 hcp.2)
  clear hTR hcp
  refine leaves_cons (f := 183) (args := #[.pointer (some ⟨w.heap.size, 0, none⟩), .pointer (some ⟨w.heap.size + 1, 0, none⟩)]) (by simp) (by simp [go_sem]) ?_
  refine (unhide HC).mono ?_
  rintro e u' wF ⟨rfl, rfl, hRF, hOF⟩
  have hF : RPost b r t 1 (n.toNat) (.string ⟨#[]⟩) w (.returned (.string ⟨#[]⟩)) wF := ⟨rfl, by rw [rRest, if_neg (unhide HX), rTak, if_neg (unhide HX)]; exact hRF, (unhide HO1).trans ((unhide HTO).trans hOF (fun _ _ q => q)) (fun _ _ q => q)⟩
  simp [Leaves, Go.settle, results, Tryz.results146, go_sem]
  exact hF
 ·by_cases hs : (r.size : Int) < n
  ·have hE : rawE n r = 31 := by rw [rawE, if_neg h0, if_pos hs]
   have hV : rawV n r = ⟨#[]⟩ := by rw [rawV, if_neg (by rw [hE]; decide)]
   rw [hE, hV]
   have HX := hide (show (31 : Int) ≠ 0 by decide)
   have HN := hide (take_short _ b r t hR1 n hs)
   clear h hg hR1 hG1 hO1 hE hV
   go_enter_defers Tryz.func146, Tryz.ntmps146
   go_wp2_with fail
   refine (unhide HN).mono ?_
   rintro ev wP ⟨rfl, hTh⟩
   have HTR := hide hTh.1
   have HTO := hide hTh.2
   clear hTh
   go_wp2
   obtain ⟨r', t', hTR⟩ := unhide HTR
   have hcp := face_cells (t := t) hlt (unhide HTO)
   have HC := hide (Raw1_hit ⟨w.heap.size, 0, none⟩ ⟨w.heap.size + 1, 0, none⟩ b r' t' t 0 31 [] _ ((unhide HG1).only (unhide HTO) (fun q => hne q.symm)) hTR hcp.1 hcp.2)
   clear hTR hcp
   refine leaves_cons (f := 183) (args := #[.pointer (some ⟨w.heap.size, 0, none⟩), .pointer (some ⟨w.heap.size + 1, 0, none⟩)]) (by simp) (by simp [go_sem]) ?_
   refine (unhide HC).mono ?_
   rintro e u' wF ⟨rfl, rfl, hRF, hOF⟩
   have hF : RPost b r t 31 (n.toNat) (.string ⟨#[]⟩) w (.returned (.string ⟨#[]⟩)) wF := ⟨rfl, by rw [rRest, if_neg (unhide HX), rTak, if_neg (unhide HX)]; exact hRF, (unhide HO1).trans ((unhide HTO).trans hOF (fun _ _ q => q)) (fun _ _ q => q)⟩
   simp [Leaves, Go.settle, results, Tryz.results146, go_sem]
   exact hF
  ·obtain ⟨k, rfl⟩ := Int.eq_ofNat_of_zero_le (show 0 ≤ n by omega)
   have hE : rawE (k : Int) r = 0 := by rw [rawE, if_neg h0, if_neg hs]
   have hV : rawV (k : Int) r = r.extract 0 k := by rw [rawV, if_pos hE, Int.toNat_natCast]
   rw [hE, hV, Int.toNat_natCast]
   have HN := hide (take_ok _ b r t 0 hR1 k (by omega) ht hr)
   clear h hg hR1 hG1 hO1 hE hV
   go_enter_defers Tryz.func146, Tryz.ntmps146
   go_wp2_with fail
   refine (unhide HN).mono ?_
   rintro ev wP ⟨rfl, hTR, hTO⟩
   have HTR := hide hTR
   have HTO := hide hTO
   clear hTR hTO
   go_wp2
   have hcp := face_cells (t := t) hlt (unhide HTO)
   have HC := hide (Raw1_idle ⟨w.heap.size, 0, none⟩ ⟨w.heap.size + 1, 0, none⟩ b t _ hcp.1 hcp.2)
   clear hcp
   refine leaves_cons (f := 183) (args := #[.pointer (some ⟨w.heap.size, 0, none⟩), .pointer (some ⟨w.heap.size + 1, 0, none⟩)]) (by simp) (by simp [go_sem]) ?_
   refine (unhide HC).mono ?_
   rintro e u' wF ⟨rfl, rfl, rfl⟩
   have hF : RPost b r t 0 (k) (.string (r.extract 0 k)) w (.returned (.string (r.extract 0 k))) (World.drew _) := ⟨rfl, by rw [rRest, if_pos rfl, rTak, if_pos rfl]; exact unhide HTR, (unhide HO1).trans ((unhide HTO).drew) (fun _ _ q => q)⟩
   refine ⟨_, results_tmp rfl _ _ _, ?_⟩
   exact hF
theorem extract_mid (s : ByteArray) (a b : Nat) : (s.extract a s.size).extract 0 b = s.extract a (a + b) := by
 apply nums_inj
 rw [nums_extract, nums_tail, nums_extract, List.drop_zero, List.drop_take]
 congr 1
 omega
end Go.Proofs.YtiellebdliifdaaGreatDoor
