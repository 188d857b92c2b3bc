import Derived.Test.YtiellebdliifdaaGreatDoorMt06
import Derived.Test.YtiellebdliifdaaGreatDoorMt04
import Derived.Test.YtiellebdliifdaaGreatDoorMt05
namespace Go.Proofs.YtiellebdliifdaaGreatDoor
open Go.RowKit
theorem zero256_size : zero256.size = 256 := by
 show (List.replicate 256 (0 : UInt8)).toArray.size = 256
 rw [List.size_toArray, List.length_replicate]
theorem new128 (w : World) : Calls Tryz.prog 19 #[.int .i64 128] w fun e w' => ∃ b, e = .returned (.tuple #[.pointer (some ⟨b, 0, none⟩), .int .i64 0]) ∧ DI w w' b (freshS (List.replicate 128 zero256)) := by
 refine (new_any 128 w).mono ?_
 intro e w' h
 rw [NewPost, if_pos (by decide)] at h
 obtain ⟨b, v, h1, h2, h3⟩ := h
 exact ⟨b, h1, v, h2, h3, Sane.fresh _ (by rw [List.length_replicate]; decide) (by rw [List.length_replicate]; decide)⟩
theorem getD_set_same (l : List ByteArray) (j : Nat) (t : ByteArray) (h : j < l.length) : (l.set j t).getD j ByteArray.empty = t := by simp [h]
theorem getD_set_other (l : List ByteArray) (j k : Nat) (t : ByteArray) (h : j ≠ k) : (l.set j t).getD k ByteArray.empty = l.getD k ByteArray.empty := by simp [h]
end Go.Proofs.YtiellebdliifdaaGreatDoor
namespace Go.Proofs.YtiellebdliifdaaGreatDoor
open Go.RowKit
def byN (b : ByteArray) (j : Nat) : Nat := ((nums b).getD j 0).toNat
theorem byN_lt (b : ByteArray) (j : Nat) : byN b j < 256 := by
 have := nums_bytes b j
 unfold byN
 omega
theorem byN_eq (b : ByteArray) (j : Nat) : (nums b).getD j 0 = (byN b j : Int) := by
 have := nums_bytes b j
 unfold byN
 omega
def bitB (b : ByteArray) (i : Nat) : Bool := (byN b (i % 256 / 8)).testBit (i % 8)
def turnL (b : ByteArray) (i : Nat) : List Int := (nums b).set (i % 256 / 8) ((byN b (i % 256 / 8) ^^^ 2 ^ (i % 8) : Nat) : Int)
def turnB (b : ByteArray) (i : Nat) : ByteArray := strOfNums (turnL b i)
theorem two_lt (k : Nat) (hk : k < 8) : 2 ^ k < 256 := by
 have h : 2 ^ k < 2 ^ 8 := Nat.pow_lt_pow_right (by decide) hk
 simpa using h
theorem xor_lt (a k : Nat) (ha : a < 256) (hk : k < 8) : a ^^^ 2 ^ k < 256 := Nat.xor_lt_two_pow (n := 8) ha (two_lt k hk)
theorem turnL_bytes (b : ByteArray) (i : Nat) : Bytes (turnL b i) := fun j => by
 have h1 := nums_bytes b j
 have h2 := xor_lt (byN b (i % 256 / 8)) (i % 8) (byN_lt _ _) (Nat.mod_lt _ (by decide))
 unfold turnL
 generalize byN b (i % 256 / 8) ^^^ 2 ^ (i % 8) = v at *
 rw [List.getD_eq_getElem?_getD] at h1 ⊢
 rw [List.getElem?_set]
 split
 ·split
  ·simp; omega
  ·simp
 ·exact h1
theorem turnL_nums (b : ByteArray) (i : Nat) : nums (turnB b i) = turnL b i := nums_strOfNums _ (turnL_bytes b i)
theorem turnB_size (b : ByteArray) (i : Nat) : (turnB b i).size = b.size := by rw [← nums_len, turnL_nums, turnL, List.length_set, nums_len]
theorem bitB_mod (b : ByteArray) (i : Nat) : bitB b (i % 256) = bitB b i := by
 unfold bitB
 rw [Nat.mod_mod, show i % 256 % 8 = i % 8 by omega]
theorem bitB_page (b : ByteArray) (k j : Nat) : bitB b (256 * k + j) = bitB b j := by
 rw [← bitB_mod, ← bitB_mod b j, show (256 * k + j) % 256 = j % 256 by omega]
theorem byN_turn (b : ByteArray) (hb : b.size = 32) (i m : Nat) : byN (turnB b i) m = if m = i % 256 / 8 then byN b m ^^^ 2 ^ (i % 8) else byN b m := by
 unfold byN
 rw [turnL_nums]
 unfold turnL
 rw [List.getD_eq_getElem?_getD, List.getElem?_set]
 have hl := nums_len b
 by_cases h : m = i % 256 / 8
 ·subst h
  rw [if_pos rfl, if_pos rfl, if_pos (by omega)]
  simp [byN]
 ·rw [if_neg (Ne.symm h), if_neg h, List.getD_eq_getElem?_getD]
theorem turnB_bit (b : ByteArray) (hb : b.size = 32) (i j : Nat) : bitB (turnB b i) j = if j % 256 = i % 256 then !bitB b j else bitB b j := by
 unfold bitB
 rw [byN_turn b hb]
 by_cases h1 : j % 256 / 8 = i % 256 / 8
 ·rw [if_pos h1, Nat.testBit_xor, Nat.testBit_two_pow]
  by_cases h2 : j % 256 = i % 256
  ·rw [if_pos h2, decide_eq_true (show i % 8 = j % 8 by omega)]
   simp
  ·rw [if_neg h2, decide_eq_false (show ¬ i % 8 = j % 8 by omega)]
   simp
 ·rw [if_neg h1, if_neg (fun e => h1 (by rw [e]))]
def pgs (n : Nat) : Nat := (n + 255) / 256
def pgT (k : Nat) (b : ByteArray) : ByteArray := makeB 3 (k : Int) b
theorem pg_err (k : Nat) (hk : k < 1024) (b : ByteArray) (hb : b.size = 32) : errM 3 (k : Int) b.size = 0 := by
 have h1 : fitsP 3 1 := by decide
 have h2 : fitsP (k : Int) 4 := ⟨by omega, by
  rw [show (2 : Int) ^ (8 * 4) = 4294967296 by decide]
  omega⟩
 rw [errM, if_neg (by simp [h1, h2]), if_neg (by omega)]
theorem pgT_parse (k : Nat) (hk : k < 1024) (b : ByteArray) (hb : b.size = 32) : prOk (pgT k b) ∧ pkd (pgT k b) = 3 ∧ pnm (pgT k b) = (k : Int) ∧ pbd (pgT k b) = b := make_parse 3 (k : Int) b (pg_err k hk b hb)
theorem pgT_size (k : Nat) (hk : k < 1024) (b : ByteArray) (hb : b.size = 32) : (pgT k b).size = 256 := (prOk_size _ (pgT_parse k hk b hb).1).1
def Pg (n : Nat) (T : Nat → Bool) (k : Nat) (b s : ByteArray) : Prop := b.size = 32 ∧ s = pgT k b ∧ ∀ j, j < 256 → bitB b j = (decide (256 * k + j < n) && T (256 * k + j))
def MS (M : List ByteArray) (a n : Nat) (T : Nat → Bool) : Prop := ∀ k, k < pgs n → ∃ b, Pg n T k b (M.getD (a + k) ByteArray.empty)
theorem Pg.bit {n : Nat} {T : Nat → Bool} {k : Nat} {b s : ByteArray} (h : Pg n T k b s) (i : Nat) (hi : i < n) (hk : i / 256 = k) : bitB b i = T i := by
 have h1 := h.2.2 (i % 256) (Nat.mod_lt _ (by decide))
 rw [bitB_mod, show 256 * k + i % 256 = i by omega] at h1
 rw [h1, decide_eq_true hi]
 rfl
theorem pgs_lt {n i : Nat} (h : i < n) : i / 256 < pgs n := by unfold pgs; omega
theorem pgs_le {n : Nat} (h : n ≤ 1024) : pgs n ≤ 4 := by unfold pgs; omega
def flp (T : Nat → Bool) (p : Nat) : Nat → Bool := fun i => if i = p then !T i else T i
theorem MS.turn {M : List ByteArray} {a n : Nat} {T : Nat → Bool} (h : MS M a n T) (p : Nat) (hp : p < n) (b : ByteArray) (hb : Pg n T (p / 256) b (M.getD (a + p / 256) ByteArray.empty)) (hM : a + pgs n ≤ M.length) : MS (M.set (a + p / 256) (pgT (p / 256) (turnB b p))) a n (flp T p) := fun k hk => by
 have hpk := pgs_lt hp
 by_cases e : k = p / 256
 ·subst e
  rw [getD_set_same _ _ _ (by omega)]
  refine ⟨turnB b p, by rw [turnB_size]; exact hb.1, rfl, fun j hj => ?_⟩
  rw [turnB_bit b hb.1, hb.2.2 j hj]
  unfold flp
  by_cases e2 : 256 * (p / 256) + j = p
  ·rw [if_pos (by omega), if_pos e2, e2, decide_eq_true hp]
   simp
  ·rw [if_neg (by omega), if_neg e2]
 ·obtain ⟨b', h1, h2, h3⟩ := h k hk
  rw [getD_set_other _ _ _ _ (by omega)]
  refine ⟨b', h1, h2, fun j hj => ?_⟩
  rw [h3 j hj]
  unfold flp
  rw [if_neg (show ¬ 256 * k + j = p by omega)]
theorem MS.over {M N : List ByteArray} {a n : Nat} {T : Nat → Bool} (h : MS M a n T) (e : ∀ k, k < pgs n → N.getD (a + k) ByteArray.empty = M.getD (a + k) ByteArray.empty) : MS N a n T := fun k hk => by
 rw [e k hk]
 exact h k hk
theorem MS.one {M : List ByteArray} {a n : Nat} {T U : Nat → Bool} (h : MS M a n T) (g : MS M a n U) (hn : n ≤ 1024) (i : Nat) (hi : i < n) : T i = U i := by
 obtain ⟨b, hb⟩ := h (i / 256) (pgs_lt hi)
 obtain ⟨c, hc⟩ := g (i / 256) (pgs_lt hi)
 have hk : i / 256 < 1024 := by omega
 have e1 := (pgT_parse _ hk b hb.1).2.2.2
 have e2 := (pgT_parse _ hk c hc.1).2.2.2
 rw [← hb.2.1, hc.2.1, e2] at e1
 rw [← hb.bit i hi rfl, ← hc.bit i hi rfl, e1]
def lstN (T : Nat → Bool) (n : Nat) : List Nat := (List.range n).filter T
def lst (T : Nat → Bool) (n : Nat) : List Int := (lstN T n).map fun (i : Nat) => (i : Int)
theorem lst_succ (T : Nat → Bool) (n : Nat) : lst T (n + 1) = if T n then lst T n ++ [(n : Int)] else lst T n := by
 unfold lst lstN
 rw [List.range_succ, List.filter_append]
 cases h : T n <;> simp [h]
theorem lst_congr (T U : Nat → Bool) (n : Nat) (h : ∀ i, i < n → T i = U i) : lst T n = lst U n := by
 unfold lst lstN
 rw [List.filter_congr (fun x hx => h x (List.mem_range.1 hx))]
def Lea (T : Nat → Bool) (n p : Nat) : Prop := p < n ∧ T p = false ∧ ∀ i, i < p → T i = true
theorem lea_or (T : Nat → Bool) : ∀ n, (∃ p, Lea T n p) ∨ ∀ i, i < n → T i = true
 | 0 => .inr (fun i hi => absurd hi (by omega))
 | n + 1 => by
  rcases lea_or T n with ⟨p, h1, h2, h3⟩ | h
  ·exact .inl ⟨p, by omega, h2, h3⟩
  ·cases e : T n with
   | false => exact .inl ⟨n, by omega, e, h⟩
   | true => exact .inr (fun i hi => by
     by_cases q : i = n
     ·rw [q]; exact e
     ·exact h i (by omega))
theorem flip_same (T : Nat → Bool) (p : Nat) : flp T p p = !T p := by unfold flp; rw [if_pos rfl]
theorem flip_other (T : Nat → Bool) {p i : Nat} (h : i ≠ p) : flp T p i = T i := by unfold flp; rw [if_neg h]
end Go.Proofs.YtiellebdliifdaaGreatDoor
namespace Go.Proofs.YtiellebdliifdaaGreatDoor
open Go.RowKit
abbrev Ent := Option (ByteArray × ByteArray)
def vtD (e : Ent) : ByteArray := match e with | some p => p.1 | none => ⟨#[]⟩
def vtW (e : Ent) : ByteArray := match e with | some p => p.2 | none => ⟨#[]⟩
def EOk (e : Ent) : Prop := ∀ d t, e = some (d, t) → d.size = 32 ∧ t.size = 48
theorem EOk.none : EOk none := fun _ _ h => by cases h
theorem EOk.mk {d t : ByteArray} (h1 : d.size = 32) (h2 : t.size = 48) : EOk (some (d, t)) := fun a c h => by cases h; exact ⟨h1, h2⟩
def ups {α : Type} (f : Nat → α) (p : Nat) (v : α) : Nat → α := fun i => if i = p then v else f i
theorem ups_same {α : Type} (f : Nat → α) (p : Nat) (v : α) : ups f p v p = v := by unfold ups; rw [if_pos rfl]
theorem ups_other {α : Type} (f : Nat → α) {p i : Nat} (v : α) (h : i ≠ p) : ups f p v i = f i := by unfold ups; rw [if_neg h]
def mk1 (e : Ent) : Nat := if e.isSome then 1 else 0
theorem mk1_le (e : Ent) : mk1 e ≤ 1 := by unfold mk1; split <;> omega
def mks (f : Nat → Ent) : Nat → Nat
 | 0 => 0
 | k + 1 => mks f k + mk1 (f k) * 2 ^ k
theorem mks_lt (f : Nat → Ent) : ∀ k, mks f k < 2 ^ k
 | 0 => by simp [mks]
 | k + 1 => by
  have := mks_lt f k
  have h1 := mk1_le (f k)
  rw [mks, Nat.pow_succ]
  rcases Nat.lt_or_ge (mk1 (f k)) 1 with q | q
  ·rw [show mk1 (f k) = 0 by omega]; omega
  ·rw [show mk1 (f k) = 1 by omega]; omega
theorem mks3 (f : Nat → Ent) : mks f 3 = mk1 (f 0) + mk1 (f 1) * 2 + mk1 (f 2) * 4 := by simp [mks]
def a32 (e : Ent) : List Int := match e with | some p => nums p.1 | none => List.replicate 32 0
def a48 (e : Ent) : List Int := match e with | some p => nums p.2 | none => List.replicate 48 0
def e80 (e : Ent) : List Int := a32 e ++ a48 e
theorem a32_len {e : Ent} (h : EOk e) : (a32 e).length = 32 := by
 cases e with
 | none => simp [a32]
 | some p => rw [a32, nums_len]; exact (h p.1 p.2 rfl).1
theorem a48_len {e : Ent} (h : EOk e) : (a48 e).length = 48 := by
 cases e with
 | none => simp [a48]
 | some p => rw [a48, nums_len]; exact (h p.1 p.2 rfl).2
theorem rep_bytes (n : Nat) : Bytes (List.replicate n (0 : Int)) := fun j => by
 rw [List.getD_eq_getElem?_getD, List.getElem?_replicate]
 split <;> simp
theorem a32_bytes (e : Ent) : Bytes (a32 e) := by
 cases e with
 | none => exact rep_bytes 32
 | some p => exact nums_bytes p.1
theorem a48_bytes (e : Ent) : Bytes (a48 e) := by
 cases e with
 | none => exact rep_bytes 48
 | some p => exact nums_bytes p.2
theorem bytes_app {a b : List Int} (ha : Bytes a) (hb : Bytes b) : Bytes (a ++ b) := by
 intro j
 rw [List.getD_eq_getElem?_getD, List.getElem?_append]
 split
 ·have := ha j; rwa [List.getD_eq_getElem?_getD] at this
 ·have := hb (j - a.length); rwa [List.getD_eq_getElem?_getD] at this
theorem bytes_nil : Bytes [] := fun j => by simp
theorem e80_len {e : Ent} (h : EOk e) : (e80 e).length = 80 := by rw [e80, List.length_append, a32_len h, a48_len h]
theorem e80_bytes (e : Ent) : Bytes (e80 e) := bytes_app (a32_bytes e) (a48_bytes e)
def e3 (f : Nat → Ent) : Nat → List Int
 | 0 => []
 | k + 1 => e3 f k ++ e80 (f k)
theorem e3_len (f : Nat → Ent) (h : ∀ j, j < 3 → EOk (f j)) : ∀ k, k ≤ 3 → (e3 f k).length = 80 * k
 | 0, _ => by simp [e3]
 | k + 1, hk => by rw [e3, List.length_append, e3_len f h k (by omega), e80_len (h k (by omega))]; omega
def t3 (f : Nat → Ent) (k : Nat) : List Int := if k = 0 then e80 (f 0) ++ (e80 (f 1) ++ e80 (f 2)) else if k = 1 then e80 (f 1) ++ e80 (f 2) else if k = 2 then e80 (f 2) else []
theorem t3_bytes (f : Nat → Ent) (k : Nat) : Bytes (t3 f k) := by
 unfold t3
 split
 ·exact bytes_app (e80_bytes _) (bytes_app (e80_bytes _) (e80_bytes _))
 ·split
  ·exact bytes_app (e80_bytes _) (e80_bytes _)
  ·split
   ·exact e80_bytes _
   ·exact bytes_nil
theorem t3_step (f : Nat → Ent) (k : Nat) (hk : k < 3) : t3 f k = a32 (f k) ++ (a48 (f k) ++ t3 f (k + 1)) := by
 have : k = 0 ∨ k = 1 ∨ k = 2 := by omega
 rcases this with rfl | rfl | rfl <;> simp [t3, e80]
theorem t3_len (f : Nat → Ent) (h : ∀ j, j < 3 → EOk (f j)) (k : Nat) (hk : k ≤ 3) : (t3 f k).length = 80 * (3 - k) := by
 have h0 := e80_len (h 0 (by omega))
 have h1 := e80_len (h 1 (by omega))
 have h2 := e80_len (h 2 (by omega))
 have : k = 0 ∨ k = 1 ∨ k = 2 ∨ k = 3 := by omega
 rcases this with rfl | rfl | rfl | rfl <;> simp [t3, h0, h1, h2]
def lfL (f : Nat → Ent) : List Int := numB (mks f 3 : Int) 1 ++ e3 f 3
theorem e3_t3 (f : Nat → Ent) : e3 f 3 = t3 f 0 := by simp [e3, t3]
def lfB (f : Nat → Ent) : ByteArray := strOfNums (lfL f)
theorem lfB_size (f : Nat → Ent) (h : ∀ j, j < 3 → EOk (f j)) : (lfB f).size = 241 := by
 rw [lfB, strOfNums_size, lfL, List.length_append, numB_len, e3_len f h 3 (by omega)]
def lvL (lf : Nat → Nat) : List Int := (List.range 20).map fun l => (lf l : Int)
theorem lvL_len (lf : Nat → Nat) : (lvL lf).length = 20 := by simp [lvL]
theorem lvL_at (lf : Nat → Nat) (l : Nat) (h : l < 20) : (lvL lf).getD l 0 = (lf l : Int) := by simp [lvL, h]
theorem lvL_get (lf : Nat → Nat) (l : Nat) (h : l < 20) : (lvL lf)[l]? = some (lf l : Int) := by simp [lvL, h]
theorem outN_bytes (k : Nat) (L : List Int) : Bytes (outN k L) := by
 induction L with
 | nil => exact bytes_nil
 | cons x L ih => exact bytes_app (numB_bytes x k) ih
def rtB (lf : Nat → Nat) : ByteArray := strOfNums (outN 2 (lvL lf))
theorem rtB_size (lf : Nat → Nat) : (rtB lf).size = 40 := by rw [rtB, strOfNums_size, outN_len, lvL_len]
def rtT (lf : Nat → Nat) (l : Nat) : List Int := outN 2 ((lvL lf).drop l)
theorem rtT_bytes (lf : Nat → Nat) (l : Nat) : Bytes (rtT lf l) := outN_bytes _ _
theorem rtT_step (lf : Nat → Nat) (l : Nat) (h : l < 20) : rtT lf l = numB (lf l : Int) 2 ++ rtT lf (l + 1) := by
 unfold rtT
 rw [List.drop_eq_getElem_cons (by rw [lvL_len]; exact h)]
 have e : (lvL lf)[l]'(by rw [lvL_len]; exact h) = (lf l : Int) := by
  have := lvL_get lf l h
  rw [List.getElem?_eq_getElem (by rw [lvL_len]; exact h)] at this
  exact Option.some.inj this
 rw [e]
 rfl
theorem rtT_len (lf : Nat → Nat) (l : Nat) (_h : l ≤ 20) : (rtT lf l).length = 2 * (20 - l) := by rw [rtT, outN_len, List.length_drop, lvL_len]
def rtP (num : Nat) (lf : Nat → Nat) : ByteArray := makeB 6 (num : Int) (rtB lf)
def lfP (num l : Nat) (f : Nat → Ent) : ByteArray := makeB 7 ((32 * num + l : Nat) : Int) (lfB f)
theorem fits4n (c : Nat) (h : c < 4294967296) : fitsP (c : Int) 4 := by
 refine ⟨by omega, Int.ediv_eq_zero_of_lt (by omega) ?_⟩
 have e : (2 : Int) ^ (8 * 4) = 4294967296 := by decide
 rw [e]
 omega
theorem fits2n (c : Nat) (h : c < 65536) : fitsP (c : Int) 2 := by
 refine ⟨by omega, Int.ediv_eq_zero_of_lt (by omega) ?_⟩
 have e : (2 : Int) ^ (8 * 2) = 65536 := by decide
 rw [e]
 omega
theorem fits1n (c : Nat) (h : c < 256) : fitsP (c : Int) 1 := by
 refine ⟨by omega, Int.ediv_eq_zero_of_lt (by omega) ?_⟩
 have e : (2 : Int) ^ (8 * 1) = 256 := by decide
 rw [e]
 omega
theorem rtP_err (num : Nat) (lf : Nat → Nat) (h : num ≤ 1000000) : errM 6 (num : Int) (rtB lf).size = 0 := by
 have h1 : fitsP 6 1 := by decide
 have h2 := fits4n num (by omega)
 rw [errM, if_neg (by simp [h1, h2]), if_neg (by rw [rtB_size]; omega)]
theorem lfP_err (num l : Nat) (f : Nat → Ent) (h : num ≤ 1000000) (hl : l < 20) (hf : ∀ j, j < 3 → EOk (f j)) : errM 7 ((32 * num + l : Nat) : Int) (lfB f).size = 0 := by
 have h1 : fitsP 7 1 := by decide
 have h2 := fits4n (32 * num + l) (by omega)
 rw [errM, if_neg (fun q => q.elim (fun a => a h1) (fun a => a h2)), if_neg (by rw [lfB_size f hf]; omega)]
theorem rtP_parse (num : Nat) (lf : Nat → Nat) (h : num ≤ 1000000) : prOk (rtP num lf) ∧ pkd (rtP num lf) = 6 ∧ pnm (rtP num lf) = (num : Int) ∧ pbd (rtP num lf) = rtB lf := make_parse 6 (num : Int) (rtB lf) (rtP_err num lf h)
theorem lfP_parse (num l : Nat) (f : Nat → Ent) (h : num ≤ 1000000) (hl : l < 20) (hf : ∀ j, j < 3 → EOk (f j)) : prOk (lfP num l f) ∧ pkd (lfP num l f) = 7 ∧ pnm (lfP num l f) = ((32 * num + l : Nat) : Int) ∧ pbd (lfP num l f) = lfB f := make_parse 7 _ (lfB f) (lfP_err num l f h hl hf)
structure Vol where
 r : Nat
 num : Nat
 lf : Nat → Nat
 e : Nat → Ent
def Vol.f (v : Vol) (l : Nat) : Nat → Ent := fun j => v.e (3 * l + j)
structure VOk (M : List ByteArray) (n : Nat) (O : Nat → Option (Nat × Nat)) (k : Nat) (v : Vol) : Prop where
 num : v.num ≤ 1000000
 rn : v.r < n
 ro : O v.r = some (k, 0)
 rp : M.getD (40 + v.r) ByteArray.empty = rtP v.num v.lf
 ln : ∀ l, l < 20 → v.lf l ≤ n
 lo : ∀ l, l < 20 → v.lf l ≠ 0 → O (v.lf l - 1) = some (k, l + 1)
 lp : ∀ l, l < 20 → v.lf l ≠ 0 → M.getD (40 + (v.lf l - 1)) ByteArray.empty = lfP v.num l (v.f l)
 em : ∀ l, l < 20 → (v.lf l = 0 ↔ ∀ j, j < 3 → v.e (3 * l + j) = none)
 eo : ∀ i, i < 60 → EOk (v.e i)
theorem VOk.fo {M : List ByteArray} {n : Nat} {O : Nat → Option (Nat × Nat)} {k : Nat} {v : Vol} (h : VOk M n O k v) (l : Nat) (hl : l < 20) : ∀ j, j < 3 → EOk (v.f l j) := fun j hj => h.eo (3 * l + j) (by omega)
theorem VOk.over {M N : List ByteArray} {n : Nat} {O O' : Nat → Option (Nat × Nat)} {k : Nat} {v : Vol} (h : VOk M n O k v) (e : ∀ i a, i < n → O i = some (k, a) → N.getD (40 + i) ByteArray.empty = M.getD (40 + i) ByteArray.empty ∧ O' i = O i) : VOk N n O' k v where
 num := h.num
 rn := h.rn
 ro := by rw [(e v.r 0 h.rn h.ro).2]; exact h.ro
 rp := by rw [(e v.r 0 h.rn h.ro).1]; exact h.rp
 ln := h.ln
 lo := fun l hl hn => by
  have := h.ln l hl
  rw [(e (v.lf l - 1) (l + 1) (by omega) (h.lo l hl hn)).2]
  exact h.lo l hl hn
 lp := fun l hl hn => by
  have := h.ln l hl
  rw [(e (v.lf l - 1) (l + 1) (by omega) (h.lo l hl hn)).1]
  exact h.lp l hl hn
 em := h.em
 eo := h.eo
structure VSo (M : List ByteArray) (n m : Nat) (T : Nat → Bool) (V : Nat → Vol) (O : Nat → Option (Nat × Nat)) : Prop where
 ok : ∀ k, k < m → VOk M n O k (V k)
 tk : ∀ i, i < n → T i = (O i).isSome
 or : ∀ i k, i < n → O i = some (k, 0) → k < m ∧ (V k).r = i
 ol : ∀ i k l, i < n → O i = some (k, l + 1) → k < m ∧ l < 20 ∧ (V k).lf l = i + 1
def VS (M : List ByteArray) (n m : Nat) (T : Nat → Bool) (V : Nat → Vol) : Prop := ∃ O, VSo M n m T V O
theorem VS.over {M N : List ByteArray} {n m : Nat} {T : Nat → Bool} {V : Nat → Vol} (h : VS M n m T V) (e : ∀ i, i < n → N.getD (40 + i) ByteArray.empty = M.getD (40 + i) ByteArray.empty) : VS N n m T V := by
 obtain ⟨O, h⟩ := h
 exact ⟨O, fun k hk => (h.ok k hk).over (fun i a hi _ => ⟨e i hi, rfl⟩), h.tk, h.or, h.ol⟩
theorem VS.root {M : List ByteArray} {n m : Nat} {T : Nat → Bool} {V : Nat → Vol} (h : VS M n m T V) (k : Nat) (hk : k < m) : (V k).num ≤ 1000000 ∧ (V k).r < n ∧ T (V k).r = true ∧ M.getD (40 + (V k).r) ByteArray.empty = rtP (V k).num (V k).lf ∧ (∀ l, l < 20 → (V k).lf l ≤ n) := by
 obtain ⟨O, h⟩ := h
 have q := h.ok k hk
 exact ⟨q.num, q.rn, by rw [h.tk _ q.rn, q.ro]; rfl, q.rp, q.ln⟩
theorem VS.leaf {M : List ByteArray} {n m : Nat} {T : Nat → Bool} {V : Nat → Vol} (h : VS M n m T V) (k : Nat) (hk : k < m) (l : Nat) (hl : l < 20) (hn : (V k).lf l ≠ 0) : (V k).lf l - 1 < n ∧ T ((V k).lf l - 1) = true ∧ (V k).lf l - 1 ≠ (V k).r ∧ M.getD (40 + ((V k).lf l - 1)) ByteArray.empty = lfP (V k).num l ((V k).f l) := by
 obtain ⟨O, h⟩ := h
 have q := h.ok k hk
 have hb := q.ln l hl
 refine ⟨by omega, by rw [h.tk _ (by omega), q.lo l hl hn]; rfl, fun e => ?_, q.lp l hl hn⟩
 have h1 := q.lo l hl hn
 rw [e, q.ro] at h1
 cases h1
theorem VS.em {M : List ByteArray} {n m : Nat} {T : Nat → Bool} {V : Nat → Vol} (h : VS M n m T V) (k : Nat) (hk : k < m) (l : Nat) (hl : l < 20) : (V k).lf l = 0 ↔ ∀ j, j < 3 → (V k).e (3 * l + j) = none := by
 obtain ⟨O, h⟩ := h
 exact (h.ok k hk).em l hl
theorem VS.eo {M : List ByteArray} {n m : Nat} {T : Nat → Bool} {V : Nat → Vol} (h : VS M n m T V) (k : Nat) (hk : k < m) (i : Nat) (hi : i < 60) : EOk ((V k).e i) := by
 obtain ⟨O, h⟩ := h
 exact (h.ok k hk).eo i hi
theorem VS.fo {M : List ByteArray} {n m : Nat} {T : Nat → Bool} {V : Nat → Vol} (h : VS M n m T V) (k : Nat) (hk : k < m) (l : Nat) (hl : l < 20) : ∀ j, j < 3 → EOk ((V k).f l j) := fun j hj => h.eo k hk (3 * l + j) (by omega)
theorem VS.taken {M : List ByteArray} {n m : Nat} {T : Nat → Bool} {V : Nat → Vol} (h : VS M n m T V) (i : Nat) (hi : i < n) (hT : T i = true) : (∃ k, k < m ∧ (V k).r = i) ∨ (∃ k l, k < m ∧ l < 20 ∧ (V k).lf l ≠ 0 ∧ (V k).lf l - 1 = i) := by
 obtain ⟨O, h⟩ := h
 rw [h.tk i hi] at hT
 obtain ⟨⟨k, a⟩, ho⟩ := Option.isSome_iff_exists.1 hT
 cases a with
 | zero => exact .inl ⟨k, (h.or i k hi ho).1, (h.or i k hi ho).2⟩
 | succ l =>
  obtain ⟨q1, q2, q3⟩ := h.ol i k l hi ho
  exact .inr ⟨k, l, q1, q2, by omega, by omega⟩
theorem div3 (b : Nat) : 3 * (b / 3) + b % 3 = b := by omega
theorem VS.put {M N : List ByteArray} {n m : Nat} {T : Nat → Bool} {V : Nat → Vol} (h : VS M n m T V) (k : Nat) (hk : k < m) (b : Nat) (hb : b < 60) (e : Ent) (he : EOk e) (hn : (V k).lf (b / 3) ≠ 0) (hs : ∃ j, j < 3 ∧ ups (V k).e b e (3 * (b / 3) + j) ≠ none)
  (hp : N.getD (40 + ((V k).lf (b / 3) - 1)) ByteArray.empty = lfP (V k).num (b / 3) (ups ((V k).f (b / 3)) (b % 3) e)) (hr : ∀ i, i < n → i ≠ (V k).lf (b / 3) - 1 → N.getD (40 + i) ByteArray.empty = M.getD (40 + i) ByteArray.empty) : VS N n m T (ups V k { V k with e := ups (V k).e b e }) := by
 obtain ⟨O, h⟩ := h
 have q := h.ok k hk
 have hl : b / 3 < 20 := by omega
 have hlo := q.lo _ hl hn
 have hln := q.ln _ hl
 refine ⟨O, fun j hj => ?_, h.tk, fun i j hi ho => ?_, fun i j l hi ho => ?_⟩
 ·by_cases ej : j = k
  ·subst ej
   rw [ups_same]
   have hne : ∀ i a, i < n → O i = some (j, a) → a ≠ b / 3 + 1 → N.getD (40 + i) ByteArray.empty = M.getD (40 + i) ByteArray.empty := fun i a hi ho ha => hr i hi (fun e => ha (by rw [e, hlo] at ho; cases ho; rfl))
   refine ⟨q.num, q.rn, q.ro, ?_, q.ln, q.lo, fun l hl' hn' => ?_, fun l hl' => ?_, fun i hi => ?_⟩
   ·show N.getD (40 + (V j).r) ByteArray.empty = rtP (V j).num (V j).lf
    rw [hne _ 0 q.rn q.ro (by omega)]
    exact q.rp
   ·show N.getD (40 + ((V j).lf l - 1)) ByteArray.empty = lfP (V j).num l (Vol.f { V j with e := ups (V j).e b e } l)
    have hb' := q.ln l hl'
    by_cases el : l = b / 3
    ·subst el
     rw [hp]
     congr 1
     funext i
     show _ = ups (V j).e b e (3 * (b / 3) + i)
     by_cases ei : i = b % 3
     ·subst ei
      rw [ups_same, div3, ups_same]
     ·rw [ups_other _ _ ei, ups_other _ _ (by omega)]
      rfl
    ·rw [hne _ (l + 1) (by have : (V j).lf l ≠ 0 := hn'; omega) (q.lo l hl' hn') (by omega), q.lp l hl' hn']
     by_cases e3 : ∀ i, i < 3 → 3 * l + i ≠ b
     ·have : ∀ i, i < 3 → (V j).f l i = Vol.f { V j with e := ups (V j).e b e } l i := fun i hi => by
       show _ = ups (V j).e b e (3 * l + i)
       rw [ups_other _ _ (e3 i hi)]
       rfl
      unfold lfP lfB lfL
      rw [mks3, mks3, e3_t3, e3_t3]
      simp only [t3, if_true, this 0 (by omega), this 1 (by omega), this 2 (by omega)]
     ·exact absurd (fun i hi e => el (by omega)) e3
   ·show (V j).lf l = 0 ↔ ∀ i, i < 3 → ups (V j).e b e (3 * l + i) = none
    by_cases el : l = b / 3
    ·subst el
     refine ⟨fun q' => absurd q' hn, fun q' => ?_⟩
     obtain ⟨i, hi, h1⟩ := hs
     exact absurd (q' i hi) h1
    ·rw [q.em l hl']
     refine ⟨fun q' i hi => by rw [ups_other _ _ (by omega)]; exact q' i hi, fun q' i hi => ?_⟩
     have := q' i hi
     rwa [ups_other _ _ (by omega)] at this
   ·show EOk (ups (V j).e b e i)
    by_cases ei : i = b
    ·subst ei; rw [ups_same]; exact he
    ·rw [ups_other _ _ ei]; exact q.eo i hi
  ·rw [ups_other _ _ ej]
   exact (h.ok j hj).over (fun i a hi ho => ⟨hr i hi (fun e => by rw [e, hlo] at ho; cases ho; exact ej rfl), rfl⟩)
 ·obtain ⟨q1, q2⟩ := h.or i j hi ho
  refine ⟨q1, ?_⟩
  by_cases ej : j = k
  ·subst ej; rw [ups_same]; exact q2
  ·rw [ups_other _ _ ej]; exact q2
 ·obtain ⟨q1, q2, q3⟩ := h.ol i j l hi ho
  refine ⟨q1, q2, ?_⟩
  by_cases ej : j = k
  ·subst ej; rw [ups_same]; exact q3
  ·rw [ups_other _ _ ej]; exact q3
theorem VS.grow {M N : List ByteArray} {n m : Nat} {T : Nat → Bool} {V : Nat → Vol} (h : VS M n m T V) (k : Nat) (hk : k < m) (b : Nat) (hb : b < 60) (d t : ByteArray) (he : EOk (some (d, t))) (hn : (V k).lf (b / 3) = 0) (p : Nat) (hp : p < n) (hT : T p = false)
  (hl1 : N.getD (40 + p) ByteArray.empty = lfP (V k).num (b / 3) (ups ((V k).f (b / 3)) (b % 3) (some (d, t)))) (hr1 : N.getD (40 + (V k).r) ByteArray.empty = rtP (V k).num (ups (V k).lf (b / 3) (p + 1))) (hr : ∀ i, i < n → i ≠ p → i ≠ (V k).r → N.getD (40 + i) ByteArray.empty = M.getD (40 + i) ByteArray.empty) : VS N n m (flp T p) (ups V k { V k with lf := ups (V k).lf (b / 3) (p + 1), e := ups (V k).e b (some (d, t)) }) := by
 obtain ⟨O, h⟩ := h
 have q := h.ok k hk
 have hl : b / 3 < 20 := by omega
 have hpn : O p = none := by
  have := h.tk p hp
  rw [hT] at this
  cases ho : O p with
  | none => rfl
  | some x => rw [ho] at this; cases this
 have hpr : p ≠ (V k).r := fun e => by rw [e, q.ro] at hpn; cases hpn
 have hno : ∀ i a, O i = some a → i ≠ p := fun i a ho e => by rw [e, hpn] at ho; cases ho
 refine ⟨ups O p (some (k, b / 3 + 1)), fun j hj => ?_, fun i hi => ?_, fun i j hi ho => ?_, fun i j l hi ho => ?_⟩
 ·by_cases ej : j = k
  ·subst ej
   rw [ups_same]
   have hne : ∀ i a, i < n → O i = some (j, a) → a ≠ 0 → N.getD (40 + i) ByteArray.empty = M.getD (40 + i) ByteArray.empty := fun i a hi ho ha => hr i hi (hno i _ ho) (fun e => ha (by rw [e, q.ro] at ho; cases ho; rfl))
   refine ⟨q.num, q.rn, ?_, hr1, fun l hl' => ?_, fun l hl' hn' => ?_, fun l hl' hn' => ?_, fun l hl' => ?_, fun i hi => ?_⟩
   ·show ups O p _ (V j).r = _
    rw [ups_other _ _ (Ne.symm hpr)]
    exact q.ro
   ·show ups (V j).lf (b / 3) (p + 1) l ≤ n
    by_cases el : l = b / 3
    ·subst el; rw [ups_same]; omega
    ·rw [ups_other _ _ el]; exact q.ln l hl'
   ·replace hn' : ups (V j).lf (b / 3) (p + 1) l ≠ 0 := hn'
    show ups O p _ (ups (V j).lf (b / 3) (p + 1) l - 1) = _
    by_cases el : l = b / 3
    ·subst el; rw [ups_same, Nat.add_sub_cancel, ups_same]
    ·rw [ups_other _ _ el] at hn' ⊢
     rw [ups_other _ _ (hno _ _ (q.lo l hl' hn'))]
     exact q.lo l hl' hn'
   ·replace hn' : ups (V j).lf (b / 3) (p + 1) l ≠ 0 := hn'
    show N.getD (40 + (ups (V j).lf (b / 3) (p + 1) l - 1)) ByteArray.empty = lfP (V j).num l (fun i => ups (V j).e b (some (d, t)) (3 * l + i))
    by_cases el : l = b / 3
    ·subst el
     rw [ups_same, Nat.add_sub_cancel, hl1]
     congr 1
     funext i
     by_cases ei : i = b % 3
     ·subst ei
      rw [ups_same, div3, ups_same]
     ·rw [ups_other _ _ ei, ups_other _ _ (by omega)]
      rfl
    ·rw [ups_other _ _ el] at hn' ⊢
     have hb' := q.ln l hl'
     rw [hne _ (l + 1) (by omega) (q.lo l hl' hn') (by omega), q.lp l hl' hn']
     have : ∀ i, i < 3 → (V j).f l i = ups (V j).e b (some (d, t)) (3 * l + i) := fun i hi => by
      rw [ups_other _ _ (by omega)]
      rfl
     unfold lfP lfB lfL
     rw [mks3, mks3, e3_t3, e3_t3]
     simp only [t3, if_true, this 0 (by omega), this 1 (by omega), this 2 (by omega)]
   ·show ups (V j).lf (b / 3) (p + 1) l = 0 ↔ ∀ i, i < 3 → ups (V j).e b (some (d, t)) (3 * l + i) = none
    by_cases el : l = b / 3
    ·subst el
     rw [ups_same]
     refine ⟨fun q' => by omega, fun q' => ?_⟩
     have := q' (b % 3) (Nat.mod_lt _ (by decide))
     rw [div3, ups_same] at this
     cases this
    ·rw [ups_other _ _ el, q.em l hl']
     refine ⟨fun q' i hi => by rw [ups_other _ _ (by omega)]; exact q' i hi, fun q' i hi => ?_⟩
     have := q' i hi
     rwa [ups_other _ _ (by omega)] at this
   ·show EOk (ups (V j).e b (some (d, t)) i)
    by_cases ei : i = b
    ·subst ei; rw [ups_same]; exact he
    ·rw [ups_other _ _ ei]; exact q.eo i hi
  ·rw [ups_other _ _ ej]
   exact (h.ok j hj).over (fun i a hi ho => ⟨hr i hi (hno i _ ho) (fun e => by rw [e, q.ro] at ho; cases ho; exact ej rfl), by rw [ups_other _ _ (hno i _ ho)]⟩)
 ·by_cases ei : i = p
  ·subst ei; rw [flip_same, hT, ups_same]; rfl
  ·rw [flip_other _ ei, ups_other _ _ ei]; exact h.tk i hi
 ·by_cases ei : i = p
  ·subst ei; rw [ups_same] at ho; cases ho
  ·rw [ups_other _ _ ei] at ho
   obtain ⟨q1, q2⟩ := h.or i j hi ho
   refine ⟨q1, ?_⟩
   by_cases ej : j = k
   ·subst ej; rw [ups_same]; exact q2
   ·rw [ups_other _ _ ej]; exact q2
 ·by_cases ei : i = p
  ·subst ei
   rw [ups_same] at ho
   cases ho
   refine ⟨hk, hl, ?_⟩
   rw [ups_same]
   exact ups_same _ _ _
  ·rw [ups_other _ _ ei] at ho
   obtain ⟨q1, q2, q3⟩ := h.ol i j l hi ho
   refine ⟨q1, q2, ?_⟩
   by_cases ej : j = k
   ·subst ej
    rw [ups_same]
    show ups (V j).lf (b / 3) (p + 1) l = i + 1
    rw [ups_other _ _ (fun e => by rw [e, hn] at q3; omega)]
    exact q3
   ·rw [ups_other _ _ ej]; exact q3
theorem VS.shrink {M N : List ByteArray} {n m : Nat} {T : Nat → Bool} {V : Nat → Vol} (h : VS M n m T V) (k : Nat) (hk : k < m) (b : Nat) (hb : b < 60) (p : Nat) (hn : (V k).lf (b / 3) = p + 1) (hs : ∀ j, j < 3 → ups (V k).e b none (3 * (b / 3) + j) = none)
  (hr1 : N.getD (40 + (V k).r) ByteArray.empty = rtP (V k).num (ups (V k).lf (b / 3) 0)) (hr : ∀ i, i < n → i ≠ (V k).r → N.getD (40 + i) ByteArray.empty = M.getD (40 + i) ByteArray.empty) : VS N n m (flp T p) (ups V k { V k with lf := ups (V k).lf (b / 3) 0, e := ups (V k).e b none }) := by
 obtain ⟨O, h⟩ := h
 have q := h.ok k hk
 have hl : b / 3 < 20 := by omega
 have hlo : O p = some (k, b / 3 + 1) := by
  have := q.lo _ hl (by omega)
  rwa [hn, Nat.add_sub_cancel] at this
 have hpn : p < n := by have := q.ln _ hl; omega
 have hpr : p ≠ (V k).r := fun e => by rw [e, q.ro] at hlo; cases hlo
 refine ⟨ups O p none, fun j hj => ?_, fun i hi => ?_, fun i j hi ho => ?_, fun i j l hi ho => ?_⟩
 ·by_cases ej : j = k
  ·subst ej
   rw [ups_same]
   have hne : ∀ i a, i < n → O i = some (j, a) → a ≠ 0 → N.getD (40 + i) ByteArray.empty = M.getD (40 + i) ByteArray.empty := fun i a hi ho ha => hr i hi (fun e => ha (by rw [e, q.ro] at ho; cases ho; rfl))
   refine ⟨q.num, q.rn, ?_, hr1, fun l hl' => ?_, fun l hl' hn' => ?_, fun l hl' hn' => ?_, fun l hl' => ?_, fun i hi => ?_⟩
   ·show ups O p _ (V j).r = _
    rw [ups_other _ _ (Ne.symm hpr)]
    exact q.ro
   ·show ups (V j).lf (b / 3) 0 l ≤ n
    by_cases el : l = b / 3
    ·subst el; rw [ups_same]; omega
    ·rw [ups_other _ _ el]; exact q.ln l hl'
   ·replace hn' : ups (V j).lf (b / 3) 0 l ≠ 0 := hn'
    show ups O p _ (ups (V j).lf (b / 3) 0 l - 1) = _
    by_cases el : l = b / 3
    ·subst el; rw [ups_same] at hn'; exact absurd rfl hn'
    ·rw [ups_other _ _ el] at hn' ⊢
     have h1 := q.lo l hl' hn'
     rw [ups_other _ _ (fun e => by rw [e, hlo] at h1; cases h1; exact el rfl)]
     exact h1
   ·replace hn' : ups (V j).lf (b / 3) 0 l ≠ 0 := hn'
    show N.getD (40 + (ups (V j).lf (b / 3) 0 l - 1)) ByteArray.empty = lfP (V j).num l (fun i => ups (V j).e b none (3 * l + i))
    by_cases el : l = b / 3
    ·subst el; rw [ups_same] at hn'; exact absurd rfl hn'
    ·rw [ups_other _ _ el] at hn' ⊢
     have hb' := q.ln l hl'
     rw [hne _ (l + 1) (by omega) (q.lo l hl' hn') (by omega), q.lp l hl' hn']
     have : ∀ i, i < 3 → (V j).f l i = ups (V j).e b none (3 * l + i) := fun i hi => by
      rw [ups_other _ _ (by omega)]
      rfl
     unfold lfP lfB lfL
     rw [mks3, mks3, e3_t3, e3_t3]
     simp only [t3, if_true, this 0 (by omega), this 1 (by omega), this 2 (by omega)]
   ·show ups (V j).lf (b / 3) 0 l = 0 ↔ ∀ i, i < 3 → ups (V j).e b none (3 * l + i) = none
    by_cases el : l = b / 3
    ·subst el
     rw [ups_same]
     exact ⟨fun _ => hs, fun _ => rfl⟩
    ·rw [ups_other _ _ el, q.em l hl']
     refine ⟨fun q' i hi => by rw [ups_other _ _ (by omega)]; exact q' i hi, fun q' i hi => ?_⟩
     have := q' i hi
     rwa [ups_other _ _ (by omega)] at this
   ·show EOk (ups (V j).e b none i)
    by_cases ei : i = b
    ·subst ei; rw [ups_same]; exact EOk.none
    ·rw [ups_other _ _ ei]; exact q.eo i hi
  ·rw [ups_other _ _ ej]
   exact (h.ok j hj).over (fun i a hi ho => ⟨hr i hi (fun e => by rw [e, q.ro] at ho; cases ho; exact ej rfl), by rw [ups_other _ _ (fun e => by rw [e, hlo] at ho; cases ho; exact ej rfl)]⟩)
 ·by_cases ei : i = p
  ·subst ei; rw [flip_same, h.tk i hi, hlo, ups_same]; rfl
  ·rw [flip_other _ ei, ups_other _ _ ei]; exact h.tk i hi
 ·by_cases ei : i = p
  ·subst ei; rw [ups_same] at ho; cases ho
  ·rw [ups_other _ _ ei] at ho
   obtain ⟨q1, q2⟩ := h.or i j hi ho
   refine ⟨q1, ?_⟩
   by_cases ej : j = k
   ·subst ej; rw [ups_same]; exact q2
   ·rw [ups_other _ _ ej]; exact q2
 ·by_cases ei : i = p
  ·subst ei; rw [ups_same] at ho; cases ho
  ·rw [ups_other _ _ ei] at ho
   obtain ⟨q1, q2, q3⟩ := h.ol i j l hi ho
   refine ⟨q1, q2, ?_⟩
   by_cases ej : j = k
   ·subst ej
    rw [ups_same]
    show ups (V j).lf (b / 3) 0 l = i + 1
    rw [ups_other _ _ (fun e => by rw [e, hn] at q3; omega)]
    exact q3
   ·rw [ups_other _ _ ej]; exact q3
def Vol.new (r num : Nat) : Vol := ⟨r, num, fun _ => 0, fun _ => none⟩
theorem VS.create {M N : List ByteArray} {n m : Nat} {T : Nat → Bool} {V : Nat → Vol} (h : VS M n m T V) (p num : Nat) (hp : p < n) (hT : T p = false) (hnum : num ≤ 1000000) (hr1 : N.getD (40 + p) ByteArray.empty = rtP num (fun _ => 0)) (hr : ∀ i, i < n → i ≠ p → N.getD (40 + i) ByteArray.empty = M.getD (40 + i) ByteArray.empty) : VS N n (m + 1) (flp T p) (ups V m (Vol.new p num)) := by
 obtain ⟨O, h⟩ := h
 have hpn : O p = none := by
  have := h.tk p hp
  rw [hT] at this
  cases ho : O p with
  | none => rfl
  | some x => rw [ho] at this; cases this
 have hno : ∀ i a, O i = some a → i ≠ p := fun i a ho e => by rw [e, hpn] at ho; cases ho
 refine ⟨ups O p (some (m, 0)), fun j hj => ?_, fun i hi => ?_, fun i j hi ho => ?_, fun i j l hi ho => ?_⟩
 ·by_cases ej : j = m
  ·subst ej
   rw [ups_same]
   exact ⟨hnum, hp, ups_same _ _ _, hr1, fun _ _ => Nat.zero_le _, fun _ _ q => absurd rfl q, fun _ _ q => absurd rfl q, fun _ _ => ⟨fun _ _ _ => rfl, fun _ => rfl⟩, fun _ _ => EOk.none⟩
  ·rw [ups_other _ _ ej]
   exact (h.ok j (by omega)).over (fun i a hi ho => ⟨hr i hi (hno i _ ho), by rw [ups_other _ _ (hno i _ ho)]⟩)
 ·by_cases ei : i = p
  ·subst ei; rw [flip_same, hT, ups_same]; rfl
  ·rw [flip_other _ ei, ups_other _ _ ei]; exact h.tk i hi
 ·by_cases ei : i = p
  ·subst ei
   rw [ups_same] at ho
   cases ho
   exact ⟨by omega, by rw [ups_same]; rfl⟩
  ·rw [ups_other _ _ ei] at ho
   obtain ⟨q1, q2⟩ := h.or i j hi ho
   exact ⟨by omega, by rw [ups_other _ _ (by omega)]; exact q2⟩
 ·by_cases ei : i = p
  ·subst ei; rw [ups_same] at ho; cases ho
  ·rw [ups_other _ _ ei] at ho
   obtain ⟨q1, q2, q3⟩ := h.ol i j l hi ho
   exact ⟨by omega, q2, by rw [ups_other _ _ (by omega)]; exact q3⟩
theorem VS.empty (M : List ByteArray) (n : Nat) (V : Nat → Vol) : VS M n 0 (fun _ => false) V := ⟨fun _ => Option.none, fun _ h => absurd h (Nat.not_lt_zero _), fun _ _ => rfl, fun _ _ _ h => (by cases h), fun _ _ _ _ h => (by cases h)⟩
end Go.Proofs.YtiellebdliifdaaGreatDoor
namespace Go.Proofs.YtiellebdliifdaaGreatDoor
open Go.RowKit
theorem rep_zero (c : Nat) : (⟨(Lib.repeatL (ByteArray.mk #[0]).data.toList c).toArray⟩ : ByteArray) = strOfNums (List.replicate c 0) := by
 have h : Lib.repeatL (ByteArray.mk #[0]).data.toList c = List.replicate c 0 := by
  have := Lib.repeatL_replicate 0 1 c
  rw [Nat.mul_one] at this
  exact this
 rw [h, strOfNums]
 simp
theorem rep_ok : RepOk := by
 intro c W hc
 have h := Tryz.strings_Repeat ⟨#[0]⟩ c W (by omega) (by show 1 * c ≤ _; omega)
 rw [rep_zero] at h
 exact h
end Go.Proofs.YtiellebdliifdaaGreatDoor
