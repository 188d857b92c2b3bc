import Derived.Test.YtjiigapphhekmaaGreatDoorMr06
import Derived.Test.YtjiigapphhekmaaGreatDoorMr10
import Derived.Test.YtjiigapphhekmaaGreatDoorMr11
import Derived.BigQuiet
import Derived.WalkMore
import Derived.Maps.StringElems
import Derived.Maps.Ext
import Derived.Lib.SlKeysI
namespace Go.Proofs.YtjiigapphhekmaaGreatDoor
open Go.RowKit
/-- Byte j of a body. -/
def byN (b : ByteArray) (j : Nat) : Nat := ((nums b).getD j 0).toNat
theorem byN_lt (b : ByteArray) (j : Nat) : byN b j < 256 := by
  have := nums_bytes b j
  unfold byN
  omega
theorem byN_eq (b : ByteArray) (j : Nat) : (nums b).getD j 0 = (byN b j : Int) := by
  have := nums_bytes b j
  unfold byN
  omega
/-- Bit i of a body. -/
def bitB (b : ByteArray) (i : Nat) : Bool := (byN b (i % 256 / 8)).testBit (i % 8)
def turnL (b : ByteArray) (i : Nat) : List Int := (nums b).set (i % 256 / 8) ((byN b (i % 256 / 8) ^^^ 2 ^ (i % 8) : Nat) : Int)
def turnB (b : ByteArray) (i : Nat) : ByteArray := strOfNums (turnL b i)
theorem two_lt (k : Nat) (hk : k < 8) : 2 ^ k < 256 := by
  have h : 2 ^ k < 2 ^ 8 := Nat.pow_lt_pow_right (by decide) hk
  simpa using h
theorem xor_lt (a k : Nat) (ha : a < 256) (hk : k < 8) : a ^^^ 2 ^ k < 256 := Nat.xor_lt_two_pow (n := 8) ha (two_lt k hk)
theorem turnL_bytes (b : ByteArray) (i : Nat) : Bytes (turnL b i) := fun j => by
  have h1 := nums_bytes b j
  have h2 := xor_lt (byN b (i % 256 / 8)) (i % 8) (byN_lt _ _) (Nat.mod_lt _ (by decide))
  unfold turnL
  generalize byN b (i % 256 / 8) ^^^ 2 ^ (i % 8) = v at *
  rw [List.getD_eq_getElem?_getD] at h1 ⊢
  rw [List.getElem?_set]
  split
  · split
    · simp; omega
    · simp
  · exact h1
theorem turnL_nums (b : ByteArray) (i : Nat) : nums (turnB b i) = turnL b i := nums_strOfNums _ (turnL_bytes b i)
theorem turnB_size (b : ByteArray) (i : Nat) : (turnB b i).size = b.size := by rw [← nums_len, turnL_nums, turnL, List.length_set, nums_len]
theorem bitB_mod (b : ByteArray) (i : Nat) : bitB b (i % 256) = bitB b i := by
  unfold bitB
  rw [Nat.mod_mod, show i % 256 % 8 = i % 8 by omega]
theorem bitB_page (b : ByteArray) (k j : Nat) : bitB b (256 * k + j) = bitB b j := by
  rw [← bitB_mod, ← bitB_mod b j, show (256 * k + j) % 256 = j % 256 by omega]
theorem byN_turn (b : ByteArray) (hb : b.size = 32) (i m : Nat) : byN (turnB b i) m = if m = i % 256 / 8 then byN b m ^^^ 2 ^ (i % 8) else byN b m := by
  unfold byN
  rw [turnL_nums]
  unfold turnL
  rw [List.getD_eq_getElem?_getD, List.getElem?_set]
  have hl := nums_len b
  by_cases h : m = i % 256 / 8
  · subst h
    rw [if_pos rfl, if_pos rfl, if_pos (by omega)]
    simp [byN]
  · rw [if_neg (Ne.symm h), if_neg h, List.getD_eq_getElem?_getD]
theorem turnB_bit (b : ByteArray) (hb : b.size = 32) (i j : Nat) : bitB (turnB b i) j = if j % 256 = i % 256 then !bitB b j else bitB b j := by
  unfold bitB
  rw [byN_turn b hb]
  by_cases h1 : j % 256 / 8 = i % 256 / 8
  · rw [if_pos h1, Nat.testBit_xor, Nat.testBit_two_pow]
    by_cases h2 : j % 256 = i % 256
    · rw [if_pos h2, decide_eq_true (show i % 8 = j % 8 by omega)]
      simp
    · rw [if_neg h2, decide_eq_false (show ¬ i % 8 = j % 8 by omega)]
      simp
  · rw [if_neg h1, if_neg (fun e => h1 (by rw [e]))]
/-- How many pages. -/
def pgs (n : Nat) : Nat := (n + 255) / 256
def pgT (k : Nat) (b : ByteArray) : ByteArray := makeB 3 (k : Int) b
theorem pg_err (k : Nat) (hk : k < 1024) (b : ByteArray) (hb : b.size = 32) : errM 3 (k : Int) b.size = 0 := by
  have h1 : fitsP 3 1 := by decide
  have h2 : fitsP (k : Int) 4 := ⟨by omega, by
    rw [show (2 : Int) ^ (8 * 4) = 4294967296 by decide]
    omega⟩
  rw [errM, if_neg (by simp [h1, h2]), if_neg (by omega)]
theorem pgT_parse (k : Nat) (hk : k < 1024) (b : ByteArray) (hb : b.size = 32) : prOk (pgT k b) ∧ pkd (pgT k b) = 3 ∧ pnm (pgT k b) = (k : Int) ∧ pbd (pgT k b) = b := make_parse 3 (k : Int) b (pg_err k hk b hb)
theorem pgT_size (k : Nat) (hk : k < 1024) (b : ByteArray) (hb : b.size = 32) : (pgT k b).size = 256 := (prOk_size _ (pgT_parse k hk b hb).1).1
/-- The sector s is page k, with the body b, of the set T below n. -/
def Pg (n : Nat) (T : Nat → Bool) (k : Nat) (b s : ByteArray) : Prop := b.size = 32 ∧ s = pgT k b ∧ ∀ j, j < 256 → bitB b j = (decide (256 * k + j < n) && T (256 * k + j))
def MS (M : List ByteArray) (a n : Nat) (T : Nat → Bool) : Prop := ∀ k, k < pgs n → ∃ b, Pg n T k b (M.getD (a + k) ByteArray.empty)
theorem Pg.bit {n : Nat} {T : Nat → Bool} {k : Nat} {b s : ByteArray} (h : Pg n T k b s) (i : Nat) (hi : i < n) (hk : i / 256 = k) : bitB b i = T i := by
  have h1 := h.2.2 (i % 256) (Nat.mod_lt _ (by decide))
  rw [bitB_mod, show 256 * k + i % 256 = i by omega] at h1
  rw [h1, decide_eq_true hi]
  rfl
theorem pgs_lt {n i : Nat} (h : i < n) : i / 256 < pgs n := by unfold pgs; omega
theorem pgs_le {n : Nat} (h : n ≤ 1024) : pgs n ≤ 4 := by unfold pgs; omega
/-- A place is turned. -/
def flp (T : Nat → Bool) (p : Nat) : Nat → Bool := fun i => if i = p then !T i else T i
theorem MS.turn {M : List ByteArray} {a n : Nat} {T : Nat → Bool} (h : MS M a n T) (p : Nat) (hp : p < n) (b : ByteArray) (hb : Pg n T (p / 256) b (M.getD (a + p / 256) ByteArray.empty)) (hM : a + pgs n ≤ M.length) : MS (M.set (a + p / 256) (pgT (p / 256) (turnB b p))) a n (flp T p) := fun k hk => by
  have hpk := pgs_lt hp
  by_cases e : k = p / 256
  · subst e
    rw [getD_set_same _ _ _ (by omega)]
    refine ⟨turnB b p, by rw [turnB_size]; exact hb.1, rfl, fun j hj => ?_⟩
    rw [turnB_bit b hb.1, hb.2.2 j hj]
    unfold flp
    by_cases e2 : 256 * (p / 256) + j = p
    · rw [if_pos (by omega), if_pos e2, e2, decide_eq_true hp]
      simp
    · rw [if_neg (by omega), if_neg e2]
  · obtain ⟨b', h1, h2, h3⟩ := h k hk
    rw [getD_set_other _ _ _ _ (by omega)]
    refine ⟨b', h1, h2, fun j hj => ?_⟩
    rw [h3 j hj]
    unfold flp
    rw [if_neg (show ¬ 256 * k + j = p by omega)]
theorem MS.congr {M : List ByteArray} {a n : Nat} {T U : Nat → Bool} (h : MS M a n T) (e : ∀ i, i < n → T i = U i) : MS M a n U := fun k hk => by
  obtain ⟨b, h1, h2, h3⟩ := h k hk
  refine ⟨b, h1, h2, fun j hj => ?_⟩
  rw [h3 j hj]
  by_cases q : 256 * k + j < n
  · rw [e _ q]
  · rw [decide_eq_false q]; rfl
theorem MS.over {M N : List ByteArray} {a n : Nat} {T : Nat → Bool} (h : MS M a n T) (e : ∀ k, k < pgs n → N.getD (a + k) ByteArray.empty = M.getD (a + k) ByteArray.empty) : MS N a n T := fun k hk => by
  rw [e k hk]
  exact h k hk
/-- The bytes tell the set. -/
theorem MS.one {M : List ByteArray} {a n : Nat} {T U : Nat → Bool} (h : MS M a n T) (g : MS M a n U) (hn : n ≤ 1024) (i : Nat) (hi : i < n) : T i = U i := by
  obtain ⟨b, hb⟩ := h (i / 256) (pgs_lt hi)
  obtain ⟨c, hc⟩ := g (i / 256) (pgs_lt hi)
  have hk : i / 256 < 1024 := by omega
  have e1 := (pgT_parse _ hk b hb.1).2.2.2
  have e2 := (pgT_parse _ hk c hc.1).2.2.2
  rw [← hb.2.1, hc.2.1, e2] at e1
  rw [← hb.bit i hi rfl, ← hc.bit i hi rfl, e1]
/-- All that are taken, rising. -/
def lstN (T : Nat → Bool) (n : Nat) : List Nat := (List.range n).filter T
def lst (T : Nat → Bool) (n : Nat) : List Int := (lstN T n).map fun (i : Nat) => (i : Int)
theorem lst_succ (T : Nat → Bool) (n : Nat) : lst T (n + 1) = if T n then lst T n ++ [(n : Int)] else lst T n := by
  unfold lst lstN
  rw [List.range_succ, List.filter_append]
  cases h : T n <;> simp [h]
theorem lst_congr (T U : Nat → Bool) (n : Nat) (h : ∀ i, i < n → T i = U i) : lst T n = lst U n := by
  unfold lst lstN
  rw [List.filter_congr (fun x hx => h x (List.mem_range.1 hx))]
theorem lst_len_le (T : Nat → Bool) (n : Nat) : (lst T n).length ≤ n := by
  unfold lst lstN
  rw [List.length_map]
  have := List.length_filter_le T (List.range n)
  simpa using this
theorem mem_lst {T : Nat → Bool} {n : Nat} {z : Int} : z ∈ lst T n ↔ ∃ i : Nat, z = (i : Int) ∧ i < n ∧ T i = true := by
  unfold lst lstN
  simp only [List.mem_map, List.mem_filter, List.mem_range]
  constructor
  · rintro ⟨i, ⟨h1, h2⟩, rfl⟩
    exact ⟨i, rfl, h1, h2⟩
  · rintro ⟨i, rfl, h1, h2⟩
    exact ⟨i, ⟨h1, h2⟩, rfl⟩
theorem lst_sorted (T : Nat → Bool) (n : Nat) : (lst T n).Pairwise (fun a b => a < b) := by
  unfold lst lstN
  refine List.pairwise_map.2 (((List.pairwise_lt_range (n := n)).filter T).imp (fun h => by omega))
/-- Is place p the least free one? -/
def Lea (T : Nat → Bool) (n p : Nat) : Prop := p < n ∧ T p = false ∧ ∀ i, i < p → T i = true
theorem lea_or (T : Nat → Bool) : ∀ n, (∃ p, Lea T n p) ∨ ∀ i, i < n → T i = true
  | 0 => .inr (fun i hi => absurd hi (by omega))
  | n + 1 => by
    rcases lea_or T n with ⟨p, h1, h2, h3⟩ | h
    · exact .inl ⟨p, by omega, h2, h3⟩
    · cases e : T n with
      | false => exact .inl ⟨n, by omega, e, h⟩
      | true => exact .inr (fun i hi => by
          by_cases q : i = n
          · rw [q]; exact e
          · exact h i (by omega))
theorem Lea.uniq {T : Nat → Bool} {n p q : Nat} (h : Lea T n p) (g : Lea T n q) : p = q := by
  rcases Nat.lt_trichotomy p q with e | e | e
  · have := g.2.2 p e; rw [h.2.1] at this; cases this
  · exact e
  · have := h.2.2 q e; rw [g.2.1] at this; cases this
theorem flip_same (T : Nat → Bool) (p : Nat) : flp T p p = !T p := by unfold flp; rw [if_pos rfl]
theorem flip_other (T : Nat → Bool) {p i : Nat} (h : i ≠ p) : flp T p i = T i := by unfold flp; rw [if_neg h]
end Go.Proofs.YtjiigapphhekmaaGreatDoor

namespace Go.Proofs.YtjiigapphhekmaaGreatDoor
open Go.RowKit
theorem u8_and_nat (a b : Nat) (ha : a < 256) (hb : b < 256) : bits .and .u8 (a : Int) (b : Int) = ((a &&& b : Nat) : Int) := by
  have hx : a &&& b ≤ a := Nat.and_le_left
  have h1 : (BitVec.ofInt 8 (a : Int)).toNat = a := by
    rw [BitVec.ofInt_natCast, BitVec.toNat_ofNat]; exact Nat.mod_eq_of_lt (by omega)
  have h2 : (BitVec.ofInt 8 (b : Int)).toNat = b := by
    rw [BitVec.ofInt_natCast, BitVec.toNat_ofNat]; exact Nat.mod_eq_of_lt (by omega)
  show IntKind.u8.wrap ((BitVec.ofInt 8 (a : Int) &&& BitVec.ofInt 8 (b : Int)).toNat : Int) = _
  rw [BitVec.toNat_and, h1, h2, IntKind.wrap_u8]
  omega
theorem u8_xor_nat (a b : Nat) (ha : a < 256) (hb : b < 256) : bits .xor .u8 (a : Int) (b : Int) = ((a ^^^ b : Nat) : Int) := by
  have hx : a ^^^ b < 2 ^ 8 := Nat.xor_lt_two_pow (by omega) (by omega)
  have h1 : (BitVec.ofInt 8 (a : Int)).toNat = a := by
    rw [BitVec.ofInt_natCast, BitVec.toNat_ofNat]; exact Nat.mod_eq_of_lt (by omega)
  have h2 : (BitVec.ofInt 8 (b : Int)).toNat = b := by
    rw [BitVec.ofInt_natCast, BitVec.toNat_ofNat]; exact Nat.mod_eq_of_lt (by omega)
  show IntKind.u8.wrap ((BitVec.ofInt 8 (a : Int) ^^^ BitVec.ofInt 8 (b : Int)).toNat : Int) = _
  rw [BitVec.toNat_xor, h1, h2, IntKind.wrap_u8]
  omega
theorem and_bit (x r : Nat) : (((x &&& 2 ^ r : Nat) : Int) != 0) = x.testBit r := by
  have h : 2 ^ r ≠ 0 := by have := Nat.two_pow_pos r; omega
  have e : x &&& 2 ^ r = if x.testBit r then 2 ^ r else 0 := by
    apply Nat.eq_of_testBit_eq
    intro i
    rw [Nat.testBit_and, Nat.testBit_two_pow]
    by_cases hi : r = i
    · subst hi
      cases hx : x.testBit r <;> simp
    · cases hx : x.testBit r <;> simp [hi]
  rw [e]
  generalize 2 ^ r = v at *
  cases x.testBit r
  · simp
  · simp; exact h
theorem pagesOf_any (n : Nat) (hn : n ≤ 1024) (w : World) : Calls Tryz.prog 40 #[.int .i64 (n : Int)] w fun e w' => e = .returned (.int .i64 (pgs n : Int)) ∧ w' = w := by
  have e1 : ((n : Int) + 256 - 1).tdiv 256 = (pgs n : Int) := by
    rw [Int.tdiv_eq_ediv_of_nonneg (by omega)]; unfold pgs; omega
  have hq := pgs_le hn
  generalize pgs n = q at *
  go_enter Tryz.func40, Tryz.ntmps40
  go_wp2
  go_ret
  exact ⟨rfl, rfl⟩
theorem pageOf_any (i : Nat) (hi : i < 1000000) (w : World) : Calls Tryz.prog 46 #[.int .i64 (i : Int)] w fun e w' => e = .returned (.int .i64 ((i / 256 : Nat) : Int)) ∧ w' = w := by
  have e1 : (i : Int).tdiv 256 = ((i / 256 : Nat) : Int) := by
    rw [Int.tdiv_eq_ediv_of_nonneg (by omega)]; omega
  have hq : i / 256 < 1000000 := by omega
  generalize i / 256 = q at *
  go_enter Tryz.func46, Tryz.ntmps46
  go_wp2
  go_ret
  exact ⟨rfl, rfl⟩
theorem firstOf_any (k : Nat) (hk : k ≤ 1000) (w : World) : Calls Tryz.prog 43 #[.int .i64 (k : Int)] w fun e w' => e = .returned (.int .i64 ((256 * k : Nat) : Int)) ∧ w' = w := by
  have e1 : (k : Int) * 256 = ((256 * k : Nat) : Int) := by omega
  have hq : 256 * k < 1000000 := by omega
  generalize 256 * k = q at *
  go_enter Tryz.func43, Tryz.ntmps43
  go_wp2
  go_ret
  exact ⟨rfl, rfl⟩
theorem byteOf_any (i : Nat) (hi : i < 1000000) (w : World) : Calls Tryz.prog 74 #[.int .i64 (i : Int)] w fun e w' => e = .returned (.int .i64 ((i % 256 / 8 : Nat) : Int)) ∧ w' = w := by
  have e1 : (i : Int).tmod 256 = ((i % 256 : Nat) : Int) := by
    rw [Int.tmod_eq_emod_of_nonneg (by omega)]; omega
  have hq1 : i % 256 < 256 := Nat.mod_lt _ (by decide)
  have e2 : ((i % 256 : Nat) : Int).tdiv 8 = ((i % 256 / 8 : Nat) : Int) := by
    rw [Int.tdiv_eq_ediv_of_nonneg (by omega)]; omega
  have hq : i % 256 / 8 < 32 := by omega
  generalize i % 256 / 8 = q at *
  generalize i % 256 = q1 at *
  go_enter Tryz.func74, Tryz.ntmps74
  go_wp2
  go_ret
  exact ⟨rfl, rfl⟩
theorem bitOf_any (i : Nat) (hi : i < 1000000) (w : World) : Calls Tryz.prog 75 #[.int .i64 (i : Int)] w fun e w' => e = .returned (.int .u8 ((2 ^ (i % 8) : Nat) : Int)) ∧ w' = w := by
  have e1 : (i : Int).tmod 8 = ((i % 8 : Nat) : Int) := by
    rw [Int.tmod_eq_emod_of_nonneg (by omega)]; omega
  have hq : i % 8 < 8 := Nat.mod_lt _ (by decide)
  generalize i % 8 = q at *
  obtain rfl | rfl | rfl | rfl | rfl | rfl | rfl | rfl : q = 0 ∨ q = 1 ∨ q = 2 ∨ q = 3 ∨ q = 4 ∨ q = 5 ∨ q = 6 ∨ q = 7 := by omega
  all_goals
    simp only [Int.cast_ofNat_Int] at e1
    go_enter Tryz.func75, Tryz.ntmps75
    go_wp2
    go_ret
    exact ⟨rfl, rfl⟩
set_option maxRecDepth 100000 in
set_option maxHeartbeats 1000000 in
theorem isTaken_any (b : ByteArray) (hb : b.size = 32) (i : Nat) (hi : i < 1000000) (w : World) : Calls Tryz.prog 44 #[.string b, .int .i64 (i : Int)] w fun e w' => e = .returned (.bool (bitB b i)) ∧ Below w.heap.size w w' := by
  have HB1 := hide (fun W => byteOf_any i hi W)
  have HB2 := hide (fun W => bitOf_any i hi W)
  have hq : i % 256 / 8 < 32 := by omega
  have hr : i % 8 < 8 := Nat.mod_lt _ (by decide)
  have hix := index_str b (i % 256 / 8) (by omega)
  rw [byN_eq] at hix
  have han := u8_and_nat (byN b (i % 256 / 8)) (2 ^ (i % 8)) (byN_lt _ _) (two_lt _ hr)
  have hbt := and_bit (byN b (i % 256 / 8)) (i % 8)
  have HBB := hide (show bitB b i = (byN b (i % 256 / 8)).testBit (i % 8) from rfl)
  generalize byN b (i % 256 / 8) &&& 2 ^ (i % 8) = av at *
  generalize byN b (i % 256 / 8) = x at *
  generalize hpp : 2 ^ (i % 8) = pw at *
  clear hpp hr
  generalize i % 256 / 8 = q at *
  generalize x.testBit (i % 8) = tb at *
  generalize bitB b i = bb at *
  have hbb := unhide HBB
  clear HBB
  subst hbb
  go_enter Tryz.func44, Tryz.ntmps44
  go_wp2
  go_quiet ((first | (go_at_call 74; exact Calls.quiet_of_same (unhide HB1 _)) | (go_at_call 75; exact Calls.quiet_of_same (unhide HB2 _))))
  go_wp2
  go_ret
  exact ⟨rfl, below_drewN (Below.refl _ w) _⟩
/-- A map in memory. -/
def Mcs (pb a n : Nat) : Array Value := #[.pointer (some ⟨pb, 0, none⟩), .int .i64 (a : Int), .int .i64 (n : Int)]
def MB (w : World) (mb pb a n : Nat) : Prop := Blk w mb (Mcs pb a n) 83
theorem MB.only {w w' : World} {mb pb a n : Nat} {P : Nat → Prop} (h : MB w mb pb a n) (ho : Only P w w') (hp : ¬ P mb) : MB w' mb pb a n := Blk.only h ho hp
theorem MB.below {w w' : World} {mb pb a n : Nat} (h : MB w mb pb a n) (hb : Below w.heap.size w w') : MB w' mb pb a n := Blk.below h hb h.lt
theorem MB.c0 {w : World} {mb pb a n : Nat} (h : MB w mb pb a n) : w.cell? ⟨mb, 0, none⟩ = some (.pointer (some ⟨pb, 0, none⟩)) := by rw [Blk.cell h]; rfl
theorem MB.c1 {w : World} {mb pb a n : Nat} (h : MB w mb pb a n) : w.cell? ⟨mb, 1, none⟩ = some (.int .i64 (a : Int)) := by rw [Blk.cell h]; rfl
theorem MB.c2 {w : World} {mb pb a n : Nat} (h : MB w mb pb a n) : w.cell? ⟨mb, 2, none⟩ = some (.int .i64 (n : Int)) := by rw [Blk.cell h]; rfl
/-- How many places stand in page k. -/
def pin (n k : Nat) : Nat := min 256 (n - 256 * k)
set_option maxRecDepth 100000 in
set_option maxHeartbeats 1000000 in
theorem placesIn_any {w : World} {mb pb a n : Nat} (h : MB w mb pb a n) (hn : n ≤ 1024) (k : Nat) (hk : k < pgs n) : Calls Tryz.prog 42 #[.pointer (some ⟨mb, 0, none⟩), .int .i64 (k : Int)] w fun e w' => e = .returned (.int .i64 (pin n k : Int)) ∧ Below w.heap.size w w' := by
  have c2 := h.c2
  have hk4 := pgs_le hn
  have hkn : 256 * k < n := by unfold pgs at hk; omega
  have HF := hide (fun W => firstOf_any k (by omega) W)
  have e1 : (n : Int) - ((256 * k : Nat) : Int) = ((n - 256 * k : Nat) : Int) := by omega
  have hq : n - 256 * k ≤ 1024 := by omega
  have hpn : min (256 : Int) ((n - 256 * k : Nat) : Int) = (pin n k : Int) := by unfold pin; omega
  have hwq : IntKind.i64.wrap ((n - 256 * k : Nat) : Int) = ((n - 256 * k : Nat) : Int) := wrapI_eq _ (by omega) (by omega)
  generalize pin n k = pn at *
  generalize n - 256 * k = q at *
  generalize 256 * k = f at *
  clear hk hk4
  go_enter Tryz.func42, Tryz.ntmps42
  go_wp2
  refine wp_region_held_drew (S := fun w' => w'.cell? ⟨mb, 2, none⟩ = some (.int .i64 (n : Int))) (by kernel_rfl) c2 ?_
  intro hS
  refine wpAnyH_takeD 0 (some 5) (.pointer (some ⟨mb, 0, none⟩)) rfl rfl (by kernel_rfl) (by kernel_rfl) (by kernel_rfl) (fun _ _ _ h => h) (Or.inl ⟨by rfl, fun w hSw => by have q1 : _ = _ := hSw; go_simp⟩) hS ?_
  simp only [Act.put, List.setIfInBounds_toArray, List.set_cons_zero, List.set_cons_succ]
  refine wpAnyH_takeD 1 (some 6) (.pointer (some ⟨mb, 0, none⟩)) rfl rfl (by kernel_rfl) (by kernel_rfl) (by kernel_rfl) (fun _ _ _ h => h) (Or.inl ⟨by rfl, fun w hSw => by have q1 : _ = _ := hSw; go_simp⟩) hS ?_
  simp only [Act.put, List.setIfInBounds_toArray, List.set_cons_zero, List.set_cons_succ]
  refine wpAnyH_takeD 2 (some 7) (.pointer (some ⟨mb, 2, none⟩)) rfl rfl (by kernel_rfl) (by kernel_rfl) (by kernel_rfl) (fun _ _ _ h => h) (Or.inl ⟨by rfl, fun w hSw => by have q1 : _ = _ := hSw; go_simp⟩) hS ?_
  simp only [Act.put, List.setIfInBounds_toArray, List.set_cons_zero, List.set_cons_succ]
  refine wpAnyH_takeD 3 (some 8) (.int .i64 (n : Int)) rfl rfl (by kernel_rfl) (by kernel_rfl) (by kernel_rfl) (fun _ _ _ h => h) (Or.inl ⟨by rfl, fun w hSw => by have q1 : _ = _ := hSw; go_simp⟩) hS ?_
  simp only [Act.put, List.setIfInBounds_toArray, List.set_cons_zero, List.set_cons_succ]
  refine wpAnyH_takeD 4 (some 9) (.int .i64 (k : Int)) rfl rfl (by kernel_rfl) (by kernel_rfl) (by kernel_rfl) (fun _ _ _ h => h) (Or.inl ⟨by rfl, fun w hSw => by have q1 : _ = _ := hSw; go_simp⟩) hS ?_
  simp only [Act.put, List.setIfInBounds_toArray, List.set_cons_zero, List.set_cons_succ]
  refine wpAnyH_ready (rs := [5]) (by kernel_rfl) (by simp) ?_
  refine AllReadyH.cons rfl (fun K hK => ?_) AllReadyH.nil
  simp only [List.getElem_toArray, List.getElem_cons_succ, List.getElem_cons_zero]
  go_simp
  refine (unhide HF _).mono ?_
  rintro e x1 ⟨rfl, hx1⟩
  subst hx1
  refine hK.out _ _ c2 (fun hS => ?_)
  clear hK K
  refine wpAnyH_takeD 6 (some 11) (.int .i64 (q : Int)) rfl rfl (by kernel_rfl) (by kernel_rfl) (by kernel_rfl) (fun _ _ _ h => h) (Or.inl ⟨by rfl, fun w hSw => by have q1 : _ = _ := hSw; go_simp⟩) hS ?_
  simp only [Act.put, List.setIfInBounds_toArray, List.set_cons_zero, List.set_cons_succ]
  refine wpAnyH_ready (rs := [7]) (by kernel_rfl) (by simp) ?_
  refine AllReadyH.cons rfl (fun K hK => ?_) AllReadyH.nil
  simp only [List.getElem_toArray, List.getElem_cons_succ, List.getElem_cons_zero]
  go_simp
  refine hK.out _ _ c2 (fun hS => ?_)
  clear hK K
  refine wpAnyH_takeD 8 (some 4) (.int .i64 (pn : Int)) rfl rfl (by kernel_rfl) (by kernel_rfl) (by kernel_rfl) (fun _ _ _ h => h) (Or.inl ⟨by rfl, fun w hSw => by have q1 : _ = _ := hSw; go_simp⟩) hS ?_
  simp only [Act.put, List.setIfInBounds_toArray, List.set_cons_zero, List.set_cons_succ]
  refine wpAnyH_done (by kernel_rfl) ?_ _
  go_wp2
  go_ret
  exact ⟨rfl, (Below.refl _ w).drew⟩
theorem mhas_any {w : World} {mb pb a n : Nat} (h : MB w mb pb a n) (z : Int) : Calls Tryz.prog 45 #[.pointer (some ⟨mb, 0, none⟩), .int .i64 z] w fun e w' => e = .returned (.bool (decide (0 ≤ z) && decide (z < (n : Int)))) ∧ w' = w := by
  have c2 := h.c2
  clear h
  by_cases h0 : 0 ≤ z
  · have hd : decide ((0 : Int) ≤ z) = true := by simpa using h0
    rw [hd, Bool.true_and]
    clear h0
    generalize hdz : decide (z < (n : Int)) = dz at *
    go_enter Tryz.func45, Tryz.ntmps45
    go_wp2
    go_ret
    exact ⟨rfl, rfl⟩
  · have hd : decide ((0 : Int) ≤ z) = false := by simpa using h0
    rw [hd, Bool.false_and]
    clear h0
    go_enter Tryz.func45, Tryz.ntmps45
    go_wp2
    go_ret
    exact ⟨rfl, rfl⟩
theorem isCount_any (z : Int) (w : World) : Calls Tryz.prog 50 #[.int .i64 z] w fun e w' => e = .returned (.bool (decide (1 ≤ z) && decide (z ≤ 1024))) ∧ w' = w := by
  by_cases h0 : 1 ≤ z
  · have hd : decide ((1 : Int) ≤ z) = true := by simpa using h0
    rw [hd, Bool.true_and]
    clear h0
    generalize hdz : decide (z ≤ 1024) = dz at *
    go_enter Tryz.func50, Tryz.ntmps50
    go_wp2
    go_ret
    exact ⟨rfl, rfl⟩
  · have hd : decide ((1 : Int) ≤ z) = false := by simpa using h0
    rw [hd, Bool.false_and]
    clear h0
    go_enter Tryz.func50, Tryz.ntmps50
    go_wp2
    go_ret
    exact ⟨rfl, rfl⟩
theorem sectorOf_any (k : Nat) (b : ByteArray) (w : World) : Calls Tryz.prog 51 #[.int .i64 (k : Int), .string b] w fun e w' => e = .returned (.string (pgT k b)) ∧ Below w.heap.size w w' := by
  have HM := hide (fun W => make_any rep_ok 3 (k : Int) b W)
  have HP := hide (show pgT k b = makeB 3 (k : Int) b from rfl)
  generalize pgT k b = t at *
  generalize makeB 3 (k : Int) b = t2 at *
  generalize errM 3 (k : Int) b.size = er at *
  go_enter Tryz.func51, Tryz.ntmps51
  go_wp2_with (go_at_call 79; refine (unhide HM _).mono ?_; rintro e w1 ⟨rfl, hb⟩)
  go_ret
  exact ⟨by rw [unhide HP]; rfl, hb⟩
/-- Is this sector page k of a map? -/
def bdOk (t : ByteArray) (k : Nat) : Prop := prOk t ∧ pkd t = 3 ∧ pnm t = (k : Int) ∧ (pbd t).size = 32
instance (t : ByteArray) : Decidable (prOk t) := inferInstanceAs (Decidable (_ ∧ _))
instance (t : ByteArray) (k : Nat) : Decidable (bdOk t k) := inferInstanceAs (Decidable (_ ∧ _))
def bdT (t : ByteArray) (k : Nat) : ByteArray := if bdOk t k then pbd t else ⟨#[]⟩
theorem bd_page (k : Nat) (hk : k < 1024) (b : ByteArray) (hb : b.size = 32) : bdOk (pgT k b) k ∧ bdT (pgT k b) k = b := by
  obtain ⟨h1, h2, h3, h4⟩ := pgT_parse k hk b hb
  have h : bdOk (pgT k b) k := ⟨h1, h2, h3, by rw [h4]; exact hb⟩
  exact ⟨h, by rw [bdT, if_pos h, h4]⟩
set_option maxRecDepth 100000 in
set_option maxHeartbeats 1000000 in
theorem bodyOf_any (t : ByteArray) (ht : t.size ≤ 9223372036854775807) (k : Nat) (w : World) (hg : ETy w) : Calls Tryz.prog 73 #[.string t, .int .i64 (k : Int)] w fun e w' => e = .returned (.tuple #[.string (bdT t k), .bool (decide (bdOk t k))]) ∧ Below w.heap.size w w' := by
  have HP := hide (parse_any rep_ok t ht w hg)
  clear ht hg
  go_enter Tryz.func73, Tryz.ntmps73
  go_wp2_with fail
  refine (unhide HP).mono ?_
  rintro e x1 ⟨q, hb1⟩
  have HB1 := hide hb1
  clear HP hb1
  rcases q with ⟨hpr, rfl⟩ | ⟨hpr, rfl⟩
  · by_cases h : bdOk t k
    · have HT := hide (show bdT t k = pbd t ∧ decide (bdOk t k) = true from ⟨by rw [bdT, if_pos h], decide_eq_true h⟩)
      obtain ⟨h1, h2, h3, h4⟩ := h
      rw [h2, h3]
      have h4' : (((pbd t).size : Int) != 32) = false := by rw [h4]; rfl
      have h3' : ((k : Int) != (k : Int)) = false := by simp
      clear h1 h2 h3 hpr h4
      generalize pbd t = bd at *
      go_wp2
      go_ret2
      rw [(unhide HT).1, (unhide HT).2]
      exact ⟨rfl, (unhide HB1).trans (((Below.refl _ x1).alloc (Nat.le_refl _) _).mono (unhide HB1).size)⟩
    · have HT := hide (show bdT t k = ⟨#[]⟩ ∧ decide (bdOk t k) = false from ⟨by rw [bdT, if_neg h], decide_eq_false h⟩)
      have hc : ¬ (pkd t = 3 ∧ pnm t = (k : Int) ∧ (pbd t).size = 32) := fun q => h ⟨hpr, q.1, q.2.1, q.2.2⟩
      clear h hpr
      generalize pkd t = kd at *
      generalize pnm t = nm at *
      generalize pbd t = bd at *
      by_cases q1 : kd = 3
      · subst q1
        by_cases q2 : nm = (k : Int)
        · subst q2
          have q3 : ((bd.size : Int) != 32) = true := by
            simp only [true_and] at hc
            simp; omega
          have h3' : ((k : Int) != (k : Int)) = false := by simp
          clear hc
          go_wp2
          go_ret2
          rw [(unhide HT).1, (unhide HT).2]
          exact ⟨rfl, (unhide HB1).trans (((Below.refl _ x1).alloc (Nat.le_refl _) _).mono (unhide HB1).size)⟩
        · have q2' : (nm != (k : Int)) = true := by simpa using q2
          clear hc q2
          go_wp2
          go_ret2
          rw [(unhide HT).1, (unhide HT).2]
          exact ⟨rfl, (unhide HB1).trans (((Below.refl _ x1).alloc (Nat.le_refl _) _).mono (unhide HB1).size)⟩
      · have q1' : (kd != 3) = true := by simpa using q1
        clear hc q1
        go_wp2
        go_ret2
        rw [(unhide HT).1, (unhide HT).2]
        exact ⟨rfl, (unhide HB1).trans (((Below.refl _ x1).alloc (Nat.le_refl _) _).mono (unhide HB1).size)⟩
  · have h : ¬ bdOk t k := fun q => hpr q.1
    have HT := hide (show bdT t k = ⟨#[]⟩ ∧ decide (bdOk t k) = false from ⟨by rw [bdT, if_neg h], decide_eq_false h⟩)
    clear h hpr
    go_wp2
    go_ret2
    rw [(unhide HT).1, (unhide HT).2]
    exact ⟨rfl, (unhide HB1).trans (((Below.refl _ x1).alloc (Nat.le_refl _) _).mono (unhide HB1).size)⟩
end Go.Proofs.YtjiigapphhekmaaGreatDoor

namespace Go.Proofs.YtjiigapphhekmaaGreatDoor
open Go.RowKit Go.Maps
/-- What a map from numbers to texts holds, by rising numbers. -/
abbrev Tx := List (Int × ByteArray)
def litS (s : ByteArray) : DataW Unit := .lit (.string s.data.toList)
def txE (l : Tx) : List (Lit × DataW Unit) := l.map fun p => (Lit.int .i64 p.1, litS p.2)
def txD (l : Tx) : DataW Unit := .map (txE l)
def txIns (k : Int) (s : ByteArray) : Tx → Tx
  | [] => [(k, s)]
  | p :: r => if k < p.1 then (k, s) :: p :: r else p :: txIns k s r
def txDel (k : Int) (l : Tx) : Tx := l.filter fun p => !(p.1 == k)
def txPut (k : Int) (s : ByteArray) (l : Tx) : Tx := txIns k s (txDel k l)
def txAt (l : Tx) (k : Int) : Option ByteArray := (l.find? fun p => p.1 == k).map (·.2)
def Srt (l : Tx) : Prop := l.Pairwise fun p q => p.1 < q.1
def txWf (l : Tx) : Prop := ∀ p ∈ l, -9223372036854775808 ≤ p.1 ∧ p.1 ≤ 9223372036854775807
theorem sameInt (a b : Int) : (Lit.int .i64 a).sameKey (.int .i64 b) = (a == b) := by
  by_cases h : a = b <;> simp [Lit.sameKey, h]
theorem txE_ins (k : Int) (s : ByteArray) (l : Tx) : DataW.insert (Lit.int .i64 k, litS s) (txE l) = txE (txIns k s l) := by
  induction l with
  | nil => rfl
  | cons p r ih =>
    show DataW.insert _ ((Lit.int .i64 p.1, litS p.2) :: txE r) = _
    by_cases h : k < p.1
    · simp [DataW.insert, txIns, Lit.before, h, txE]
    · simp [DataW.insert, txIns, Lit.before, h, ih]
      simp [txE]
theorem txE_del (k : Int) (l : Tx) : ((txE l).filter fun p => !p.1.sameKey (.int .i64 k)) = txE (txDel k l) := by
  unfold txE txDel
  rw [List.filter_map]
  congr 1
  exact List.filter_congr (fun p _ => by simp [sameInt])
theorem txD_del (k : Int) (l : Tx) : (txD l).del (.int .i64 k) = txD (txDel k l) := by
  show DataW.map _ = DataW.map _
  rw [txE_del]
theorem txD_put (k : Int) (s : ByteArray) (l : Tx) : (txD l).put (.int .i64 k) (litS s) = txD (txPut k s l) := by
  show DataW.map _ = DataW.map _
  rw [txE_del, txE_ins]
  rfl
theorem txD_find (k : Int) (l : Tx) : ((txE l).find? fun p => p.1.sameKey (.int .i64 k)) = (l.find? fun p => p.1 == k).map fun p => (Lit.int .i64 p.1, litS p.2) := by
  unfold txE
  rw [List.find?_map]
  congr 2
  funext p
  simp [sameInt]
theorem txD_at (k : Int) (l : Tx) (z : DataW Unit) : (txD l).atKey (.int .i64 k) z = match txAt l k with | some s => litS s | none => z := by
  unfold DataW.atKey txD
  simp only [txD_find]
  unfold txAt
  cases l.find? (fun p => p.1 == k) <;> rfl
theorem txD_has (k : Int) (l : Tx) : Maps.has (txD l) (.int .i64 k) = (txAt l k).isSome := by
  have h : ((txE l).find? fun p => p.1.sameKey (.int .i64 k)).isSome = (txE l).any fun p => p.1.sameKey (.int .i64 k) := by
    rw [Bool.eq_iff_iff]; simp [List.find?_isSome]
  show (txE l).any (fun p => p.1.sameKey (.int .i64 k)) = _
  rw [← h, txD_find, txAt]
  cases l.find? (fun p => p.1 == k) <;> rfl
theorem txD_size (l : Tx) : Maps.size (txD l) = l.length := by simp [txD, txE, size_eq]
theorem txD_keys (l : Tx) : intKeys (txD l) = l.map (·.1) := by
  show (txE l).map _ = _
  unfold txE
  rw [List.map_map]
  rfl
theorem mem_ins (k : Int) (s : ByteArray) (l : Tx) (p : Int × ByteArray) : p ∈ txIns k s l ↔ p = (k, s) ∨ p ∈ l := by
  induction l with
  | nil => simp [txIns]
  | cons q r ih =>
    unfold txIns
    split
    · simp
    · simp only [List.mem_cons, ih]
      constructor
      · rintro (h | h | h)
        · exact .inr (.inl h)
        · exact .inl h
        · exact .inr (.inr h)
      · rintro (h | h | h)
        · exact .inr (.inl h)
        · exact .inl h
        · exact .inr (.inr h)
theorem mem_del (k : Int) (l : Tx) (p : Int × ByteArray) : p ∈ txDel k l ↔ p ∈ l ∧ p.1 ≠ k := by
  simp [txDel, List.mem_filter]
theorem srt_del {l : Tx} (h : Srt l) (k : Int) : Srt (txDel k l) := List.Pairwise.filter _ h
theorem srt_ins {l : Tx} (h : Srt l) (k : Int) (s : ByteArray) (hk : ∀ p ∈ l, p.1 ≠ k) : Srt (txIns k s l) := by
  induction l with
  | nil => simp [txIns, Srt]
  | cons q r ih =>
    obtain ⟨h1, h2⟩ := List.pairwise_cons.1 h
    unfold txIns
    split
    · rename_i hq
      refine List.pairwise_cons.2 ⟨fun p hp => ?_, h⟩
      rcases List.mem_cons.1 hp with rfl | hp
      · exact hq
      · exact Int.lt_trans hq (h1 p hp)
    · rename_i hq
      have hne := hk q (by simp)
      refine List.pairwise_cons.2 ⟨fun p hp => ?_, ih h2 (fun p hp => hk p (by simp [hp]))⟩
      rcases (mem_ins k s r p).1 hp with rfl | hp
      · show q.1 < k; omega
      · exact h1 p hp
theorem srt_put {l : Tx} (h : Srt l) (k : Int) (s : ByteArray) : Srt (txPut k s l) := srt_ins (srt_del h k) k s (fun p hp => ((mem_del k l p).1 hp).2)
theorem ins_len (k : Int) (s : ByteArray) (l : Tx) : (txIns k s l).length = l.length + 1 := by
  induction l with
  | nil => rfl
  | cons q r ih =>
    unfold txIns
    split
    · rfl
    · simp [ih]
theorem at_none {l : Tx} {k : Int} : txAt l k = none ↔ ∀ p ∈ l, p.1 ≠ k := by
  unfold txAt
  rw [Option.map_eq_none_iff, List.find?_eq_none]
  constructor
  · intro h p hp e; exact h p hp (by simp [e])
  · intro h p hp e; exact h p hp (by simpa using e)
theorem at_some {l : Tx} (h : Srt l) {k : Int} {s : ByteArray} : txAt l k = some s ↔ (k, s) ∈ l := by
  induction l with
  | nil => simp [txAt]
  | cons q r ih =>
    obtain ⟨h1, h2⟩ := List.pairwise_cons.1 h
    have ih := ih h2
    unfold txAt at ih ⊢
    by_cases e : q.1 = k
    · have : (q.1 == k) = true := by simp [e]
      rw [List.find?_cons_of_pos (by simpa using this)]
      simp only [Option.map_some, Option.some.injEq, List.mem_cons]
      constructor
      · intro h; left; rw [← e, ← h]
      · rintro (h | h)
        · rw [← h]
        · have := h1 _ h; simp only at this; omega
    · have : ¬ ((q.1 == k) = true) := by simp [e]
      rw [List.find?_cons_of_neg (by simpa using this), ih]
      simp only [List.mem_cons]
      constructor
      · exact .inr
      · rintro (h | h)
        · rw [← h] at e; exact absurd rfl e
        · exact h
theorem del_skip {l : Tx} {k : Int} (h : txAt l k = none) : txDel k l = l := List.filter_eq_self.2 (fun p hp => by simpa using at_none.1 h p hp)
theorem del_len {l : Tx} (h : Srt l) {k : Int} {s : ByteArray} (hs : txAt l k = some s) : (txDel k l).length + 1 = l.length := by
  induction l with
  | nil => simp [txAt] at hs
  | cons q r ih =>
    obtain ⟨h1, h2⟩ := List.pairwise_cons.1 h
    by_cases e : q.1 = k
    · have hr : txDel k r = r := List.filter_eq_self.2 (fun p hp => by have := h1 p hp; simp; omega)
      have : txDel k (q :: r) = txDel k r := by unfold txDel; rw [List.filter_cons_of_neg (by simp [e])]
      rw [this, hr]; rfl
    · have e1 : txDel k (q :: r) = q :: txDel k r := by unfold txDel; rw [List.filter_cons_of_pos (by simp [e])]
      have e2 : txAt r k = some s := by
        unfold txAt at hs ⊢
        rwa [List.find?_cons_of_neg (by simp [e])] at hs
      rw [e1, List.length_cons, List.length_cons, ih h2 e2]
theorem put_len {l : Tx} (h : Srt l) (k : Int) (s : ByteArray) : (txPut k s l).length = if (txAt l k).isSome then l.length else l.length + 1 := by
  unfold txPut
  rw [ins_len]
  cases e : txAt l k with
  | none => rw [del_skip e]; rfl
  | some x => rw [del_len h e]; rfl
theorem at_put {l : Tx} (h : Srt l) (k : Int) (s : ByteArray) (i : Int) : txAt (txPut k s l) i = if i = k then some s else txAt l i := by
  have hs := srt_put h k s
  split
  · rename_i e
    subst e
    rw [at_some hs]
    exact (mem_ins _ _ _ _).2 (.inl rfl)
  · rename_i e
    have key : ∀ t, txAt (txPut k s l) i = some t ↔ txAt l i = some t := fun t => by
      rw [at_some hs, at_some h]
      unfold txPut
      rw [mem_ins, mem_del]
      constructor
      · rintro (q | q)
        · cases q; exact absurd rfl e
        · exact q.1
      · intro q; exact .inr ⟨q, e⟩
    cases q : txAt l i with
    | some t => exact (key t).2 q
    | none =>
      cases q' : txAt (txPut k s l) i with
      | none => rfl
      | some t => rw [(key t).1 q'] at q; cases q
theorem at_del {l : Tx} (h : Srt l) (k : Int) (i : Int) : txAt (txDel k l) i = if i = k then none else txAt l i := by
  have hs := srt_del h k
  split
  · rename_i e
    subst e
    exact at_none.2 (fun p hp => ((mem_del _ _ _).1 hp).2)
  · rename_i e
    have key : ∀ t, txAt (txDel k l) i = some t ↔ txAt l i = some t := fun t => by
      rw [at_some hs, at_some h, mem_del]
      exact ⟨fun q => q.1, fun q => ⟨q, e⟩⟩
    cases q : txAt l i with
    | some t => exact (key t).2 q
    | none =>
      cases q' : txAt (txDel k l) i with
      | none => rfl
      | some t => rw [(key t).1 q'] at q; cases q
/-- The numbers, sorted: they stand so already. -/
theorem keys_sorted {l : Tx} (h : Srt l) {ss : List Int} (hp : ss.Perm (intKeys (txD l))) : (ss.mergeSort fun x y => decide (x ≤ y)) = l.map (·.1) := by
  rw [txD_keys] at hp
  refine List.Perm.eq_of_pairwise (le := fun a b : Int => a ≤ b) (fun a b _ _ h1 h2 => Int.le_antisymm h1 h2) ?_ ?_ ((List.mergeSort_perm ss _).trans hp)
  · have := List.pairwise_mergeSort (le := fun x y : Int => decide (x ≤ y)) (fun a b c h1 h2 => by simp only [decide_eq_true_eq] at *; omega) (fun a b => by simp only [Bool.or_eq_true, decide_eq_true_eq]; omega) ss
    exact this.imp (fun q => by simpa using q)
  · exact List.pairwise_map.2 (h.imp (fun q => Int.le_of_lt q))
end Go.Proofs.YtjiigapphhekmaaGreatDoor
