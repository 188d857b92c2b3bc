import Derived.Test.YtilhilglokblpaaDoorQma
namespace Go.Proofs.YtilhilglokblpaaDoor
open Go.RowKit
set_option maxRecDepth 100000
def lenV (y : Nat) : Nat := if y = 0 then 0 else Nat.log2 y + 1
def L8 : ByteArray := { data := (([0, 1, 2, 2, 3, 3, 3, 3, 4, 4, 4, 4, 4, 4, 4, 4, 5, 5, 5, 5, 5, 5, 5, 5, 5, 5, 5, 5, 5, 5, 5, 5, 6, 6, 6, 6, 6, 6, 6, 6, 6, 6, 6, 6, 6, 6, 6, 6, 6, 6, 6, 6, 6, 6, 6, 6, 6, 6, 6, 6, 6, 6, 6, 6].append [7, 7, 7, 7, 7, 7, 7, 7, 7, 7, 7, 7, 7, 7, 7, 7, 7, 7, 7, 7, 7, 7, 7, 7, 7, 7, 7, 7, 7, 7, 7, 7, 7, 7, 7, 7, 7, 7, 7, 7, 7, 7, 7, 7, 7, 7, 7, 7, 7, 7, 7, 7, 7, 7, 7, 7, 7, 7, 7, 7, 7, 7, 7, 7]).append ([8, 8, 8, 8, 8, 8, 8, 8, 8, 8, 8, 8, 8, 8, 8, 8, 8, 8, 8, 8, 8, 8, 8, 8, 8, 8, 8, 8, 8, 8, 8, 8, 8, 8, 8, 8, 8, 8, 8, 8, 8, 8, 8, 8, 8, 8, 8, 8, 8, 8, 8, 8, 8, 8, 8, 8, 8, 8, 8, 8, 8, 8, 8, 8].append [8, 8, 8, 8, 8, 8, 8, 8, 8, 8, 8, 8, 8, 8, 8, 8, 8, 8, 8, 8, 8, 8, 8, 8, 8, 8, 8, 8, 8, 8, 8, 8, 8, 8, 8, 8, 8, 8, 8, 8, 8, 8, 8, 8, 8, 8, 8, 8, 8, 8, 8, 8, 8, 8, 8, 8, 8, 8, 8, 8, 8, 8, 8, 8])).toArray }
theorem L8_val : (List.range 256).all (fun y => (nums L8).getD y 0 == (lenV y : Int)) = true := by kernel_rfl
theorem L8_at (y : Nat) (hy : y < 256) : (nums L8).getD y 0 = (lenV y : Int) := by
  have h := List.all_eq_true.1 L8_val y (List.mem_range.2 hy)
  simpa using h
theorem L8_size : L8.size = 256 := by kernel_rfl
theorem index_u8 (t : ByteArray) (i : Nat) (hi : i < t.size) (w : World) : (Instr.index 9 (.string t) (.int .u8 (i : Int))).run Tryd.prog w = .ok (.int .u8 ((nums t).getD i 0)) w := by
  have h1 : (nums t).getD i 0 = ((t[i]'hi).toNat : Int) := by
    have hl : i < t.data.toList.length := by simpa using hi
    simp only [nums, List.getD_eq_getElem?_getD, List.getElem?_map]
    rw [List.getElem?_eq_getElem hl]
    simp
    rfl
  have h2 : t[i]? = some (t[i]'hi) := by simp [hi]
  rw [h1]
  simp only [Instr.index, asIntOf, Sem.run_bind, Sem.run_pure, Result.andThen_ok, run_underlying Tryd.underlying9]
  have h0 : (0 : Int) ≤ (i : Int) := by omega
  simp [h2]
theorem wpList_idx8 {ops : Array Oper} {rest : List Oper} {op : Oper} {a : Act} {w : World} {Q : Exit → Act → World → Prop} (hgd : op.guard = none) (c x : Operand) (hop : op.op = Op.index 9 c x) (s : ByteArray) (y : Nat) (hc : a.eval c = .string s) (hx : a.eval x = .int .u8 (y : Int)) (hy : y < s.size) (v : Int) (hv : (nums s).getD y 0 = v)
    (h : wpList Tryd.prog ops Q rest (a.put op.dst (.int .u8 v)) w) : wpList Tryd.prog ops Q (op :: rest) a w := by
  refine wpList_plain hgd fun K hK => ?_
  have hrun := index_u8 s y hy w
  rw [hv] at hrun
  unfold Oper.wp
  simp only [execOp, hop, hc, hx, Sem.run_bind, Sem.run_pure, hrun, Result.andThen_ok]
  exact hK _ _ h
theorem lenV_div (x : Nat) (h : 256 ≤ x) : lenV x = 8 + lenV (x / 256) := by
  have h0 : x / 256 ≠ 0 := by omega
  unfold lenV
  rw [if_neg (by omega), if_neg h0]
  have h1 : Nat.log2 x = Nat.log2 (x / 256) + 8 := by
    refine (Nat.log2_eq_iff (by omega)).2 ?_
    have a1 := Nat.log2_self_le h0
    have a2 := Nat.lt_log2_self (n := x / 256)
    rw [show Nat.log2 (x / 256) + 8 + 1 = (Nat.log2 (x / 256) + 1) + 8 from by omega, Nat.pow_add, Nat.pow_add]
    constructor
    · omega
    · omega
  omega
theorem lenV_lt (y : Nat) (h : y < 256) : lenV y ≤ 8 := by
  unfold lenV
  split
  · omega
  · have := (Nat.log2_lt (k := 8) (by assumption)).2 (by simpa using h)
    omega
theorem u8wrap (y : Nat) (h : y < 256) : IntKind.u8.wrap (y : Int) = (y : Int) := by
  have : (y : Int) % 256 = y := Int.emod_eq_of_lt (by omega) (by omega)
  simp [IntKind.wrap, IntKind.bits, IntKind.signed, this]
set_option maxHeartbeats 1000000 in
theorem len64_any (x : Nat) (hx : x < 65536) (w : World) : Calls Tryd.prog 62 #[.int .u64 (x : Int)] w fun e w' => e = .returned (.int .i64 (lenV x : Int)) ∧ w' = w := by
  have h1 : ¬ (4294967296 : Int) ≤ (x : Int) := by omega
  have h2 : ¬ (65536 : Int) ≤ (x : Int) := by omega
  by_cases h : x < 256
  · have h3 : ¬ (256 : Int) ≤ (x : Int) := by omega
    have hw := u8wrap x h
    have hl := lenV_lt x h
    have HV := hide (And.intro h (L8_at x h))
    generalize lenV x = v at *
    clear hx
    go_enter Tryd.func62, Tryd.ntmps62
    go_wp2_with (refine wpList_idx8 rfl _ (.tmp 21) rfl L8 x rfl rfl (by rw [L8_size]; exact (unhide HV).1) _ (unhide HV).2 ?_)
    go_ret
    exact ⟨by first | rfl | (congr 2; omega), rfl⟩
  · have h3 : (256 : Int) ≤ (x : Int) := by omega
    have hd : (x : Int) / 2 ^ 8 = ((x / 256 : Nat) : Int) := by omega
    have hd2 : (x : Int) / 256 = ((x / 256 : Nat) : Int) := by omega
    rw [lenV_div x (by omega)]
    have hy : x / 256 < 256 := by omega
    obtain ⟨y, hye⟩ : ∃ y, x / 256 = y := ⟨_, rfl⟩
    rw [hye] at hd hd2 hy ⊢
    clear hye
    have hw := u8wrap y hy
    have hl := lenV_lt y hy
    have HV := hide (And.intro hy (L8_at y hy))
    generalize lenV y = v at *
    go_enter Tryd.func62, Tryd.ntmps62
    go_wp2_with (refine wpList_idx8 rfl _ (.tmp 21) rfl L8 y rfl rfl (by rw [L8_size]; exact (unhide HV).1) _ (unhide HV).2 ?_)
    go_ret
    exact ⟨by first | rfl | (congr 2; omega), rfl⟩
theorem len_any (x : Nat) (hx : x < 65536) (w : World) : Calls Tryd.prog 54 #[.int .u64 (x : Int)] w fun e w' => e = .returned (.int .i64 (lenV x : Int)) ∧ w' = w := by
  have HL := hide (len64_any x hx w)
  go_enter Tryd.func54, Tryd.ntmps54
  go_wp2_with fail
  refine (unhide HL).mono ?_
  rintro e z ⟨rfl, hz⟩
  subst z
  go_wp2
  go_ret
  exact ⟨rfl, rfl⟩
set_option maxHeartbeats 1000000 in
theorem firstPart_any (n : Nat) (h2 : 2 ≤ n) (hn : n ≤ 65536) (w : World) : Calls Tryd.prog 41 #[.int .i64 (n : Int)] w fun e w' => e = .returned (.int .i64 (kk n : Int)) ∧ w' = w := by
  obtain ⟨x, rfl⟩ : ∃ x, n = x + 1 := ⟨n - 1, by omega⟩
  have HL := hide (len_any x (by omega) w)
  have hk : lenV x = Nat.log2 x + 1 := if_neg (by omega)
  rw [hk] at HL
  have hkk : kk (x + 1) = 2 ^ Nat.log2 x := rfl
  have hle : 2 ^ Nat.log2 x ≤ x := Nat.log2_self_le (by omega)
  have hlt : Nat.log2 x < 16 := (Nat.log2_lt (by omega)).2 (by omega)
  rw [hkk]
  generalize Nat.log2 x = q at *
  have e1 : ((x + 1 : Nat) : Int) - 1 = (x : Int) := by omega
  have e2 : IntKind.i64.wrap (x : Int) = (x : Int) := wrapI_eq _ (by omega) (by omega)
  have e3 : IntKind.u64.wrap (x : Int) = (x : Int) := by
    have : (x : Int) % 18446744073709551616 = x := Int.emod_eq_of_lt (by omega) (by omega)
    simp [IntKind.wrap, IntKind.bits, IntKind.signed, this]
  have e4 : ((q + 1 : Nat) : Int) - 1 = (q : Int) := by omega
  have e5 : IntKind.i64.wrap (q : Int) = (q : Int) := wrapI_eq _ (by omega) (by omega)
  have e7 : ((2 ^ q : Nat) : Int) = 2 ^ q := by simp
  have e6 : IntKind.i64.wrap (1 * 2 ^ q) = ((2 ^ q : Nat) : Int) := by
    rw [Int.one_mul, ← e7]
    exact wrapI_eq _ (by omega) (by omega)
  have e8 : IntKind.i64.wrap (2 ^ q) = ((2 ^ q : Nat) : Int) := by rw [← Int.one_mul (2 ^ q)]; exact e6
  clear hk hkk hle h2 e7
  go_enter Tryd.func41, Tryd.ntmps41
  go_wp2_with fail
  refine (unhide HL).mono ?_
  rintro e z ⟨rfl, hz⟩
  subst z
  go_wp2
  go_ret
  exact ⟨rfl, rfl⟩
end Go.Proofs.YtilhilglokblpaaDoor
