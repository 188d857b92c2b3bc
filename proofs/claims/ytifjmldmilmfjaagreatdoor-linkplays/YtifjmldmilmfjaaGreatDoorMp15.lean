import Derived.Test.YtifjmldmilmfjaaGreatDoorMp09
import Derived.Test.YtifjmldmilmfjaaGreatDoorMp03
import Derived.Laws.LoneSync
import Derived.Test.YtifjmldmilmfjaaGreatDoorMp14
import Derived.BigQuiet
namespace Go.Proofs.YtifjmldmilmfjaaGreatDoor
open Go.RowKit
set_option maxRecDepth 100000
/-- sync/atomic.OrT: the bits of both are stored, the old ones handed back. -/
theorem run_call_orT {P : Program} {f : FuncId} {fn : Func} (hf : P.funcs[f]? = some fn) (hname : (fn.name == "runtime.NumGoroutine") = false) (hb : fn.body.isNone = true) (hn : Extern.findNext fn = none) (k : IntKind)
    (he : Extern.find fn = some (Extern.Atomic.update (Op.intBits .or) k false)) {a : Addr} {x y s : Int} {w : World} (hc : w.cell? a = some (.int k x)) (hz : w.frozen? a = false)
    (hs : (Op.intBits .or k x y).run P w = .ok (.int k s) w) :
    (callFunc f #[.pointer (some a), .int k y]).run P w = .ok (.value (.int k x)) (w.setCell a (.int k s)) := by
  rw [run_callFunc_extern hf hname hb hn he]
  change (Sem.run P (do
    let a' ← asAddr (.pointer (some a))
    let old ← Extern.Atomic.read (.int k) a'
    let new ← Op.intBits .or k (← asInt old) (← asInt (.int k y))
    store a' new .atomic
    pure (if false = true then new else old)) w).andThen _ = _
  simp [Extern.Atomic.read, asAddr, asInt, asIntOf, hc, hz, hs, run_store P w a (.int k s) .atomic rfl, Result.andThen]
theorem load64_any (g o : Nat) (x : Int) (w : World) (hc : w.cell? ⟨g, o, none⟩ = some (.int .u64 x)) : Calls Tryz.prog 51 #[.pointer (some ⟨g, o, none⟩)] w fun e w' => e = .returned (.int .u64 x) ∧ w' = w := by
  have hl := run_call_load (P := Tryz.prog) Tryz.func76 (by kernel_rfl) (by kernel_rfl) (by kernel_rfl) .u64 (by kernel_rfl) hc
  go_enter Tryz.func51, Tryz.ntmps51
  go_wp2
  go_ret
  exact ⟨rfl, rfl⟩
theorem load32_any (g o : Nat) (x : Int) (w : World) (hc : w.cell? ⟨g, o, none⟩ = some (.int .u32 x)) : Calls Tryz.prog 52 #[.pointer (some ⟨g, o, none⟩)] w fun e w' => e = .returned (.int .u32 x) ∧ w' = w := by
  have hl := run_call_load (P := Tryz.prog) Tryz.func77 (by kernel_rfl) (by kernel_rfl) (by kernel_rfl) .u32 (by kernel_rfl) hc
  go_enter Tryz.func52, Tryz.ntmps52
  go_wp2
  go_ret
  exact ⟨rfl, rfl⟩
theorem or32_any (g o : Nat) (x y : Int) (w : World) (hc : w.cell? ⟨g, o, none⟩ = some (.int .u32 x)) (hz : w.frozen? ⟨g, o, none⟩ = false) : Calls Tryz.prog 53 #[.pointer (some ⟨g, o, none⟩), .int .u32 y] w fun e w' => e = .returned (.int .u32 x) ∧ w' = w.setCell ⟨g, o, none⟩ (.int .u32 (bits .or .u32 x y)) := by
  have hl := run_call_orT (P := Tryz.prog) Tryz.func78 (by kernel_rfl) (by kernel_rfl) (by kernel_rfl) .u32 (by kernel_rfl) (y := y) (s := bits .or .u32 x y) hc hz (by simp [go_sem])
  go_enter Tryz.func53, Tryz.ntmps53
  go_wp2
  go_ret
  exact ⟨rfl, rfl⟩
theorem store32_any (g o : Nat) (x y : Int) (w : World) (hc : w.cell? ⟨g, o, none⟩ = some (.int .u32 x)) (hz : w.frozen? ⟨g, o, none⟩ = false) : Calls Tryz.prog 54 #[.pointer (some ⟨g, o, none⟩), .int .u32 y] w fun e w' => e = .returned (.tuple #[]) ∧ w' = w.setCell ⟨g, o, none⟩ (.int .u32 y) := by
  have hl := run_call_store (P := Tryz.prog) Tryz.func79 (by kernel_rfl) (by kernel_rfl) (by kernel_rfl) (by kernel_rfl) (k := .u32) (y := y) hc hz
  go_enter Tryz.func54, Tryz.ntmps54
  go_wp2
  exact ⟨rfl, .tuple #[], by simp [results], rfl, rfl⟩
theorem store64_any (g o : Nat) (x y : Int) (w : World) (hc : w.cell? ⟨g, o, none⟩ = some (.int .u64 x)) (hz : w.frozen? ⟨g, o, none⟩ = false) : Calls Tryz.prog 55 #[.pointer (some ⟨g, o, none⟩), .int .u64 y] w fun e w' => e = .returned (.tuple #[]) ∧ w' = w.setCell ⟨g, o, none⟩ (.int .u64 y) := by
  have hl := run_call_store (P := Tryz.prog) Tryz.func80 (by kernel_rfl) (by kernel_rfl) (by kernel_rfl) (by kernel_rfl) (k := .u64) (y := y) hc hz
  go_enter Tryz.func55, Tryz.ntmps55
  go_wp2
  exact ⟨rfl, .tuple #[], by simp [results], rfl, rfl⟩
theorem and32one (c : Nat) (h : c < 4294967296) : bits .and .u32 (c : Int) 1 = ((c % 2 : Nat) : Int) := by
  have hx : c &&& 1 = c % 2 := Nat.and_one_is_mod c
  have h1 : (BitVec.ofInt 32 (c : Int)).toNat = c := by
    rw [BitVec.ofInt_natCast, BitVec.toNat_ofNat]; exact Nat.mod_eq_of_lt (by omega)
  have h2 : (BitVec.ofInt 32 (1 : Int)).toNat = 1 := by decide
  show IntKind.u32.wrap ((BitVec.ofInt 32 (c : Int) &&& BitVec.ofInt 32 (1 : Int)).toNat : Int) = _
  rw [BitVec.toNat_and, h1, h2, hx, IntKind.wrap_u32]
  omega
theorem or32 (a b : Nat) (ha : a < 4294967296) (hb : b < 4294967296) : bits .or .u32 (a : Int) (b : Int) = ((a ||| b : Nat) : Int) := by
  have h1 : (BitVec.ofInt 32 (a : Int)).toNat = a := by
    rw [BitVec.ofInt_natCast, BitVec.toNat_ofNat]; exact Nat.mod_eq_of_lt (by omega)
  have h2 : (BitVec.ofInt 32 (b : Int)).toNat = b := by
    rw [BitVec.ofInt_natCast, BitVec.toNat_ofNat]; exact Nat.mod_eq_of_lt (by omega)
  show IntKind.u32.wrap ((BitVec.ofInt 32 (a : Int) ||| BitVec.ofInt 32 (b : Int)).toNat : Int) = _
  have hl : a ||| b < 4294967296 := Nat.or_lt_two_pow (n := 32) ha hb
  rw [BitVec.toNat_or, h1, h2, IntKind.wrap_u32]
  omega
theorem bit32 (m d : Nat) (hm : m < 4294967296) : (bits .and .u32 ((m : Int) / 2 ^ d) 1 == 1) = decide (m / 2 ^ d % 2 = 1) := by
  have e : ((m : Int) / 2 ^ d) = ((m / 2 ^ d : Nat) : Int) := by simp
  have h1 := Nat.div_le_self m (2 ^ d)
  rw [e, and32one _ (by omega)]
  generalize m / 2 ^ d % 2 = z
  by_cases h : z = 1
  · subst h; rfl
  · rw [decide_eq_false h]
    simp
    omega
set_option maxHeartbeats 1000000 in
theorem isOld_any (g o t m n : Nat) (ht : t ≤ 9223372036854775808) (hm : m < 4294967296) (w : World) (h0 : w.cell? ⟨g, o, none⟩ = some (.int .u64 (t : Int))) (h1 : w.cell? ⟨g, o + 1, none⟩ = some (.int .u32 (m : Int))) : Calls Tryz.prog 31 #[.pointer (some ⟨g, o, none⟩), .int .u64 (n : Int)] w fun e w' => e = .returned (.bool (decide (n < t ∧ (32 ≤ t - 1 - n ∨ m / 2 ^ (t - 1 - n) % 2 = 1)))) ∧ w' = w := by
  have H0 := hide (load64_any g o (t : Int) w h0)
  have H1 := hide (load32_any g (o + 1) (m : Int) w h1)
  obtain ⟨B, hB⟩ : ∃ B, decide (n < t ∧ (32 ≤ t - 1 - n ∨ m / 2 ^ (t - 1 - n) % 2 = 1)) = B := ⟨_, rfl⟩
  rw [hB]
  have HB := hide hB
  clear hB
  go_enter Tryz.func31, Tryz.ntmps31
  go_wp2_with fail
  refine (unhide H0).mono ?_
  rintro e y ⟨rfl, rfl⟩
  by_cases hn : n < t
  · have e1 : ¬ (n : Int) ≥ (t : Int) := by omega
    have e1' : ¬ (t : Int) ≤ (n : Int) := by omega
    obtain ⟨d, hd⟩ : ∃ d, t - 1 - n = d := ⟨_, rfl⟩
    have e2 : IntKind.u64.wrap ((t : Int) - 1) = (t : Int) - 1 := by rw [IntKind.wrap_u64]; omega
    have e3 : IntKind.u64.wrap ((t : Int) - 1 - (n : Int)) = (d : Int) := by rw [IntKind.wrap_u64]; omega
    by_cases h32 : 32 ≤ d
    · have e4 : decide ((d : Int) ≥ 32) = true := decide_eq_true (by omega)
      have e4' : decide ((32 : Int) ≤ (d : Int)) = true := decide_eq_true (by omega)
      have HE := hide (show true = B from by rw [← unhide HB]; exact (decide_eq_true ⟨hn, .inl (by omega)⟩).symm)
      clear hd
      go_wp2
      go_ret
      exact ⟨by cases unhide HE; rfl, rfl⟩
    · have e4 : decide ((d : Int) ≥ 32) = false := decide_eq_false (by omega)
      have e4' : decide ((32 : Int) ≤ (d : Int)) = false := decide_eq_false (by omega)
      have HE := hide (show decide (m / 2 ^ d % 2 = 1) = B from by rw [← unhide HB, hd]; simp [hn, h32])
      clear hd
      go_wp2_with fail
      refine (unhide H1).mono ?_
      rintro e y ⟨rfl, rfl⟩
      go_wp2
      go_ret
      refine ⟨?_, rfl⟩
      rw [← unhide HE, ← bit32 m d hm]
      rfl
  · have e1 : (n : Int) ≥ (t : Int) := by omega
    have e1' : (t : Int) ≤ (n : Int) := by omega
    have HE := hide (show false = B from by rw [← unhide HB]; exact (decide_eq_false (fun h => hn h.1)).symm)
    go_wp2
    go_ret
    exact ⟨by cases unhide HE; rfl, rfl⟩
/-- what a window keeps behind a number -/
def mkT (t n : Nat) : Nat := if n < t then t else n + 1
def mkM (t m n : Nat) : Nat := if n < t then m ||| 2 ^ (t - 1 - n) else m * 2 ^ min (n + 1 - t) 32 % 4294967296 ||| 1
set_option maxHeartbeats 1000000 in
theorem mark_any (g o t m n : Nat) (ht : t ≤ 9223372036854775808) (hn9 : n < 9223372036854775808) (hm : m < 4294967296) (hnew : n < t → t - 1 - n < 32) (cs : Array Value) (T : TypeId) (w : World) (hB : Blk w g cs T) (c0 : cs[o]? = some (.int .u64 (t : Int))) (c1 : cs[o + 1]? = some (.int .u32 (m : Int))) : Calls Tryz.prog 32 #[.pointer (some ⟨g, o, none⟩), .int .u64 (n : Int)] w fun e w' => e = .returned (.tuple #[]) ∧ Blk w' g ((cs.setIfInBounds (o + 1) (.int .u32 (mkM t m n : Nat))).setIfInBounds o (.int .u64 (mkT t n : Nat))) T ∧ Only (fun k => k = g) w w' := by
  have h0 : w.cell? ⟨g, o, none⟩ = some (.int .u64 (t : Int)) := (hB.cell o).trans c0
  have h1 : w.cell? ⟨g, o + 1, none⟩ = some (.int .u32 (m : Int)) := (hB.cell (o + 1)).trans c1
  have f0 := hB.frozen o
  have f1 := hB.frozen (o + 1)
  have H0 := hide (load64_any g o (t : Int) w h0)
  by_cases hn : n < t
  · have e1 : (n : Int) < (t : Int) := by omega
    obtain ⟨d, hd⟩ : ∃ d, t - 1 - n = d := ⟨_, rfl⟩
    have e2 : IntKind.u64.wrap ((t : Int) - 1) = (t : Int) - 1 := by rw [IntKind.wrap_u64]; omega
    have e3 : IntKind.u64.wrap ((t : Int) - 1 - (n : Int)) = (d : Int) := by rw [IntKind.wrap_u64]; omega
    have hd2 := hnew hn
    have hp : (2 : Nat) ^ d < 4294967296 := Nat.pow_lt_pow_right (a := 2) (by decide) (show d < 32 by omega)
    obtain ⟨u, hu⟩ : ∃ u : Nat, 2 ^ d = u := ⟨_, rfl⟩
    rw [hu] at hp
    have e5 : (2 ^ min d 32 % 4294967296 : Int) = (u : Int) := by
      rw [Nat.min_eq_left (by omega)]
      have : ((2 : Int) ^ d) = ((2 ^ d : Nat) : Int) := by simp
      rw [this, hu]
      omega
    have HO := hide (or32_any g (o + 1) (m : Int) (u : Int) w h1 f1)
    rw [or32 m u hm hp] at HO
    have hM : mkM t m n = m ||| u := by rw [mkM, if_pos hn, hd, hu]
    have hT : mkT t n = t := if_pos hn
    rw [hM, hT]
    have HZ := hide (show Blk (w.setCell ⟨g, o + 1, none⟩ (.int .u32 ((m ||| u : Nat) : Int))) g ((cs.setIfInBounds (o + 1) (.int .u32 ((m ||| u : Nat) : Int))).setIfInBounds o (.int .u64 (t : Int))) T from by
      have h2 := hB.set (o + 1) (.int .u32 ((m ||| u : Nat) : Int))
      have e : (cs.setIfInBounds (o + 1) (.int .u32 ((m ||| u : Nat) : Int))).setIfInBounds o (.int .u64 (t : Int)) = cs.setIfInBounds (o + 1) (.int .u32 ((m ||| u : Nat) : Int)) := by
        apply Array.ext_getElem?
        intro i
        rw [Array.getElem?_setIfInBounds]
        by_cases hi : o = i
        · subst hi
          rw [if_pos rfl, Array.getElem?_setIfInBounds_ne (by omega), c0]
          split
          · rfl
          · rename_i h9
            rw [Array.size_setIfInBounds] at h9
            rw [Array.getElem?_eq_none (by omega)] at c0
            cases c0
        · rw [if_neg hi]
      rw [e]
      exact h2)
    have HY := hide (show Only (fun k => k = g) w (w.setCell ⟨g, o + 1, none⟩ (.int .u32 ((m ||| u : Nat) : Int))) from (Only.refl _ _).setCell _ _ (fun _ => rfl))
    generalize (m ||| u : Nat) = z at *
    clear hM hT hd hd2 hu hnew c0 c1 hB
    go_enter Tryz.func32, Tryz.ntmps32
    go_wp2_with fail
    refine (unhide H0).mono ?_
    rintro e y ⟨rfl, rfl⟩
    go_wp2_with fail
    refine (unhide HO).mono ?_
    rintro e y2 ⟨rfl, rfl⟩
    go_wp2
    exact ⟨rfl, .tuple #[], by simp [results], rfl, unhide HZ, unhide HY⟩
  · have e1 : ¬ (n : Int) < (t : Int) := by omega
    obtain ⟨s, hs⟩ : ∃ s, n + 1 - t = s := ⟨_, rfl⟩
    have e2 : IntKind.u64.wrap ((n : Int) + 1) = (n : Int) + 1 := by rw [IntKind.wrap_u64]; omega
    have e3 : IntKind.u64.wrap ((n : Int) + 1 - (t : Int)) = (s : Int) := by rw [IntKind.wrap_u64]; omega
    obtain ⟨a, ha⟩ : ∃ a : Nat, m * 2 ^ min s 32 % 4294967296 = a := ⟨_, rfl⟩
    have ha2 : a < 4294967296 := by omega
    have e4 : ((m : Int) * 2 ^ min s 32 % 4294967296) = (a : Int) := by rw [← ha]; simp
    have e4w : IntKind.u32.wrap ((m : Int) * 2 ^ min s 32) = (a : Int) := by rw [IntKind.wrap_u32]; exact e4
    obtain ⟨b, hb⟩ : ∃ b : Nat, a ||| 1 = b := ⟨_, rfl⟩
    have e5 : bits .or .u32 (a : Int) 1 = (b : Int) := by rw [← hb]; exact or32 a 1 ha2 (by omega)
    have hM : mkM t m n = b := by rw [mkM, if_neg hn, hs, ha, hb]
    have hT : mkT t n = n + 1 := if_neg hn
    rw [hM, hT]
    have HL := hide (load32_any g (o + 1) (m : Int) w.drew h1)
    have HS := hide (store32_any g (o + 1) (m : Int) (b : Int) w.drew h1 f1)
    have HBk := hide hB
    have HC := hide c0
    clear hM hT hs ha hb hnew c0 c1 hB h1 f1 f0
    go_enter Tryz.func32, Tryz.ntmps32
    go_wp2_with fail
    refine (unhide H0).mono ?_
    rintro e y ⟨rfl, hy⟩
    subst y
    go_wp2_with fail
    refine wp_region_held_drew (S := fun _ => True) (by kernel_rfl) trivial ?_
    intro hS
    refine wpAnyH_takeD 0 (some 21) (.pointer (some ⟨g, o, none⟩)) rfl rfl (by kernel_rfl) (by kernel_rfl) (by kernel_rfl) (fun _ _ _ h => h) (Or.inl ⟨by rfl, fun w hSw => by clear hSw; go_simp⟩) hS ?_
    simp only [Act.put, List.setIfInBounds_toArray, List.set_cons_zero, List.set_cons_succ]
    refine wpAnyH_takeD 1 (some 22) (.pointer (some ⟨g, o, none⟩)) rfl rfl (by kernel_rfl) (by kernel_rfl) (by kernel_rfl) (fun _ _ _ h => h) (Or.inl ⟨by rfl, fun w hSw => by clear hSw; go_simp⟩) hS ?_
    simp only [Act.put, List.setIfInBounds_toArray, List.set_cons_zero, List.set_cons_succ]
    refine wpAnyH_takeD 2 (some 23) (.pointer (some ⟨g, o + 1, none⟩)) rfl rfl (by kernel_rfl) (by kernel_rfl) (by kernel_rfl) (fun _ _ _ h => h) (Or.inl ⟨by rfl, fun w hSw => by clear hSw; go_simp⟩) hS ?_
    simp only [Act.put, List.setIfInBounds_toArray, List.set_cons_zero, List.set_cons_succ]
    refine wpAnyH_takeD 3 (some 24) (.pointer (some ⟨g, o, none⟩)) rfl rfl (by kernel_rfl) (by kernel_rfl) (by kernel_rfl) (fun _ _ _ h => h) (Or.inl ⟨by rfl, fun w hSw => by clear hSw; go_simp⟩) hS ?_
    simp only [Act.put, List.setIfInBounds_toArray, List.set_cons_zero, List.set_cons_succ]
    refine wpAnyH_takeD 4 (some 25) (.pointer (some ⟨g, o, none⟩)) rfl rfl (by kernel_rfl) (by kernel_rfl) (by kernel_rfl) (fun _ _ _ h => h) (Or.inl ⟨by rfl, fun w hSw => by clear hSw; go_simp⟩) hS ?_
    simp only [Act.put, List.setIfInBounds_toArray, List.set_cons_zero, List.set_cons_succ]
    refine wpAnyH_takeD 5 (some 26) (.pointer (some ⟨g, o + 1, none⟩)) rfl rfl (by kernel_rfl) (by kernel_rfl) (by kernel_rfl) (fun _ _ _ h => h) (Or.inl ⟨by rfl, fun w hSw => by clear hSw; go_simp⟩) hS ?_
    simp only [Act.put, List.setIfInBounds_toArray, List.set_cons_zero, List.set_cons_succ]
    refine wpAnyH_takeD 7 (some 28) (.int .u64 (n : Int)) rfl rfl (by kernel_rfl) (by kernel_rfl) (by kernel_rfl) (fun _ _ _ h => h) (Or.inl ⟨by rfl, fun w hSw => by clear hSw; go_simp⟩) hS ?_
    simp only [Act.put, List.setIfInBounds_toArray, List.set_cons_zero, List.set_cons_succ]
    refine wpAnyH_takeD 8 (some 29) (.int .u64 ((n : Int) + 1)) rfl rfl (by kernel_rfl) (by kernel_rfl) (by kernel_rfl) (fun _ _ _ h => h) (Or.inl ⟨by rfl, fun w hSw => by clear hSw; go_simp⟩) hS ?_
    simp only [Act.put, List.setIfInBounds_toArray, List.set_cons_zero, List.set_cons_succ]
    refine wpAnyH_takeD 9 (some 30) (.int .u64 (t : Int)) rfl rfl (by kernel_rfl) (by kernel_rfl) (by kernel_rfl) (fun _ _ _ h => h) (Or.inl ⟨by rfl, fun w hSw => by clear hSw; go_simp⟩) hS ?_
    simp only [Act.put, List.setIfInBounds_toArray, List.set_cons_zero, List.set_cons_succ]
    refine wpAnyH_takeD 10 (some 31) (.int .u64 (s : Int)) rfl rfl (by kernel_rfl) (by kernel_rfl) (by kernel_rfl) (fun _ _ _ h => h) (Or.inl ⟨by rfl, fun w hSw => by clear hSw; go_simp⟩) hS ?_
    simp only [Act.put, List.setIfInBounds_toArray, List.set_cons_zero, List.set_cons_succ]
    refine wpAnyH_ready (rs := [6]) (by kernel_rfl) (by simp) ?_
    refine AllReadyH.cons rfl (fun K hK => ?_) AllReadyH.nil
    simp only [List.getElem_toArray, List.getElem_cons_succ, List.getElem_cons_zero]
    go_simp
    refine (unhide HL).mono ?_
    rintro e y1 ⟨rfl, hy1⟩
    subst y1
    refine hK.out _ _ trivial (fun hS => ?_)
    clear hK K
    refine wpAnyH_takeD 11 (some 32) (.int .u32 (a : Int)) rfl rfl (by kernel_rfl) (by kernel_rfl) (by kernel_rfl) (fun _ _ _ h => h) (Or.inl ⟨by rfl, fun w hSw => by clear hSw; go_simp⟩) hS ?_
    simp only [Act.put, List.setIfInBounds_toArray, List.set_cons_zero, List.set_cons_succ]
    refine wpAnyH_takeD 12 (some 33) (.int .u32 (b : Int)) rfl rfl (by kernel_rfl) (by kernel_rfl) (by kernel_rfl) (fun _ _ _ h => h) (Or.inl ⟨by rfl, fun w hSw => by clear hSw; go_simp⟩) hS ?_
    simp only [Act.put, List.setIfInBounds_toArray, List.set_cons_zero, List.set_cons_succ]
    refine wpAnyH_ready (rs := [13]) (by kernel_rfl) (by simp) ?_
    refine AllReadyH.cons rfl (fun K hK => ?_) AllReadyH.nil
    simp only [List.getElem_toArray, List.getElem_cons_succ, List.getElem_cons_zero]
    go_simp
    refine (unhide HS).mono ?_
    rintro e y2 ⟨rfl, hy2⟩
    refine hK.out _ _ trivial (fun hS => ?_)
    clear hK K
    refine wpAnyH_done (by kernel_rfl) ?_ _
    have hB2 : Blk y2 g (cs.setIfInBounds (o + 1) (.int .u32 (b : Int))) T := by
      rw [hy2]
      exact (show Blk w.drew g cs T from unhide HBk).set (o + 1) _
    have hO2 : Only (fun k => k = g) w y2 := by
      rw [hy2]
      exact (Only.refl _ w).drew.setCell _ _ (fun _ => rfl)
    have c2 : y2.cell? ⟨g, o, none⟩ = some (.int .u64 (t : Int)) := by
      rw [hB2.cell o, Array.getElem?_setIfInBounds_ne (by omega)]
      exact unhide HC
    have HS4 := hide (store64_any g o (t : Int) ((n : Int) + 1) y2 c2 (hB2.frozen o))
    have HE := hide (And.intro hB2 hO2)
    clear hy2 hB2 hO2 c2 hS h0 H0 HL HS HBk HC
    go_wp2_with fail
    refine (unhide HS4).mono ?_
    rintro e y3 ⟨rfl, hy3⟩
    have HE2 := hide (show Blk y3 g ((cs.setIfInBounds (o + 1) (.int .u32 (b : Int))).setIfInBounds o (.int .u64 ((n + 1 : Nat) : Int))) T ∧ Only (fun k => k = g) w y3 from by
      rw [hy3]
      exact ⟨(unhide HE).1.set o _, (unhide HE).2.setCell _ _ (fun _ => rfl)⟩)
    clear hy3 HE HS4
    go_wp2
    exact ⟨rfl, .tuple #[], by simp [results], rfl, (unhide HE2).1, (unhide HE2).2⟩
end Go.Proofs.YtifjmldmilmfjaaGreatDoor

namespace Go.Proofs.YtifjmldmilmfjaaGreatDoor
open Go.RowKit
set_option maxRecDepth 100000
/-- an end: its key, nonce, the other one's; its side; is it ready, closed; how many were sent, the window, how many were taken -/
structure LE where
  k : ByteArray
  n : ByteArray
  o : ByteArray
  i : Nat
  r : Bool
  c : Bool
  s : Nat
  t : Nat
  m : Nat
  q : Nat
def LE.a (e : LE) : ByteArray := if e.i = 0 then e.n else e.o
def LE.b (e : LE) : ByteArray := if e.i = 0 then e.o else e.n
def LE.h (e : LE) (j : Nat) : ByteArray := if e.r then hiB e.k e.a e.b j else ⟨#[]⟩
def LE.z (e : LE) (j : Nat) : ByteArray := if e.r then seB e.k e.a e.b j else ⟨#[]⟩
def LE.ck (e : LE) : ByteArray := if e.c then ⟨#[]⟩ else e.k
def LE.cn (e : LE) : ByteArray := if e.c then ⟨#[]⟩ else e.n
def LE.cs (e : LE) : Array Value := #[.string (e.h e.i), .string (e.z e.i), .int .i64 (e.s : Int), .string (e.h (1 - e.i)), .string (e.z (1 - e.i)), .int .u64 (e.t : Int), .int .u32 (e.m : Int), .int .i64 (e.q : Int), .string e.ck, .int .i64 (e.i : Int), .string e.cn, .bool e.c]
structure LE.ok (e : LE) : Prop where
  k : e.k.size = 32
  n : e.n.size = 16
  o : e.r = true → e.o.size = 16 ∧ e.c = false
  i : e.i ≤ 1
  s : e.s ≤ 4611686018427387904
  t : e.t ≤ 9223372036854775808
  m : e.m < 4294967296
  q : e.q ≤ 4611686018427387904
def EndM (w : World) (g : Nat) (e : LE) : Prop := Blk w g e.cs 50 ∧ e.ok
theorem EndM.below {w w' : World} {B g : Nat} {e : LE} (h : EndM w g e) (hb : Below B w w') (hB : g < B) : EndM w' g e := ⟨h.1.below hb hB, h.2⟩
theorem EndM.only {w w' : World} {P : Nat → Prop} {g : Nat} {e : LE} (h : EndM w g e) (ho : Only P w w') (hp : ¬ P g) : EndM w' g e := ⟨h.1.only ho hp, h.2⟩
theorem EndM.lt {w : World} {g : Nat} {e : LE} (h : EndM w g e) : g < w.heap.size := h.1.lt
theorem LE.hz (e : LE) (h : e.r = true) (j : Nat) : (e.h j).size = 32 ∧ (e.z j).size = 32 := by
  rw [LE.h, LE.z, if_pos h, if_pos h]
  exact ⟨hiB_size _ _ _ _, seB_size _ _ _ _⟩
theorem LE.h0 (e : LE) (h : e.r = false) (j : Nat) : e.h j = ⟨#[]⟩ ∧ e.z j = ⟨#[]⟩ := by
  rw [LE.h, LE.z, h]
  exact ⟨rfl, rfl⟩
theorem LE.hle (e : LE) (j : Nat) : (e.h j).size ≤ 32 ∧ (e.z j).size ≤ 32 := by
  cases h : e.r
  · rw [(e.h0 h j).1, (e.h0 h j).2]; exact ⟨by decide, by decide⟩
  · exact ⟨by rw [(e.hz h j).1]; exact Nat.le_refl _, by rw [(e.hz h j).2]; exact Nat.le_refl _⟩
theorem LE.there (e : LE) (j : Nat) : e.r = true ∧ (e.h j).size = 32 ∨ e.r = false ∧ e.h j = ⟨#[]⟩ ∧ e.z j = ⟨#[]⟩ := by
  cases h : e.r
  · exact .inr ⟨rfl, e.h0 h j⟩
  · exact .inl ⟨rfl, (e.hz h j).1⟩
set_option maxHeartbeats 1000000 in
theorem maySend_any (g : Nat) (e : LE) (w : World) (hE : EndM w g e) : Calls Tryz.prog 27 #[.pointer (some ⟨g, 0, none⟩)] w fun ev w' => ev = .returned (.bool e.r) ∧ Below w.heap.size w w' := by
  have HA := hide (areThere_any (e.h e.i) (e.z e.i) e.r (e.there e.i) w)
  have c0 : w.cell? ⟨g, 0, none⟩ = some (.string (e.h e.i)) := hE.1.cell 0
  have c1 : w.cell? ⟨g, 1, none⟩ = some (.string (e.z e.i)) := hE.1.cell 1
  generalize e.h e.i = A at *
  generalize e.z e.i = Z at *
  generalize e.r = r at *
  clear hE
  go_enter Tryz.func27, Tryz.ntmps27
  go_wp2_with fail
  refine (unhide HA).mono ?_
  rintro ev y ⟨rfl, hb⟩
  have HB := hide hb
  clear hb
  go_wp2
  go_ret
  exact ⟨rfl, unhide HB⟩
set_option maxHeartbeats 1000000 in
theorem mayTake_any (g : Nat) (e : LE) (w : World) (hE : EndM w g e) : Calls Tryz.prog 29 #[.pointer (some ⟨g, 3, none⟩)] w fun ev w' => ev = .returned (.bool e.r) ∧ Below w.heap.size w w' := by
  have HA := hide (areThere_any (e.h (1 - e.i)) (e.z (1 - e.i)) e.r (e.there (1 - e.i)) w)
  have c0 : w.cell? ⟨g, 3, none⟩ = some (.string (e.h (1 - e.i))) := hE.1.cell 3
  have c1 : w.cell? ⟨g, 4, none⟩ = some (.string (e.z (1 - e.i))) := hE.1.cell 4
  generalize e.h (1 - e.i) = A at *
  generalize e.z (1 - e.i) = Z at *
  generalize e.r = r at *
  clear hE
  go_enter Tryz.func29, Tryz.ntmps29
  go_wp2_with fail
  refine (unhide HA).mono ?_
  rintro ev y ⟨rfl, hb⟩
  have HB := hide hb
  clear hb
  go_wp2
  go_ret
  exact ⟨rfl, unhide HB⟩
set_option maxHeartbeats 1000000 in
theorem lready_any (g : Nat) (e : LE) (w : World) (hE : EndM w g e) : Calls Tryz.prog 19 #[.pointer (some ⟨g, 0, none⟩)] w fun ev w' => ev = .returned (.bool e.r) ∧ Below w.heap.size w w' := by
  have HS := hide (maySend_any g e w hE)
  have HT := hide (fun W (hW : Below w.heap.size w W) => mayTake_any g e W (hE.below hW hE.lt))
  generalize e.r = r at *
  clear hE
  go_enter Tryz.func19, Tryz.ntmps19
  go_wp2_with fail
  refine (unhide HS).mono ?_
  rintro ev y ⟨rfl, hb⟩
  have HB := hide hb
  clear hb
  cases r
  · go_wp2
    go_ret
    exact ⟨rfl, unhide HB⟩
  · go_wp2_with fail
    refine (unhide HT _ (unhide HB)).mono ?_
    rintro ev y2 ⟨rfl, hb⟩
    have HB2 := hide ((unhide HB).trans (hb.mono (unhide HB).size))
    clear hb
    go_wp2
    go_ret
    exact ⟨rfl, unhide HB2⟩
set_option maxHeartbeats 1000000 in
theorem lcounts_any (g : Nat) (e : LE) (w : World) (hE : EndM w g e) : Calls Tryz.prog 15 #[.pointer (some ⟨g, 0, none⟩)] w fun ev w' => ev = .returned (.tuple #[.int .i64 (e.s : Int), .int .i64 (e.q : Int)]) ∧ Below w.heap.size w w' := by
  have c0 : w.cell? ⟨g, 2, none⟩ = some (.int .i64 (e.s : Int)) := hE.1.cell 2
  have c1 : w.cell? ⟨g, 7, none⟩ = some (.int .i64 (e.q : Int)) := hE.1.cell 7
  have HB := hide (show ∀ nq, Below w.heap.size w (w.drewN nq) from fun nq => below_drewN (Below.refl _ _) nq)
  generalize e.s = s at *
  generalize e.q = q at *
  clear hE
  go_enter Tryz.func15, Tryz.ntmps15
  go_wp2_with fail
  go_quiet (fail)
  go_wp2
  go_ret2
  exact ⟨rfl, unhide HB _⟩
set_option maxHeartbeats 1000000 in
theorem lhello_any (g : Nat) (e : LE) (w : World) (hE : EndM w g e) (hK : KTab w) : Calls Tryz.prog 18 #[.pointer (some ⟨g, 0, none⟩)] w fun ev w' => ev = .returned (.string (if e.c then ⟨#[]⟩ else heB e.k e.i e.n)) ∧ Below w.heap.size w w' := by
  have c11 : w.cell? ⟨g, 11, none⟩ = some (.bool e.c) := hE.1.cell 11
  have c8 : w.cell? ⟨g, 8, none⟩ = some (.string e.ck) := hE.1.cell 8
  have c9 : w.cell? ⟨g, 9, none⟩ = some (.int .i64 (e.i : Int)) := hE.1.cell 9
  have c10 : w.cell? ⟨g, 10, none⟩ = some (.string e.cn) := hE.1.cell 10
  cases hc : e.c
  · have e1 : e.ck = e.k := by rw [LE.ck, hc]; rfl
    have e2 : e.cn = e.n := by rw [LE.cn, hc]; rfl
    rw [e1] at c8
    rw [e2] at c10
    rw [hc] at c11
    have hi9 := hE.2.i
    have HH := hide (helloOf_any e.k e.i e.n (by rw [hE.2.k]; decide) (by omega) (by rw [hE.2.n]; decide) w.drew hK)
    have HC := hide (show ∀ W, Below w.drew.heap.size w.drew W → W.cell? ⟨g, 8, none⟩ = some (.string e.k) ∧ W.cell? ⟨g, 9, none⟩ = some (.int .i64 (e.i : Int)) ∧ W.cell? ⟨g, 10, none⟩ = some (.string e.n) from fun W hW => by
      have hB := hE.1.below (B := w.heap.size) ((Below.refl _ w).drew.trans hW) hE.lt
      exact ⟨by have := hB.cell 8; rw [this, ← e1]; rfl, hB.cell 9, by have := hB.cell 10; rw [this, ← e2]; rfl⟩)
    rw [if_neg (by decide)]
    generalize heB e.k e.i e.n = H at *
    clear hE e1 e2 hc hi9 hK
    generalize e.k = k at *
    generalize e.n = n at *
    generalize e.i = i at *
    go_enter Tryz.func18, Tryz.ntmps18
    go_wp2_with fail
    refine wp_region_held_drew (S := fun W => W.cell? ⟨g, 8, none⟩ = some (.string k) ∧ W.cell? ⟨g, 9, none⟩ = some (.int .i64 (i : Int)) ∧ W.cell? ⟨g, 10, none⟩ = some (.string n)) (by kernel_rfl) ⟨c8, c9, c10⟩ ?_
    intro hS
    refine wpAnyH_takeD 0 (some 7) (.pointer (some ⟨g, 0, none⟩)) rfl rfl (by kernel_rfl) (by kernel_rfl) (by kernel_rfl) (fun _ _ _ h => h) (Or.inl ⟨by rfl, fun w hSw => by have hcx := hSw; have hcx0 := hcx.1; have hcx1 := hcx.2.1; have hcx2 := hcx.2.2; clear hSw hcx; go_simp⟩) hS ?_
    simp only [Act.put, List.setIfInBounds_toArray, List.set_cons_zero, List.set_cons_succ]
    refine wpAnyH_takeD 1 (some 8) (.pointer (some ⟨g, 0, none⟩)) rfl rfl (by kernel_rfl) (by kernel_rfl) (by kernel_rfl) (fun _ _ _ h => h) (Or.inl ⟨by rfl, fun w hSw => by have hcx := hSw; have hcx0 := hcx.1; have hcx1 := hcx.2.1; have hcx2 := hcx.2.2; clear hSw hcx; go_simp⟩) hS ?_
    simp only [Act.put, List.setIfInBounds_toArray, List.set_cons_zero, List.set_cons_succ]
    refine wpAnyH_takeD 2 (some 9) (.pointer (some ⟨g, 8, none⟩)) rfl rfl (by kernel_rfl) (by kernel_rfl) (by kernel_rfl) (fun _ _ _ h => h) (Or.inl ⟨by rfl, fun w hSw => by have hcx := hSw; have hcx0 := hcx.1; have hcx1 := hcx.2.1; have hcx2 := hcx.2.2; clear hSw hcx; go_simp⟩) hS ?_
    simp only [Act.put, List.setIfInBounds_toArray, List.set_cons_zero, List.set_cons_succ]
    refine wpAnyH_takeD 3 (some 10) (.string k) rfl rfl (by kernel_rfl) (by kernel_rfl) (by kernel_rfl) (fun _ _ _ h => h) (Or.inl ⟨by rfl, fun w hSw => by have hcx := hSw; have hcx0 := hcx.1; have hcx1 := hcx.2.1; have hcx2 := hcx.2.2; clear hSw hcx; go_simp⟩) hS ?_
    simp only [Act.put, List.setIfInBounds_toArray, List.set_cons_zero, List.set_cons_succ]
    refine wpAnyH_takeD 4 (some 11) (.pointer (some ⟨g, 0, none⟩)) rfl rfl (by kernel_rfl) (by kernel_rfl) (by kernel_rfl) (fun _ _ _ h => h) (Or.inl ⟨by rfl, fun w hSw => by have hcx := hSw; have hcx0 := hcx.1; have hcx1 := hcx.2.1; have hcx2 := hcx.2.2; clear hSw hcx; go_simp⟩) hS ?_
    simp only [Act.put, List.setIfInBounds_toArray, List.set_cons_zero, List.set_cons_succ]
    refine wpAnyH_takeD 5 (some 12) (.pointer (some ⟨g, 0, none⟩)) rfl rfl (by kernel_rfl) (by kernel_rfl) (by kernel_rfl) (fun _ _ _ h => h) (Or.inl ⟨by rfl, fun w hSw => by have hcx := hSw; have hcx0 := hcx.1; have hcx1 := hcx.2.1; have hcx2 := hcx.2.2; clear hSw hcx; go_simp⟩) hS ?_
    simp only [Act.put, List.setIfInBounds_toArray, List.set_cons_zero, List.set_cons_succ]
    refine wpAnyH_takeD 6 (some 13) (.pointer (some ⟨g, 9, none⟩)) rfl rfl (by kernel_rfl) (by kernel_rfl) (by kernel_rfl) (fun _ _ _ h => h) (Or.inl ⟨by rfl, fun w hSw => by have hcx := hSw; have hcx0 := hcx.1; have hcx1 := hcx.2.1; have hcx2 := hcx.2.2; clear hSw hcx; go_simp⟩) hS ?_
    simp only [Act.put, List.setIfInBounds_toArray, List.set_cons_zero, List.set_cons_succ]
    refine wpAnyH_takeD 7 (some 14) (.int .i64 (i : Int)) rfl rfl (by kernel_rfl) (by kernel_rfl) (by kernel_rfl) (fun _ _ _ h => h) (Or.inl ⟨by rfl, fun w hSw => by have hcx := hSw; have hcx0 := hcx.1; have hcx1 := hcx.2.1; have hcx2 := hcx.2.2; clear hSw hcx; go_simp⟩) hS ?_
    simp only [Act.put, List.setIfInBounds_toArray, List.set_cons_zero, List.set_cons_succ]
    refine wpAnyH_takeD 8 (some 15) (.pointer (some ⟨g, 0, none⟩)) rfl rfl (by kernel_rfl) (by kernel_rfl) (by kernel_rfl) (fun _ _ _ h => h) (Or.inl ⟨by rfl, fun w hSw => by have hcx := hSw; have hcx0 := hcx.1; have hcx1 := hcx.2.1; have hcx2 := hcx.2.2; clear hSw hcx; go_simp⟩) hS ?_
    simp only [Act.put, List.setIfInBounds_toArray, List.set_cons_zero, List.set_cons_succ]
    refine wpAnyH_takeD 9 (some 16) (.pointer (some ⟨g, 0, none⟩)) rfl rfl (by kernel_rfl) (by kernel_rfl) (by kernel_rfl) (fun _ _ _ h => h) (Or.inl ⟨by rfl, fun w hSw => by have hcx := hSw; have hcx0 := hcx.1; have hcx1 := hcx.2.1; have hcx2 := hcx.2.2; clear hSw hcx; go_simp⟩) hS ?_
    simp only [Act.put, List.setIfInBounds_toArray, List.set_cons_zero, List.set_cons_succ]
    refine wpAnyH_takeD 10 (some 17) (.pointer (some ⟨g, 10, none⟩)) rfl rfl (by kernel_rfl) (by kernel_rfl) (by kernel_rfl) (fun _ _ _ h => h) (Or.inl ⟨by rfl, fun w hSw => by have hcx := hSw; have hcx0 := hcx.1; have hcx1 := hcx.2.1; have hcx2 := hcx.2.2; clear hSw hcx; go_simp⟩) hS ?_
    simp only [Act.put, List.setIfInBounds_toArray, List.set_cons_zero, List.set_cons_succ]
    refine wpAnyH_takeD 11 (some 18) (.string n) rfl rfl (by kernel_rfl) (by kernel_rfl) (by kernel_rfl) (fun _ _ _ h => h) (Or.inl ⟨by rfl, fun w hSw => by have hcx := hSw; have hcx0 := hcx.1; have hcx1 := hcx.2.1; have hcx2 := hcx.2.2; clear hSw hcx; go_simp⟩) hS ?_
    simp only [Act.put, List.setIfInBounds_toArray, List.set_cons_zero, List.set_cons_succ]
    refine wpAnyH_ready (rs := [12]) (by kernel_rfl) (by simp) ?_
    refine AllReadyH.cons rfl (fun K hK => ?_) AllReadyH.nil
    simp only [List.getElem_toArray, List.getElem_cons_succ, List.getElem_cons_zero]
    go_simp
    refine (unhide HH).mono ?_
    rintro ev y ⟨rfl, hb⟩
    have hS9 := unhide HC _ hb
    have HB := hide hb
    clear hb
    refine hK.out _ _ hS9 (fun hS => ?_)
    clear hK K
    refine wpAnyH_takeD 13 (some 2) (.string H) rfl rfl (by kernel_rfl) (by kernel_rfl) (by kernel_rfl) (fun _ _ _ h => h) (Or.inl ⟨by rfl, fun w hSw => by have hcx := hSw; have hcx0 := hcx.1; have hcx1 := hcx.2.1; have hcx2 := hcx.2.2; clear hSw hcx; go_simp⟩) hS ?_
    simp only [Act.put, List.setIfInBounds_toArray, List.set_cons_zero, List.set_cons_succ]
    refine wpAnyH_done (by kernel_rfl) ?_ _
    clear hS hS9 HC HH c8 c9 c10 c11
    go_wp2
    go_ret
    exact ⟨rfl, (Below.refl _ w).drew.trans (unhide HB)⟩
  · rw [hc] at c11
    have HB := hide (Below.refl w.heap.size w)
    rw [if_pos rfl]
    clear hE hK c8 c9 c10 hc
    go_enter Tryz.func18, Tryz.ntmps18
    go_wp2
    go_ret
    exact ⟨rfl, unhide HB⟩
end Go.Proofs.YtifjmldmilmfjaaGreatDoor

namespace Go.Proofs.YtifjmldmilmfjaaGreatDoor
open Go.RowKit
set_option maxRecDepth 100000
def le0 (k : ByteArray) (i : Nat) (n : ByteArray) : LE := ⟨k, n, ⟨#[]⟩, i, false, false, 0, 0, 0, 0⟩
theorem le0_ok {k n : ByteArray} {i : Nat} (h1 : k.size = 32) (h2 : i < 2) (h3 : n.size = 16) : (le0 k i n).ok := ⟨h1, h3, fun h => (by cases h), by show i ≤ 1; omega, by show 0 ≤ 4611686018427387904; decide, by show 0 ≤ 9223372036854775808; decide, by show 0 < 4294967296; decide, by show 0 ≤ 4611686018427387904; decide⟩
set_option maxHeartbeats 1000000 in
theorem lnew_ok (k : ByteArray) (i : Nat) (n : ByteArray) (h1 : k.size = 32) (h2 : i < 2) (h3 : n.size = 16) (w : World) : Calls Tryz.prog 13 #[.string k, .int .i64 (i : Int), .string n] w fun ev w' => ∃ g, w.heap.size ≤ g ∧ ev = .returned (.tuple #[.pointer (some ⟨g, 0, none⟩), .int .i64 0]) ∧ EndM w' g (le0 k i n) ∧ Below w.heap.size w w' := by
  have e1 : ((k.size : Int) != 32) = false := by simp; omega
  have e2 : decide ((i : Int) < 0) = false := decide_eq_false (by omega)
  have e3 : decide ((2 : Int) ≤ (i : Int)) = false := decide_eq_false (by omega)
  have e4 : ((n.size : Int) != 16) = false := by simp; omega
  have HK := hide (fun W => clone_txt k (by omega) W)
  have HN := hide (fun W => clone_txt n (by omega) W)
  have HO := hide (le0_ok h1 h2 h3)
  clear h1 h2 h3
  go_enter Tryz.func13, Tryz.ntmps13
  go_wp2_with fail
  refine (unhide HK _).mono ?_
  rintro ev y1 ⟨rfl, hb⟩
  have HB1 := hide hb
  clear hb
  go_wp2_with fail
  refine (unhide HN _).mono ?_
  rintro ev y2 ⟨rfl, hb⟩
  have HB2 := hide ((unhide HB1).trans (hb.mono (unhide HB1).size))
  clear hb
  go_wp2
  go_ret2
  exact ⟨_, (unhide HB2).size, rfl, ⟨Blk.new _ _ _, unhide HO⟩, (unhide HB2).alloc (unhide HB2).size _⟩
set_option maxHeartbeats 1000000 in
theorem lclose_any (g : Nat) (e : LE) (w : World) (hE : EndM w g e) : Calls Tryz.prog 16 #[.pointer (some ⟨g, 0, none⟩)] w fun ev w' => ev = .returned (.tuple #[]) ∧ EndM w' g { e with r := false, c := true } ∧ Only (fun k => k = g) w w' := by
  have hB := hE.1
  obtain ⟨v0, hv0⟩ : ∃ v, Value.string (e.h e.i) = v := ⟨_, rfl⟩
  have HZ := hide (show ∀ w', Blk w' g ((((((((e.cs.setIfInBounds 0 (.string ⟨#[]⟩)).setIfInBounds 1 (.string ⟨#[]⟩)).setIfInBounds 3 (.string ⟨#[]⟩)).setIfInBounds 4 (.string ⟨#[]⟩)).setIfInBounds 8 (.string ⟨#[]⟩)).setIfInBounds 10 (.string ⟨#[]⟩)).setIfInBounds 11 (.bool true))) 50 → EndM w' g { e with r := false, c := true } from fun w' hb => by
    refine ⟨hb, hE.2.k, hE.2.n, fun q => (by cases q), hE.2.i, hE.2.s, hE.2.t, hE.2.m, hE.2.q⟩)
  have c0 : w.cell? ⟨g, 0, none⟩ = some (.string (e.h e.i)) := hB.cell 0
  have c1 : w.cell? ⟨g, 1, none⟩ = some (.string (e.z e.i)) := hB.cell 1
  have c3 : w.cell? ⟨g, 3, none⟩ = some (.string (e.h (1 - e.i))) := hB.cell 3
  have c4 : w.cell? ⟨g, 4, none⟩ = some (.string (e.z (1 - e.i))) := hB.cell 4
  have c8 : w.cell? ⟨g, 8, none⟩ = some (.string e.ck) := hB.cell 8
  have c10 : w.cell? ⟨g, 10, none⟩ = some (.string e.cn) := hB.cell 10
  have c11 : w.cell? ⟨g, 11, none⟩ = some (.bool e.c) := hB.cell 11
  have f0 := hB.frozen 0
  have f1 := hB.frozen 1
  have f3 := hB.frozen 3
  have f4 := hB.frozen 4
  have f8 := hB.frozen 8
  have f10 := hB.frozen 10
  have f11 := hB.frozen 11
  have HB := hide hB
  clear hB hE hv0
  go_enter Tryz.func16, Tryz.ntmps16
  go_wp2
  exact ⟨rfl, .tuple #[], by simp [results], rfl, unhide HZ _ (((((((((unhide HB).set 0 _).set 1 _).set 3 _).set 4 _).set 8 _).set 10 _).set 11 _)), by (iterate 7 refine Only.setCell ?_ _ _ (fun _ => rfl)); exact Only.refl _ _⟩
end Go.Proofs.YtifjmldmilmfjaaGreatDoor
