import Derived.Test.YtnnehadmnijhjaaGreatDoorMv08
import Derived.BigQuiet
import Derived.WalkMore
import Derived.Shelf.Spec.SlicesInsertGrow
import Derived.Shelf.SlicesE.DeleteFunc
import Derived.Shelf.SlIterI.Sorted
import Derived.Shelf.SlIterI.Keys
import Derived.Test.YtnnehadmnijhjaaGreatDoorProg
import Derived.Test.YtnnehadmnijhjaaGreatDoorMv00
import Derived.Laws.CopyOwn
import Derived.Deep.RegionHeld3
namespace Go.Proofs.YtnnehadmnijhjaaGreatDoor
open Go.RowKit
theorem u8_and_nat (a b : Nat) (ha : a < 256) (hb : b < 256) : bits .and .u8 (a : Int) (b : Int) = ((a &&& b : Nat) : Int) := by
  have hx : a &&& b ≤ a := Nat.and_le_left
  have h1 : (BitVec.ofInt 8 (a : Int)).toNat = a := by
    rw [BitVec.ofInt_natCast, BitVec.toNat_ofNat]; exact Nat.mod_eq_of_lt (by omega)
  have h2 : (BitVec.ofInt 8 (b : Int)).toNat = b := by
    rw [BitVec.ofInt_natCast, BitVec.toNat_ofNat]; exact Nat.mod_eq_of_lt (by omega)
  show IntKind.u8.wrap ((BitVec.ofInt 8 (a : Int) &&& BitVec.ofInt 8 (b : Int)).toNat : Int) = _
  rw [BitVec.toNat_and, h1, h2, IntKind.wrap_u8]
  omega
theorem u8_xor_nat (a b : Nat) (ha : a < 256) (hb : b < 256) : bits .xor .u8 (a : Int) (b : Int) = ((a ^^^ b : Nat) : Int) := by
  have hx : a ^^^ b < 2 ^ 8 := Nat.xor_lt_two_pow (by omega) (by omega)
  have h1 : (BitVec.ofInt 8 (a : Int)).toNat = a := by
    rw [BitVec.ofInt_natCast, BitVec.toNat_ofNat]; exact Nat.mod_eq_of_lt (by omega)
  have h2 : (BitVec.ofInt 8 (b : Int)).toNat = b := by
    rw [BitVec.ofInt_natCast, BitVec.toNat_ofNat]; exact Nat.mod_eq_of_lt (by omega)
  show IntKind.u8.wrap ((BitVec.ofInt 8 (a : Int) ^^^ BitVec.ofInt 8 (b : Int)).toNat : Int) = _
  rw [BitVec.toNat_xor, h1, h2, IntKind.wrap_u8]
  omega
theorem and_bit (x r : Nat) : (((x &&& 2 ^ r : Nat) : Int) != 0) = x.testBit r := by
  have h : 2 ^ r ≠ 0 := by have := Nat.two_pow_pos r; omega
  have e : x &&& 2 ^ r = if x.testBit r then 2 ^ r else 0 := by
    apply Nat.eq_of_testBit_eq
    intro i
    rw [Nat.testBit_and, Nat.testBit_two_pow]
    by_cases hi : r = i
    · subst hi
      cases hx : x.testBit r <;> simp
    · cases hx : x.testBit r <;> simp [hi]
  rw [e]
  generalize 2 ^ r = v at *
  cases x.testBit r
  · simp
  · simp; exact h
theorem pagesOf_any (n : Nat) (hn : n ≤ 1024) (w : World) : Calls Tryz.prog 38 #[.int .i64 (n : Int)] w fun e w' => e = .returned (.int .i64 (pgs n : Int)) ∧ w' = w := by
  have e1 : ((n : Int) + 256 - 1).tdiv 256 = (pgs n : Int) := by
    rw [Int.tdiv_eq_ediv_of_nonneg (by omega)]; unfold pgs; omega
  have hq := pgs_le hn
  generalize pgs n = q at *
  go_enter Tryz.func38, Tryz.ntmps38
  go_wp2
  go_ret
  exact ⟨rfl, rfl⟩
theorem pageOf_any (i : Nat) (hi : i < 1000000) (w : World) : Calls Tryz.prog 57 #[.int .i64 (i : Int)] w fun e w' => e = .returned (.int .i64 ((i / 256 : Nat) : Int)) ∧ w' = w := by
  have e1 : (i : Int).tdiv 256 = ((i / 256 : Nat) : Int) := by
    rw [Int.tdiv_eq_ediv_of_nonneg (by omega)]; omega
  have hq : i / 256 < 1000000 := by omega
  generalize i / 256 = q at *
  go_enter Tryz.func57, Tryz.ntmps57
  go_wp2
  go_ret
  exact ⟨rfl, rfl⟩
theorem firstOf_any (k : Nat) (hk : k ≤ 1000) (w : World) : Calls Tryz.prog 45 #[.int .i64 (k : Int)] w fun e w' => e = .returned (.int .i64 ((256 * k : Nat) : Int)) ∧ w' = w := by
  have e1 : (k : Int) * 256 = ((256 * k : Nat) : Int) := by omega
  have hq : 256 * k < 1000000 := by omega
  generalize 256 * k = q at *
  go_enter Tryz.func45, Tryz.ntmps45
  go_wp2
  go_ret
  exact ⟨rfl, rfl⟩
theorem byteOf_any (i : Nat) (hi : i < 1000000) (w : World) : Calls Tryz.prog 77 #[.int .i64 (i : Int)] w fun e w' => e = .returned (.int .i64 ((i % 256 / 8 : Nat) : Int)) ∧ w' = w := by
  have e1 : (i : Int).tmod 256 = ((i % 256 : Nat) : Int) := by
    rw [Int.tmod_eq_emod_of_nonneg (by omega)]; omega
  have hq1 : i % 256 < 256 := Nat.mod_lt _ (by decide)
  have e2 : ((i % 256 : Nat) : Int).tdiv 8 = ((i % 256 / 8 : Nat) : Int) := by
    rw [Int.tdiv_eq_ediv_of_nonneg (by omega)]; omega
  have hq : i % 256 / 8 < 32 := by omega
  generalize i % 256 / 8 = q at *
  generalize i % 256 = q1 at *
  go_enter Tryz.func77, Tryz.ntmps77
  go_wp2
  go_ret
  exact ⟨rfl, rfl⟩
theorem bitOf_any (i : Nat) (hi : i < 1000000) (w : World) : Calls Tryz.prog 78 #[.int .i64 (i : Int)] w fun e w' => e = .returned (.int .u8 ((2 ^ (i % 8) : Nat) : Int)) ∧ w' = w := by
  have e1 : (i : Int).tmod 8 = ((i % 8 : Nat) : Int) := by
    rw [Int.tmod_eq_emod_of_nonneg (by omega)]; omega
  have hq : i % 8 < 8 := Nat.mod_lt _ (by decide)
  generalize i % 8 = q at *
  obtain rfl | rfl | rfl | rfl | rfl | rfl | rfl | rfl : q = 0 ∨ q = 1 ∨ q = 2 ∨ q = 3 ∨ q = 4 ∨ q = 5 ∨ q = 6 ∨ q = 7 := by omega
  all_goals
    simp only [Int.cast_ofNat_Int] at e1
    go_enter Tryz.func78, Tryz.ntmps78
    go_wp2
    go_ret
    exact ⟨rfl, rfl⟩
set_option maxRecDepth 100000 in
set_option maxHeartbeats 1000000 in
theorem isTaken_any (b : ByteArray) (hb : b.size = 32) (i : Nat) (hi : i < 1000000) (w : World) : Calls Tryz.prog 46 #[.string b, .int .i64 (i : Int)] w fun e w' => e = .returned (.bool (bitB b i)) ∧ Below w.heap.size w w' := by
  have HB1 := hide (fun W => byteOf_any i hi W)
  have HB2 := hide (fun W => bitOf_any i hi W)
  have hq : i % 256 / 8 < 32 := by omega
  have hr : i % 8 < 8 := Nat.mod_lt _ (by decide)
  have hix := index_str b (i % 256 / 8) (by omega)
  rw [byN_eq] at hix
  have han := u8_and_nat (byN b (i % 256 / 8)) (2 ^ (i % 8)) (byN_lt _ _) (two_lt _ hr)
  have hbt := and_bit (byN b (i % 256 / 8)) (i % 8)
  have HBB := hide (show bitB b i = (byN b (i % 256 / 8)).testBit (i % 8) from rfl)
  generalize byN b (i % 256 / 8) &&& 2 ^ (i % 8) = av at *
  generalize byN b (i % 256 / 8) = x at *
  generalize hpp : 2 ^ (i % 8) = pw at *
  clear hpp hr
  generalize i % 256 / 8 = q at *
  generalize x.testBit (i % 8) = tb at *
  generalize bitB b i = bb at *
  have hbb := unhide HBB
  clear HBB
  subst hbb
  go_enter Tryz.func46, Tryz.ntmps46
  go_wp2
  go_quiet ((first | (go_at_call 77; exact Calls.quiet_of_same (unhide HB1 _)) | (go_at_call 78; exact Calls.quiet_of_same (unhide HB2 _))))
  go_wp2
  go_ret
  exact ⟨rfl, below_drewN (Below.refl _ w) _⟩
/-- A map in memory. -/
def Mcs (pb a n : Nat) : Array Value := #[.pointer (some ⟨pb, 0, none⟩), .int .i64 (a : Int), .int .i64 (n : Int)]
def MB (w : World) (mb pb a n : Nat) : Prop := Blk w mb (Mcs pb a n) 80
theorem MB.only {w w' : World} {mb pb a n : Nat} {P : Nat → Prop} (h : MB w mb pb a n) (ho : Only P w w') (hp : ¬ P mb) : MB w' mb pb a n := Blk.only h ho hp
theorem MB.below {w w' : World} {mb pb a n : Nat} (h : MB w mb pb a n) (hb : Below w.heap.size w w') : MB w' mb pb a n := Blk.below h hb h.lt
theorem MB.c0 {w : World} {mb pb a n : Nat} (h : MB w mb pb a n) : w.cell? ⟨mb, 0, none⟩ = some (.pointer (some ⟨pb, 0, none⟩)) := by rw [Blk.cell h]; rfl
theorem MB.c1 {w : World} {mb pb a n : Nat} (h : MB w mb pb a n) : w.cell? ⟨mb, 1, none⟩ = some (.int .i64 (a : Int)) := by rw [Blk.cell h]; rfl
theorem MB.c2 {w : World} {mb pb a n : Nat} (h : MB w mb pb a n) : w.cell? ⟨mb, 2, none⟩ = some (.int .i64 (n : Int)) := by rw [Blk.cell h]; rfl
/-- How many places stand in page k. -/
def pin (n k : Nat) : Nat := min 256 (n - 256 * k)
set_option maxRecDepth 100000 in
set_option maxHeartbeats 1000000 in
theorem placesIn_any {w : World} {mb pb a n : Nat} (h : MB w mb pb a n) (hn : n ≤ 1024) (k : Nat) (hk : k < pgs n) : Calls Tryz.prog 44 #[.pointer (some ⟨mb, 0, none⟩), .int .i64 (k : Int)] w fun e w' => e = .returned (.int .i64 (pin n k : Int)) ∧ Below w.heap.size w w' := by
  have c2 := h.c2
  have hk4 := pgs_le hn
  have hkn : 256 * k < n := by unfold pgs at hk; omega
  have HF := hide (fun W => firstOf_any k (by omega) W)
  have e1 : (n : Int) - ((256 * k : Nat) : Int) = ((n - 256 * k : Nat) : Int) := by omega
  have hq : n - 256 * k ≤ 1024 := by omega
  have hpn : min (256 : Int) ((n - 256 * k : Nat) : Int) = (pin n k : Int) := by unfold pin; omega
  have hwq : IntKind.i64.wrap ((n - 256 * k : Nat) : Int) = ((n - 256 * k : Nat) : Int) := wrapI_eq _ (by omega) (by omega)
  generalize pin n k = pn at *
  generalize n - 256 * k = q at *
  generalize 256 * k = f at *
  clear hk hk4
  go_enter Tryz.func44, Tryz.ntmps44
  go_wp2
  refine wp_region_held_drew (S := fun w' => w'.cell? ⟨mb, 2, none⟩ = some (.int .i64 (n : Int))) (by kernel_rfl) c2 ?_
  intro hS
  refine wpAnyH_takeD 0 (some 5) (.pointer (some ⟨mb, 0, none⟩)) rfl rfl (by kernel_rfl) (by kernel_rfl) (by kernel_rfl) (fun _ _ _ h => h) (Or.inl ⟨by rfl, fun w hSw => by have q1 : _ = _ := hSw; go_simp⟩) hS ?_
  simp only [Act.put, List.setIfInBounds_toArray, List.set_cons_zero, List.set_cons_succ]
  refine wpAnyH_takeD 1 (some 6) (.pointer (some ⟨mb, 0, none⟩)) rfl rfl (by kernel_rfl) (by kernel_rfl) (by kernel_rfl) (fun _ _ _ h => h) (Or.inl ⟨by rfl, fun w hSw => by have q1 : _ = _ := hSw; go_simp⟩) hS ?_
  simp only [Act.put, List.setIfInBounds_toArray, List.set_cons_zero, List.set_cons_succ]
  refine wpAnyH_takeD 2 (some 7) (.pointer (some ⟨mb, 2, none⟩)) rfl rfl (by kernel_rfl) (by kernel_rfl) (by kernel_rfl) (fun _ _ _ h => h) (Or.inl ⟨by rfl, fun w hSw => by have q1 : _ = _ := hSw; go_simp⟩) hS ?_
  simp only [Act.put, List.setIfInBounds_toArray, List.set_cons_zero, List.set_cons_succ]
  refine wpAnyH_takeD 3 (some 8) (.int .i64 (n : Int)) rfl rfl (by kernel_rfl) (by kernel_rfl) (by kernel_rfl) (fun _ _ _ h => h) (Or.inl ⟨by rfl, fun w hSw => by have q1 : _ = _ := hSw; go_simp⟩) hS ?_
  simp only [Act.put, List.setIfInBounds_toArray, List.set_cons_zero, List.set_cons_succ]
  refine wpAnyH_takeD 4 (some 9) (.int .i64 (k : Int)) rfl rfl (by kernel_rfl) (by kernel_rfl) (by kernel_rfl) (fun _ _ _ h => h) (Or.inl ⟨by rfl, fun w hSw => by have q1 : _ = _ := hSw; go_simp⟩) hS ?_
  simp only [Act.put, List.setIfInBounds_toArray, List.set_cons_zero, List.set_cons_succ]
  refine wpAnyH_ready (rs := [5]) (by kernel_rfl) (by simp) ?_
  refine AllReadyH.cons rfl (fun K hK => ?_) AllReadyH.nil
  simp only [List.getElem_toArray, List.getElem_cons_succ, List.getElem_cons_zero]
  go_simp
  refine (unhide HF _).mono ?_
  rintro e x1 ⟨rfl, hx1⟩
  subst hx1
  refine hK.out _ _ c2 (fun hS => ?_)
  clear hK K
  refine wpAnyH_takeD 6 (some 11) (.int .i64 (q : Int)) rfl rfl (by kernel_rfl) (by kernel_rfl) (by kernel_rfl) (fun _ _ _ h => h) (Or.inl ⟨by rfl, fun w hSw => by have q1 : _ = _ := hSw; go_simp⟩) hS ?_
  simp only [Act.put, List.setIfInBounds_toArray, List.set_cons_zero, List.set_cons_succ]
  refine wpAnyH_ready (rs := [7]) (by kernel_rfl) (by simp) ?_
  refine AllReadyH.cons rfl (fun K hK => ?_) AllReadyH.nil
  simp only [List.getElem_toArray, List.getElem_cons_succ, List.getElem_cons_zero]
  go_simp
  refine hK.out _ _ c2 (fun hS => ?_)
  clear hK K
  refine wpAnyH_takeD 8 (some 4) (.int .i64 (pn : Int)) rfl rfl (by kernel_rfl) (by kernel_rfl) (by kernel_rfl) (fun _ _ _ h => h) (Or.inl ⟨by rfl, fun w hSw => by have q1 : _ = _ := hSw; go_simp⟩) hS ?_
  simp only [Act.put, List.setIfInBounds_toArray, List.set_cons_zero, List.set_cons_succ]
  refine wpAnyH_done (by kernel_rfl) ?_ _
  go_wp2
  go_ret
  exact ⟨rfl, (Below.refl _ w).drew⟩
theorem mhas_any {w : World} {mb pb a n : Nat} (h : MB w mb pb a n) (z : Int) : Calls Tryz.prog 56 #[.pointer (some ⟨mb, 0, none⟩), .int .i64 z] w fun e w' => e = .returned (.bool (decide (0 ≤ z) && decide (z < (n : Int)))) ∧ w' = w := by
  have c2 := h.c2
  clear h
  by_cases h0 : 0 ≤ z
  · have hd : decide ((0 : Int) ≤ z) = true := by simpa using h0
    rw [hd, Bool.true_and]
    clear h0
    generalize hdz : decide (z < (n : Int)) = dz at *
    go_enter Tryz.func56, Tryz.ntmps56
    go_wp2
    go_ret
    exact ⟨rfl, rfl⟩
  · have hd : decide ((0 : Int) ≤ z) = false := by simpa using h0
    rw [hd, Bool.false_and]
    clear h0
    go_enter Tryz.func56, Tryz.ntmps56
    go_wp2
    go_ret
    exact ⟨rfl, rfl⟩
theorem isCount_any (z : Int) (w : World) : Calls Tryz.prog 36 #[.int .i64 z] w fun e w' => e = .returned (.bool (decide (1 ≤ z) && decide (z ≤ 1024))) ∧ w' = w := by
  by_cases h0 : 1 ≤ z
  · have hd : decide ((1 : Int) ≤ z) = true := by simpa using h0
    rw [hd, Bool.true_and]
    clear h0
    generalize hdz : decide (z ≤ 1024) = dz at *
    go_enter Tryz.func36, Tryz.ntmps36
    go_wp2
    go_ret
    exact ⟨rfl, rfl⟩
  · have hd : decide ((1 : Int) ≤ z) = false := by simpa using h0
    rw [hd, Bool.false_and]
    clear h0
    go_enter Tryz.func36, Tryz.ntmps36
    go_wp2
    go_ret
    exact ⟨rfl, rfl⟩
theorem sectorOf_any (k : Nat) (b : ByteArray) (w : World) : Calls Tryz.prog 91 #[.int .i64 (k : Int), .string b] w fun e w' => e = .returned (.string (pgT k b)) ∧ Below w.heap.size w w' := by
  have HM := hide (fun W => make_any rep_ok 3 (k : Int) b W)
  have HP := hide (show pgT k b = makeB 3 (k : Int) b from rfl)
  generalize pgT k b = t at *
  generalize makeB 3 (k : Int) b = t2 at *
  generalize errM 3 (k : Int) b.size = er at *
  go_enter Tryz.func91, Tryz.ntmps91
  go_wp2_with (go_at_call 102; refine (unhide HM _).mono ?_; rintro e w1 ⟨rfl, hb⟩)
  go_ret
  exact ⟨by rw [unhide HP]; rfl, hb⟩
/-- Is this sector page k of a map? -/
def bdOk (t : ByteArray) (k : Nat) : Prop := prOk t ∧ pkd t = 3 ∧ pnm t = (k : Int) ∧ (pbd t).size = 32
instance (t : ByteArray) : Decidable (prOk t) := inferInstanceAs (Decidable (_ ∧ _))
instance (t : ByteArray) (k : Nat) : Decidable (bdOk t k) := inferInstanceAs (Decidable (_ ∧ _))
def bdT (t : ByteArray) (k : Nat) : ByteArray := if bdOk t k then pbd t else ⟨#[]⟩
theorem bd_page (k : Nat) (hk : k < 1024) (b : ByteArray) (hb : b.size = 32) : bdOk (pgT k b) k ∧ bdT (pgT k b) k = b := by
  obtain ⟨h1, h2, h3, h4⟩ := pgT_parse k hk b hb
  have h : bdOk (pgT k b) k := ⟨h1, h2, h3, by rw [h4]; exact hb⟩
  exact ⟨h, by rw [bdT, if_pos h, h4]⟩
set_option maxRecDepth 100000 in
set_option maxHeartbeats 1000000 in
theorem bodyOf_any (t : ByteArray) (ht : t.size ≤ 9223372036854775807) (k : Nat) (w : World) (hg : ETy w) : Calls Tryz.prog 75 #[.string t, .int .i64 (k : Int)] w fun e w' => e = .returned (.tuple #[.string (bdT t k), .bool (decide (bdOk t k))]) ∧ Below w.heap.size w w' := by
  have HP := hide (parse_any rep_ok t ht w hg)
  clear ht hg
  go_enter Tryz.func75, Tryz.ntmps75
  go_wp2_with fail
  refine (unhide HP).mono ?_
  rintro e x1 ⟨q, hb1⟩
  have HB1 := hide hb1
  clear HP hb1
  rcases q with ⟨hpr, rfl⟩ | ⟨hpr, rfl⟩
  · by_cases h : bdOk t k
    · have HT := hide (show bdT t k = pbd t ∧ decide (bdOk t k) = true from ⟨by rw [bdT, if_pos h], decide_eq_true h⟩)
      obtain ⟨h1, h2, h3, h4⟩ := h
      rw [h2, h3]
      have h4' : (((pbd t).size : Int) != 32) = false := by rw [h4]; rfl
      have h3' : ((k : Int) != (k : Int)) = false := by simp
      clear h1 h2 h3 hpr h4
      generalize pbd t = bd at *
      go_wp2
      go_ret2
      rw [(unhide HT).1, (unhide HT).2]
      exact ⟨rfl, (unhide HB1).trans (((Below.refl _ x1).alloc (Nat.le_refl _) _).mono (unhide HB1).size)⟩
    · have HT := hide (show bdT t k = ⟨#[]⟩ ∧ decide (bdOk t k) = false from ⟨by rw [bdT, if_neg h], decide_eq_false h⟩)
      have hc : ¬ (pkd t = 3 ∧ pnm t = (k : Int) ∧ (pbd t).size = 32) := fun q => h ⟨hpr, q.1, q.2.1, q.2.2⟩
      clear h hpr
      generalize pkd t = kd at *
      generalize pnm t = nm at *
      generalize pbd t = bd at *
      by_cases q1 : kd = 3
      · subst q1
        by_cases q2 : nm = (k : Int)
        · subst q2
          have q3 : ((bd.size : Int) != 32) = true := by
            simp only [true_and] at hc
            simp; omega
          have h3' : ((k : Int) != (k : Int)) = false := by simp
          clear hc
          go_wp2
          go_ret2
          rw [(unhide HT).1, (unhide HT).2]
          exact ⟨rfl, (unhide HB1).trans (((Below.refl _ x1).alloc (Nat.le_refl _) _).mono (unhide HB1).size)⟩
        · have q2' : (nm != (k : Int)) = true := by simpa using q2
          clear hc q2
          go_wp2
          go_ret2
          rw [(unhide HT).1, (unhide HT).2]
          exact ⟨rfl, (unhide HB1).trans (((Below.refl _ x1).alloc (Nat.le_refl _) _).mono (unhide HB1).size)⟩
      · have q1' : (kd != 3) = true := by simpa using q1
        clear hc q1
        go_wp2
        go_ret2
        rw [(unhide HT).1, (unhide HT).2]
        exact ⟨rfl, (unhide HB1).trans (((Below.refl _ x1).alloc (Nat.le_refl _) _).mono (unhide HB1).size)⟩
  · have h : ¬ bdOk t k := fun q => hpr q.1
    have HT := hide (show bdT t k = ⟨#[]⟩ ∧ decide (bdOk t k) = false from ⟨by rw [bdT, if_neg h], decide_eq_false h⟩)
    clear h hpr
    go_wp2
    go_ret2
    rw [(unhide HT).1, (unhide HT).2]
    exact ⟨rfl, (unhide HB1).trans (((Below.refl _ x1).alloc (Nat.le_refl _) _).mono (unhide HB1).size)⟩
end Go.Proofs.YtnnehadmnijhjaaGreatDoor

namespace Go.Proofs.YtnnehadmnijhjaaGreatDoor
open Go.Shelf
def Tryz.insL_ren : Go.Shelf.Ren := ⟨fun | 21 => 88 | 27 => 128 | 28 => 129 | 35 => 153 | 39 => 172 | n => n, fun | 22 => 46 | 3 => 3 | 4 => 4 | 0 => 0 | n => n, fun | n => n⟩
theorem Tryz.insL : Go.Proofs.Lays2.n21 Tryz.prog Tryz.insL_ren := {
  mixed := by kernel_rfl
  f21 := Tryz.func88.trans (congrArg some (by kernel_rfl))
  f27 := Tryz.func128.trans (congrArg some (by kernel_rfl))
  f28 := Tryz.func129.trans (congrArg some (by kernel_rfl))
  f35 := Tryz.func153.trans (congrArg some (by kernel_rfl))
  f39 := Tryz.func172.trans (congrArg some (by kernel_rfl))
  t0 := Tryz.underlying0
  a0 := Tryz.isAgg0
  z0 := Tryz.sizeOf0
  v0 := Tryz.zeroValue0
  t3 := Tryz.underlying3
  a3 := Tryz.isAgg3
  z3 := Tryz.sizeOf3
  v3 := Tryz.zeroValue3
  t4 := Tryz.underlying4
  a4 := Tryz.isAgg4
  z4 := Tryz.sizeOf4
  v4 := Tryz.zeroValue4
  t22 := Tryz.underlying46
  a22 := Tryz.isAgg46
  z22 := Tryz.sizeOf46
  v22 := Tryz.zeroValue46
  i3 := by kernel_rfl }
def Tryz.delL_ren : Go.Shelf.Ren := ⟨fun | 10 => 126 | 6 => 152 | n => n, fun | 22 => 46 | 23 => 3 | 25 => 77 | 3 => 3 | 4 => 4 | 0 => 0 | n => n, fun | n => n⟩
theorem Tryz.delL : Go.Proofs.SlLaysH.n10 Tryz.prog Tryz.delL_ren := {
  mixed := by kernel_rfl
  f6 := ⟨Tryz.f152.name, by decide, Tryz.func152.trans (congrArg some (by kernel_rfl))⟩
  f10 := ⟨Tryz.f126.name, by decide, Tryz.func126.trans (congrArg some (by kernel_rfl))⟩
  t0 := Tryz.underlying0
  a0 := Tryz.isAgg0
  z0 := Tryz.sizeOf0
  v0 := Tryz.zeroValue0
  t3 := Tryz.underlying3
  a3 := Tryz.isAgg3
  z3 := Tryz.sizeOf3
  v3 := Tryz.zeroValue3
  t4 := Tryz.underlying4
  a4 := Tryz.isAgg4
  z4 := Tryz.sizeOf4
  v4 := Tryz.zeroValue4
  t22 := Tryz.underlying46
  a22 := Tryz.isAgg46
  z22 := Tryz.sizeOf46
  v22 := Tryz.zeroValue46
  a23 := Tryz.isAgg3
  z23 := Tryz.sizeOf3
  t25 := Tryz.underlying77
  a25 := Tryz.isAgg77
  z25 := Tryz.sizeOf77
  v25 := Tryz.zeroValue77 }
def Tryz.keysL_ren : Go.Shelf.Ren := ⟨fun | 7 => 117 | 10 => 148 | n => n, fun | 23 => 69 | 26 => 3 | 3 => 9 | 28 => 163 | 0 => 0 | 27 => 162 | 33 => 77 | 4 => 4 | n => n, fun | n => n⟩
theorem Tryz.keysL : Go.Proofs.SlLaysZI.n7 Tryz.prog Tryz.keysL_ren := {
  mixed := by kernel_rfl
  f7 := ⟨Tryz.f117.name, by decide, Tryz.func117.trans (congrArg some (by kernel_rfl))⟩
  f10 := ⟨Tryz.f148.name, by decide, Tryz.func148.trans (congrArg some (by kernel_rfl))⟩
  t0 := Tryz.underlying0
  a0 := Tryz.isAgg0
  z0 := Tryz.sizeOf0
  v0 := Tryz.zeroValue0
  t4 := Tryz.underlying4
  a4 := Tryz.isAgg4
  z4 := Tryz.sizeOf4
  v4 := Tryz.zeroValue4
  t23 := Tryz.underlying69
  a23 := Tryz.isAgg69
  z23 := Tryz.sizeOf69
  v23 := Tryz.zeroValue69
  t26 := Tryz.underlying3
  a26 := Tryz.isAgg3
  z26 := Tryz.sizeOf3
  v26 := Tryz.zeroValue3
  t27 := Tryz.underlying162
  a27 := Tryz.isAgg162
  z27 := Tryz.sizeOf162
  v27 := Tryz.zeroValue162
  t28 := Tryz.underlying163
  a28 := Tryz.isAgg163
  z28 := Tryz.sizeOf163
  v28 := Tryz.zeroValue163
  t33 := Tryz.underlying77
  a33 := Tryz.isAgg77
  z33 := Tryz.sizeOf77
  v33 := Tryz.zeroValue77 }
def Tryz.sortedL_ren : Go.Shelf.Ren := ⟨fun | 6 => 116 | 8 => 147 | 9 => 122 | 11 => 160 | 13 => 151 | 12 => 150 | 23 => 170 | 24 => 171 | 14 => 161 | 15 => 162 | 16 => 163 | 17 => 164 | 18 => 165 | 19 => 166 | 20 => 167 | 21 => 168 | 22 => 169 | 25 => 177 | 26 => 178 | 27 => 179 | 28 => 180 | 29 => 181 | 30 => 182 | 31 => 186 | n => n, fun | 26 => 3 | 28 => 163 | 24 => 46 | 0 => 0 | 3 => 3 | 37 => 136 | 48 => 104 | 50 => 176 | 4 => 4 | 40 => 203 | 39 => 202 | 45 => 207 | 5 => 5 | 9 => 9 | 51 => 222 | 55 => 226 | 57 => 242 | 58 => 243 | 33 => 77 | n => n, fun | n => n⟩
theorem Tryz.sortedL : Go.Proofs.SlLaysZI.n6 Tryz.prog Tryz.sortedL_ren := {
  mixed := by kernel_rfl
  f6 := ⟨Tryz.f116.name, by decide, Tryz.func116.trans (congrArg some (by kernel_rfl))⟩
  f8 := ⟨Tryz.f147.name, by decide, Tryz.func147.trans (congrArg some (by kernel_rfl))⟩
  f11 := ⟨Tryz.f160.name, by decide, Tryz.func160.trans (congrArg some (by kernel_rfl))⟩
  t0 := Tryz.underlying0
  a0 := Tryz.isAgg0
  z0 := Tryz.sizeOf0
  v0 := Tryz.zeroValue0
  t24 := Tryz.underlying46
  a24 := Tryz.isAgg46
  z24 := Tryz.sizeOf46
  v24 := Tryz.zeroValue46
  t26 := Tryz.underlying3
  a26 := Tryz.isAgg3
  z26 := Tryz.sizeOf3
  v26 := Tryz.zeroValue3
  t28 := Tryz.underlying163
  a28 := Tryz.isAgg163
  z28 := Tryz.sizeOf163
  v28 := Tryz.zeroValue163
  i26 := by kernel_rfl }
end Go.Proofs.YtnnehadmnijhjaaGreatDoor

namespace Go.Proofs.YtnnehadmnijhjaaGreatDoor
open Go.RowKit
abbrev Wr1 := Int × ByteArray
def wr0 : Wr1 := (0, ⟨#[]⟩)
/-- Writes that lie in memory. -/
def Wls (w : World) (p : Option Addr) (l : List Wr1) : Prop := ∀ j, j < l.length → ∃ g o, p = some ⟨g, o, none⟩ ∧ g < w.heap.size ∧ w.cell? ⟨g, o + j * 2, none⟩ = some (.int .i64 (l.getD j wr0).1) ∧ w.cell? ⟨g, o + j * 2 + 1, none⟩ = some (.string (l.getD j wr0).2)
theorem Wls.only {w w' : World} {p : Option Addr} {l : List Wr1} {P : Nat → Prop} (h : Wls w p l) (ho : Only P w w') (hp : ∀ g o, p = some ⟨g, o, none⟩ → ¬ P g) : Wls w' p l := fun j hj => by
  obtain ⟨g, o, e, h1, h2, h3⟩ := h j hj
  have q := ho.2 g h1 (hp g o e)
  exact ⟨g, o, e, Nat.lt_of_lt_of_le h1 ho.size, (World.cell?_of_block (a := ⟨g, o + j * 2, none⟩) q).trans h2, (World.cell?_of_block (a := ⟨g, o + j * 2 + 1, none⟩) q).trans h3⟩
theorem Wls.below {w w' : World} {p : Option Addr} {l : List Wr1} (h : Wls w p l) (hb : Below w.heap.size w w') : Wls w' p l := h.only (Only.of_below (P := fun _ => False) hb) (fun _ _ _ q => q)
theorem Wls.nil (w : World) (p : Option Addr) : Wls w p [] := fun j hj => by cases hj
theorem DPost.belowR {w w1 w2 : World} {base b : Nat} {v : DV} {s : DSt} (h : DPost base b v s w w1) (hb : Below w1.heap.size w1 w2) : DPost base b v s w w2 := by
  obtain ⟨v1, h1, h2, h3⟩ := h
  exact ⟨v1, h1.below hb, h2.trans (Only.of_below (P := fun _ => False) hb) (fun _ _ q => q.elim), h3⟩
theorem DPost.belowL {w w1 w2 : World} {base b : Nat} {v : DV} {s : DSt} (hb : Below w.heap.size w w1) (h : DPost base b v s w1 w2) : DPost base b v s w w2 := by
  obtain ⟨v1, h1, h2, h3⟩ := h
  refine ⟨v1, h1, (Only.of_below (P := fun _ => False) hb |>.mono (fun _ _ q => q.elim)).trans h2 (fun _ _ q => q), fun k hk => ?_⟩
  rcases h3 k hk with q | q
  · exact .inl q
  · have := hb.size
    exact .inr (by omega)
theorem DPost.size {w w1 : World} {base b : Nat} {v : DV} {s : DSt} (h : DPost base b v s w w1) : w.heap.size ≤ w1.heap.size := by
  obtain ⟨v1, h1, h2, h3⟩ := h
  exact h2.size
theorem DPost.onlyW {w w1 : World} {base b : Nat} {v : DV} {s : DSt} (h : DPost base b v s w w1) : Only (Fd b v) w w1 := by
  obtain ⟨v1, h1, h2, h3⟩ := h
  exact h2
theorem pend_grow (s : DSt) (i : Int) (t : ByteArray) : (writeS s i t).pend.length ≤ s.pend.length + 1 := by
  unfold writeS
  split
  · split
    · split
      · rw [diesS_pend]; omega
      · simp
    · omega
  · omega
theorem acts_grow (s : DSt) (i : Int) (t : ByteArray) : (writeS s i t).acts.length ≤ s.acts.length + 1 := by
  unfold writeS
  split
  · split
    · split
      · rw [diesS_acts]; omega
      · simp
    · omega
  · omega
/-- Sectors are written from the first to the last, and flushed. -/
def layR : DSt → List Wr1 → Int × DSt
  | s, [] => (flushE s, flushS s)
  | s, p :: r => if writeE s p.1 p.2 = 0 then layR (writeS s p.1 p.2) r else (writeE s p.1 p.2, writeS s p.1 p.2)
theorem layR_drop (s : DSt) (l : List Wr1) (k : Nat) (hk : k < l.length) : layR s (l.drop k) = if writeE s (l.getD k wr0).1 (l.getD k wr0).2 = 0 then layR (writeS s (l.getD k wr0).1 (l.getD k wr0).2) (l.drop (k + 1)) else (writeE s (l.getD k wr0).1 (l.getD k wr0).2, writeS s (l.getD k wr0).1 (l.getD k wr0).2) := by
  rw [List.drop_eq_getElem_cons hk, layR]
  have e : l.getD k wr0 = l[k] := by rw [List.getD_eq_getElem?_getD, List.getElem?_eq_getElem hk]; rfl
  rw [e]
theorem layR_sane (l : List Wr1) : ∀ (s : DSt), Sane s → Sane (layR s l).2 := by
  induction l with
  | nil => intro s h; exact h.flush
  | cons p r ih =>
    intro s h
    unfold layR
    split
    · exact ih _ (h.write _ _)
    · exact h.write _ _
theorem layR_acts (l : List Wr1) : ∀ (s : DSt), (layR s l).2.acts.length ≤ s.acts.length + l.length + 1 := by
  induction l with
  | nil =>
    intro s
    show (flushS s).acts.length ≤ _
    unfold flushS
    split
    · rw [diesS_acts]; simp
    · simp
  | cons p r ih =>
    intro s
    have h1 := acts_grow s p.1 p.2
    unfold layR
    split
    · have := ih (writeS s p.1 p.2)
      rw [List.length_cons]
      omega
    · rw [List.length_cons]
      show (writeS s p.1 p.2).acts.length ≤ _
      omega
theorem layR_pend (l : List Wr1) : ∀ (s : DSt), (layR s l).2.pend.length ≤ s.pend.length + l.length := by
  induction l with
  | nil =>
    intro s
    show (flushS s).pend.length ≤ _
    unfold flushS
    split
    · rw [diesS_pend]; simp
    · simp
  | cons p r ih =>
    intro s
    have h1 := pend_grow s p.1 p.2
    unfold layR
    split
    · have := ih (writeS s p.1 p.2)
      rw [List.length_cons]
      omega
    · rw [List.length_cons]
      show (writeS s p.1 p.2).pend.length ≤ _
      omega
theorem load_wr (w : World) (g o : Nat) (z : Int) (t : ByteArray) (h0 : w.cell? ⟨g, o, none⟩ = some (.int .i64 z)) (h1 : w.cell? ⟨g, o + 1, none⟩ = some (.string t)) : (loadVar 96 ⟨g, o, none⟩).run Tryz.prog w = .ok (.agg #[.int .i64 z, .string t]) w := by
  have := run_loadVar_mid (P := Tryz.prog) w g o 96 [.int .i64 z, .string t] _ (fun j v hv => by
    match j with
    | 0 => simpa using h0.trans (by simpa using hv)
    | 1 => exact h1.trans (by simpa using hv)
    | j + 2 => simp at hv) Tryz.underlying96 rfl (by kernel_rfl)
  simpa using this
/-- Behind k of the writes, none of which was refused. -/
def LyI (base b : Nat) (v : DV) (s : DSt) (l : List Wr1) (w : World) (k : Nat) (wr : World) : Prop :=
  ∃ s', DPost base b v s' w wr ∧ Sane s' ∧ layR s l = layR s' (l.drop k) ∧ s'.pend.length ≤ s.pend.length + k ∧ s'.acts.length ≤ s.acts.length + k
set_option maxRecDepth 100000 in
set_option maxHeartbeats 2000000 in
theorem jlay_any (w : World) (base b : Nat) (v : DV) (s : DSt) (h : Dk w base b v s) (hb : base ≤ w.heap.size) (hS : Sane s) (p : Option Addr) (c : Nat) (l : List Wr1) (n : Nat) (hn : n = l.length) (hl : Wls w p l) (hf : ∀ g o, p = some ⟨g, o, none⟩ → ¬ Fd b v g) (hp : s.pend.length + l.length ≤ 1000000000) (ha : s.acts.length + l.length ≤ 1000000000) :
    Calls Tryz.prog 62 #[.pointer (some ⟨b, 0, none⟩), .slice p n c] w fun e w' => e = .returned (.int .i64 (layR s l).1) ∧ DPost base b v (layR s l).2 w w' := by
  have X0 := hide (show LyI base b v s l w 0 w from ⟨s, DPost.refl h, hS, rfl, Nat.le_refl _, Nat.le_refl _⟩)
  have HL := hide hl
  have HF := hide hf
  have HN := hide hn
  have hp2 : s.pend.length + n ≤ 1000000000 := by omega
  have ha2 : s.acts.length + n ≤ 1000000000 := by omega
  clear h hS hl hf hn hp ha
  go_enter Tryz.func62, Tryz.ntmps62
  go_wp2
  go_loopw [10] (fun i wr => ∃ k : Nat, k ≤ n ∧ i = .int .i64 (k : Int) ∧ LyI base b v s l w k wr) (fun i _ => n - (intOf i).toNat)
  case atStart => exact ⟨0, by omega, rfl, unhide X0⟩
  case round =>
    obtain ⟨k, hk, rfl, s', hP, hS', hE, hp', ha'⟩ := hrel
    obtain ⟨wo, rfl⟩ : ∃ wo, wo = wr := ⟨_, rfl⟩
    clear X0
    by_cases hkl : k < n
    · have hkl2 : k < l.length := by rw [← unhide HN]; exact hkl
      obtain ⟨g, o, rfl, hg, c0, c1⟩ := (unhide HL).only hP.onlyW (unhide HF) k hkl2
      have hst := layR_drop s' l k hkl2
      obtain ⟨z, hz⟩ : ∃ z, (l.getD k wr0).1 = z := ⟨_, rfl⟩
      obtain ⟨t, ht⟩ : ∃ t, (l.getD k wr0).2 = t := ⟨_, rfl⟩
      rw [hz, ht] at hst
      rw [hz] at c0
      rw [ht] at c1
      have hld := load_wr wo g (o + k * 2) z t c0 c1
      have HST := hide hst
      have HE := hide hE
      have XP := hide (hP.belowR ((Below.refl _ wo).alloc (Nat.le_refl _) (Obj.cells #[.int .i64 z, .string t] 96)))
      have hgz := hide hz
      have hgt := hide ht
      clear hst hE hP hz ht hkl2
      obtain ⟨v', k1, k2, k3⟩ := unhide XP
      have HK := hide (And.intro k1 (And.intro k2 k3))
      have HS' := hide hS'
      clear k1 k2 k3 XP hS'
      go_wp2_with fail
      refine (write_any _ base b v' s' (unhide HK).1 (Nat.le_trans hb (unhide HK).2.1.size) (unhide HS') (by omega) (by omega) z t).mono ?_
      rintro ev x1 ⟨rfl, hP1⟩
      have XP1 := hide (DPost.trans (unhide HK).2.1 (unhide HK).2.2 hP1)
      clear hP1 c0 c1
      by_cases he : writeE s' z t = 0
      · have XI := hide (show LyI base b v s l w (k + 1) x1 from ⟨_, unhide XP1, (unhide HS').write z t, by rw [unhide HE, unhide HST, if_pos he], by have := pend_grow s' z t; omega, by have := acts_grow s' z t; omega⟩)
        rw [he]
        clear XP1 HK he HE HST
        go_wp2
        go_roundw
        case rel => exact ⟨k + 1, by omega, by go_num, unhide XI⟩
        case measure => simp [intOf]; omega
      · have XI := hide (show layR s l = (writeE s' z t, writeS s' z t) from by rw [unhide HE, unhide HST, if_neg he])
        have hne : (writeE s' z t != 0) = true := by simp [he]
        clear HK HE HST he
        generalize writeE s' z t = E at *
        generalize writeS s' z t = S at *
        go_wp2
        go_ret
        rw [unhide XI]
        exact ⟨rfl, unhide XP1⟩
    · have hk' : k = n := by omega
      subst hk'
      have hE2 : layR s l = (flushE s', flushS s') := by rw [hE, unhide HN, List.drop_length]; rfl
      have HE := hide hE2
      obtain ⟨v', k1, k2, k3⟩ := hP
      have HK := hide (And.intro k1 (And.intro k2 k3))
      have HS' := hide hS'
      clear k1 k2 k3 hS' hE hE2 hkl
      go_wp2_with fail
      refine (flush_any _ base b v' s' (unhide HK).1 (Nat.le_trans hb (unhide HK).2.1.size) (unhide HS') (by omega) (by omega)).mono ?_
      rintro ev x1 ⟨rfl, hP1⟩
      have XP1 := hide (DPost.trans (unhide HK).2.1 (unhide HK).2.2 hP1)
      clear hP1 HK
      go_wp2
      go_ret
      rw [unhide HE]
      exact ⟨rfl, unhide XP1⟩
end Go.Proofs.YtnnehadmnijhjaaGreatDoor

namespace Go.Proofs.YtnnehadmnijhjaaGreatDoor
open Go.RowKit
/-- Numbers that lie in memory. -/
def Inl (w : World) (p : Option Addr) (L : List Int) : Prop := L = [] ∨ ∃ lb lo, p = some ⟨lb, lo, none⟩ ∧ lb < w.heap.size ∧ ∀ j, j < L.length → w.cell? ⟨lb, lo + j, none⟩ = some (.int .i64 (L.getD j 0))
theorem Inl.only {w w' : World} {p : Option Addr} {L : List Int} {P : Nat → Prop} (h : Inl w p L) (ho : Only P w w') (hp : 0 < L.length → ∀ k o, p = some ⟨k, o, none⟩ → ¬ P k) : Inl w' p L := by
  by_cases h0 : 0 < L.length
  · rcases h with h | ⟨lb, lo, e, h1, h2⟩
    · exact .inl h
    · exact .inr ⟨lb, lo, e, Nat.lt_of_lt_of_le h1 ho.size, fun j hj => (World.cell?_of_block (a := ⟨lb, lo + j, none⟩) (ho.2 lb h1 (hp h0 lb lo e))).trans (h2 j hj)⟩
  · exact .inl (List.eq_nil_of_length_eq_zero (by omega))
theorem Inl.below {w w' : World} {B : Nat} {p : Option Addr} {L : List Int} (h : Inl w p L) (hb : Below B w w') (hp : 0 < L.length → ∀ k o, p = some ⟨k, o, none⟩ → k < B) : Inl w' p L := by
  by_cases h0 : 0 < L.length
  · rcases h with h | ⟨lb, lo, e, h1, h2⟩
    · exact .inl h
    · exact .inr ⟨lb, lo, e, Nat.lt_of_lt_of_le h1 hb.size, fun j hj => (hb.cell (p := ⟨lb, lo + j, none⟩) (hp h0 lb lo e)).trans (h2 j hj)⟩
  · exact .inl (List.eq_nil_of_length_eq_zero (by omega))
theorem infoI3 : (Tryz.prog.info? 3).map (fun i => (i.zero, i.size, i.bytes)) = some (some (.int .i64 0), 1, 8) := by kernel_rfl
end Go.Proofs.YtnnehadmnijhjaaGreatDoor

namespace Go.Proofs.YtnnehadmnijhjaaGreatDoor
open Go.RowKit
def wrv : List Wr1 → List Value
  | [] => []
  | p :: r => .int .i64 p.1 :: .string p.2 :: wrv r
theorem wrv_len : ∀ l : List Wr1, (wrv l).length = l.length * 2
  | [] => rfl
  | _ :: r => by simp [wrv, wrv_len r]; omega
theorem wrv_at : ∀ (l : List Wr1) (k : Nat) (_ : k < l.length), (wrv l)[k * 2]? = some (.int .i64 (l.getD k wr0).1) ∧ (wrv l)[k * 2 + 1]? = some (.string (l.getD k wr0).2)
  | p :: r, 0, _ => by simp [wrv]
  | p :: r, k + 1, hk => by
    have := wrv_at r k (by simpa using hk)
    rw [show (k + 1) * 2 = k * 2 + 1 + 1 by omega]
    simpa [wrv] using this
theorem wrv_set : ∀ (l : List Wr1) (k : Nat) (x : Wr1), k < l.length → ((wrv l).set (k * 2) (.int .i64 x.1)).set (k * 2 + 1) (.string x.2) = wrv (l.set k x)
  | p :: r, 0, x, _ => by simp [wrv]
  | p :: r, k + 1, x, hk => by
    have := wrv_set r k x (by simpa using hk)
    rw [show (k + 1) * 2 = k * 2 + 1 + 1 by omega]
    simp only [wrv, List.set_cons_succ]
    rw [this]
theorem wls_blk {w : World} {g : Nat} {l : List Wr1} (h : Blk w g (wrv l).toArray 96) : Wls w (some ⟨g, 0, none⟩) l := fun j hj => by
  obtain ⟨a1, a2⟩ := wrv_at l j hj
  exact ⟨g, 0, rfl, h.lt, by rw [Nat.zero_add, h.cell]; simpa using a1, by rw [Nat.zero_add, h.cell]; simpa using a2⟩
theorem infoWj : (Tryz.prog.info? 96).map (fun i => (i.zero, i.size, i.bytes)) = some (some (.agg #[.int .i64 0, .string ⟨#[]⟩]), 2, 24) := by kernel_rfl
set_option maxRecDepth 100000 in
theorem run_make_w (l : Nat) (hc : l ≤ 1000000000) (w : World) : (Instr.makeSlice 37 (.int .i64 (l : Int)) (.int .i64 (l : Int))).run Tryz.prog w = .ok (.slice (some ⟨w.heap.size, 0, none⟩) l l) (w.alloc (.cells (wrv (List.replicate l wr0)).toArray 96)) := by
  obtain ⟨i0, hi, hz0, hz1, hz2⟩ := info_parts infoWj
  have := run_make (P := Tryz.prog) w 37 96 i0 (.agg #[.int .i64 0, .string ⟨#[]⟩]) Tryz.underlying37 hi hz0 .i64 .i64 (l : Int) (l : Int) (by omega) (by omega) (by rw [hz2]; omega) (by omega)
  rw [this, hz1]
  simp only [Int.toNat_natCast]
  congr 3
  apply Array.ext
  · simp [size_madeCells, wrv_len]
  · intro j h1 h2
    have h2' : j < l * 2 := by simpa [wrv_len] using h2
    have hR : (wrv (List.replicate l wr0))[j]? = some ((wrv (List.replicate l wr0)).toArray[j]) := by simp
    have hq : j / 2 < (List.replicate l wr0).length := by simp; omega
    obtain ⟨a1, a2⟩ := wrv_at (List.replicate l wr0) (j / 2) hq
    have eg : (List.replicate l wr0).getD (j / 2) wr0 = wr0 := by
      rw [List.getD_eq_getElem?_getD, List.getElem?_replicate]
      split <;> rfl
    rw [eg] at a1 a2
    by_cases hm : j % 2 = 0
    · rw [show j / 2 * 2 = j by omega] at a1
      rw [Option.some.inj (hR.symm.trans a1)]
      simp [madeCells, Value.cells, hm, wr0]
    · rw [show j / 2 * 2 + 1 = j by omega] at a2
      rw [Option.some.inj (hR.symm.trans a2)]
      have : j % 2 = 1 := by omega
      simp [madeCells, Value.cells, this, wr0]
theorem getD_of {l : List Wr1} {k : Nat} (hk : k < l.length) : l.getD k wr0 = l[k] := by rw [List.getD_eq_getElem?_getD, List.getElem?_eq_getElem hk]; rfl
def prtW (l : List Wr1) (k : Nat) : List Wr1 := l.take k ++ List.replicate (l.length - k) wr0
theorem prtW_len (l : List Wr1) (k : Nat) (h : k ≤ l.length) : (prtW l k).length = l.length := by simp [prtW]; omega
theorem prtW_step (l : List Wr1) (k : Nat) (h : k < l.length) : (prtW l k).set k (l.getD k wr0) = prtW l (k + 1) := by
  have e1 : l.take (k + 1) = l.take k ++ [l.getD k wr0] := by
    rw [List.take_succ_eq_append_getElem h, getD_of h]
  have e2 : List.replicate (l.length - k) wr0 = wr0 :: List.replicate (l.length - (k + 1)) wr0 := by
    rw [show l.length - k = (l.length - (k + 1)) + 1 by omega, List.replicate_succ]
  rw [prtW, prtW, e1, e2, List.set_append]
  have hl : (l.take k).length = k := by simp; omega
  simp [hl]
def secs (l : List Wr1) : List Int := l.map (·.1)
def ReI (w : World) (l : List Wr1) (k : Nat) (wr : World) : Prop := Blk wr w.heap.size (wrv (prtW l k)).toArray 96 ∧ Below w.heap.size w wr
theorem ReI.step {w wr x : World} {l : List Wr1} {k : Nat} (h : ReI w l k wr) (hk : k < l.length) (hb : Below wr.heap.size wr x) : ReI w l (k + 1) ((x.setCell ⟨w.heap.size, k * 2, none⟩ (.int .i64 (l.getD k wr0).1)).setCell ⟨w.heap.size, k * 2 + 1, none⟩ (.string (l.getD k wr0).2)) := by
  refine ⟨?_, ((h.2.trans (hb.mono h.2.size)).setCell (Nat.le_refl _) _).setCell (Nat.le_refl _) _⟩
  have := ((h.1.below hb h.1.lt).set (k * 2) (.int .i64 (l.getD k wr0).1)).set (k * 2 + 1) (.string (l.getD k wr0).2)
  have e : ((wrv (prtW l k)).toArray.setIfInBounds (k * 2) (.int .i64 (l.getD k wr0).1)).setIfInBounds (k * 2 + 1) (.string (l.getD k wr0).2) = (wrv (prtW l (k + 1))).toArray := by
    rw [← prtW_step l k hk, ← wrv_set _ k _ (by rw [prtW_len l k (by omega)]; exact hk)]
    simp
  rw [e] at this
  exact this
set_option maxRecDepth 100000 in
set_option maxHeartbeats 2000000 in
theorem recordAt_any (i : Nat) (hi : i ≤ 1000000) (w : World) : Calls Tryz.prog 109 #[.int .i64 (i : Int)] w fun e w' => e = .returned (.int .i64 ((2 + i : Nat) : Int)) ∧ w' = w := by
  have hw : IntKind.i64.wrap (2 + (i : Int)) = 2 + (i : Int) := wrapI_eq _ (by omega) (by omega)
  have e : ((2 + i : Nat) : Int) = 2 + (i : Int) := by omega
  rw [e]
  clear e
  go_enter Tryz.func109, Tryz.ntmps109
  go_wp2
  go_ret
  exact ⟨rfl, rfl⟩
end Go.Proofs.YtnnehadmnijhjaaGreatDoor
