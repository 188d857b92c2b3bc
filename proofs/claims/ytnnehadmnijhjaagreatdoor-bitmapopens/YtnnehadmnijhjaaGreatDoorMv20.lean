import Derived.Test.YtnnehadmnijhjaaGreatDoorMv09
import Derived.Test.YtnnehadmnijhjaaGreatDoorMv19
import Derived.Test.YtnnehadmnijhjaaGreatDoorMv10
import Derived.Test.YtnnehadmnijhjaaGreatDoorMv12
import Derived.WalkMore
import Derived.Test.YtnnehadmnijhjaaGreatDoorMv15
namespace Go.Proofs.YtnnehadmnijhjaaGreatDoor
open Go.RowKit Go.Maps Go.Sort Go.Shelf
set_option maxRecDepth 100000 in
set_option maxHeartbeats 1000000 in
theorem turned_any (b : ByteArray) (hb : b.size = 32) (i : Nat) (hi : i < 1000000) (w : World) : Calls Tryz.prog 92 #[.string b, .int .i64 (i : Int)] w fun e w' => e = .returned (.string (turnB b i)) ∧ Below w.heap.size w w' := by
  have HB1 := hide (fun W => byteOf_any i hi W)
  have HB2 := hide (fun W => bitOf_any i hi W)
  have hq : i % 256 / 8 < 32 := by omega
  have hr : i % 8 < 8 := Nat.mod_lt _ (by decide)
  obtain ⟨cap, W, hrun, hBs, hbel⟩ := Bsl.of_string w b (by omega)
  have hA := hBs.2.2.2.2.1
  have hl : (nums b).length = 32 := by rw [nums_len, hb]
  have c1 := hA.get0 (i % 256 / 8) (by omega)
  have f1 := hA.free0 (i % 256 / 8) (by omega)
  rw [byN_eq] at c1
  rw [hb] at hrun
  have hxo := u8_xor_nat (byN b (i % 256 / 8)) (2 ^ (i % 8)) (byN_lt _ _) (two_lt _ hr)
  have hA2 := hA.set0 (i % 256 / 8) (by omega) ((byN b (i % 256 / 8) ^^^ 2 ^ (i % 8) : Nat) : Int)
  have HT := hide (show turnB b i = strOfNums (turnL b i) from rfl)
  have hTl : (turnL b i).length = 32 := by unfold turnL; rw [List.length_set, hl]
  rw [show (nums b).set (i % 256 / 8) ((byN b (i % 256 / 8) ^^^ 2 ^ (i % 8) : Nat) : Int) = turnL b i from rfl] at hA2
  have hcv := run_convert_bytes_arg (P := Tryz.prog) (W.setCell ⟨w.heap.size, i % 256 / 8, none⟩ (.int .u8 ((byN b (i % 256 / 8) ^^^ 2 ^ (i % 8) : Nat) : Int))).drew 122 5 Tryz.underlying122 Tryz.underlying5 w.heap.size 0 32 cap (turnL b i) hTl (fun j hj => hA2.get j (by omega)) 9 Tryz.underlying9
  have HBL := hide (show Below w.heap.size w (W.setCell ⟨w.heap.size, i % 256 / 8, none⟩ (.int .u8 ((byN b (i % 256 / 8) ^^^ 2 ^ (i % 8) : Nat) : Int))) from hbel.setCell (Nat.le_refl _) _)
  have hcap : 32 ≤ cap := by have := hBs.2.2.1; omega
  clear hA2 hA hBs hbel hb
  generalize turnL b i = TL at *
  generalize turnB b i = TB at *
  generalize byN b (i % 256 / 8) ^^^ 2 ^ (i % 8) = xv at *
  generalize byN b (i % 256 / 8) = x at *
  generalize 2 ^ (i % 8) = pw at *
  clear hr
  generalize i % 256 / 8 = q at *
  obtain ⟨g, hgg⟩ : ∃ g, w.heap.size = g := ⟨_, rfl⟩
  rw [hgg] at hrun c1 f1 hcv HBL
  have i0 : (0 : Int) ≤ (q : Int) := by omega
  have i1 : (q : Int) < 32 := by omega
  rw [hgg]
  clear hgg hl hTl
  go_enter Tryz.func92, Tryz.ntmps92
  go_wp2
  go_region_with (first | (go_at_call 77; refine (unhide HB1 _).mono ?_; rintro e w' ⟨rfl, hw'⟩; subst w') | (go_at_call 78; refine (unhide HB2 _).mono ?_; rintro e w' ⟨rfl, hw'⟩; subst w'))
  all_goals
    go_wp2
    go_ret
    rw [unhide HT]
    exact ⟨rfl, (unhide HBL).drew⟩
/-- What read answers: of sector i, as page k. -/
def rdE (S : PS) (i k : Nat) : Int := if (readP S (i : Int)).2.1 = 0 then (if bdOk (readP S (i : Int)).1 k then 0 else 73) else (readP S (i : Int)).2.1
def rdT (S : PS) (i k : Nat) : ByteArray := if (readP S (i : Int)).2.1 = 0 then bdT (readP S (i : Int)).1 k else ⟨#[]⟩
set_option maxRecDepth 100000 in
set_option maxHeartbeats 2000000 in
theorem mread_any {w0 w : World} {b jb pb mb : Nat} {S : PS} {X : Nat → Prop} {a n : Nat} (K : PK w0 w b jb pb S X) (hM : MB w mb pb a n) (hX : X mb) (hg : ETy w0) (ha : a ≤ 1000000) (k : Nat) (hk : k ≤ 1000000) (hT : (readT S.s ((a + k : Nat) : Int)).size ≤ maxLen) (hs : (readP S ((a + k : Nat) : Int)).1.size ≤ 9223372036854775807) :
    Calls Tryz.prog 39 #[.pointer (some ⟨mb, 0, none⟩), .int .i64 (k : Int)] w fun e w' => e = .returned (.tuple #[.string (rdT S (a + k) k), .int .i64 (rdE S (a + k) k)]) ∧ PK w0 w' b jb pb (readP S ((a + k : Nat) : Int)).2.2 X ∧ Only (fun x => ¬ X x) w w' := by
  have c0 := hM.c0
  have c1 := hM.c1
  have Kd : PK w0 w.drew b jb pb S X := K.below ((Below.refl _ w).drew)
  have HRD := hide (pread_any Kd ((a + k : Nat) : Int) hT)
  have HMB := hide (show ∀ W, Only (fun x => ¬ X x) w.drew W → MB W mb pb a n from fun W ho => MB.only (MB.below hM ((Below.refl _ w).drew)) ho (fun q => q hX))
  have HG := hide hg
  have HE := hide (show rdE S (a + k) k = (if (readP S ((a + k : Nat) : Int)).2.1 = 0 then (if bdOk (readP S ((a + k : Nat) : Int)).1 k then 0 else 73) else (readP S ((a + k : Nat) : Int)).2.1) from rfl)
  have HTT := hide (show rdT S (a + k) k = (if (readP S ((a + k : Nat) : Int)).2.1 = 0 then bdT (readP S ((a + k : Nat) : Int)).1 k else ⟨#[]⟩) from rfl)
  have e1 : (a : Int) + (k : Int) = ((a + k : Nat) : Int) := by omega
  have hq : a + k ≤ 2000000 := by omega
  have hwq : IntKind.i64.wrap ((a + k : Nat) : Int) = ((a + k : Nat) : Int) := wrapI_eq _ (by omega) (by omega)
  generalize rdE S (a + k) k = re at *
  generalize rdT S (a + k) k = rt at *
  generalize (readP S ((a + k : Nat) : Int)).1 = t at *
  generalize (readP S ((a + k : Nat) : Int)).2.1 = er at *
  generalize (readP S ((a + k : Nat) : Int)).2.2 = S2 at *
  generalize a + k = ak at *
  clear hM K Kd hT hg
  go_enter Tryz.func39, Tryz.ntmps39
  go_wp2
  refine wp_region_held_drew (S := fun w' => w'.cell? ⟨mb, 0, none⟩ = some (.pointer (some ⟨pb, 0, none⟩)) ∧ w'.cell? ⟨mb, 1, none⟩ = some (.int .i64 (a : Int))) (by kernel_rfl) ⟨c0, c1⟩ ?_
  intro hS
  refine wpAnyH_takeD 0 (some 11) (.pointer (some ⟨mb, 0, none⟩)) rfl rfl (by kernel_rfl) (by kernel_rfl) (by kernel_rfl) (fun _ _ _ h => h) (Or.inl ⟨by rfl, fun w hSw => by obtain ⟨q1, q2⟩ := hSw; go_simp⟩) hS ?_
  simp only [Act.put, List.setIfInBounds_toArray, List.set_cons_zero, List.set_cons_succ]
  refine wpAnyH_takeD 1 (some 12) (.pointer (some ⟨mb, 0, none⟩)) rfl rfl (by kernel_rfl) (by kernel_rfl) (by kernel_rfl) (fun _ _ _ h => h) (Or.inl ⟨by rfl, fun w hSw => by obtain ⟨q1, q2⟩ := hSw; go_simp⟩) hS ?_
  simp only [Act.put, List.setIfInBounds_toArray, List.set_cons_zero, List.set_cons_succ]
  refine wpAnyH_takeD 2 (some 13) (.pointer (some ⟨mb, 0, none⟩)) rfl rfl (by kernel_rfl) (by kernel_rfl) (by kernel_rfl) (fun _ _ _ h => h) (Or.inl ⟨by rfl, fun w hSw => by obtain ⟨q1, q2⟩ := hSw; go_simp⟩) hS ?_
  simp only [Act.put, List.setIfInBounds_toArray, List.set_cons_zero, List.set_cons_succ]
  refine wpAnyH_takeD 3 (some 14) (.pointer (some ⟨pb, 0, none⟩)) rfl rfl (by kernel_rfl) (by kernel_rfl) (by kernel_rfl) (fun _ _ _ h => h) (Or.inl ⟨by rfl, fun w hSw => by obtain ⟨q1, q2⟩ := hSw; go_simp⟩) hS ?_
  simp only [Act.put, List.setIfInBounds_toArray, List.set_cons_zero, List.set_cons_succ]
  refine wpAnyH_takeD 4 (some 15) (.pointer (some ⟨mb, 0, none⟩)) rfl rfl (by kernel_rfl) (by kernel_rfl) (by kernel_rfl) (fun _ _ _ h => h) (Or.inl ⟨by rfl, fun w hSw => by obtain ⟨q1, q2⟩ := hSw; go_simp⟩) hS ?_
  simp only [Act.put, List.setIfInBounds_toArray, List.set_cons_zero, List.set_cons_succ]
  refine wpAnyH_takeD 5 (some 16) (.pointer (some ⟨mb, 0, none⟩)) rfl rfl (by kernel_rfl) (by kernel_rfl) (by kernel_rfl) (fun _ _ _ h => h) (Or.inl ⟨by rfl, fun w hSw => by obtain ⟨q1, q2⟩ := hSw; go_simp⟩) hS ?_
  simp only [Act.put, List.setIfInBounds_toArray, List.set_cons_zero, List.set_cons_succ]
  refine wpAnyH_takeD 6 (some 17) (.pointer (some ⟨mb, 1, none⟩)) rfl rfl (by kernel_rfl) (by kernel_rfl) (by kernel_rfl) (fun _ _ _ h => h) (Or.inl ⟨by rfl, fun w hSw => by obtain ⟨q1, q2⟩ := hSw; go_simp⟩) hS ?_
  simp only [Act.put, List.setIfInBounds_toArray, List.set_cons_zero, List.set_cons_succ]
  refine wpAnyH_takeD 7 (some 18) (.int .i64 (a : Int)) rfl rfl (by kernel_rfl) (by kernel_rfl) (by kernel_rfl) (fun _ _ _ h => h) (Or.inl ⟨by rfl, fun w hSw => by obtain ⟨q1, q2⟩ := hSw; go_simp⟩) hS ?_
  simp only [Act.put, List.setIfInBounds_toArray, List.set_cons_zero, List.set_cons_succ]
  refine wpAnyH_takeD 8 (some 19) (.int .i64 (k : Int)) rfl rfl (by kernel_rfl) (by kernel_rfl) (by kernel_rfl) (fun _ _ _ h => h) (Or.inl ⟨by rfl, fun w hSw => by obtain ⟨q1, q2⟩ := hSw; go_simp⟩) hS ?_
  simp only [Act.put, List.setIfInBounds_toArray, List.set_cons_zero, List.set_cons_succ]
  refine wpAnyH_takeD 9 (some 20) (.int .i64 (ak : Int)) rfl rfl (by kernel_rfl) (by kernel_rfl) (by kernel_rfl) (fun _ _ _ h => h) (Or.inl ⟨by rfl, fun w hSw => by obtain ⟨q1, q2⟩ := hSw; go_simp⟩) hS ?_
  simp only [Act.put, List.setIfInBounds_toArray, List.set_cons_zero, List.set_cons_succ]
  refine wpAnyH_ready (rs := [10]) (by kernel_rfl) (by simp) ?_
  refine AllReadyH.cons rfl (fun K hK => ?_) AllReadyH.nil
  simp only [List.getElem_toArray, List.getElem_cons_succ, List.getElem_cons_zero]
  go_simp
  refine (unhide HRD).mono ?_
  rintro e x1 ⟨rfl, K1, hO1⟩
  have hM1 := unhide HMB x1 hO1
  have c0' := hM1.c0
  have c1' := hM1.c1
  have HK1 := hide (And.intro K1 (show Only (fun x => ¬ X x) w x1 from (Only.of_below (P := fun x => ¬ X x) ((Below.refl _ w).drew)).trans hO1 (fun _ _ q => q)))
  clear K1 hO1 hM1 HRD HMB
  refine hK.out _ _ ⟨c0', c1'⟩ (fun hS => ?_)
  clear hK K
  refine wpAnyH_takeD 11 (some 10) (.tuple #[.string t, .int .i64 er]) rfl rfl (by kernel_rfl) (by kernel_rfl) (by kernel_rfl) (fun _ _ _ h => h) (Or.inl ⟨by rfl, fun w hSw => by obtain ⟨q1, q2⟩ := hSw; go_simp⟩) hS ?_
  simp only [Act.put, List.setIfInBounds_toArray, List.set_cons_zero, List.set_cons_succ]
  refine wpAnyH_takeD 12 (some 22) (.string t) rfl rfl (by kernel_rfl) (by kernel_rfl) (by kernel_rfl) (fun _ _ _ h => h) (Or.inl ⟨by rfl, fun w hSw => by obtain ⟨q1, q2⟩ := hSw; go_simp⟩) hS ?_
  simp only [Act.put, List.setIfInBounds_toArray, List.set_cons_zero, List.set_cons_succ]
  refine wpAnyH_takeD 13 (some 23) (.int .i64 er) rfl rfl (by kernel_rfl) (by kernel_rfl) (by kernel_rfl) (fun _ _ _ h => h) (Or.inl ⟨by rfl, fun w hSw => by obtain ⟨q1, q2⟩ := hSw; go_simp⟩) hS ?_
  simp only [Act.put, List.setIfInBounds_toArray, List.set_cons_zero, List.set_cons_succ]
  refine wpAnyH_takeD 14 (some 6) (.string t) rfl rfl (by kernel_rfl) (by kernel_rfl) (by kernel_rfl) (fun _ _ _ h => h) (Or.inl ⟨by rfl, fun w hSw => by obtain ⟨q1, q2⟩ := hSw; go_simp⟩) hS ?_
  simp only [Act.put, List.setIfInBounds_toArray, List.set_cons_zero, List.set_cons_succ]
  refine wpAnyH_takeD 15 (some 7) (.int .i64 er) rfl rfl (by kernel_rfl) (by kernel_rfl) (by kernel_rfl) (fun _ _ _ h => h) (Or.inl ⟨by rfl, fun w hSw => by obtain ⟨q1, q2⟩ := hSw; go_simp⟩) hS ?_
  simp only [Act.put, List.setIfInBounds_toArray, List.set_cons_zero, List.set_cons_succ]
  refine wpAnyH_done (by kernel_rfl) ?_ _
  clear hS c0 c1 c0' c1'
  by_cases he : er = 0
  · subst he
    have hG1 : ETy x1 := (unhide HG).below (unhide HK1).1.bel (unhide HG).lt
    have HBD := hide (bodyOf_any t hs k x1 hG1)
    clear hG1 hs
    have hE := unhide HE
    have hT := unhide HTT
    rw [if_pos rfl] at hE hT
    by_cases hd : bdOk t k
    · rw [if_pos hd] at hE
      rw [decide_eq_true hd] at HBD
      have HRR := hide (And.intro hE hT)
      clear hE hT HE HTT hd
      go_wp2_with (go_at_call 75; refine (unhide HBD).mono ?_; rintro e x2 ⟨rfl, hb2⟩)
      go_ret2
      rw [(unhide HRR).1, (unhide HRR).2]
      exact ⟨rfl, (unhide HK1).1.below hb2, (unhide HK1).2.trans (Only.of_below (P := fun x => ¬ X x) hb2) (fun _ _ q => q)⟩
    · rw [if_neg hd] at hE
      have hbt : bdT t k = ⟨#[]⟩ := by rw [bdT, if_neg hd]
      rw [hbt] at hT HBD
      rw [decide_eq_false hd] at HBD
      have HRR := hide (And.intro hE hT)
      clear hE hT HE HTT hd hbt
      go_wp2_with (go_at_call 75; refine (unhide HBD).mono ?_; rintro e x2 ⟨rfl, hb2⟩)
      go_ret2
      rw [(unhide HRR).1, (unhide HRR).2]
      exact ⟨rfl, (unhide HK1).1.below hb2, (unhide HK1).2.trans (Only.of_below (P := fun x => ¬ X x) hb2) (fun _ _ q => q)⟩
  · have hE := unhide HE
    have hT := unhide HTT
    rw [if_neg he] at hE hT
    have HRR := hide (And.intro hE hT)
    have hne : (er != 0) = true := by simpa using he
    clear hE hT HE HTT he hs
    go_wp2
    go_ret2
    rw [(unhide HRR).1, (unhide HRR).2]
    exact ⟨rfl, (unhide HK1).1, (unhide HK1).2⟩
set_option maxRecDepth 100000 in
set_option maxHeartbeats 2000000 in
theorem mturn_any {w0 w : World} {b jb pb mb : Nat} {S : PS} {X : Nat → Prop} {a n : Nat} (K : PK w0 w b jb pb S X) (hM : MB w mb pb a n) (hX : X mb) (ha : a ≤ 1000000) (bd : ByteArray) (hbd : bd.size = 32) (p : Nat) (hp : p < 1000000) (hp2 : p / 256 < 1024) :
    Calls Tryz.prog 55 #[.pointer (some ⟨mb, 0, none⟩), .string bd, .int .i64 (p : Int)] w fun e w' => e = .returned (.int .i64 (refP S ((a + p / 256 : Nat) : Int) (pgT (p / 256) (turnB bd p)))) ∧ PK w0 w' b jb pb (writeP S ((a + p / 256 : Nat) : Int) (pgT (p / 256) (turnB bd p))) X ∧ Only (fun x => ¬ X x) w w' := by
  have c0 := hM.c0
  have c1 := hM.c1
  have HPO := hide (fun W => pageOf_any p (by omega) W)
  have HTU := hide (fun W => turned_any bd hbd p (by omega) W)
  have HSE := hide (fun W => sectorOf_any (p / 256) (turnB bd p) W)
  have hts : (pgT (p / 256) (turnB bd p)).size = 256 := pgT_size _ hp2 _ (by rw [turnB_size]; exact hbd)
  have HWR := hide (show ∀ W, Below w.heap.size w W → Calls Tryz.prog 90 #[.pointer (some ⟨pb, 0, none⟩), .int .i64 ((a + p / 256 : Nat) : Int), .string (pgT (p / 256) (turnB bd p))] W fun e w' => e = .returned (.int .i64 (refP S ((a + p / 256 : Nat) : Int) (pgT (p / 256) (turnB bd p)))) ∧ PK w0 w' b jb pb (writeP S ((a + p / 256 : Nat) : Int) (pgT (p / 256) (turnB bd p))) X ∧ Only (fun x => ¬ X x) W w' from fun W hb => pwrite_any (K.below hb) _ _ (by rw [hts]; decide))
  have HMB := hide (show ∀ W, Below w.heap.size w W → MB W mb pb a n from fun W hb => hM.below hb)
  have HMO := hide (show ∀ W W', Below w.heap.size w W → Only (fun x => ¬ X x) W W' → MB W' mb pb a n from fun W W' hb ho => (hM.below hb).only ho (fun q => q hX))
  have e1 : (a : Int) + ((p / 256 : Nat) : Int) = ((a + p / 256 : Nat) : Int) := by omega
  have hq : a + p / 256 ≤ 2000000 := by omega
  have hwq : IntKind.i64.wrap ((a + p / 256 : Nat) : Int) = ((a + p / 256 : Nat) : Int) := wrapI_eq _ (by omega) (by omega)
  clear K hM hts hbd
  generalize refP S ((a + p / 256 : Nat) : Int) (pgT (p / 256) (turnB bd p)) = er at *
  generalize writeP S ((a + p / 256 : Nat) : Int) (pgT (p / 256) (turnB bd p)) = S2 at *
  generalize a + p / 256 = ak at *
  generalize pgT (p / 256) (turnB bd p) = tt at *
  generalize turnB bd p = tb at *
  generalize p / 256 = kk at *
  go_enter Tryz.func55, Tryz.ntmps55
  go_wp2_with (go_at_call 57; refine (unhide HPO _).mono ?_; rintro e w' ⟨rfl, hw'⟩; subst w')
  refine wp_region_held_drew (S := fun w' => w'.cell? ⟨mb, 0, none⟩ = some (.pointer (some ⟨pb, 0, none⟩)) ∧ w'.cell? ⟨mb, 1, none⟩ = some (.int .i64 (a : Int))) (by kernel_rfl) ⟨c0, c1⟩ ?_
  intro hS
  refine wpAnyH_takeD 0 (some 10) (.pointer (some ⟨mb, 0, none⟩)) rfl rfl (by kernel_rfl) (by kernel_rfl) (by kernel_rfl) (fun _ _ _ h => h) (Or.inl ⟨by rfl, fun w hSw => by obtain ⟨q1, q2⟩ := hSw; go_simp⟩) hS ?_
  simp only [Act.put, List.setIfInBounds_toArray, List.set_cons_zero, List.set_cons_succ]
  refine wpAnyH_takeD 1 (some 11) (.pointer (some ⟨mb, 0, none⟩)) rfl rfl (by kernel_rfl) (by kernel_rfl) (by kernel_rfl) (fun _ _ _ h => h) (Or.inl ⟨by rfl, fun w hSw => by obtain ⟨q1, q2⟩ := hSw; go_simp⟩) hS ?_
  simp only [Act.put, List.setIfInBounds_toArray, List.set_cons_zero, List.set_cons_succ]
  refine wpAnyH_takeD 2 (some 12) (.pointer (some ⟨mb, 0, none⟩)) rfl rfl (by kernel_rfl) (by kernel_rfl) (by kernel_rfl) (fun _ _ _ h => h) (Or.inl ⟨by rfl, fun w hSw => by obtain ⟨q1, q2⟩ := hSw; go_simp⟩) hS ?_
  simp only [Act.put, List.setIfInBounds_toArray, List.set_cons_zero, List.set_cons_succ]
  refine wpAnyH_takeD 3 (some 13) (.pointer (some ⟨pb, 0, none⟩)) rfl rfl (by kernel_rfl) (by kernel_rfl) (by kernel_rfl) (fun _ _ _ h => h) (Or.inl ⟨by rfl, fun w hSw => by obtain ⟨q1, q2⟩ := hSw; go_simp⟩) hS ?_
  simp only [Act.put, List.setIfInBounds_toArray, List.set_cons_zero, List.set_cons_succ]
  refine wpAnyH_takeD 4 (some 14) (.pointer (some ⟨mb, 0, none⟩)) rfl rfl (by kernel_rfl) (by kernel_rfl) (by kernel_rfl) (fun _ _ _ h => h) (Or.inl ⟨by rfl, fun w hSw => by obtain ⟨q1, q2⟩ := hSw; go_simp⟩) hS ?_
  simp only [Act.put, List.setIfInBounds_toArray, List.set_cons_zero, List.set_cons_succ]
  refine wpAnyH_takeD 5 (some 15) (.pointer (some ⟨mb, 0, none⟩)) rfl rfl (by kernel_rfl) (by kernel_rfl) (by kernel_rfl) (fun _ _ _ h => h) (Or.inl ⟨by rfl, fun w hSw => by obtain ⟨q1, q2⟩ := hSw; go_simp⟩) hS ?_
  simp only [Act.put, List.setIfInBounds_toArray, List.set_cons_zero, List.set_cons_succ]
  refine wpAnyH_takeD 6 (some 16) (.pointer (some ⟨mb, 1, none⟩)) rfl rfl (by kernel_rfl) (by kernel_rfl) (by kernel_rfl) (fun _ _ _ h => h) (Or.inl ⟨by rfl, fun w hSw => by obtain ⟨q1, q2⟩ := hSw; go_simp⟩) hS ?_
  simp only [Act.put, List.setIfInBounds_toArray, List.set_cons_zero, List.set_cons_succ]
  refine wpAnyH_takeD 7 (some 17) (.int .i64 (a : Int)) rfl rfl (by kernel_rfl) (by kernel_rfl) (by kernel_rfl) (fun _ _ _ h => h) (Or.inl ⟨by rfl, fun w hSw => by obtain ⟨q1, q2⟩ := hSw; go_simp⟩) hS ?_
  simp only [Act.put, List.setIfInBounds_toArray, List.set_cons_zero, List.set_cons_succ]
  refine wpAnyH_takeD 8 (some 18) (.int .i64 (kk : Int)) rfl rfl (by kernel_rfl) (by kernel_rfl) (by kernel_rfl) (fun _ _ _ h => h) (Or.inl ⟨by rfl, fun w hSw => by obtain ⟨q1, q2⟩ := hSw; go_simp⟩) hS ?_
  simp only [Act.put, List.setIfInBounds_toArray, List.set_cons_zero, List.set_cons_succ]
  refine wpAnyH_takeD 9 (some 19) (.int .i64 (ak : Int)) rfl rfl (by kernel_rfl) (by kernel_rfl) (by kernel_rfl) (fun _ _ _ h => h) (Or.inl ⟨by rfl, fun w hSw => by obtain ⟨q1, q2⟩ := hSw; go_simp⟩) hS ?_
  simp only [Act.put, List.setIfInBounds_toArray, List.set_cons_zero, List.set_cons_succ]
  refine wpAnyH_takeD 10 (some 20) (.int .i64 (kk : Int)) rfl rfl (by kernel_rfl) (by kernel_rfl) (by kernel_rfl) (fun _ _ _ h => h) (Or.inl ⟨by rfl, fun w hSw => by obtain ⟨q1, q2⟩ := hSw; go_simp⟩) hS ?_
  simp only [Act.put, List.setIfInBounds_toArray, List.set_cons_zero, List.set_cons_succ]
  refine wpAnyH_takeD 11 (some 21) (.string bd) rfl rfl (by kernel_rfl) (by kernel_rfl) (by kernel_rfl) (fun _ _ _ h => h) (Or.inl ⟨by rfl, fun w hSw => by obtain ⟨q1, q2⟩ := hSw; go_simp⟩) hS ?_
  simp only [Act.put, List.setIfInBounds_toArray, List.set_cons_zero, List.set_cons_succ]
  refine wpAnyH_takeD 12 (some 22) (.int .i64 (p : Int)) rfl rfl (by kernel_rfl) (by kernel_rfl) (by kernel_rfl) (fun _ _ _ h => h) (Or.inl ⟨by rfl, fun w hSw => by obtain ⟨q1, q2⟩ := hSw; go_simp⟩) hS ?_
  simp only [Act.put, List.setIfInBounds_toArray, List.set_cons_zero, List.set_cons_succ]
  refine wpAnyH_ready (rs := [13]) (by kernel_rfl) (by simp) ?_
  refine AllReadyH.cons rfl (fun K hK => ?_) AllReadyH.nil
  simp only [List.getElem_toArray, List.getElem_cons_succ, List.getElem_cons_zero]
  go_simp
  refine (unhide HTU _).mono ?_
  rintro e x1 ⟨rfl, hb1⟩
  have hB1 : Below w.heap.size w x1 := ((Below.refl _ w).drew).trans hb1
  have hM1 := unhide HMB x1 hB1
  have c0' := hM1.c0
  have c1' := hM1.c1
  have HB1 := hide hB1
  clear hB1 hb1 hM1 HTU
  refine hK.out _ _ ⟨c0', c1'⟩ (fun hS => ?_)
  clear hK K
  refine wpAnyH_ready (rs := [14]) (by kernel_rfl) (by simp) ?_
  refine AllReadyH.cons rfl (fun K hK => ?_) AllReadyH.nil
  simp only [List.getElem_toArray, List.getElem_cons_succ, List.getElem_cons_zero]
  go_simp
  refine (unhide HSE _).mono ?_
  rintro e x2 ⟨rfl, hb2⟩
  have hB2 : Below w.heap.size w x2 := (unhide HB1).trans (hb2.mono (unhide HB1).size)
  have hM2 := unhide HMB x2 hB2
  have c02 := hM2.c0
  have c12 := hM2.c1
  have HB2 := hide hB2
  clear hB2 hb2 hM2 HSE HB1
  refine hK.out _ _ ⟨c02, c12⟩ (fun hS => ?_)
  clear hK K
  refine wpAnyH_ready (rs := [15]) (by kernel_rfl) (by simp) ?_
  refine AllReadyH.cons rfl (fun K hK => ?_) AllReadyH.nil
  simp only [List.getElem_toArray, List.getElem_cons_succ, List.getElem_cons_zero]
  go_simp
  refine (unhide HWR x2 (unhide HB2)).mono ?_
  rintro e x3 ⟨rfl, K3, hO3⟩
  have hM3 := unhide HMO x2 x3 (unhide HB2) hO3
  have c03 := hM3.c0
  have c13 := hM3.c1
  have HK3 := hide (And.intro K3 ((Only.of_below (P := fun x => ¬ X x) (unhide HB2)).trans hO3 (fun _ _ q => q)))
  clear K3 hO3 hM3 HWR
  refine hK.out _ _ ⟨c03, c13⟩ (fun hS => ?_)
  clear hK K
  refine wpAnyH_takeD 16 (some 6) (.int .i64 er) rfl rfl (by kernel_rfl) (by kernel_rfl) (by kernel_rfl) (fun _ _ _ h => h) (Or.inl ⟨by rfl, fun w hSw => by obtain ⟨q1, q2⟩ := hSw; go_simp⟩) hS ?_
  simp only [Act.put, List.setIfInBounds_toArray, List.set_cons_zero, List.set_cons_succ]
  refine wpAnyH_done (by kernel_rfl) ?_ _
  go_wp2
  go_ret
  exact ⟨rfl, (unhide HK3).1, (unhide HK3).2⟩
/-- isChangeable: one that was not open is ended again. -/
def chgS (S : PS) : PS := if S.op then S else if S.lost then S else endS S
set_option maxRecDepth 100000 in
set_option maxHeartbeats 1000000 in
theorem changeable_any {w0 w : World} {b jb pb mb : Nat} {S : PS} {X : Nat → Prop} {a n : Nat} (K : PK w0 w b jb pb S X) (hM : MB w mb pb a n) (hX : X mb) :
    Calls Tryz.prog 54 #[.pointer (some ⟨mb, 0, none⟩)] w fun e w' => e = .returned (.bool S.op) ∧ PK w0 w' b jb pb (chgS S) X ∧ Only (fun x => ¬ X x) w w' := by
  have c0 := hM.c0
  have HBG := hide (pbegin_any K)
  have HMB := hide (show ∀ W, Only (fun x => ¬ X x) w W → MB W mb pb a n from fun W ho => hM.only ho (fun q => q hX))
  clear K hM
  cases ho : S.op with
  | true =>
    rw [show beginE S = 60 from by simp [beginE, ho], show beginS S = S from by simp [beginS, ho]] at HBG
    have HC := hide (show chgS S = S from by simp [chgS, ho])
    clear ho
    go_enter Tryz.func54, Tryz.ntmps54
    go_wp2_with (go_at_call 19; refine (unhide HBG).mono ?_; rintro e x1 ⟨rfl, K1, hO1⟩)
    go_ret
    rw [unhide HC]
    exact ⟨rfl, K1, hO1⟩
  | false =>
    cases hl : S.lost with
    | true =>
      rw [show beginE S = 2 from by simp [beginE, ho, hl], show beginS S = S from by simp [beginS, ho, hl]] at HBG
      have HC := hide (show chgS S = S from by simp [chgS, ho, hl])
      clear ho hl
      go_enter Tryz.func54, Tryz.ntmps54
      go_wp2_with (go_at_call 19; refine (unhide HBG).mono ?_; rintro e x1 ⟨rfl, K1, hO1⟩)
      go_ret
      rw [unhide HC]
      exact ⟨rfl, K1, hO1⟩
    | false =>
      rw [show beginE S = 0 from by simp [beginE, ho, hl], show beginS S = { S with op := true } from by simp [beginS, ho, hl]] at HBG
      have HC := hide (show chgS S = endS { S with op := true } from by simp [chgS, ho, hl, endS])
      have HAE := hide (show abortE { S with op := true } = 0 ∧ abortS { S with op := true } = endS { S with op := true } from by simp [abortE, abortS])
      clear ho hl
      go_enter Tryz.func54, Tryz.ntmps54
      go_wp2_with fail
      refine (unhide HBG).mono ?_
      rintro e x1 ⟨rfl, K1, hO1⟩
      have c0' := (unhide HMB x1 hO1).c0
      have HAB := hide (pabort_any K1)
      rw [(unhide HAE).1, (unhide HAE).2] at HAB
      have HO1 := hide hO1
      clear K1 hO1 HBG c0
      go_wp2_with fail
      refine (unhide HAB).mono ?_
      rintro e x2 ⟨rfl, K2, hO2⟩
      have HK2 := hide (And.intro K2 ((unhide HO1).trans hO2 (fun _ _ q => q)))
      clear K2 hO2 HAB
      go_wp2
      go_ret
      rw [unhide HC]
      exact ⟨rfl, (unhide HK2).1, (unhide HK2).2⟩
end Go.Proofs.YtnnehadmnijhjaaGreatDoor

namespace Go.Proofs.YtnnehadmnijhjaaGreatDoor
open Go.RowKit Go.Maps Go.Sort Go.Shelf
end Go.Proofs.YtnnehadmnijhjaaGreatDoor

namespace Go.Proofs.YtnnehadmnijhjaaGreatDoor
open Go.RowKit Go.Maps Go.Sort Go.Shelf
end Go.Proofs.YtnnehadmnijhjaaGreatDoor

namespace Go.Proofs.YtnnehadmnijhjaaGreatDoor
open Go.RowKit Go.Maps Go.Sort Go.Shelf
end Go.Proofs.YtnnehadmnijhjaaGreatDoor

namespace Go.Proofs.YtnnehadmnijhjaaGreatDoor
open Go.RowKit Go.Maps Go.Sort Go.Shelf
set_option maxRecDepth 100000 in
set_option maxHeartbeats 1000000 in
theorem newHand_any (k : Int) (w : World) : Calls Tryz.prog 32 #[.int .i64 k] w fun e w' => ∃ bv, e = .returned (.agg #[.int .i64 k, .map (some bv), .slice none 0 0]) ∧ w.heap.size ≤ bv ∧ Mp w' bv [] ∧ Below w.heap.size w w' := by
  have hmm := @run_makeMap Tryz.prog
  go_enter Tryz.func32, Tryz.ntmps32
  go_wp2
  obtain ⟨w1, hw1⟩ : ∃ w1, w.alloc (.cells #[.int .i64 k, .map (some (w.heap.size + 1)), .slice none 0 0] 71) = w1 := ⟨_, rfl⟩
  have B : Blk (w1.alloc (.map #[] 0)) w.heap.size #[.int .i64 k, .map (some (w.heap.size + 1)), .slice none 0 0] 71 := by rw [← hw1]; exact (Blk.new w _ _).alloc _
  have hs : w1.heap.size = w.heap.size + 1 := by rw [← hw1]; simp
  have hm := Mp.made w1
  rw [hs] at hm
  have hb : Below w.heap.size w (w1.alloc (.map #[] 0)) := by rw [← hw1]; exact ((Below.refl _ w).alloc (Nat.le_refl _) _).alloc (by simp) _
  have hld := load_blk 71 _ B Tryz.underlying71 rfl (by kernel_rfl)
  rw [hw1]
  refine bodyPost_ret (v := .agg #[.int .i64 k, .map (some (w.heap.size + 1)), .slice none 0 0]) (results_cell rfl _ _ _ ⟨w.heap.size, 0, none⟩ rfl _ hld) rfl ⟨_, rfl, by omega, hm, hb⟩
/-- A pool that was made over what journal.Open left. -/
def POk (b : Nat) (keep : Nat) (w1 : World) (jp : Option Addr) (pb bw bv : Nat) (w' : World) : Prop :=
  Blk w' pb #[.pointer (some ⟨b, 0, none⟩), .pointer jp, .bool false, .map (some bw), .int .i64 (keep : Int), .map (some bv), .slice none 0 0, .int .i64 0, .int .i64 0, .bool false] 74 ∧ Mp w' bw [] ∧ Mp w' bv [] ∧ w1.heap.size ≤ pb ∧ w1.heap.size ≤ bw ∧ w1.heap.size ≤ bv ∧ bw ≠ bv ∧ Below w1.heap.size w1 w'
set_option maxRecDepth 100000 in
set_option maxHeartbeats 1000000 in
theorem popen_any (w : World) (b : Nat) (keep : Nat) (hk : keep ≤ 64) (Q : Option Addr → Bool → Int → World → Prop) (hJ : Calls Tryz.prog 31 #[.pointer (some ⟨b, 0, none⟩)] w fun e w' => ∃ jp ag er, e = .returned (.tuple #[.pointer jp, .bool ag, .int .i64 er]) ∧ Q jp ag er w') :
    Calls Tryz.prog 7 #[.pointer (some ⟨b, 0, none⟩), .int .i64 (keep : Int)] w fun e w' => ∃ jp ag er w1, Q jp ag er w1 ∧ ((er ≠ 0 ∧ e = .returned (.tuple #[.pointer none, .int .i64 er]) ∧ w' = w1) ∨ (er = 0 ∧ ∃ pb bw bv, e = .returned (.tuple #[.pointer (some ⟨pb, 0, none⟩), .int .i64 0]) ∧ POk b keep w1 jp pb bw bv w')) := by
  have hd : decide ((keep : Int) < 0) = false := by simp
  have hd2 : decide ((64 : Int) < (keep : Int)) = false := by simp; omega
  have HJ := hide hJ
  have hmm := @run_makeMap Tryz.prog
  clear hJ hk
  go_enter Tryz.func7, Tryz.ntmps7
  go_wp2_with fail
  refine (unhide HJ).mono ?_
  rintro e w1 ⟨jp, ag, er, rfl, hQ⟩
  have HQ := hide hQ
  clear hQ HJ
  by_cases he : er = 0
  · subst he
    have HN := hide (fun W => newHand_any (keep : Int) W)
    obtain ⟨w2, hw2⟩ : ∃ w2, w1.alloc (.map #[] 0) = w2 := ⟨_, rfl⟩
    have hm2 : Mp w2 w1.heap.size [] := by rw [← hw2]; exact Mp.made w1
    have hb2 : Below w1.heap.size w1 w2 := by rw [← hw2]; exact (Below.refl _ _).alloc (Nat.le_refl _) _
    have HW2 := hide (And.intro hw2 (And.intro hm2 hb2))
    clear hw2 hm2 hb2
    go_wp2_with fail
    rw [(unhide HW2).1]
    refine (unhide HN _).mono ?_
    rintro e w3 ⟨bv, rfl, h1, h2, h3⟩
    have hm3 := (unhide HW2).2.1.below h3 (unhide HW2).2.1.lt
    have hb3 := (unhide HW2).2.2.trans (h3.mono (unhide HW2).2.2.size)
    have hne : w1.heap.size ≠ bv := by have := (unhide HW2).2.1.lt; omega
    have hv3 := (unhide HW2).2.2.size
    have HR := hide (And.intro h1 (And.intro h2 (And.intro hm3 (And.intro hb3 (And.intro hne hv3)))))
    clear h1 h2 h3 hm3 hb3 hne hv3
    obtain ⟨bw, hbw⟩ : ∃ x, w1.heap.size = x := ⟨_, rfl⟩
    have HBW := hide hbw
    rw [hbw]
    rw [hbw] at HR
    clear hbw
    go_wp2
    go_ret2
    obtain ⟨h1, h2, hm3, hb3, hne, hv3⟩ := unhide HR
    refine ⟨jp, ag, 0, w1, unhide HQ, .inr ⟨rfl, w3.heap.size, bw, bv, rfl, Blk.new w3 _ _, hm3.alloc _, h2.alloc _, ?_, ?_, ?_, hne, ?_⟩⟩
    · exact hb3.size
    · rw [unhide HBW]; exact Nat.le_refl _
    · rw [unhide HBW]; omega
    · rw [unhide HBW]; exact hb3.alloc (by rw [← unhide HBW]; exact hb3.size) _
  · have hne : (er != 0) = true := by simpa using he
    go_wp2
    go_ret2
    exact ⟨jp, ag, er, _, unhide HQ, .inl ⟨he, rfl, rfl⟩⟩
end Go.Proofs.YtnnehadmnijhjaaGreatDoor

namespace Go.Proofs.YtnnehadmnijhjaaGreatDoor
open Go.RowKit Go.Maps Go.Sort Go.Shelf
/-- A pool over a disk at rest. -/
def restP (L : List ByteArray) (A : List (Nat × Nat)) (nx keep : Nat) : PS := { s := rs L A, nx := nx, jl := false, op := false, tx := [], keep := keep, h := [], hits := 0, mis := 0, lost := false }
theorem POk.pk {w0 w1 w' : World} {b jb pb bw bv keep nx : Nat} {s : DSt} {X : Nat → Prop} (h : JK w0 w1 b jb s nx false X) (hk : keep ≤ 64) (hP : POk b keep w1 (some ⟨jb, 0, none⟩) pb bw bv w') : PK w0 w' b jb pb { s := s, nx := nx, jl := false, op := false, tx := [], keep := keep, h := [], hits := 0, mis := 0, lost := false } X := by
  obtain ⟨a1, a2, a3, a4, a5, a6, a7, a8⟩ := hP
  have hb := h.bel.size
  refine ⟨bw, bv, .slice none 0 0, h.more a8 _ (fun x hx => ?_), a1, a2, ⟨⟨[], List.Perm.refl _, a3⟩, ⟨rfl, .inl ⟨rfl, rfl⟩⟩, fun p hp => by cases hp⟩, a7, by omega, by omega, by omega, fun x hx q => ?_, Nat.zero_le _, hk, Nat.zero_le _, fun p hp => by cases hp⟩
  · rcases hx with q | q
    · exact .inl q
    · refine .inr ?_
      rcases q with q | q | q | q
      · rw [q]; exact ⟨a4, a1.lt⟩
      · rw [q]; exact ⟨a5, a2.lt⟩
      · rw [q]; exact ⟨a6, a3.lt⟩
      · simp [Value.ownBlock] at q
  · have := h.lt x hx
    rcases q with q | q | q | q
    · omega
    · omega
    · omega
    · simp [Value.ownBlock] at q
end Go.Proofs.YtnnehadmnijhjaaGreatDoor

namespace Go.Proofs.YtnnehadmnijhjaaGreatDoor
open Go.RowKit Go.Maps Go.Sort Go.Shelf
end Go.Proofs.YtnnehadmnijhjaaGreatDoor

namespace Go.Proofs.YtnnehadmnijhjaaGreatDoor
open Go.RowKit Go.Maps Go.Sort Go.Shelf
end Go.Proofs.YtnnehadmnijhjaaGreatDoor

namespace Go.Proofs.YtnnehadmnijhjaaGreatDoor
open Go.RowKit Go.Maps Go.Sort Go.Shelf
/-- A pool whose disk is at rest. -/
structure Rst (S : PS) (L : List ByteArray) (A : List (Nat × Nat)) (nx : Nat) : Prop where
  s : S.s = rs L A
  nx : S.nx = nx
  jl : S.jl = false
  lost : S.lost = false
theorem tx_good {tx : Tx} (hs : Srt tx) (hl : tx.length ≤ 16) (hm : ∀ p ∈ tx, 19 ≤ p.1 ∧ p.1 < 128 ∧ p.2.size = 256) : GoodL tx := by
  refine ⟨hl, fun x hx => ⟨(hm x hx).1, (hm x hx).2.1⟩, ?_, fun x hx => (hm x hx).2.2⟩
  show (tx.map (·.1)).Nodup
  exact List.pairwise_map.2 (hs.imp (fun q => by omega))
theorem read_rest {S : PS} {L : List ByteArray} {A : List (Nat × Nat)} {nx : Nat} (h : Rst S L A nx) (k : Nat) (hk : k < L.length) : (readP S k).2.1 = 0 ∧ Rst (readP S k).2.2 L A nx ∧ (readP S k).2.2.op = S.op ∧ (readP S k).2.2.tx = S.tx ∧ (readP S k).2.2.keep = S.keep := by
  have hh : hasB S.s (k : Int) = true := by rw [h.s]; show (decide (0 ≤ (k : Int)) && decide ((k : Int) < (L.length : Int))) = true; simp; omega
  have hr : readE S.s (k : Int) = 0 := by rw [h.s]; exact (read_rs L A k hk).1
  unfold readP
  rw [hh, h.lost]
  cases ht : txAt S.tx (k : Int) with
  | some t => exact ⟨rfl, h, rfl, rfl, rfl⟩
  | none =>
    cases hf : txAt S.h (k : Int) with
    | some t => exact ⟨rfl, ⟨h.s, h.nx, h.jl, h.lost⟩, rfl, rfl, rfl⟩
    | none =>
      simp only [hr, if_true]
      exact ⟨rfl, ⟨h.s, h.nx, h.jl, h.lost⟩, rfl, rfl, rfl⟩
theorem readT_rest {S : PS} {L : List ByteArray} {A : List (Nat × Nat)} {nx : Nat} (h : Rst S L A nx) (k : Nat) (hk : k < L.length) (hz : ∀ t ∈ L, t.size = 256) : (readT S.s (k : Int)).size ≤ maxLen := by
  rw [h.s, (read_rs L A k hk).2]
  have : (L.getD k ByteArray.empty).size = 256 := hz _ (by rw [List.getD_eq_getElem?_getD, List.getElem?_eq_getElem hk]; exact List.getElem_mem hk)
  rw [this]; decide
theorem write_rest {S : PS} {L : List ByteArray} {A : List (Nat × Nat)} {nx : Nat} (h : Rst S L A nx) (i : Int) (t : ByteArray) : Rst (writeP S i t) L A nx ∧ (writeP S i t).op = S.op ∧ (writeP S i t).keep = S.keep := by
  unfold writeP
  split
  · exact ⟨⟨h.s, h.nx, h.jl, h.lost⟩, rfl, rfl⟩
  · exact ⟨h, rfl, rfl⟩
theorem PK.ji {w0 w : World} {b jb pb : Nat} {S : PS} {X : Nat → Prop} (K : PK w0 w b jb pb S X) : JI w0 w b jb S.s S.nx S.jl := by
  obtain ⟨bw, bv, ov, K⟩ := K
  exact K.jk.ji
end Go.Proofs.YtnnehadmnijhjaaGreatDoor
