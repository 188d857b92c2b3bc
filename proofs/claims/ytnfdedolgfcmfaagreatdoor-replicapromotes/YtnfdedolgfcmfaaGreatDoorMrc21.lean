import Derived.Test.YtnfdedolgfcmfaaGreatDoorMrc20
import Derived.Shelf.Sort.Plain
import Derived.Shelf.Slices.In.SortNone
import Derived.Test.YtnfdedolgfcmfaaGreatDoorProg
import Derived.Shelf.SlIterI.Sorted
import Derived.Shelf.SlIterI.Keys
namespace Go.Proofs.YtnfdedolgfcmfaaGreatDoor
open Go.RowKit
set_option maxRecDepth 100000
def pickP (c : Int) (n : Nat) : Nat := ((if c < 0 then -(c + 1) else c) % (n : Int)).toNat
theorem pickP_lt (c : Int) (n : Nat) (hn : 0 < n) : pickP c n < n := by
  have h1 := Int.emod_nonneg (if c < 0 then -(c + 1) else c) (show (n : Int) ≠ 0 by omega)
  have h2 := Int.emod_lt_of_pos (if c < 0 then -(c + 1) else c) (show 0 < (n : Int) by omega)
  unfold pickP
  omega
set_option maxHeartbeats 400000 in
theorem pick22_any (c : Int) (n : Nat) (hn : 0 < n) (hc : I64 c) (w : World) :
    Calls Tryz.prog 10 #[.int .i64 c, .int .i64 (n : Int)] w fun e w' => e = .returned (.int .i64 (pickP c n : Int)) ∧ w' = w := by
  obtain ⟨hc1, hc2⟩ := hc
  have hz : ((n : Int) == 0) = false := by simp; omega
  by_cases h : c < 0
  · have e1 : (-(c + 1)).tmod (n : Int) = (-(c + 1)) % (n : Int) := Int.tmod_eq_emod_of_nonneg (by omega)
    have hp : 0 ≤ (-(c + 1)) % (n : Int) := Int.emod_nonneg _ (by omega)
    have hl : (-(c + 1)) % (n : Int) < (n : Int) := Int.emod_lt_of_pos _ (by omega)
    have HP := hide (show (pickP c n : Int) = (-(c + 1)) % (n : Int) by rw [pickP, if_pos h]; omega)
    go_enter Tryz.func10, Tryz.ntmps10
    go_wp2
    go_ret
    exact ⟨by rw [unhide HP]; rfl, rfl⟩
  · have e1 : c.tmod (n : Int) = c % (n : Int) := Int.tmod_eq_emod_of_nonneg (by omega)
    have hp : 0 ≤ c % (n : Int) := Int.emod_nonneg _ (by omega)
    have hl : c % (n : Int) < (n : Int) := Int.emod_lt_of_pos _ (by omega)
    have HP := hide (show (pickP c n : Int) = c % (n : Int) by rw [pickP, if_neg h]; omega)
    go_enter Tryz.func10, Tryz.ntmps10
    go_wp2
    go_ret
    exact ⟨by rw [unhide HP]; rfl, rfl⟩
theorem pick22_c (c : Int) (n : Nat) (hn : 0 < n) (hc : I64 c) (N : Int) (hN : N = (n : Int)) (w : World) : Calls Tryz.prog 10 #[.int .i64 c, .int .i64 N] w fun e w' => e = .returned (.int .i64 (pickP c n : Int)) ∧ w' = w := by
  subst hN
  exact pick22_any c n hn hc w
set_option maxHeartbeats 1000000 in
/-- the same texts -/
theorem same22 (w : World) (L : List ByteArray) (q B1 B2 c1 c2 : Nat) (p1 p2 : Option Addr) (hq : L.length = q) (h1 : SB w B1 p1 L) (h2 : SB w B2 p2 L) (hq9 : q ≤ 8796093022200) : Calls Tryz.prog 19 #[.slice p1 q c1, .slice p2 q c2] w fun e w' => e = .returned (.bool true) ∧ Below w.heap.size w w' := by
  have H1 := hide h1
  have H2 := hide h2
  have HQ := hide hq
  obtain ⟨h, hh⟩ : ∃ h, w.heap.size = h := ⟨_, rfl⟩
  have e0 : ((q : Int) != (q : Int)) = false := by simp
  clear h1 h2 hq
  rw [hh]
  go_enter Tryz.func19, Tryz.ntmps19
  go_wp2
  go_loopw [5] (fun i wr => ∃ k : Nat, k ≤ q ∧ i = .int .i64 (k : Int) ∧ Hid (∃ n, wr = w.drewN n)) (fun i _ => q - (intOf i).toNat)
  case atStart => exact ⟨0, by omega, rfl, ⟨0, rfl⟩⟩
  case round =>
  obtain ⟨k, hk, rfl, HW⟩ := hrel
  obtain ⟨wi, rfl⟩ : ∃ z, z = wr := ⟨_, rfl⟩
  by_cases hkq : k < q
  · have e1 : (k : Int) < (q : Int) := by omega
    obtain ⟨g1, o1, rfl, _, a1⟩ := unhide H1 k (by rw [unhide HQ]; exact hkq)
    obtain ⟨g2, o2, rfl, _, a2⟩ := unhide H2 k (by rw [unhide HQ]; exact hkq)
    have HWN := hide (show ∃ n, wi.drew = w.drewN n from by obtain ⟨n, rfl⟩ := unhide HW; exact ⟨n + 1, rfl⟩)
    obtain ⟨n, hn⟩ := unhide HW
    have a1 : wi.drew.cell? ⟨g1, o1 + k, none⟩ = some (.string (L.getD k ⟨#[]⟩)) := by rw [hn]; exact a1
    have a2 : wi.drew.cell? ⟨g2, o2 + k, none⟩ = some (.string (L.getD k ⟨#[]⟩)) := by rw [hn]; exact a2
    generalize L.getD k ⟨#[]⟩ = t at *
    clear hn n HW
    go_wp2_with fail
    refine wp_region_held_drew (S := fun W => W.cell? ⟨g1, o1 + k, none⟩ = some (.string t) ∧ W.cell? ⟨g2, o2 + k, none⟩ = some (.string t)) (by kernel_rfl) ⟨a1, a2⟩ ?_
    intro hS
    refine wpAnyH_takeD 0 (some 17) (.slice (some ⟨g1, o1, none⟩) q c1) rfl rfl (by kernel_rfl) (by kernel_rfl) (by kernel_rfl) (fun _ _ _ h => h) (Or.inl ⟨by rfl, fun w hSw => by obtain ⟨b1, b2⟩ := hSw; go_simp; try (intro hbad; omega)⟩) hS ?_
    simp only [Act.put, List.setIfInBounds_toArray, List.set_cons_zero, List.set_cons_succ]
    refine wpAnyH_takeD 1 (some 18) (.int .i64 (k : Int)) rfl rfl (by kernel_rfl) (by kernel_rfl) (by kernel_rfl) (fun _ _ _ h => h) (Or.inl ⟨by rfl, fun w hSw => by obtain ⟨b1, b2⟩ := hSw; go_simp; try (intro hbad; omega)⟩) hS ?_
    simp only [Act.put, List.setIfInBounds_toArray, List.set_cons_zero, List.set_cons_succ]
    refine wpAnyH_takeD 2 (some 19) (.pointer (some ⟨g1, o1 + k, none⟩)) rfl rfl (by kernel_rfl) (by kernel_rfl) (by kernel_rfl) (fun _ _ _ h => h) (Or.inl ⟨by rfl, fun w hSw => by obtain ⟨b1, b2⟩ := hSw; go_simp; try (intro hbad; omega)⟩) hS ?_
    simp only [Act.put, List.setIfInBounds_toArray, List.set_cons_zero, List.set_cons_succ]
    refine wpAnyH_takeD 3 (some 20) (.string t) rfl rfl (by kernel_rfl) (by kernel_rfl) (by kernel_rfl) (fun _ _ _ h => h) (Or.inl ⟨by rfl, fun w hSw => by obtain ⟨b1, b2⟩ := hSw; go_simp; try (intro hbad; omega)⟩) hS ?_
    simp only [Act.put, List.setIfInBounds_toArray, List.set_cons_zero, List.set_cons_succ]
    refine wpAnyH_takeD 4 (some 21) (.slice (some ⟨g2, o2, none⟩) q c2) rfl rfl (by kernel_rfl) (by kernel_rfl) (by kernel_rfl) (fun _ _ _ h => h) (Or.inl ⟨by rfl, fun w hSw => by obtain ⟨b1, b2⟩ := hSw; go_simp; try (intro hbad; omega)⟩) hS ?_
    simp only [Act.put, List.setIfInBounds_toArray, List.set_cons_zero, List.set_cons_succ]
    refine wpAnyH_takeD 5 (some 22) (.int .i64 (k : Int)) rfl rfl (by kernel_rfl) (by kernel_rfl) (by kernel_rfl) (fun _ _ _ h => h) (Or.inl ⟨by rfl, fun w hSw => by obtain ⟨b1, b2⟩ := hSw; go_simp; try (intro hbad; omega)⟩) hS ?_
    simp only [Act.put, List.setIfInBounds_toArray, List.set_cons_zero, List.set_cons_succ]
    refine wpAnyH_takeD 6 (some 23) (.pointer (some ⟨g2, o2 + k, none⟩)) rfl rfl (by kernel_rfl) (by kernel_rfl) (by kernel_rfl) (fun _ _ _ h => h) (Or.inl ⟨by rfl, fun w hSw => by obtain ⟨b1, b2⟩ := hSw; go_simp; try (intro hbad; omega)⟩) hS ?_
    simp only [Act.put, List.setIfInBounds_toArray, List.set_cons_zero, List.set_cons_succ]
    refine wpAnyH_takeD 7 (some 24) (.string t) rfl rfl (by kernel_rfl) (by kernel_rfl) (by kernel_rfl) (fun _ _ _ h => h) (Or.inl ⟨by rfl, fun w hSw => by obtain ⟨b1, b2⟩ := hSw; go_simp; try (intro hbad; omega)⟩) hS ?_
    simp only [Act.put, List.setIfInBounds_toArray, List.set_cons_zero, List.set_cons_succ]
    refine wpAnyH_takeD 8 (some 25) (.bool false) rfl rfl (by kernel_rfl) (by kernel_rfl) (by kernel_rfl) (fun _ _ _ h => h) (Or.inl ⟨by rfl, fun w hSw => by obtain ⟨b1, b2⟩ := hSw; go_simp; try (intro hbad; omega)⟩) hS ?_
    simp only [Act.put, List.setIfInBounds_toArray, List.set_cons_zero, List.set_cons_succ]
    refine wpAnyH_done (by kernel_rfl) ?_ _
    go_wp2
    go_roundw
    case rel => exact ⟨k + 1, by omega, by go_num, HWN⟩
    case measure => simp [intOf] <;> omega
  · have e1 : ¬ (k : Int) < (q : Int) := by omega
    have HB := hide (show Below h w wi from by obtain ⟨n, rfl⟩ := unhide HW; exact below_drewN (Below.refl _ _) n)
    clear HW
    go_wp2
    go_ret
    exact ⟨rfl, unhide HB⟩
/-- a sector of one byte, under way -/
def fdL (c : Int) (k : Nat) : List Int := List.replicate k (c % 256) ++ List.replicate (256 - k) 0
def fdB (c : Int) : ByteArray := strOfNums (List.replicate 256 (c % 256))
theorem fdB_size (c : Int) : (fdB c).size = 256 := by rw [fdB, strOfNums_size, List.length_replicate]
theorem fdB_zero : fdB 0 = zR 256 := by rw [fdB, zR, show (0 : Int) % 256 = 0 from rfl]
theorem fdL_len (c : Int) (k : Nat) (h : k ≤ 256) : (fdL c k).length = 256 := by simp [fdL]; omega
theorem fdL_set (c : Int) (k : Nat) (h : k < 256) : (fdL c k).set k (c % 256) = fdL c (k + 1) := by
  have e1 : (List.replicate k (c % 256)).length = k := List.length_replicate
  obtain ⟨d, hd⟩ : ∃ d, 256 - k = d + 1 := ⟨256 - k - 1, by omega⟩
  unfold fdL
  rw [hd, List.replicate_succ, List.set_append_right _ _ (by omega), e1, Nat.sub_self, List.set_cons_zero, show 256 - (k + 1) = d by omega, List.replicate_succ', List.append_assoc]
  rfl
theorem fdL_all (c : Int) : fdL c 256 = List.replicate 256 (c % 256) := by rw [fdL, Nat.sub_self, List.replicate_zero, List.append_nil]
set_option maxHeartbeats 2000000 in
theorem filled22 (c : Int) (w : World) : Calls Tryz.prog 25 #[.int .i64 c] w fun e w' => e = .returned (.string (fdB c)) ∧ Below w.heap.size w w' := by
  obtain ⟨r, hr⟩ : ∃ z, fdB c = z := ⟨_, rfl⟩
  rw [hr]
  have HRR := hide hr
  clear hr
  have HK0 := hide (show KeyInv w (fdL c 0) (w.alloc (.cells ((List.replicate 256 (0 : Int)).map (Value.int .u8)).toArray 5)) from ⟨arr_new w .u8 (fdL c 0) 5 _ (by simp [fdL]), (Below.refl _ _).alloc (Nat.le_refl _) _, by simp⟩)
  have hm : (Instr.makeSlice 122 (.int .i64 256) (.int .i64 256)).run Tryz.prog w = _ := run_make_u8 256 256 (Nat.le_refl _) (by omega) w
  generalize w.alloc (.cells ((List.replicate 256 (0 : Int)).map (Value.int .u8)).toArray 5) = x0 at *
  obtain ⟨b, hb⟩ : ∃ b, w.heap.size = b := ⟨_, rfl⟩
  rw [hb] at hm ⊢
  have HBB := hide hb
  clear hb
  go_enter Tryz.func25, Tryz.ntmps25
  go_wp2
  go_loopw [4] (fun i wr => ∃ k : Nat, k ≤ 256 ∧ i = .int .i64 (k : Int) ∧ Hid (KeyInv w (fdL c k) wr)) (fun i _ => 256 - (intOf i).toNat)
  case atStart => exact ⟨0, by omega, rfl, HK0⟩
  case round =>
  obtain ⟨k, hk, rfl, HK⟩ := hrel
  obtain ⟨wi, rfl⟩ : ∃ z, z = wr := ⟨_, rfl⟩
  clear HK0
  by_cases hkn : k < 256
  · have e1 : (k : Int) < 256 := by omega
    have hl := fdL_len c k hk
    have hK := unhide HK
    have hc := hK.1.get k (by omega)
    have hf := hK.1.free k (by omega)
    have HN := hide (hK.put k (by omega) (c % 256) (fdL_set c k hkn))
    rw [unhide HBB] at hc hf HN
    rw [Nat.zero_add] at hc hf
    obtain ⟨ov, hov⟩ : ∃ z, (fdL c k).getD k 0 = z := ⟨_, rfl⟩
    rw [hov] at hc
    clear HK hK hl hov
    go_wp2
    go_roundw
    case rel => exact ⟨k + 1, by omega, by go_num, HN⟩
    case measure => simp [intOf] <;> omega
  obtain ⟨m, hm⟩ : ∃ m : Nat, m = 256 := ⟨_, rfl⟩
  have e1 : ¬ (k : Int) < 256 := by omega
  have HQ := unhide HK
  have hk6 : k = 256 := by omega
  have HQ6 : KeyInv w (List.replicate 256 (c % 256)) wi := by
    rw [hk6, fdL_all] at HQ
    exact HQ
  have hcv := run_convert_bytes_arg (P := Tryz.prog) wi 122 5 Tryz.underlying122 Tryz.underlying5 b 0 256 256 (List.replicate 256 (c % 256)) (by simp) (fun i hi => by rw [← unhide HBB]; exact HQ6.1.get i (by rw [List.length_replicate]; exact hi)) 9 Tryz.underlying9
  rw [show strOfNums (List.replicate 256 (c % 256)) = fdB c from rfl, unhide HRR] at hcv
  have HF := hide (show Below b w wi from by rw [← unhide HBB]; exact HQ6.2.1)
  clear HQ HQ6 HK hm hk6
  go_wp2
  go_ret
  exact ⟨rfl, unhide HF⟩
theorem bl_new (w : World) (T : TypeId) (x : Value) (j : Nat) (u : Value) (hu : [x][j]? = some u) : (w.alloc (.cells #[x] T)).cell? (Addr.add ⟨w.heap.size, 0, none⟩ j) = some u := by
  rw [Addr.add_mid, Nat.zero_add, (Blk.new w T #[x]).cell j, ← hu]
  simp
theorem strs_rep (n : Nat) (s : ByteArray) : strs (List.replicate (n + 1) s) = strs (List.replicate n s) ++ [.string s] := by
  rw [strs, strs, List.replicate_succ', List.map_append]
  rfl
set_option maxHeartbeats 4000000 in
theorem blank22 (n : Nat) (hn : n ≤ 100000) (w : World) : Calls Tryz.prog 9 #[.int .i64 (n : Int)] w fun e w' => ∃ v, e = .returned v ∧ w'.ownsRow w.heap.size 9 1 v n (strs (List.replicate n (zR 256))) ∧ Below w.heap.size w w' := by
  obtain ⟨i0, hi, hz0, hz1, hz2⟩ := info_parts yinfoS
  have HI := hide (And.intro hi (And.intro hz0 (And.intro hz1 hz2)))
  have HF := hide (filled22 0 w)
  obtain ⟨Z, hZ⟩ : ∃ q, zR 256 = q := ⟨_, rfl⟩
  rw [fdB_zero, hZ] at HF
  rw [hZ]
  clear hi hz0 hz1 hz2 hZ
  go_enter Tryz.func9, Tryz.ntmps9
  go_wp2_with fail
  refine (unhide HF).mono ?_
  rintro e y ⟨rfl, hy⟩
  obtain ⟨b, hb⟩ : ∃ b, w.heap.size = b := ⟨_, rfl⟩
  rw [hb] at hy
  clear HF
  go_wp2
  go_loopw [3, 5] (fun u i wr => ∃ k : Nat, k ≤ n ∧ i = .int .i64 (k : Int) ∧ wr.ownsRow b 9 1 u k (strs (List.replicate k Z)) ∧ Below b w wr) (fun _ i _ => n - (intOf i).toNat)
  case atStart => exact ⟨0, by omega, rfl, World.ownsRow_nil _ _ _ _, hy⟩
  case round =>
  obtain ⟨k, hk, rfl, ho, hb9⟩ := hrel
  obtain ⟨pw, cw, rfl, hcw⟩ := yr_form ho
  by_cases hkn : k < n
  · have e1 : (k : Int) < (n : Int) := by omega
    have HO := hide (show (wr.alloc (.cells #[.string Z] 9)).ownsRow b 9 1 (.slice pw k cw) k (strs (List.replicate k Z)) from ho.alloc _)
    have HB := hide hb9
    have hsz : b ≤ wr.heap.size := by have := hb9.size; omega
    have HN := hide (strs_rep k Z)
    have HBE := hide hb
    clear ho hb9 hb
    go_wp2_with (refine wpList_append_lies _ rfl (.tmp 12) (.tmp 14) 24 rfl b 9 i0 (.string ⟨#[]⟩) 1 16 Tryz.underlying24 (unhide HI).1 (unhide HI).2.1 (unhide HI).2.2.1 (unhide HI).2.2.2 rfl (by decide) _ k _ rfl (unhide HO) ⟨wr.heap.size, 0, none⟩ 1 1 [.string Z] rfl rfl (fun q u hu => bl_new wr _ _ q u hu) (by simp [Value.oneCell']) (by decide) (by unfold maxLen; omega) (by omega) (by simp; omega) (wr.heap.size + 1) (by simp) ?_)
    intro g5 cap5 x5 ho5 hg5 _ _
    have HX := hide (show x5.ownsRow b 9 1 (.slice (some ⟨g5, 0, none⟩) (k + 1) cap5) (k + 1) (strs (List.replicate (k + 1) Z)) ∧ Below b w x5 from ⟨by
      rw [unhide HN]
      exact ho5, ((unhide HB).alloc (by have := unhide HBE; omega) _).grown hg5 (by have := unhide HBE; simp; omega) (fun q hq => ((unhide HO).lt q hq).1)⟩)
    clear ho5 hg5 HO HB
    go_wp2
    go_roundw
    case rel => exact ⟨k + 1, by omega, by go_num, (unhide HX).1, (unhide HX).2⟩
    case measure => simp [intOf] <;> omega
  · obtain rfl : k = n := by omega
    have e1 : ¬ (k : Int) < (k : Int) := by omega
    have HO := hide ho
    have HB := hide hb9
    clear ho hb9 hcw
    go_wp2
    go_ret
    exact ⟨_, rfl, unhide HO, unhide HB⟩
/-- edits in memory -/
def EdM (w : World) (B : Nat) (p : Option Addr) (E : List (Int × Int)) : Prop := ∀ j, j < E.length → ∃ g o, p = some ⟨g, o, none⟩ ∧ g < B ∧ w.cell? ⟨g, o + j * 2, none⟩ = some (.int .i64 (E.getD j (0, 0)).1) ∧ w.cell? ⟨g, o + j * 2 + 1, none⟩ = some (.int .i64 (E.getD j (0, 0)).2)
/-- an image with the first edits -/
def edP (M : List ByteArray) (m : Nat) (E : List (Int × Int)) : Nat → List ByteArray
  | 0 => M
  | j + 1 => (edP M m E j).set (pickP (E.getD j (0, 0)).1 m) (fdB (pickP (E.getD j (0, 0)).2 256 : Int))
theorem edP_len (M : List ByteArray) (m : Nat) (E : List (Int × Int)) : ∀ j, (edP M m E j).length = M.length
  | 0 => rfl
  | j + 1 => by rw [edP, List.length_set, edP_len M m E j]
theorem edP_im (M : List ByteArray) (m : Nat) (E : List (Int × Int)) (h : imB M = true) : ∀ j, imB (edP M m E j) = true
  | 0 => h
  | j + 1 => by
    have h1 := edP_im M m E h j
    unfold imB at h1 ⊢
    rw [decide_eq_true_iff] at h1 ⊢
    have e : (edP M m E (j + 1)).length = (edP M m E j).length := by rw [edP, List.length_set]
    rw [e]
    refine ⟨h1.1, h1.2.1, fun i hi => ?_⟩
    rw [edP, List.getD_eq_getElem?_getD, List.getElem?_set]
    by_cases q : pickP (E.getD j (0, 0)).1 m = i
    · rw [if_pos q, if_pos (by omega)]
      exact fdB_size _
    · rw [if_neg q, ← List.getD_eq_getElem?_getD]
      exact h1.2.2 i hi
set_option maxHeartbeats 4000000 in
theorem edited22 (w : World) (M : List ByteArray) (m : Nat) (hm : M.length = m) (hm1 : 1 ≤ m) (hm9 : m ≤ 100000) (B c : Nat) (p : Option Addr) (hS : SB w B p M) (hB : B ≤ w.heap.size) (E : List (Int × Int)) (n : Nat) (hE : E.length = n) (hn : n ≤ 9223372036854775807) (Be ce : Nat) (pe : Option Addr) (hEd : EdM w Be pe E) (hBe : Be ≤ w.heap.size) (hI : ∀ j, j < n → I64 (E.getD j (0, 0)).1 ∧ I64 (E.getD j (0, 0)).2) :
    Calls Tryz.prog 13 #[.slice p m c, .slice pe n ce] w fun e w' => ∃ g, e = .returned (.slice (some ⟨g, 0, none⟩) m m) ∧ w.heap.size ≤ g ∧ Blk w' g (strs (edP M m E n)).toArray 9 ∧ Below w.heap.size w w' := by
  obtain ⟨gm, om, rfl, hgm, _⟩ := hS 0 (by omega)
  have hmk := ymake_s m (by omega) w
  have HW0 := hide (show Blk (w.alloc (.cells (Array.replicate m (.string ⟨#[]⟩)) 9)) w.heap.size (strs (List.replicate m (⟨#[]⟩ : ByteArray))).toArray 9 ∧ Below w.heap.size w (w.alloc (.cells (Array.replicate m (.string ⟨#[]⟩)) 9)) from ⟨by
    have e : (Array.replicate m (Value.string ⟨#[]⟩)) = (strs (List.replicate m (⟨#[]⟩ : ByteArray))).toArray := by simp [strs]
    rw [← e]
    exact Blk.new w 9 _, (Below.refl _ _).alloc (Nat.le_refl _) _⟩)
  obtain ⟨x0, hx0⟩ : ∃ q, w.alloc (.cells (Array.replicate m (.string ⟨#[]⟩)) 9) = q := ⟨_, rfl⟩
  obtain ⟨g, hg⟩ : ∃ q, w.heap.size = q := ⟨_, rfl⟩
  rw [hx0, hg] at HW0
  rw [hx0, hg] at hmk
  have HSRC := hide (show ∀ (j : Nat) v, (strs M)[j]? = some v → x0.cell? ((⟨gm, om, none⟩ : Addr).add j) = some v from fun j v hv => by
    have hj : j < M.length := by
      have := (List.getElem?_eq_some_iff.1 hv).1
      simpa [strs] using this
    obtain ⟨g3, o3, e3, hg3, hc3⟩ := hS j hj
    obtain ⟨rfl, rfl⟩ : gm = g3 ∧ om = o3 := by injection e3 with e3; injection e3 with e4 e5; exact ⟨e4, e5⟩
    rw [Addr.add_mid]
    refine ((unhide HW0).2.cell (p := ⟨gm, om + j, none⟩) (by show gm < g; omega)).trans (hc3.trans ?_)
    rw [← hv]
    simp [strs, List.getD_eq_getElem?_getD, List.getElem?_eq_getElem hj])
  have hst : (strs M).length = m := by simp [strs, hm]
  have HE := hide (show ∀ y, Below g w y → EdM y Be pe E from fun y hy j hj => by
    obtain ⟨g1, o1, e, hg1, q1, q2⟩ := hEd j hj
    exact ⟨g1, o1, e, hg1, (hy.cell (p := ⟨g1, o1 + j * 2, none⟩) (by show g1 < g; omega)).trans q1, (hy.cell (p := ⟨g1, o1 + j * 2 + 1, none⟩) (by show g1 < g; omega)).trans q2⟩)
  have HI := hide hI
  have HEL := hide hE
  have HM := hide hm
  have HBE := hide (show Be ≤ g by omega)
  rw [hg]
  clear hS hB hEd hBe hI hE hg hx0 hgm
  go_enter Tryz.func13, Tryz.ntmps13
  go_wp2_with (refine wpList_copy_splice rfl (.tmp 10) (.tmp 11) 24 24 rfl 9 Tryz.underlying24 (by kernel_rfl) (some ⟨g, 0, none⟩) (some ⟨gm, om, none⟩) m m m c rfl rfl g 0 (strs (List.replicate m (⟨#[]⟩ : ByteArray))) 9 (unhide HW0).1 (strs M) (by rw [hst]; exact (Nat.min_self m).symm) (fun _ => ⟨rfl, _, rfl, unhide HSRC⟩) (by rw [hst]; simp [strs]) (by simp [strs, Value.oneCell']) g x0 (Below.refl _ _) (Nat.le_refl _) ?_)
  intro y2 hy2 hby
  have HG2 := hide (show Blk y2 g (strs (edP M m E 0)).toArray 9 ∧ Below g w y2 from ⟨by
    have e := unhide hy2
    have e2 : splice (strs (List.replicate m (⟨#[]⟩ : ByteArray))) 0 (strs M) = strs M := by
      unfold splice
      rw [List.take_zero, List.nil_append, hst, List.drop_of_length_le (by simp [strs]), List.append_nil]
    rw [e2] at e
    exact e, (unhide HW0).2.trans hby⟩)
  clear hy2 hby HSRC hst hmk
  go_wp2
  go_loopw [6] (fun i wr => ∃ k : Nat, k ≤ n ∧ i = .int .i64 (k : Int) ∧ Hid (Blk wr g (strs (edP M m E k)).toArray 9 ∧ Below g w wr)) (fun i _ => n - (intOf i).toNat)
  case atStart => exact ⟨0, by omega, rfl, HG2⟩
  case round =>
  obtain ⟨k, hk, rfl, HR⟩ := hrel
  obtain ⟨wo, rfl⟩ : ∃ wo, wo = wr := ⟨_, rfl⟩
  clear HG2
  by_cases hkn : k < n
  · have e1 : (k : Int) < (n : Int) := by omega
    obtain ⟨ge, oe, rfl, hge, d0, d1⟩ := unhide HE wo (unhide HR).2 k (by rw [unhide HEL]; exact hkn)
    obtain ⟨A, hA⟩ : ∃ q, (E.getD k (0, 0)).1 = q := ⟨_, rfl⟩
    obtain ⟨T9, hT⟩ : ∃ q, (E.getD k (0, 0)).2 = q := ⟨_, rfl⟩
    rw [hA] at d0
    rw [hT] at d1
    have c0 : wo.drew.cell? ⟨ge, oe + k * 2, none⟩ = some (.int .i64 A) := d0
    have c1 : wo.drew.cell? ⟨ge, oe + k * 2 + 1, none⟩ = some (.int .i64 T9) := d1
    have hIk := unhide HI k hkn
    rw [hA, hT] at hIk
    have hxl := pickP_lt A m (by omega)
    have HP1 := hide (fun W => pick22_any A m (by omega) hIk.1 W)
    have HP2 := hide (fun W => pick22_c T9 256 (by omega) hIk.2 256 rfl W)
    obtain ⟨x, hx⟩ : ∃ q, pickP A m = q := ⟨_, rfl⟩
    obtain ⟨y, hy⟩ : ∃ q, pickP T9 256 = q := ⟨_, rfl⟩
    have HS9 := hide (show edP M m E (k + 1) = (edP M m E k).set x (fdB (y : Int)) from by rw [edP, hA, hT, hx, hy])
    rw [hx] at HP1 hxl
    rw [hy] at HP2
    have hne : (⟨g, x, none⟩ : Addr).block ≠ (⟨ge, 0, none⟩ : Addr).block := by
      have := unhide HBE
      show g ≠ ge
      omega
    have HNX := hide (show ∀ y3, Below wo.drew.heap.size wo.drew y3 → (y3.cell? ⟨ge, oe + k * 2, none⟩ = some (.int .i64 A) ∧ y3.cell? ⟨ge, oe + k * 2 + 1, none⟩ = some (.int .i64 T9)) ∧ y3.frozen? ⟨g, x, none⟩ = false ∧ ∃ v, y3.cell? ⟨g, x, none⟩ = some (.string v) ∧ Blk (y3.setCell ⟨g, x, none⟩ (.string (fdB (y : Int)))) g (strs (edP M m E (k + 1))).toArray 9 ∧ Below g w (y3.setCell ⟨g, x, none⟩ (.string (fdB (y : Int)))) from fun y3 hb => by
      have k0 := (unhide HR).1
      have hb' : Below wo.heap.size wo y3 := ⟨hb.os, hb.tape, hb.output, hb.size, hb.block⟩
      have k1 := k0.below hb' k0.lt
      have hw1 : Below g w y3 := (unhide HR).2.trans (hb'.mono (by have := k0.lt; omega))
      have hgl := unhide HBE
      refine ⟨⟨(hb.cell (p := ⟨ge, oe + k * 2, none⟩) (by have := k0.lt; show ge < wo.heap.size; omega)).trans c0, (hb.cell (p := ⟨ge, oe + k * 2 + 1, none⟩) (by have := k0.lt; show ge < wo.heap.size; omega)).trans c1⟩, k1.frozen x, (edP M m E k).getD x ⟨#[]⟩, ?_, ?_, hw1.setCell (Nat.le_refl _) _⟩
      · rw [k1.cell x]
        have hxl2 : x < (edP M m E k).length := by rw [edP_len, unhide HM]; exact hxl
        simp [strs, List.getD_eq_getElem?_getD, List.getElem?_eq_getElem hxl2]
      · rw [unhide HS9, ← strs_set]
        exact k1.set x _)
    obtain ⟨F, hF⟩ : ∃ q, fdB (y : Int) = q := ⟨_, rfl⟩
    have HFL := hide (fun W => filled22 (y : Int) W)
    rw [hF] at HNX HFL
    clear hA hT hx hy hIk hF d0 d1 hge
    go_wp2_with fail
    refine wp_region_held_drew (S := fun W => W.cell? ⟨ge, oe + k * 2, none⟩ = some (.int .i64 A) ∧ W.cell? ⟨ge, oe + k * 2 + 1, none⟩ = some (.int .i64 T9)) (by kernel_rfl) ⟨c0, c1⟩ ?_
    intro hS
    refine wpAnyH_takeD 0 (some 19) (.slice (some ⟨g, 0, none⟩) m m) rfl rfl (by kernel_rfl) (by kernel_rfl) (by kernel_rfl) (fun _ _ _ h => h) (Or.inl ⟨by rfl, fun w hSw => by obtain ⟨q1, q2⟩ := hSw; go_simp; try (intro hbad; omega)⟩) hS ?_
    simp only [Act.put, List.setIfInBounds_toArray, List.set_cons_zero, List.set_cons_succ]
    refine wpAnyH_takeD 1 (some 20) (.slice (some ⟨ge, oe, none⟩) n ce) rfl rfl (by kernel_rfl) (by kernel_rfl) (by kernel_rfl) (fun _ _ _ h => h) (Or.inl ⟨by rfl, fun w hSw => by obtain ⟨q1, q2⟩ := hSw; go_simp; try (intro hbad; omega)⟩) hS ?_
    simp only [Act.put, List.setIfInBounds_toArray, List.set_cons_zero, List.set_cons_succ]
    refine wpAnyH_takeD 2 (some 21) (.int .i64 (k : Int)) rfl rfl (by kernel_rfl) (by kernel_rfl) (by kernel_rfl) (fun _ _ _ h => h) (Or.inl ⟨by rfl, fun w hSw => by obtain ⟨q1, q2⟩ := hSw; go_simp; try (intro hbad; omega)⟩) hS ?_
    simp only [Act.put, List.setIfInBounds_toArray, List.set_cons_zero, List.set_cons_succ]
    refine wpAnyH_takeD 3 (some 22) (.pointer (some ⟨ge, oe + k * 2, none⟩)) rfl rfl (by kernel_rfl) (by kernel_rfl) (by kernel_rfl) (fun _ _ _ h => h) (Or.inl ⟨by rfl, fun w hSw => by obtain ⟨q1, q2⟩ := hSw; go_simp; try (intro hbad; omega)⟩) hS ?_
    simp only [Act.put, List.setIfInBounds_toArray, List.set_cons_zero, List.set_cons_succ]
    refine wpAnyH_takeD 4 (some 23) (.pointer (some ⟨ge, oe + k * 2, none⟩)) rfl rfl (by kernel_rfl) (by kernel_rfl) (by kernel_rfl) (fun _ _ _ h => h) (Or.inl ⟨by rfl, fun w hSw => by obtain ⟨q1, q2⟩ := hSw; go_simp; try (intro hbad; omega)⟩) hS ?_
    simp only [Act.put, List.setIfInBounds_toArray, List.set_cons_zero, List.set_cons_succ]
    refine wpAnyH_takeD 5 (some 24) (.int .i64 A) rfl rfl (by kernel_rfl) (by kernel_rfl) (by kernel_rfl) (fun _ _ _ h => h) (Or.inl ⟨by rfl, fun w hSw => by obtain ⟨q1, q2⟩ := hSw; go_simp; try (intro hbad; omega)⟩) hS ?_
    simp only [Act.put, List.setIfInBounds_toArray, List.set_cons_zero, List.set_cons_succ]
    refine wpAnyH_takeD 6 (some 25) (.slice (some ⟨gm, om, none⟩) m c) rfl rfl (by kernel_rfl) (by kernel_rfl) (by kernel_rfl) (fun _ _ _ h => h) (Or.inl ⟨by rfl, fun w hSw => by obtain ⟨q1, q2⟩ := hSw; go_simp; try (intro hbad; omega)⟩) hS ?_
    simp only [Act.put, List.setIfInBounds_toArray, List.set_cons_zero, List.set_cons_succ]
    refine wpAnyH_takeD 7 (some 26) (.int .i64 (m : Int)) rfl rfl (by kernel_rfl) (by kernel_rfl) (by kernel_rfl) (fun _ _ _ h => h) (Or.inl ⟨by rfl, fun w hSw => by obtain ⟨q1, q2⟩ := hSw; go_simp; try (intro hbad; omega)⟩) hS ?_
    simp only [Act.put, List.setIfInBounds_toArray, List.set_cons_zero, List.set_cons_succ]
    refine wpAnyH_takeD 9 (some 28) (.slice (some ⟨ge, oe, none⟩) n ce) rfl rfl (by kernel_rfl) (by kernel_rfl) (by kernel_rfl) (fun _ _ _ h => h) (Or.inl ⟨by rfl, fun w hSw => by obtain ⟨q1, q2⟩ := hSw; go_simp; try (intro hbad; omega)⟩) hS ?_
    simp only [Act.put, List.setIfInBounds_toArray, List.set_cons_zero, List.set_cons_succ]
    refine wpAnyH_takeD 10 (some 29) (.int .i64 (k : Int)) rfl rfl (by kernel_rfl) (by kernel_rfl) (by kernel_rfl) (fun _ _ _ h => h) (Or.inl ⟨by rfl, fun w hSw => by obtain ⟨q1, q2⟩ := hSw; go_simp; try (intro hbad; omega)⟩) hS ?_
    simp only [Act.put, List.setIfInBounds_toArray, List.set_cons_zero, List.set_cons_succ]
    refine wpAnyH_takeD 11 (some 30) (.pointer (some ⟨ge, oe + k * 2, none⟩)) rfl rfl (by kernel_rfl) (by kernel_rfl) (by kernel_rfl) (fun _ _ _ h => h) (Or.inl ⟨by rfl, fun w hSw => by obtain ⟨q1, q2⟩ := hSw; go_simp; try (intro hbad; omega)⟩) hS ?_
    simp only [Act.put, List.setIfInBounds_toArray, List.set_cons_zero, List.set_cons_succ]
    refine wpAnyH_takeD 12 (some 31) (.pointer (some ⟨ge, oe + k * 2 + 1, none⟩)) rfl rfl (by kernel_rfl) (by kernel_rfl) (by kernel_rfl) (fun _ _ _ h => h) (Or.inl ⟨by rfl, fun w hSw => by obtain ⟨q1, q2⟩ := hSw; go_simp; try (intro hbad; omega)⟩) hS ?_
    simp only [Act.put, List.setIfInBounds_toArray, List.set_cons_zero, List.set_cons_succ]
    refine wpAnyH_takeD 13 (some 32) (.int .i64 T9) rfl rfl (by kernel_rfl) (by kernel_rfl) (by kernel_rfl) (fun _ _ _ h => h) (Or.inl ⟨by rfl, fun w hSw => by obtain ⟨q1, q2⟩ := hSw; go_simp; try (intro hbad; omega)⟩) hS ?_
    simp only [Act.put, List.setIfInBounds_toArray, List.set_cons_zero, List.set_cons_succ]
    refine wpAnyH_ready (rs := [8]) (by kernel_rfl) (by simp) ?_
    refine AllReadyH.cons rfl (fun K hK => ?_) AllReadyH.nil
    simp only [List.getElem_toArray, List.getElem_cons_succ, List.getElem_cons_zero]
    go_simp
    refine (unhide HP1 _).mono ?_
    rintro e y1 ⟨rfl, hy1⟩
    subst y1
    refine hK.out _ _ ⟨c0, c1⟩ (fun hS => ?_)
    clear hK K
    refine wpAnyH_ready (rs := [14]) (by kernel_rfl) (by simp) ?_
    refine AllReadyH.cons rfl (fun K hK => ?_) AllReadyH.nil
    simp only [List.getElem_toArray, List.getElem_cons_succ, List.getElem_cons_zero]
    go_simp
    refine (unhide HP2 _).mono ?_
    rintro e y2 ⟨rfl, hy2⟩
    subst y2
    refine hK.out _ _ ⟨c0, c1⟩ (fun hS => ?_)
    clear hK K
    refine wpAnyH_ready (rs := [15]) (by kernel_rfl) (by simp) ?_
    refine AllReadyH.cons rfl (fun K hK => ?_) AllReadyH.nil
    simp only [List.getElem_toArray, List.getElem_cons_succ, List.getElem_cons_zero]
    go_simp
    refine (unhide HFL _).mono ?_
    rintro e y3 ⟨rfl, hb3⟩
    obtain ⟨m3, f3, v3, hv3, hx9⟩ := unhide HNX y3 hb3
    have HX9 := hide hx9
    clear hb3 hx9
    refine hK.out _ _ m3 (fun hS => ?_)
    clear hK K
    refine wpAnyH_takeD 16 (some 35) (.pointer (some ⟨g, x, none⟩)) rfl rfl (by kernel_rfl) (by kernel_rfl) (by kernel_rfl) (fun _ _ _ h => h) (Or.inl ⟨by rfl, fun w hSw => by obtain ⟨q1, q2⟩ := hSw; go_simp; try (intro hbad; omega)⟩) hS ?_
    simp only [Act.put, List.setIfInBounds_toArray, List.set_cons_zero, List.set_cons_succ]
    refine wpAnyH_ready (rs := [17]) (by kernel_rfl) (by simp) ?_
    refine AllReadyH.cons rfl (fun K hK => ?_) AllReadyH.nil
    simp only [List.getElem_toArray, List.getElem_cons_succ, List.getElem_cons_zero]
    go_simp
    refine hK.out _ _ ⟨(World.cell?_setCell_far _ _ _ _ hne).trans m3.1, (World.cell?_setCell_far _ _ _ _ hne).trans m3.2⟩ (fun hS => ?_)
    clear hK K
    refine wpAnyH_done (by kernel_rfl) ?_ _
    clear hS m3 f3 hv3 c0 c1
    go_wp2
    go_roundw
    case rel => exact ⟨k + 1, by omega, by go_num, HX9⟩
    case measure => simp [intOf] <;> omega
  · obtain rfl : k = n := by omega
    have e1 : ¬ (k : Int) < (k : Int) := by omega
    have HF := hide (unhide HR)
    clear HR
    go_wp2
    go_ret
    exact ⟨g, rfl, Nat.le_refl _, (unhide HF).1, (unhide HF).2⟩
end Go.Proofs.YtnfdedolgfcmfaaGreatDoor

/-
  DERIVED: THE SHELF's CONTRACTS AT THIS DUMP, IN PLAIN WORDS (tools/lay-plain.mjs out of 'TryzShelf.lean', which tools/lay-shelf.mjs wrote): THE SAME DECLARATIONS UNDER THE SAME NAMES: 'import', 'namespace', 'open', 'def', 'theorem' AND NOTHING ELSE: no command of the shelf's: FOR A HAND-IN. Each laying: the table of numbers ('.._ren') and one theorem, a field a fact of the dump's own or the kernel's comparison; each contract: ONE APPLICATION.
-/
namespace Go.Proofs.YtnfdedolgfcmfaaGreatDoor
open Go.Shelf
def Tryz.lays189_ren : Go.Shelf.Ren := ⟨fun | 189 => 105 | 125 => 133 | 257 => 132 | 128 => 157 | 129 => 158 | 294 => 148 | 295 => 149 | 296 => 150 | 297 => 151 | 298 => 152 | 299 => 153 | 216 => 154 | 300 => 155 | 301 => 156 | 328 => 175 | 329 => 176 | 330 => 177 | 331 => 178 | 332 => 179 | 215 => 180 | 343 => 190 | n => n, fun | 28 => 35 | 3 => 3 | 46 => 121 | 0 => 0 | 51 => 162 | 53 => 204 | 4 => 4 | 183 => 217 | 182 => 216 | 131 => 221 | 5 => 5 | 9 => 9 | 218 => 250 | 222 => 254 | 228 => 279 | 229 => 173 | n => n, fun | n => n⟩
theorem Tryz.lays189 : Go.Proofs.Lays.n189 Tryz.prog Tryz.lays189_ren := {
  mixed := by kernel_rfl
  f125 := Tryz.func133.trans (congrArg some (by kernel_rfl))
  f128 := Tryz.func157.trans (congrArg some (by kernel_rfl))
  f129 := Tryz.func158.trans (congrArg some (by kernel_rfl))
  f189 := Tryz.func105.trans (congrArg some (by kernel_rfl))
  f215 := Tryz.func180.trans (congrArg some (by kernel_rfl))
  f216 := Tryz.func154.trans (congrArg some (by kernel_rfl))
  f257 := Tryz.func132.trans (congrArg some (by kernel_rfl))
  f294 := Tryz.func148.trans (congrArg some (by kernel_rfl))
  f295 := Tryz.func149.trans (congrArg some (by kernel_rfl))
  f296 := Tryz.func150.trans (congrArg some (by kernel_rfl))
  f297 := Tryz.func151.trans (congrArg some (by kernel_rfl))
  f298 := Tryz.func152.trans (congrArg some (by kernel_rfl))
  f299 := Tryz.func153.trans (congrArg some (by kernel_rfl))
  f300 := Tryz.func155.trans (congrArg some (by kernel_rfl))
  f301 := Tryz.func156.trans (congrArg some (by kernel_rfl))
  f328 := Tryz.func175.trans (congrArg some (by kernel_rfl))
  f329 := Tryz.func176.trans (congrArg some (by kernel_rfl))
  f330 := Tryz.func177.trans (congrArg some (by kernel_rfl))
  f331 := Tryz.func178.trans (congrArg some (by kernel_rfl))
  f332 := Tryz.func179.trans (congrArg some (by kernel_rfl))
  f343 := Tryz.func190.trans (congrArg some (by kernel_rfl))
  t0 := Tryz.underlying0
  a0 := Tryz.isAgg0
  z0 := Tryz.sizeOf0
  v0 := Tryz.zeroValue0
  t3 := Tryz.underlying3
  a3 := Tryz.isAgg3
  z3 := Tryz.sizeOf3
  v3 := Tryz.zeroValue3
  t4 := Tryz.underlying4
  a4 := Tryz.isAgg4
  z4 := Tryz.sizeOf4
  v4 := Tryz.zeroValue4
  t5 := Tryz.underlying5
  a5 := Tryz.isAgg5
  z5 := Tryz.sizeOf5
  v5 := Tryz.zeroValue5
  t9 := Tryz.underlying9
  a9 := Tryz.isAgg9
  z9 := Tryz.sizeOf9
  v9 := Tryz.zeroValue9
  t28 := Tryz.underlying35
  a28 := Tryz.isAgg35
  z28 := Tryz.sizeOf35
  v28 := Tryz.zeroValue35
  t46 := Tryz.underlying121
  a46 := Tryz.isAgg121
  z46 := Tryz.sizeOf121
  v46 := Tryz.zeroValue121
  t51 := Tryz.underlying162
  a51 := Tryz.isAgg162
  z51 := Tryz.sizeOf162
  v51 := Tryz.zeroValue162
  t53 := Tryz.underlying204
  a53 := Tryz.isAgg204
  z53 := Tryz.sizeOf204
  v53 := Tryz.zeroValue204
  t131 := Tryz.underlying221
  a131 := Tryz.isAgg221
  z131 := Tryz.sizeOf221
  v131 := Tryz.zeroValue221
  t182 := Tryz.underlying216
  a182 := Tryz.isAgg216
  z182 := Tryz.sizeOf216
  v182 := Tryz.zeroValue216
  t183 := Tryz.underlying217
  a183 := Tryz.isAgg217
  z183 := Tryz.sizeOf217
  v183 := Tryz.zeroValue217
  t218 := Tryz.underlying250
  a218 := Tryz.isAgg250
  z218 := Tryz.sizeOf250
  v218 := Tryz.zeroValue250
  t222 := Tryz.underlying254
  a222 := Tryz.isAgg254
  z222 := Tryz.sizeOf254
  v222 := Tryz.zeroValue254
  t228 := Tryz.underlying279
  a228 := Tryz.isAgg279
  z228 := Tryz.sizeOf279
  v228 := Tryz.zeroValue279
  t229 := Tryz.underlying173
  a229 := Tryz.isAgg173
  z229 := Tryz.sizeOf173
  v229 := Tryz.zeroValue173 }
open Go.Sort Go.RowKit in
theorem Tryz.slices_Sort_int (blk off cap : Nat) (zs : List Int) (w : World) (hH : Holds (Value.int .i64) w blk off zs.toArray) (hblk : blk < w.heap.size) (hsz : zs.length < 4611686018427387904) :
    Calls Tryz.prog 105 #[.slice (some ⟨blk, off, none⟩) zs.length cap] w fun e w' =>
      e = .returned (.tuple #[]) ∧ ∃ n os, w' = grow (putRow (Value.int .i64) (Sort.ahead w n) blk off (zs.mergeSort fun x y => decide (x ≤ y)).toArray) os := Any.slices_Sort_int Tryz.lays189 blk off cap zs w hH hblk hsz
open Go.RowKit Go.Sort in
/-- .. and plain. (LAID: no walk: one application.) -/
theorem Tryz.slices_Sort_int_none (p : Option Addr) (cap : Nat) (w : World) :
    Calls Tryz.prog 105 #[.slice p 0 cap] w fun e w' => e = .returned (.tuple #[]) ∧ w' = w := Any.slices_Sort_int_none Tryz.lays189 p cap w
end Go.Proofs.YtnfdedolgfcmfaaGreatDoor

namespace Go.Proofs.YtnfdedolgfcmfaaGreatDoor
open Go.Shelf
def Tryz.keysL_ren : Go.Shelf.Ren := ⟨fun | 7 => 75 | 10 => 106 | n => n, fun | 23 => 83 | 26 => 3 | 3 => 87 | 28 => 144 | 0 => 0 | 27 => 143 | 33 => 124 | 4 => 4 | n => n, fun | n => n⟩
theorem Tryz.keysL : Go.Proofs.SlLaysZI.n7 Tryz.prog Tryz.keysL_ren := {
  mixed := by kernel_rfl
  f7 := ⟨Tryz.f75.name, by decide, Tryz.func75.trans (congrArg some (by kernel_rfl))⟩
  f10 := ⟨Tryz.f106.name, by decide, Tryz.func106.trans (congrArg some (by kernel_rfl))⟩
  t0 := Tryz.underlying0
  a0 := Tryz.isAgg0
  z0 := Tryz.sizeOf0
  v0 := Tryz.zeroValue0
  t4 := Tryz.underlying4
  a4 := Tryz.isAgg4
  z4 := Tryz.sizeOf4
  v4 := Tryz.zeroValue4
  t23 := Tryz.underlying83
  a23 := Tryz.isAgg83
  z23 := Tryz.sizeOf83
  v23 := Tryz.zeroValue83
  t26 := Tryz.underlying3
  a26 := Tryz.isAgg3
  z26 := Tryz.sizeOf3
  v26 := Tryz.zeroValue3
  t27 := Tryz.underlying143
  a27 := Tryz.isAgg143
  z27 := Tryz.sizeOf143
  v27 := Tryz.zeroValue143
  t28 := Tryz.underlying144
  a28 := Tryz.isAgg144
  z28 := Tryz.sizeOf144
  v28 := Tryz.zeroValue144
  t33 := Tryz.underlying124
  a33 := Tryz.isAgg124
  z33 := Tryz.sizeOf124
  v33 := Tryz.zeroValue124 }
def Tryz.sortedL_ren : Go.Shelf.Ren := ⟨fun | 6 => 74 | 8 => 104 | 9 => 105 | 11 => 131 | 13 => 133 | 12 => 132 | 23 => 157 | 24 => 158 | 14 => 148 | 15 => 149 | 16 => 150 | 17 => 151 | 18 => 152 | 19 => 153 | 20 => 154 | 21 => 155 | 22 => 156 | 25 => 175 | 26 => 176 | 27 => 177 | 28 => 178 | 29 => 179 | 30 => 180 | 31 => 190 | n => n, fun | 26 => 3 | 28 => 144 | 24 => 35 | 0 => 0 | 3 => 3 | 37 => 121 | 48 => 162 | 50 => 204 | 4 => 4 | 40 => 217 | 39 => 216 | 45 => 221 | 5 => 5 | 9 => 9 | 51 => 250 | 55 => 254 | 57 => 279 | 58 => 173 | 33 => 124 | n => n, fun | n => n⟩
theorem Tryz.sortedL : Go.Proofs.SlLaysZI.n6 Tryz.prog Tryz.sortedL_ren := {
  mixed := by kernel_rfl
  f6 := ⟨Tryz.f74.name, by decide, Tryz.func74.trans (congrArg some (by kernel_rfl))⟩
  f8 := ⟨Tryz.f104.name, by decide, Tryz.func104.trans (congrArg some (by kernel_rfl))⟩
  f11 := ⟨Tryz.f131.name, by decide, Tryz.func131.trans (congrArg some (by kernel_rfl))⟩
  t0 := Tryz.underlying0
  a0 := Tryz.isAgg0
  z0 := Tryz.sizeOf0
  v0 := Tryz.zeroValue0
  t24 := Tryz.underlying35
  a24 := Tryz.isAgg35
  z24 := Tryz.sizeOf35
  v24 := Tryz.zeroValue35
  t26 := Tryz.underlying3
  a26 := Tryz.isAgg3
  z26 := Tryz.sizeOf3
  v26 := Tryz.zeroValue3
  t28 := Tryz.underlying144
  a28 := Tryz.isAgg144
  z28 := Tryz.sizeOf144
  v28 := Tryz.zeroValue144
  i26 := by kernel_rfl }
end Go.Proofs.YtnfdedolgfcmfaaGreatDoor
