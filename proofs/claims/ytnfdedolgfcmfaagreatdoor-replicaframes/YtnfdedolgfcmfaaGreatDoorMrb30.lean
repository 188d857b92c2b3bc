import Derived.Test.YtnfdedolgfcmfaaGreatDoorMrb29
namespace Go.Proofs.YtnfdedolgfcmfaaGreatDoor
open Go.RowKit
set_option maxRecDepth 100000
theorem scL_pre (L M : List (Nat × ByteArray)) : ∀ j, j ≤ L.length → scL (L ++ M) j = scL L j
  | 0, _ => rfl
  | j + 1, h => by
    rw [scL, scL, scL_pre L M j (by omega), getD_left _ _ _ _ (by omega)]
/-- the bytes of the first sectors that are others -/
def hdQ (a l : List ByteArray) (i : Nat) : List Int := scL (otU a l i) (otU a l i).length
theorem hdQ_same {a l : List ByteArray} {i : Nat} (h : l.getD i ⟨#[]⟩ = a.getD i ⟨#[]⟩) : hdQ a l (i + 1) = hdQ a l i := by rw [hdQ, otU_same h, hdQ]
theorem hdQ_else {a l : List ByteArray} {i : Nat} (h : ¬ l.getD i ⟨#[]⟩ = a.getD i ⟨#[]⟩) : hdQ a l (i + 1) = hdQ a l i ++ (numB (i : Int) 2 ++ nums (l.getD i ⟨#[]⟩)) := by
  rw [hdQ, otU_else h, List.length_append, List.length_singleton, scL, scL_pre _ _ _ (Nat.le_refl _), getD_end, hdQ]
theorem hdQ_len (a l : List ByteArray) (hl : ∀ j, j < l.length → (l.getD j ⟨#[]⟩).size = 256) : ∀ i, i ≤ l.length → (hdQ a l i).length ≤ i * 258
  | 0, _ => Nat.le_refl _
  | i + 1, h => by
    have h1 := hdQ_len a l hl i (by omega)
    by_cases e : l.getD i ⟨#[]⟩ = a.getD i ⟨#[]⟩
    · rw [hdQ_same e]; omega
    · rw [hdQ_else e, List.length_append, List.length_append, numB_len, nums_len, hl i (by omega)]; omega
theorem raw2 : nums ⟨#[82, 70]⟩ = [82, 70] := by decide
theorem fp_below {w wr : World} {g : Nat} {l : List Int} {e : Int} (h : WPost g g (.slice none 0 0) l e w wr) (hg : g ≤ w.heap.size) : Below g w wr := by
  obtain ⟨v1, _, h2, _⟩ := h
  refine h2.below hg (fun k hk hq => ?_)
  rcases hq with rfl | hq
  · omega
  · simp [Value.ownBlock] at hq
set_option maxHeartbeats 8000000 in
theorem byHand22 (k f t q : Nat) (a M : List ByteArray) (hM : imB M = true) (hq : M.length = q) (hqa : a.length = q) (hk : k < 256) (hf : f < 4294967296) (ht : t < 4294967296) (w : World) (B B2 co cn : Nat) (po pn : Option Addr) (hSo : SB w B po a) (hB : B ≤ w.heap.size) (hSn : SB w B2 pn M) (hB2 : B2 ≤ w.heap.size) (hcn : q ≤ cn) (hcn9 : cn ≤ 9223372036854775807) (hK : KTab w) :
    Calls Tryz.prog 22 #[.int .i64 (k : Int), .int .i64 (f : Int), .int .i64 (t : Int), .slice po q co, .slice pn q cn] w fun e w' => e = .returned (.string (fmB k q f t (rt M) (otU a M q))) ∧ Below w.heap.size w w' := by
  obtain ⟨g, hg⟩ : ∃ h, w.heap.size = h := ⟨_, rfl⟩
  have hl := imB_len hM
  have HNW := hide (newWriter_any w)
  have e1 : errN (1 : Int) [(k : Int)] = 0 := errN_fit 1 k (by omega) (by omega) (by omega)
  have e2 : errN (2 : Int) [(q : Int)] = 0 := errN_fit 2 q (by omega) (by omega) (by omega)
  have e4 := errN_two f t hf ht
  have o1 : outN (1 : Int).toNat [(k : Int)] = numB (k : Int) 1 := outN_one 1 (k : Int)
  have o2 : outN (2 : Int).toNat [(q : Int)] = numB (q : Int) 2 := outN_one 2 (q : Int)
  have o4 := outN_two (f : Int) (t : Int)
  have hRz : (rt M).size = 32 := rt_size M
  have HSO := hide (show ∀ y, Below g w y → SB y g po a from fun y hy => by
    have h := hSo.mono hB
    rw [hg] at h
    exact h.below hy)
  have HSN := hide (show ∀ y, Below g w y → SB y g pn M from fun y hy => by
    have h := hSn.mono hB2
    rw [hg] at h
    exact h.below hy)
  have HRO := hide (show ∀ y, Below g w y → Calls Tryz.prog 53 #[.slice pn q cn] y fun e w' => e = .returned (.string (rt M)) ∧ Below y.heap.size y w' from fun y hy => root_any M q hq y g cn pn (unhide HSN y hy) (by rw [← hg]; exact hy.size) (hK.below hy (by rw [← hg]; exact hK.1)) (imB_sht hM) (by omega) hcn hcn9)
  have HM := hide (And.intro hM (And.intro hq hqa))
  obtain ⟨R, hR⟩ : ∃ z, rt M = z := ⟨_, rfl⟩
  have HL9 := hide (otU_len a M)
  have HHL := hide (hdQ_len a M (imB_at hM))
  obtain ⟨n, hn⟩ : ∃ z, (otU a M q).length = z := ⟨_, rfl⟩
  have hn9 : n ≤ q := by rw [← hn]; exact otU_len a M q
  have e3 : errN (2 : Int) [(n : Int)] = 0 := errN_fit 2 n (by omega) (by omega) (by omega)
  have o3 : outN (2 : Int).toNat [(n : Int)] = numB (n : Int) 2 := outN_one 2 (n : Int)
  have HN9 := hide hn
  rw [hR] at HRO hRz ⊢
  obtain ⟨X, hX⟩ : ∃ z, strOfNums (fmL k q f t R n ++ hdQ a M q) = z := ⟨_, rfl⟩
  have HX := hide hX
  have hFZ := fmL_len k q f t R n
  have hXs : X.size ≤ 300000 := by
    rw [← hX, strOfNums_size, List.length_append, hFZ, hRz]
    have := unhide HHL q (by omega)
    omega
  obtain ⟨Z, hZ⟩ : ∃ z, fmB k q f t R (otU a M q) = z := ⟨_, rfl⟩
  have HZ := hide (show Z = X ++ ckR X from by rw [← hZ, fmB, ← hX, hn]; unfold hdQ; rw [hn]; rfl)
  rw [hZ]
  have HCK := hide (fun W => check_any X (by omega) W)
  have hcc : chkN (nums X) < 4294967296 := by unfold chkN; omega
  unfold ckR at HZ
  obtain ⟨c, hce⟩ : ∃ z, chkN (nums X) = z := ⟨_, rfl⟩
  rw [hce] at HCK HZ hcc
  have w0 : IntKind.u8.wrap (c : Int) = ((c % 256 : Nat) : Int) := by rw [IntKind.wrap_u8]; omega
  have w1 : IntKind.u8.wrap ((c : Int) / 256) = ((c / 256 % 256 : Nat) : Int) := by rw [IntKind.wrap_u8]; omega
  have w2 : IntKind.u8.wrap ((c : Int) / 65536) = ((c / 65536 % 256 : Nat) : Int) := by rw [IntKind.wrap_u8]; omega
  have w3 : IntKind.u8.wrap ((c : Int) / 16777216) = ((c / 16777216 % 256 : Nat) : Int) := by rw [IntKind.wrap_u8]; omega
  unfold le4R at HZ
  obtain ⟨d0, hd0⟩ : ∃ d, ((c % 256 : Nat) : Int) = d := ⟨_, rfl⟩
  obtain ⟨d1, hd1⟩ : ∃ d, ((c / 256 % 256 : Nat) : Int) = d := ⟨_, rfl⟩
  obtain ⟨d2, hd2⟩ : ∃ d, ((c / 65536 % 256 : Nat) : Int) = d := ⟨_, rfl⟩
  obtain ⟨d3, hd3⟩ : ∃ d, ((c / 16777216 % 256 : Nat) : Int) = d := ⟨_, rfl⟩
  rw [hd0] at w0 HZ
  rw [hd1] at w1 HZ
  rw [hd2] at w2 HZ
  rw [hd3] at w3 HZ
  have HCV := hide (fun W : World => run_convert_bytes_arg (P := Tryz.prog) (W.alloc (.cells #[.int .u8 d0, .int .u8 d1, .int .u8 d2, .int .u8 d3] 5)) 122 5 Tryz.underlying122 Tryz.underlying5 W.heap.size 0 4 4 [d0, d1, d2, d3] rfl (fun i hi => by
    rw [Nat.zero_add, (Blk.new W 5 #[.int .u8 d0, .int .u8 d1, .int .u8 d2, .int .u8 d3]).cell i]
    obtain rfl | rfl | rfl | rfl : i = 0 ∨ i = 1 ∨ i = 2 ∨ i = 3 := by omega
    all_goals rfl) 9 Tryz.underlying9)
  obtain ⟨C4, hC4⟩ : ∃ z, strOfNums [d0, d1, d2, d3] = z := ⟨_, rfl⟩
  have hC4s : C4.size = 4 := by rw [← hC4, strOfNums_size]; rfl
  rw [hC4] at HZ HCV
  have hq9 : q ≤ 1024 := by omega
  have HRz := hide hRz
  have HFZ := hide hFZ
  have HGE := hide hg
  have HW4 := hide (And.intro w0 (And.intro w1 (And.intro w2 w3)))
  clear hM hq hqa hSo hB hSn hB2 hcn hcn9 hK hR hn hX hZ hce hcc hd0 hd1 hd2 hd3 hC4 hFZ hRz hk hf ht w0 w1 w2 w3
  rw [hg]
  clear hg
  go_enter Tryz.func22, Tryz.ntmps22
  go_wp2_with fail
  refine (unhide HNW).mono ?_
  rintro e y1 ⟨rfl, hw1, hb1, hs1⟩
  rw [unhide HGE] at hw1 hb1 hs1 ⊢
  have HW := hide (show WPost g g (.slice none 0 0) [] 0 y1 y1 from ⟨_, hw1, Only.refl _ _, fun k hk => .inl hk⟩)
  have HBB := hide hb1
  have HS1 := hide hs1
  have HR := hide (rawK (unhide HW) (by omega) ⟨#[82, 70]⟩ (by decide))
  rw [wl_good, List.nil_append, raw2] at HR
  clear hw1 hb1 hs1 HNW HW
  go_wp2_with fail
  refine (unhide HR).mono ?_
  rintro e y2 ⟨rfl, hp⟩
  have HN := hide (numK hp (by have := unhide HS1; omega) 1 [(k : Int)] _ rfl (by simp) 1 rfl)
  rw [e1, o1, wl_good, we_good] at HN
  clear HR hp e1 o1
  go_wp2_with fail
  refine (unhide HN).mono ?_
  rintro e y3 ⟨rfl, hp⟩
  have HN2 := hide (numK hp (by have := unhide HS1; omega) 2 [(q : Int)] _ rfl (by simp [numB_len]) 1 rfl)
  rw [e2, o2, wl_good, we_good] at HN2
  clear HN hp e2 o2
  go_wp2_with fail
  refine (unhide HN2).mono ?_
  rintro e y4 ⟨rfl, hp⟩
  have HN3 := hide (numK hp (by have := unhide HS1; omega) 4 [(f : Int), (t : Int)] _ rfl (by simp [numB_len]) 2 rfl)
  rw [e4, o4, wl_good, we_good] at HN3
  clear HN2 hp e4 o4
  go_wp2_with fail
  refine (unhide HN3).mono ?_
  rintro e y5 ⟨rfl, hp⟩
  have HP5 := hide hp
  have HR5 := hide (unhide HRO y5 ((unhide HBB).trans (fp_below hp (by have := unhide HS1; omega))))
  clear HN3 hp
  go_wp2_with fail
  refine (unhide HR5).mono ?_
  rintro e y6 ⟨rfl, hb6⟩
  have HR := hide (rawK ((unhide HP5).below hb6) (by have := unhide HS1; omega) R (by have := unhide HRz; simp [numB_len]; omega))
  rw [wl_good] at HR
  clear hb6 HR5 HP5
  go_wp2_with fail
  refine (unhide HR).mono ?_
  rintro e y7 ⟨rfl, hp⟩
  obtain ⟨P0, hP0⟩ : ∃ z, [82, 70] ++ numB (k : Int) 1 ++ numB (q : Int) 2 ++ (numB (f : Int) 4 ++ numB (t : Int) 4) ++ nums R = z := ⟨_, rfl⟩
  have HF0 := hide (show P0.length = 45 ∧ fmL k q f t R n = P0 ++ numB (n : Int) 2 from ⟨by rw [← hP0]; simp [numB_len, nums_len, unhide HRz], by rw [← hP0]; rfl⟩)
  rw [hP0] at hp
  have HP := hide hp
  clear hp HR hP0 HRO
  go_wp2
  go_loopw [12, 13] (fun u i wr => ∃ j : Nat, j ≤ q ∧ i = .int .i64 (j : Int) ∧ u = .int .i64 (((otU a M j).length : Nat) : Int) ∧ WPost g g (.slice none 0 0) P0 0 y1 wr) (fun _ i _ => q - (intOf i).toNat)
  case atStart => exact ⟨0, by omega, rfl, rfl, unhide HP⟩
  case round =>
  obtain ⟨j, hj, rfl, rfl, hp⟩ := hrel
  obtain ⟨wr, rfl⟩ : ∃ q, q = wr := ⟨_, rfl⟩
  have hlj := unhide HL9 j
  obtain ⟨m, hm⟩ : ∃ z, (otU a M j).length = z := ⟨_, rfl⟩
  rw [hm] at hlj ⊢
  by_cases hjq : j < q
  · have e1 : (j : Int) < (q : Int) := by omega
    have hbw := (unhide HBB).trans (fp_below hp (by have := unhide HS1; omega))
    obtain ⟨gn, on, rfl, _, d1⟩ := unhide HSN wr hbw j (by rw [(unhide HM).2.1]; exact hjq)
    obtain ⟨go, oo, rfl, _, d0⟩ := unhide HSO wr hbw j (by rw [(unhide HM).2.2]; exact hjq)
    by_cases hs : M.getD j ⟨#[]⟩ = a.getD j ⟨#[]⟩
    · have HNN := hide (show (otU a M (j + 1)).length = m from by rw [otU_same hs, hm])
      rw [← hs] at d0
      obtain ⟨s9, hse⟩ : ∃ z, M.getD j ⟨#[]⟩ = z := ⟨_, rfl⟩
      rw [hse] at d0 d1
      have HPD := hide (hp.below ((Below.refl _ wr).drew))
      clear hs hse hp hbw HP hm
      go_wp2_with fail
      refine wp_region_held_drew (S := fun W => W.cell? ⟨gn, on + j, none⟩ = some (.string s9) ∧ W.cell? ⟨go, oo + j, none⟩ = some (.string s9)) (by kernel_rfl) ⟨d1, d0⟩ ?_
      intro hS
      refine wpAnyH_takeD 0 (some 45) (.slice (some ⟨gn, on, none⟩) q cn) rfl rfl (by kernel_rfl) (by kernel_rfl) (by kernel_rfl) (fun _ _ _ h => h) (Or.inl ⟨by rfl, fun w hSw => by obtain ⟨q1, q2⟩ := hSw; go_simp; try (intro hbad; omega)⟩) hS ?_
      simp only [Act.put, List.setIfInBounds_toArray, List.set_cons_zero, List.set_cons_succ]
      refine wpAnyH_takeD 1 (some 46) (.int .i64 (j : Int)) rfl rfl (by kernel_rfl) (by kernel_rfl) (by kernel_rfl) (fun _ _ _ h => h) (Or.inl ⟨by rfl, fun w hSw => by obtain ⟨q1, q2⟩ := hSw; go_simp; try (intro hbad; omega)⟩) hS ?_
      simp only [Act.put, List.setIfInBounds_toArray, List.set_cons_zero, List.set_cons_succ]
      refine wpAnyH_takeD 2 (some 47) (.pointer (some ⟨gn, on + j, none⟩)) rfl rfl (by kernel_rfl) (by kernel_rfl) (by kernel_rfl) (fun _ _ _ h => h) (Or.inl ⟨by rfl, fun w hSw => by obtain ⟨q1, q2⟩ := hSw; go_simp; try (intro hbad; omega)⟩) hS ?_
      simp only [Act.put, List.setIfInBounds_toArray, List.set_cons_zero, List.set_cons_succ]
      refine wpAnyH_takeD 3 (some 48) (.string s9) rfl rfl (by kernel_rfl) (by kernel_rfl) (by kernel_rfl) (fun _ _ _ h => h) (Or.inl ⟨by rfl, fun w hSw => by obtain ⟨q1, q2⟩ := hSw; go_simp; try (intro hbad; omega)⟩) hS ?_
      simp only [Act.put, List.setIfInBounds_toArray, List.set_cons_zero, List.set_cons_succ]
      refine wpAnyH_takeD 4 (some 49) (.slice (some ⟨go, oo, none⟩) q co) rfl rfl (by kernel_rfl) (by kernel_rfl) (by kernel_rfl) (fun _ _ _ h => h) (Or.inl ⟨by rfl, fun w hSw => by obtain ⟨q1, q2⟩ := hSw; go_simp; try (intro hbad; omega)⟩) hS ?_
      simp only [Act.put, List.setIfInBounds_toArray, List.set_cons_zero, List.set_cons_succ]
      refine wpAnyH_takeD 5 (some 50) (.int .i64 (j : Int)) rfl rfl (by kernel_rfl) (by kernel_rfl) (by kernel_rfl) (fun _ _ _ h => h) (Or.inl ⟨by rfl, fun w hSw => by obtain ⟨q1, q2⟩ := hSw; go_simp; try (intro hbad; omega)⟩) hS ?_
      simp only [Act.put, List.setIfInBounds_toArray, List.set_cons_zero, List.set_cons_succ]
      refine wpAnyH_takeD 6 (some 51) (.pointer (some ⟨go, oo + j, none⟩)) rfl rfl (by kernel_rfl) (by kernel_rfl) (by kernel_rfl) (fun _ _ _ h => h) (Or.inl ⟨by rfl, fun w hSw => by obtain ⟨q1, q2⟩ := hSw; go_simp; try (intro hbad; omega)⟩) hS ?_
      simp only [Act.put, List.setIfInBounds_toArray, List.set_cons_zero, List.set_cons_succ]
      refine wpAnyH_takeD 7 (some 52) (.string s9) rfl rfl (by kernel_rfl) (by kernel_rfl) (by kernel_rfl) (fun _ _ _ h => h) (Or.inl ⟨by rfl, fun w hSw => by obtain ⟨q1, q2⟩ := hSw; go_simp; try (intro hbad; omega)⟩) hS ?_
      simp only [Act.put, List.setIfInBounds_toArray, List.set_cons_zero, List.set_cons_succ]
      refine wpAnyH_takeD 8 (some 53) (.bool false) rfl rfl (by kernel_rfl) (by kernel_rfl) (by kernel_rfl) (fun _ _ _ h => h) (Or.inl ⟨by rfl, fun w hSw => by obtain ⟨q1, q2⟩ := hSw; go_simp; try (intro hbad; omega)⟩) hS ?_
      simp only [Act.put, List.setIfInBounds_toArray, List.set_cons_zero, List.set_cons_succ]
      refine wpAnyH_done (by kernel_rfl) ?_ _
      clear hS d0 d1
      go_wp2
      go_roundw
      case rel => exact ⟨j + 1, by omega, by go_num, by rw [unhide HNN], unhide HPD⟩
      case measure => simp [intOf] <;> omega
    · have HNN := hide (show (otU a M (j + 1)).length = m + 1 from by rw [otU_else hs, List.length_append, hm]; rfl)
      have hne := str_ne hs
      obtain ⟨s9, hse⟩ : ∃ z, M.getD j ⟨#[]⟩ = z := ⟨_, rfl⟩
      obtain ⟨t9, hte⟩ : ∃ z, a.getD j ⟨#[]⟩ = z := ⟨_, rfl⟩
      rw [hse] at d1 hne
      rw [hte] at d0 hne
      have HPD := hide (hp.below ((Below.refl _ wr).drew))
      clear hs hse hte hp hbw HP hm
      go_wp2_with fail
      refine wp_region_held_drew (S := fun W => W.cell? ⟨gn, on + j, none⟩ = some (.string s9) ∧ W.cell? ⟨go, oo + j, none⟩ = some (.string t9)) (by kernel_rfl) ⟨d1, d0⟩ ?_
      intro hS
      refine wpAnyH_takeD 0 (some 45) (.slice (some ⟨gn, on, none⟩) q cn) rfl rfl (by kernel_rfl) (by kernel_rfl) (by kernel_rfl) (fun _ _ _ h => h) (Or.inl ⟨by rfl, fun w hSw => by obtain ⟨q1, q2⟩ := hSw; go_simp; try (intro hbad; omega)⟩) hS ?_
      simp only [Act.put, List.setIfInBounds_toArray, List.set_cons_zero, List.set_cons_succ]
      refine wpAnyH_takeD 1 (some 46) (.int .i64 (j : Int)) rfl rfl (by kernel_rfl) (by kernel_rfl) (by kernel_rfl) (fun _ _ _ h => h) (Or.inl ⟨by rfl, fun w hSw => by obtain ⟨q1, q2⟩ := hSw; go_simp; try (intro hbad; omega)⟩) hS ?_
      simp only [Act.put, List.setIfInBounds_toArray, List.set_cons_zero, List.set_cons_succ]
      refine wpAnyH_takeD 2 (some 47) (.pointer (some ⟨gn, on + j, none⟩)) rfl rfl (by kernel_rfl) (by kernel_rfl) (by kernel_rfl) (fun _ _ _ h => h) (Or.inl ⟨by rfl, fun w hSw => by obtain ⟨q1, q2⟩ := hSw; go_simp; try (intro hbad; omega)⟩) hS ?_
      simp only [Act.put, List.setIfInBounds_toArray, List.set_cons_zero, List.set_cons_succ]
      refine wpAnyH_takeD 3 (some 48) (.string s9) rfl rfl (by kernel_rfl) (by kernel_rfl) (by kernel_rfl) (fun _ _ _ h => h) (Or.inl ⟨by rfl, fun w hSw => by obtain ⟨q1, q2⟩ := hSw; go_simp; try (intro hbad; omega)⟩) hS ?_
      simp only [Act.put, List.setIfInBounds_toArray, List.set_cons_zero, List.set_cons_succ]
      refine wpAnyH_takeD 4 (some 49) (.slice (some ⟨go, oo, none⟩) q co) rfl rfl (by kernel_rfl) (by kernel_rfl) (by kernel_rfl) (fun _ _ _ h => h) (Or.inl ⟨by rfl, fun w hSw => by obtain ⟨q1, q2⟩ := hSw; go_simp; try (intro hbad; omega)⟩) hS ?_
      simp only [Act.put, List.setIfInBounds_toArray, List.set_cons_zero, List.set_cons_succ]
      refine wpAnyH_takeD 5 (some 50) (.int .i64 (j : Int)) rfl rfl (by kernel_rfl) (by kernel_rfl) (by kernel_rfl) (fun _ _ _ h => h) (Or.inl ⟨by rfl, fun w hSw => by obtain ⟨q1, q2⟩ := hSw; go_simp; try (intro hbad; omega)⟩) hS ?_
      simp only [Act.put, List.setIfInBounds_toArray, List.set_cons_zero, List.set_cons_succ]
      refine wpAnyH_takeD 6 (some 51) (.pointer (some ⟨go, oo + j, none⟩)) rfl rfl (by kernel_rfl) (by kernel_rfl) (by kernel_rfl) (fun _ _ _ h => h) (Or.inl ⟨by rfl, fun w hSw => by obtain ⟨q1, q2⟩ := hSw; go_simp; try (intro hbad; omega)⟩) hS ?_
      simp only [Act.put, List.setIfInBounds_toArray, List.set_cons_zero, List.set_cons_succ]
      refine wpAnyH_takeD 7 (some 52) (.string t9) rfl rfl (by kernel_rfl) (by kernel_rfl) (by kernel_rfl) (fun _ _ _ h => h) (Or.inl ⟨by rfl, fun w hSw => by obtain ⟨q1, q2⟩ := hSw; go_simp; try (intro hbad; omega)⟩) hS ?_
      simp only [Act.put, List.setIfInBounds_toArray, List.set_cons_zero, List.set_cons_succ]
      refine wpAnyH_takeD 8 (some 53) (.bool true) rfl rfl (by kernel_rfl) (by kernel_rfl) (by kernel_rfl) (fun _ _ _ h => h) (Or.inl ⟨by rfl, fun w hSw => by obtain ⟨q1, q2⟩ := hSw; go_simp; try (intro hbad; omega)⟩) hS ?_
      simp only [Act.put, List.setIfInBounds_toArray, List.set_cons_zero, List.set_cons_succ]
      refine wpAnyH_done (by kernel_rfl) ?_ _
      clear hS d0 d1
      go_wp2
      go_roundw
      case rel => exact ⟨j + 1, by omega, by go_num, by rw [unhide HNN]; go_num, unhide HPD⟩
      case measure => simp [intOf] <;> omega
  obtain ⟨jj, hjj⟩ : ∃ z, z = j := ⟨_, rfl⟩
  have hjqe : j = q := by omega
  have e1 : (q : Int) ≤ (j : Int) := by omega
  have hmn : m = n := by rw [← hm, hjqe]; exact unhide HN9
  rw [hmn]
  have HN4 := hide (numK hp (by have := unhide HS1; omega) 2 [(n : Int)] _ rfl (by have := (unhide HF0).1; simp; omega) 1 rfl)
  rw [e3, o3, wl_good, we_good, ← (unhide HF0).2] at HN4
  clear hp hm hjqe hjq hlj hjj hmn e3 o3 HP
  go_wp2_with fail
  refine (unhide HN4).mono ?_
  rintro e y8 ⟨rfl, hp⟩
  have HP := hide (show WPost g g (.slice none 0 0) (fmL k q f t R n ++ hdQ a M 0) 0 y1 y8 from by
    rw [show hdQ a M 0 = [] from rfl, List.append_nil]
    exact hp)
  clear hp HN4
  go_wp2
  go_loopw [14] (fun i wr => ∃ j : Nat, j ≤ q ∧ i = .int .i64 (j : Int) ∧ WPost g g (.slice none 0 0) (fmL k q f t R n ++ hdQ a M j) 0 y1 wr) (fun i _ => q - (intOf i).toNat)
  case atStart => exact ⟨0, by omega, rfl, unhide HP⟩
  case round =>
  obtain ⟨j, hj, rfl, hp⟩ := hrel
  obtain ⟨wr, rfl⟩ : ∃ q, q = wr := ⟨_, rfl⟩
  have HSCj := hide (unhide HHL j (by rw [(unhide HM).2.1]; exact hj))
  by_cases hjq : j < q
  · have e1 : (j : Int) < (q : Int) := by omega
    have hbw := (unhide HBB).trans (fp_below hp (by have := unhide HS1; omega))
    have HSNW := hide (unhide HSN wr hbw)
    obtain ⟨gn, on, hpn, hgn, d1⟩ := unhide HSN wr hbw j (by rw [(unhide HM).2.1]; exact hjq)
    subst hpn
    obtain ⟨go, oo, hpo, _, d0⟩ := unhide HSO wr hbw j (by rw [(unhide HM).2.2]; exact hjq)
    subst hpo
    by_cases hs : M.getD j ⟨#[]⟩ = a.getD j ⟨#[]⟩
    · have HNN := hide (hdQ_same hs)
      rw [← hs] at d0
      obtain ⟨s9, hse⟩ : ∃ z, M.getD j ⟨#[]⟩ = z := ⟨_, rfl⟩
      rw [hse] at d0 d1
      have HPD := hide (hp.below ((Below.refl _ wr).drew))
      clear hs hse hp hbw HP HSCj HSNW
      go_wp2_with fail
      refine wp_region_held_drew (S := fun W => W.cell? ⟨gn, on + j, none⟩ = some (.string s9) ∧ W.cell? ⟨go, oo + j, none⟩ = some (.string s9)) (by kernel_rfl) ⟨d1, d0⟩ ?_
      intro hS
      refine wpAnyH_takeD 0 (some 66) (.slice (some ⟨gn, on, none⟩) q cn) rfl rfl (by kernel_rfl) (by kernel_rfl) (by kernel_rfl) (fun _ _ _ h => h) (Or.inl ⟨by rfl, fun w hSw => by obtain ⟨q1, q2⟩ := hSw; go_simp; try (intro hbad; omega)⟩) hS ?_
      simp only [Act.put, List.setIfInBounds_toArray, List.set_cons_zero, List.set_cons_succ]
      refine wpAnyH_takeD 1 (some 67) (.int .i64 (j : Int)) rfl rfl (by kernel_rfl) (by kernel_rfl) (by kernel_rfl) (fun _ _ _ h => h) (Or.inl ⟨by rfl, fun w hSw => by obtain ⟨q1, q2⟩ := hSw; go_simp; try (intro hbad; omega)⟩) hS ?_
      simp only [Act.put, List.setIfInBounds_toArray, List.set_cons_zero, List.set_cons_succ]
      refine wpAnyH_takeD 2 (some 68) (.pointer (some ⟨gn, on + j, none⟩)) rfl rfl (by kernel_rfl) (by kernel_rfl) (by kernel_rfl) (fun _ _ _ h => h) (Or.inl ⟨by rfl, fun w hSw => by obtain ⟨q1, q2⟩ := hSw; go_simp; try (intro hbad; omega)⟩) hS ?_
      simp only [Act.put, List.setIfInBounds_toArray, List.set_cons_zero, List.set_cons_succ]
      refine wpAnyH_takeD 3 (some 69) (.string s9) rfl rfl (by kernel_rfl) (by kernel_rfl) (by kernel_rfl) (fun _ _ _ h => h) (Or.inl ⟨by rfl, fun w hSw => by obtain ⟨q1, q2⟩ := hSw; go_simp; try (intro hbad; omega)⟩) hS ?_
      simp only [Act.put, List.setIfInBounds_toArray, List.set_cons_zero, List.set_cons_succ]
      refine wpAnyH_takeD 4 (some 70) (.slice (some ⟨go, oo, none⟩) q co) rfl rfl (by kernel_rfl) (by kernel_rfl) (by kernel_rfl) (fun _ _ _ h => h) (Or.inl ⟨by rfl, fun w hSw => by obtain ⟨q1, q2⟩ := hSw; go_simp; try (intro hbad; omega)⟩) hS ?_
      simp only [Act.put, List.setIfInBounds_toArray, List.set_cons_zero, List.set_cons_succ]
      refine wpAnyH_takeD 5 (some 71) (.int .i64 (j : Int)) rfl rfl (by kernel_rfl) (by kernel_rfl) (by kernel_rfl) (fun _ _ _ h => h) (Or.inl ⟨by rfl, fun w hSw => by obtain ⟨q1, q2⟩ := hSw; go_simp; try (intro hbad; omega)⟩) hS ?_
      simp only [Act.put, List.setIfInBounds_toArray, List.set_cons_zero, List.set_cons_succ]
      refine wpAnyH_takeD 6 (some 72) (.pointer (some ⟨go, oo + j, none⟩)) rfl rfl (by kernel_rfl) (by kernel_rfl) (by kernel_rfl) (fun _ _ _ h => h) (Or.inl ⟨by rfl, fun w hSw => by obtain ⟨q1, q2⟩ := hSw; go_simp; try (intro hbad; omega)⟩) hS ?_
      simp only [Act.put, List.setIfInBounds_toArray, List.set_cons_zero, List.set_cons_succ]
      refine wpAnyH_takeD 7 (some 73) (.string s9) rfl rfl (by kernel_rfl) (by kernel_rfl) (by kernel_rfl) (fun _ _ _ h => h) (Or.inl ⟨by rfl, fun w hSw => by obtain ⟨q1, q2⟩ := hSw; go_simp; try (intro hbad; omega)⟩) hS ?_
      simp only [Act.put, List.setIfInBounds_toArray, List.set_cons_zero, List.set_cons_succ]
      refine wpAnyH_takeD 8 (some 74) (.bool false) rfl rfl (by kernel_rfl) (by kernel_rfl) (by kernel_rfl) (fun _ _ _ h => h) (Or.inl ⟨by rfl, fun w hSw => by obtain ⟨q1, q2⟩ := hSw; go_simp; try (intro hbad; omega)⟩) hS ?_
      simp only [Act.put, List.setIfInBounds_toArray, List.set_cons_zero, List.set_cons_succ]
      refine wpAnyH_done (by kernel_rfl) ?_ _
      clear hS d0 d1
      go_wp2
      go_roundw
      case rel => exact ⟨j + 1, by omega, by go_num, by rw [unhide HNN]; exact unhide HPD⟩
      case measure => simp [intOf] <;> omega
    · have HNN := hide (hdQ_else hs)
      have hs1 := imB_at (unhide HM).1 j (by rw [(unhide HM).2.1]; exact hjq)
      have hne := str_ne hs
      obtain ⟨s9, hse⟩ : ∃ z, M.getD j ⟨#[]⟩ = z := ⟨_, rfl⟩
      obtain ⟨t9, hte⟩ : ∃ z, a.getD j ⟨#[]⟩ = z := ⟨_, rfl⟩
      rw [hse] at d1 hne hs1 HNN
      have HSE := hide hse
      rw [hte] at d0 hne
      obtain ⟨l, hle⟩ : ∃ z, fmL k q f t R n ++ hdQ a M j = z := ⟨_, rfl⟩
      have HLZ := hide (show l.length ≤ 1000000 from by
        have h1 := unhide HSCj
        have h2 := unhide HFZ
        have h3 := unhide HRz
        rw [← hle, List.length_append]
        omega)
      have HLE := hide hle
      rw [hle] at hp
      have e2 : errN (2 : Int) [(j : Int)] = 0 := errN_fit 2 j (by omega) (by omega) (by omega)
      have o2 : outN (2 : Int).toNat [(j : Int)] = numB (j : Int) 2 := outN_one 2 (j : Int)
      have hpd := hp.below ((Below.refl _ wr).drew)
      have HN := hide (numK hpd (by have := unhide HS1; omega) 2 [(j : Int)] _ rfl (by have := unhide HLZ; simp; omega) 1 rfl)
      rw [e2, o2, wl_good, we_good] at HN
      have HHS := hide hs1
      clear hs hse hte hle hp hpd hbw HP HSCj e2 o2 HSNW hs1
      rw [show (List.map (Value.int .i64) [(j : Int)]).toArray = #[.int .i64 (j : Int)] from rfl] at HN
      go_wp2_with fail
      refine wp_region_held_drew (S := fun W => W.cell? ⟨gn, on + j, none⟩ = some (.string s9) ∧ W.cell? ⟨go, oo + j, none⟩ = some (.string t9)) (by kernel_rfl) ⟨d1, d0⟩ ?_
      intro hS
      refine wpAnyH_takeD 0 (some 66) (.slice (some ⟨gn, on, none⟩) q cn) rfl rfl (by kernel_rfl) (by kernel_rfl) (by kernel_rfl) (fun _ _ _ h => h) (Or.inl ⟨by rfl, fun w hSw => by obtain ⟨q1, q2⟩ := hSw; go_simp; try (intro hbad; omega)⟩) hS ?_
      simp only [Act.put, List.setIfInBounds_toArray, List.set_cons_zero, List.set_cons_succ]
      refine wpAnyH_takeD 1 (some 67) (.int .i64 (j : Int)) rfl rfl (by kernel_rfl) (by kernel_rfl) (by kernel_rfl) (fun _ _ _ h => h) (Or.inl ⟨by rfl, fun w hSw => by obtain ⟨q1, q2⟩ := hSw; go_simp; try (intro hbad; omega)⟩) hS ?_
      simp only [Act.put, List.setIfInBounds_toArray, List.set_cons_zero, List.set_cons_succ]
      refine wpAnyH_takeD 2 (some 68) (.pointer (some ⟨gn, on + j, none⟩)) rfl rfl (by kernel_rfl) (by kernel_rfl) (by kernel_rfl) (fun _ _ _ h => h) (Or.inl ⟨by rfl, fun w hSw => by obtain ⟨q1, q2⟩ := hSw; go_simp; try (intro hbad; omega)⟩) hS ?_
      simp only [Act.put, List.setIfInBounds_toArray, List.set_cons_zero, List.set_cons_succ]
      refine wpAnyH_takeD 3 (some 69) (.string s9) rfl rfl (by kernel_rfl) (by kernel_rfl) (by kernel_rfl) (fun _ _ _ h => h) (Or.inl ⟨by rfl, fun w hSw => by obtain ⟨q1, q2⟩ := hSw; go_simp; try (intro hbad; omega)⟩) hS ?_
      simp only [Act.put, List.setIfInBounds_toArray, List.set_cons_zero, List.set_cons_succ]
      refine wpAnyH_takeD 4 (some 70) (.slice (some ⟨go, oo, none⟩) q co) rfl rfl (by kernel_rfl) (by kernel_rfl) (by kernel_rfl) (fun _ _ _ h => h) (Or.inl ⟨by rfl, fun w hSw => by obtain ⟨q1, q2⟩ := hSw; go_simp; try (intro hbad; omega)⟩) hS ?_
      simp only [Act.put, List.setIfInBounds_toArray, List.set_cons_zero, List.set_cons_succ]
      refine wpAnyH_takeD 5 (some 71) (.int .i64 (j : Int)) rfl rfl (by kernel_rfl) (by kernel_rfl) (by kernel_rfl) (fun _ _ _ h => h) (Or.inl ⟨by rfl, fun w hSw => by obtain ⟨q1, q2⟩ := hSw; go_simp; try (intro hbad; omega)⟩) hS ?_
      simp only [Act.put, List.setIfInBounds_toArray, List.set_cons_zero, List.set_cons_succ]
      refine wpAnyH_takeD 6 (some 72) (.pointer (some ⟨go, oo + j, none⟩)) rfl rfl (by kernel_rfl) (by kernel_rfl) (by kernel_rfl) (fun _ _ _ h => h) (Or.inl ⟨by rfl, fun w hSw => by obtain ⟨q1, q2⟩ := hSw; go_simp; try (intro hbad; omega)⟩) hS ?_
      simp only [Act.put, List.setIfInBounds_toArray, List.set_cons_zero, List.set_cons_succ]
      refine wpAnyH_takeD 7 (some 73) (.string t9) rfl rfl (by kernel_rfl) (by kernel_rfl) (by kernel_rfl) (fun _ _ _ h => h) (Or.inl ⟨by rfl, fun w hSw => by obtain ⟨q1, q2⟩ := hSw; go_simp; try (intro hbad; omega)⟩) hS ?_
      simp only [Act.put, List.setIfInBounds_toArray, List.set_cons_zero, List.set_cons_succ]
      refine wpAnyH_takeD 8 (some 74) (.bool true) rfl rfl (by kernel_rfl) (by kernel_rfl) (by kernel_rfl) (fun _ _ _ h => h) (Or.inl ⟨by rfl, fun w hSw => by obtain ⟨q1, q2⟩ := hSw; go_simp; try (intro hbad; omega)⟩) hS ?_
      simp only [Act.put, List.setIfInBounds_toArray, List.set_cons_zero, List.set_cons_succ]
      refine wpAnyH_done (by kernel_rfl) ?_ _
      clear hS d0
      go_wp2_with fail
      refine (unhide HN).mono ?_
      rintro e y9 ⟨rfl, hp9⟩
      have c1 : y9.cell? ⟨gn, on + j, none⟩ = some (.string s9) := by
        have hb9 := fp_below hp9 (by have := unhide HS1; omega)
        have hb0 : Below g w y9 := (unhide HBB).trans hb9
        obtain ⟨g3, o3, e3, _, h3⟩ := unhide HSN y9 hb0 j (by rw [(unhide HM).2.1]; exact hjq)
        obtain ⟨rfl, rfl⟩ : gn = g3 ∧ on = o3 := by injection e3 with e3; injection e3 with h1 h2; exact ⟨h1, h2⟩
        rw [h3, unhide HSE]
      have HR := hide (rawK hp9 (by have := unhide HS1; omega) s9 (by have := unhide HLZ; have := unhide HHS; rw [List.length_append, numB_len]; omega))
      rw [wl_good] at HR
      clear HN hp9 d1
      go_wp2_with fail
      refine (unhide HR).mono ?_
      rintro e y10 ⟨rfl, hp10⟩
      have HPN := hide (show WPost g g (.slice none 0 0) (fmL k q f t R n ++ hdQ a M (j + 1)) 0 y1 y10 from by
        rw [unhide HNN, ← List.append_assoc, ← List.append_assoc, unhide HLE]
        exact hp10)
      clear hp10 HR c1
      go_wp2
      go_roundw
      case rel => exact ⟨j + 1, by omega, by go_num, unhide HPN⟩
      case measure => simp [intOf] <;> omega
  · have hjqe : j = q := by omega
    have e1 : (q : Int) ≤ (j : Int) := by omega
    rw [hjqe] at hp
    have HD := hide (doneK hp)
    rw [unhide HX] at HD
    clear hp hjqe HSCj HP
    go_wp2_with fail
    refine (unhide HD).mono ?_
    rintro e y11 ⟨rfl, hp⟩
    have HE := hide (show ∀ o, Below g w (y11.alloc o) from fun o => ((unhide HBB).trans (fp_below hp (by have := unhide HS1; omega))).alloc (by have h1 := hp.size; have h2 := unhide HS1; omega) o)
    clear hp HD
    go_wp2_with fail
    refine (unhide HCK y11).mono ?_
    rintro e y12 ⟨rfl, h12⟩
    subst y12
    have hcv := unhide HCV y11
    obtain ⟨w0, w1, w2, w3⟩ := unhide HW4
    have hxx : ¬ (9223372036854775807 < X.size + C4.size) := by omega
    clear HCK HCV
    go_wp2
    go_ret
    exact ⟨by rw [unhide HZ]; rfl, unhide HE _⟩
end Go.Proofs.YtnfdedolgfcmfaaGreatDoor
