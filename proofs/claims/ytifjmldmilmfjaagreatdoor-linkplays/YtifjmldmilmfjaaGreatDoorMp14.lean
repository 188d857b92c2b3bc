import Derived.Test.YtifjmldmilmfjaaGreatDoorMp13
namespace Go.Proofs.YtifjmldmilmfjaaGreatDoor
open Go.RowKit
set_option maxRecDepth 100000
set_option maxHeartbeats 2000000 in
theorem keysOf_any (k a b : ByteArray) (i : Nat) (hk : k.size ≤ 140737488355000) (ha : a.size ≤ 1000) (hb9 : b.size ≤ 1000) (hi9 : i < 256) (w : World) (hK : KTab w) : Calls Tryz.prog 35 #[.string k, .agg #[.string a, .string b], .int .i64 (i : Int)] w fun e w' => e = .returned (.agg #[.string (hiB k a b i), .string (seB k a b i)]) ∧ Below w.heap.size w w' := by
  obtain ⟨h, hh⟩ : ∃ h, w.heap.size = h := ⟨_, rfl⟩
  obtain ⟨x0, hx0⟩ : ∃ q, w.alloc (.cells #[.string a, .string b] 88) = q := ⟨_, rfl⟩
  have hh0 : x0.heap.size = h + 1 := by rw [← hx0]; simp [hh]
  obtain ⟨x1, hx1⟩ : ∃ q, x0.alloc (.cells #[.string ⟨#[]⟩, .string ⟨#[]⟩] 33) = q := ⟨_, rfl⟩
  obtain ⟨AT, hAT⟩ : ∃ AT : World → Prop, AT = fun y => Below (h + 2) x1 y ∧ h + 2 ≤ y.heap.size := ⟨_, rfl⟩
  have HZ1 := hide (show x1.heap.size = h + 2 from by rw [← hx1]; simp [hh0])
  have HW1 := hide (show Below h w x1 from by rw [← hx1, ← hx0, ← hh]; exact ((Below.refl _ w).alloc (Nat.le_refl _) _).alloc (by simp) _)
  have HAB := hide (show ∀ y z, AT y → Below y.heap.size y z → AT z from fun y z hy hz => by
    rw [hAT] at hy ⊢
    exact ⟨hy.1.trans (hz.mono hy.2), Nat.le_trans hy.2 hz.size⟩)
  have HAK := hide (show ∀ y, AT y → KTab y from fun y hy => by
    rw [hAT] at hy
    exact (hK.below (unhide HW1) (by rw [← hh]; exact hK.1)).below (hy.1.mono (by omega : h ≤ h + 2)) (by rw [← hh]; exact hK.1))
  have HAW := hide (show ∀ y, AT y → Below h w y from fun y hy => by
    rw [hAT] at hy
    exact (unhide HW1).trans (hy.1.mono (by omega)))
  have HAC := hide (show ∀ y, AT y → y.cell? ⟨h, 0, none⟩ = some (.string a) ∧ y.cell? ⟨h, 1, none⟩ = some (.string b) ∧ Blk y (h + 1) #[.string ⟨#[]⟩, .string ⟨#[]⟩] 33 from fun y hy => by
    rw [hAT] at hy
    have hB0 : Blk x0 h #[.string a, .string b] 88 := by rw [← hx0, ← hh]; exact Blk.new _ _ _
    have hB1 : Blk x1 (h + 1) #[.string ⟨#[]⟩, .string ⟨#[]⟩] 33 := by rw [← hx1, ← hh0]; exact Blk.new _ _ _
    have hB2 : Blk x1 h #[.string a, .string b] 88 := by rw [← hx1]; exact hB0.alloc _
    have hB3 := hB2.below hy.1 (by omega)
    exact ⟨hB3.cell 0, hB3.cell 1, hB1.below hy.1 (by omega)⟩)
  have HA0 := hide (show AT x1.drew from by rw [hAT]; exact ⟨(Below.refl _ _).drew, Nat.le_of_eq (unhide HZ1).symm⟩)
  clear hAT
  rw [hh]
  have HSI := hide (fun W => sideText_any i hi9 W)
  have hsz := sdB_size i
  have HDE := hide (fun W (hW : KTab W) => derive_any k (lkB ++ a ++ b ++ sdB i) 64 (by omega) (by omega) (by rw [ByteArray.size_append, ByteArray.size_append, ByteArray.size_append, hsz]; show 4 + _ + _ + 1 + 200 < _; omega) W hW)
  rw [show strOfNums ((outP (nums k) (nums (lkB ++ a ++ b ++ sdB i)) ((64 + 31) / 32)).take 64) = drB k a b i from rfl] at HDE
  have e0 : (⟨#[108, 105, 110, 107]⟩ : ByteArray) ++ a ++ b ++ sdB i = lkB ++ a ++ b ++ sdB i := rfl
  rw [← e0] at HDE
  have ez1 : ((⟨#[108, 105, 110, 107]⟩ : ByteArray) ++ a).size = 4 + a.size := by rw [ByteArray.size_append]; rfl
  have ez2 : ((⟨#[108, 105, 110, 107]⟩ : ByteArray) ++ a ++ b).size = 4 + a.size + b.size := by rw [ByteArray.size_append, ez1]
  have e2 : (⟨#[108, 105, 110, 107]⟩ : ByteArray).size = 4 := rfl
  have hD := drB_size k a b i
  obtain ⟨hi, hhi⟩ : ∃ z, hiB k a b i = z := ⟨_, rfl⟩
  obtain ⟨se, hse⟩ : ∃ z, seB k a b i = z := ⟨_, rfl⟩
  have d1 : (drB k a b i).extract 0 32 = hi := hhi
  have d2 : (drB k a b i).extract 32 64 = se := hse
  have HF := hide (And.intro hhi hse)
  rw [hhi, hse]
  clear hhi hse
  generalize drB k a b i = D at *
  generalize sdB i = sd at *
  clear e0 hK
  go_enter Tryz.func35, Tryz.ntmps35
  go_wp2_with fail
  refine wp_region_held_drew (S := fun W => AT W) (by kernel_rfl) (unhide HA0) ?_
  intro hS
  refine wpAnyH_takeD 0 (some 10) (.string k) rfl rfl (by kernel_rfl) (by kernel_rfl) (by kernel_rfl) (fun _ _ _ h => h) (Or.inl ⟨by rfl, fun w hSw => by have hcx := unhide HAC w hSw; have hcx0 := hcx.1; have hcx1 := hcx.2.1; clear hSw hcx; go_simp; try omega⟩) hS ?_
  simp only [Act.put, List.setIfInBounds_toArray, List.set_cons_zero, List.set_cons_succ]
  refine wpAnyH_takeD 1 (some 11) (.pointer (some ⟨h, 0, none⟩)) rfl rfl (by kernel_rfl) (by kernel_rfl) (by kernel_rfl) (fun _ _ _ h => h) (Or.inl ⟨by rfl, fun w hSw => by have hcx := unhide HAC w hSw; have hcx0 := hcx.1; have hcx1 := hcx.2.1; clear hSw hcx; go_simp; try omega⟩) hS ?_
  simp only [Act.put, List.setIfInBounds_toArray, List.set_cons_zero, List.set_cons_succ]
  refine wpAnyH_takeD 2 (some 12) (.string a) rfl rfl (by kernel_rfl) (by kernel_rfl) (by kernel_rfl) (fun _ _ _ h => h) (Or.inl ⟨by rfl, fun w hSw => by have hcx := unhide HAC w hSw; have hcx0 := hcx.1; have hcx1 := hcx.2.1; clear hSw hcx; go_simp; try omega⟩) hS ?_
  simp only [Act.put, List.setIfInBounds_toArray, List.set_cons_zero, List.set_cons_succ]
  refine wpAnyH_takeD 3 (some 13) (.string (⟨#[108, 105, 110, 107]⟩ ++ a)) rfl rfl (by kernel_rfl) (by kernel_rfl) (by kernel_rfl) (fun _ _ _ h => h) (Or.inl ⟨by rfl, fun w hSw => by have hcx := unhide HAC w hSw; have hcx0 := hcx.1; have hcx1 := hcx.2.1; clear hSw hcx; go_simp; try omega⟩) hS ?_
  simp only [Act.put, List.setIfInBounds_toArray, List.set_cons_zero, List.set_cons_succ]
  refine wpAnyH_takeD 4 (some 14) (.pointer (some ⟨h, 1, none⟩)) rfl rfl (by kernel_rfl) (by kernel_rfl) (by kernel_rfl) (fun _ _ _ h => h) (Or.inl ⟨by rfl, fun w hSw => by have hcx := unhide HAC w hSw; have hcx0 := hcx.1; have hcx1 := hcx.2.1; clear hSw hcx; go_simp; try omega⟩) hS ?_
  simp only [Act.put, List.setIfInBounds_toArray, List.set_cons_zero, List.set_cons_succ]
  refine wpAnyH_takeD 5 (some 15) (.string b) rfl rfl (by kernel_rfl) (by kernel_rfl) (by kernel_rfl) (fun _ _ _ h => h) (Or.inl ⟨by rfl, fun w hSw => by have hcx := unhide HAC w hSw; have hcx0 := hcx.1; have hcx1 := hcx.2.1; clear hSw hcx; go_simp; try omega⟩) hS ?_
  simp only [Act.put, List.setIfInBounds_toArray, List.set_cons_zero, List.set_cons_succ]
  refine wpAnyH_takeD 6 (some 16) (.string (⟨#[108, 105, 110, 107]⟩ ++ a ++ b)) rfl rfl (by kernel_rfl) (by kernel_rfl) (by kernel_rfl) (fun _ _ _ h => h) (Or.inl ⟨by rfl, fun w hSw => by have hcx := unhide HAC w hSw; have hcx0 := hcx.1; have hcx1 := hcx.2.1; clear hSw hcx; go_simp; try omega⟩) hS ?_
  simp only [Act.put, List.setIfInBounds_toArray, List.set_cons_zero, List.set_cons_succ]
  refine wpAnyH_takeD 7 (some 17) (.int .i64 (i : Int)) rfl rfl (by kernel_rfl) (by kernel_rfl) (by kernel_rfl) (fun _ _ _ h => h) (Or.inl ⟨by rfl, fun w hSw => by have hcx := unhide HAC w hSw; have hcx0 := hcx.1; have hcx1 := hcx.2.1; clear hSw hcx; go_simp; try omega⟩) hS ?_
  simp only [Act.put, List.setIfInBounds_toArray, List.set_cons_zero, List.set_cons_succ]
  refine wpAnyH_ready (rs := [8]) (by kernel_rfl) (by simp) ?_
  refine AllReadyH.cons rfl (fun K hK => ?_) AllReadyH.nil
  simp only [List.getElem_toArray, List.getElem_cons_succ, List.getElem_cons_zero]
  go_simp
  refine (unhide HSI _).mono ?_
  rintro e y1 ⟨rfl, hb⟩
  have hS9 : AT y1 := unhide HAB _ _ hS hb
  clear hb
  refine hK.out _ _ hS9 (fun hS => ?_)
  clear hK K
  refine wpAnyH_takeD 9 (some 19) (.string (⟨#[108, 105, 110, 107]⟩ ++ a ++ b ++ sd)) rfl rfl (by kernel_rfl) (by kernel_rfl) (by kernel_rfl) (fun _ _ _ h => h) (Or.inl ⟨by rfl, fun w hSw => by have hcx := unhide HAC w hSw; have hcx0 := hcx.1; have hcx1 := hcx.2.1; clear hSw hcx; go_simp; try omega⟩) hS ?_
  simp only [Act.put, List.setIfInBounds_toArray, List.set_cons_zero, List.set_cons_succ]
  refine wpAnyH_ready (rs := [10]) (by kernel_rfl) (by simp) ?_
  refine AllReadyH.cons rfl (fun K hK => ?_) AllReadyH.nil
  simp only [List.getElem_toArray, List.getElem_cons_succ, List.getElem_cons_zero]
  go_simp
  refine (unhide HDE _ (unhide HAK _ hS)).mono ?_
  rintro e y2 ⟨rfl, hb⟩
  have hS9 : AT y2 := unhide HAB _ _ hS hb
  clear hb
  refine hK.out _ _ hS9 (fun hS => ?_)
  clear hK K
  refine wpAnyH_takeD 11 (some 9) (.tuple #[.string D, .int .i64 0]) rfl rfl (by kernel_rfl) (by kernel_rfl) (by kernel_rfl) (fun _ _ _ h => h) (Or.inl ⟨by rfl, fun w hSw => by have hcx := unhide HAC w hSw; have hcx0 := hcx.1; have hcx1 := hcx.2.1; clear hSw hcx; go_simp; try omega⟩) hS ?_
  simp only [Act.put, List.setIfInBounds_toArray, List.set_cons_zero, List.set_cons_succ]
  refine wpAnyH_takeD 12 (some 21) (.string D) rfl rfl (by kernel_rfl) (by kernel_rfl) (by kernel_rfl) (fun _ _ _ h => h) (Or.inl ⟨by rfl, fun w hSw => by have hcx := unhide HAC w hSw; have hcx0 := hcx.1; have hcx1 := hcx.2.1; clear hSw hcx; go_simp; try omega⟩) hS ?_
  simp only [Act.put, List.setIfInBounds_toArray, List.set_cons_zero, List.set_cons_succ]
  refine wpAnyH_takeD 13 (some 22) (.int .i64 0) rfl rfl (by kernel_rfl) (by kernel_rfl) (by kernel_rfl) (fun _ _ _ h => h) (Or.inl ⟨by rfl, fun w hSw => by have hcx := unhide HAC w hSw; have hcx0 := hcx.1; have hcx1 := hcx.2.1; clear hSw hcx; go_simp; try omega⟩) hS ?_
  simp only [Act.put, List.setIfInBounds_toArray, List.set_cons_zero, List.set_cons_succ]
  refine wpAnyH_takeD 14 (some 7) (.string D) rfl rfl (by kernel_rfl) (by kernel_rfl) (by kernel_rfl) (fun _ _ _ h => h) (Or.inl ⟨by rfl, fun w hSw => by have hcx := unhide HAC w hSw; have hcx0 := hcx.1; have hcx1 := hcx.2.1; clear hSw hcx; go_simp; try omega⟩) hS ?_
  simp only [Act.put, List.setIfInBounds_toArray, List.set_cons_zero, List.set_cons_succ]
  refine wpAnyH_takeD 15 (some 8) (.int .i64 0) rfl rfl (by kernel_rfl) (by kernel_rfl) (by kernel_rfl) (fun _ _ _ h => h) (Or.inl ⟨by rfl, fun w hSw => by have hcx := unhide HAC w hSw; have hcx0 := hcx.1; have hcx1 := hcx.2.1; clear hSw hcx; go_simp; try omega⟩) hS ?_
  simp only [Act.put, List.setIfInBounds_toArray, List.set_cons_zero, List.set_cons_succ]
  refine wpAnyH_done (by kernel_rfl) ?_ _
  have hAC := unhide HAC _ hS
  obtain ⟨_, _, hBk⟩ := hAC
  have c0 : y2.cell? ⟨h + 1, 0, none⟩ = some (.string ⟨#[]⟩) := hBk.cell 0
  have c1 : y2.cell? ⟨h + 1, 1, none⟩ = some (.string ⟨#[]⟩) := hBk.cell 1
  have f0 := hBk.frozen 0
  have f1 := hBk.frozen 1
  have HZ := hide (show Blk ((y2.setCell ⟨h + 1, 0, none⟩ (.string hi)).setCell ⟨h + 1, 1, none⟩ (.string se)).drew (h + 1) #[.string hi, .string se] 33 from (hBk.set 0 (.string hi)).set 1 (.string se))
  have hz2 := hBk.lt
  clear hBk
  have HE := hide (unhide HAW _ hS)
  have HE2 := hide (show Below h w ((y2.setCell ⟨h + 1, 0, none⟩ (.string hi)).setCell ⟨h + 1, 1, none⟩ (.string se)).drew from by
    have h1 := unhide HE
    exact h1.trans (((((Only.refl (fun k => k = h + 1) y2).setCell ⟨h + 1, 0, none⟩ (.string hi) (fun _ => rfl)).setCell ⟨h + 1, 1, none⟩ (.string se) (fun _ => rfl)).drew).below (by omega) (fun k hk e => by omega)))
  clear hS
  go_wp2_with fail
  refine wp_region_held_drew (S := fun _ => True) (by kernel_rfl) trivial ?_
  intro hS
  refine wpAnyH_takeD 0 (some 23) (.string D) rfl rfl (by kernel_rfl) (by kernel_rfl) (by kernel_rfl) (fun _ _ _ h => h) (Or.inl ⟨by rfl, fun w hSw => by clear hSw; go_simp⟩) hS ?_
  simp only [Act.put, List.setIfInBounds_toArray, List.set_cons_zero, List.set_cons_succ]
  refine wpAnyH_takeD 1 (some 24) (.string hi) rfl rfl (by kernel_rfl) (by kernel_rfl) (by kernel_rfl) (fun _ _ _ h => h) (Or.inl ⟨by rfl, fun w hSw => by clear hSw; go_simp⟩) hS ?_
  simp only [Act.put, List.setIfInBounds_toArray, List.set_cons_zero, List.set_cons_succ]
  refine wpAnyH_takeD 2 (some 25) (.string D) rfl rfl (by kernel_rfl) (by kernel_rfl) (by kernel_rfl) (fun _ _ _ h => h) (Or.inl ⟨by rfl, fun w hSw => by clear hSw; go_simp⟩) hS ?_
  simp only [Act.put, List.setIfInBounds_toArray, List.set_cons_zero, List.set_cons_succ]
  refine wpAnyH_takeD 3 (some 26) (.string se) rfl rfl (by kernel_rfl) (by kernel_rfl) (by kernel_rfl) (fun _ _ _ h => h) (Or.inl ⟨by rfl, fun w hSw => by clear hSw; go_simp⟩) hS ?_
  simp only [Act.put, List.setIfInBounds_toArray, List.set_cons_zero, List.set_cons_succ]
  refine wpAnyH_takeD 4 (some 27) (.agg #[.string hi, .string se]) rfl rfl (by kernel_rfl) (by kernel_rfl) (by kernel_rfl) (fun _ _ _ h => h) (Or.inl ⟨by rfl, fun w hSw => by clear hSw; go_simp⟩) hS ?_
  simp only [Act.put, List.setIfInBounds_toArray, List.set_cons_zero, List.set_cons_succ]
  refine wpAnyH_ready (rs := [5]) (by kernel_rfl) (by simp) ?_
  refine AllReadyH.cons rfl (fun K hK => ?_) AllReadyH.nil
  simp only [List.getElem_toArray, List.getElem_cons_succ, List.getElem_cons_zero]
  go_simp
  refine hK.out _ _ trivial (fun hS => ?_)
  clear hK K
  refine wpAnyH_done (by kernel_rfl) ?_ _
  clear c0 c1 f0 f1 hS
  generalize ((y2.setCell ⟨h + 1, 0, none⟩ (.string hi)).setCell ⟨h + 1, 1, none⟩ (.string se)).drew = y3 at *
  have c0 : y3.cell? ⟨h + 1, 0, none⟩ = some (.string hi) := (unhide HZ).cell 0
  have c1 : y3.cell? ⟨h + 1, 1, none⟩ = some (.string se) := (unhide HZ).cell 1
  go_wp2
  refine bodyPost_ret (v := .agg #[.string hi, .string se]) (by simp [results, Tryz.results35, go_sem, c0, c1]) rfl ⟨rfl, unhide HE2⟩
/-- what a hello of a side by a key is -/
def grB (k : ByteArray) (j : Nat) (f : ByteArray) : Bool := decide (f.size = 35 ∧ heB k j (f.extract 3 19) = f)
set_option maxHeartbeats 1000000 in
theorem greeted_any (k : ByteArray) (j : Nat) (f : ByteArray) (hk : k.size ≤ 140737488355000) (hj : j < 256) (w : World) (hK : KTab w) : Calls Tryz.prog 34 #[.string k, .int .i64 (j : Int), .string f] w fun e w' => e = .returned (.tuple #[.string (if grB k j f then f.extract 3 19 else ⟨#[]⟩), .bool (grB k j f)]) ∧ Below w.heap.size w w' := by
  by_cases h : f.size = 35
  · have HH := hide (helloOf_any k j (f.extract 3 19) hk hj (by rw [ByteArray.size_extract]; omega) w hK)
    have hz := heB_size k j (f.extract 3 19)
    have hn : (f.extract 3 19).size = 16 := by rw [ByteArray.size_extract]; omega
    have HSA := hide (fun W => same_any (heB k j (f.extract 3 19)) f (by omega) W)
    obtain ⟨B, hB⟩ : ∃ B, decide (heB k j (f.extract 3 19) = f) = B := ⟨_, rfl⟩
    rw [hB] at HSA
    have hg : grB k j f = B := by rw [← hB, grB]; simp [h]
    rw [hg]
    clear hB hg hK
    generalize heB k j (f.extract 3 19) = he at *
    generalize hnn : f.extract 3 19 = n at *
    go_enter Tryz.func34, Tryz.ntmps34
    go_wp2_with fail
    refine (unhide HH).mono ?_
    rintro e y ⟨rfl, hb⟩
    have HB := hide hb
    clear hb
    go_wp2_with fail
    refine (unhide HSA _).mono ?_
    rintro e y2 ⟨rfl, hb⟩
    have HB2 := hide ((unhide HB).trans (hb.mono (unhide HB).size))
    clear hb
    cases B
    · go_wp2
      go_ret2
      exact ⟨rfl, unhide HB2⟩
    · go_wp2
      go_ret2
      exact ⟨rfl, unhide HB2⟩
  · have hg : grB k j f = false := decide_eq_false (fun q => h q.1)
    rw [hg]
    have e1 : ((f.size : Int) != 35) = true := by simp; omega
    have HB := hide (Below.refl w.heap.size w)
    clear hg hK
    go_enter Tryz.func34, Tryz.ntmps34
    go_wp2
    go_ret2
    exact ⟨rfl, unhide HB⟩
end Go.Proofs.YtifjmldmilmfjaaGreatDoor

namespace Go.Proofs.YtifjmldmilmfjaaGreatDoor
open Go.RowKit
set_option maxRecDepth 100000
/-- a frame's body; its number -/
def boB (f : ByteArray) : ByteArray := f.extract 0 (f.size - 16)
def nrB (f : ByteArray) : Int := beN ((nums ((boB f).extract 2 (boB f).size)).take 8)
def rsB (f : ByteArray) : ByteArray := (boB f).extract 10 (boB f).size
/-- is a text a frame by these keys? -/
def isB (se f : ByteArray) : Bool := decide (26 ≤ f.size ∧ f.size ≤ 4122 ∧ tgB se (boB f) = f ∧ (boB f).extract 0 2 = lmB ∧ nrB f < 9223372036854775808)
theorem boB_size (f : ByteArray) (h : 26 ≤ f.size) : (boB f).size = f.size - 16 := by
  rw [boB, ByteArray.size_extract]; omega
theorem nrB_pos (f : ByteArray) : 0 ≤ nrB f := (be_bound _ (nums_bytes _) 8).1
theorem drop_end (s : ByteArray) (n : Nat) (h : s.size ≤ n) : s.extract n s.size = ⟨#[]⟩ := by
  apply nums_inj
  rw [nums_tail, List.drop_eq_nil_of_le (by rw [nums_len]; exact h)]
  rfl
set_option maxHeartbeats 4000000 in
theorem read_any (hi se f : ByteArray) (hh9 : hi.size ≤ 140737488355000) (hs9 : se.size ≤ 140737488355000) (hf9 : f.size ≤ 4611686018427387904) (w : World) (hK : KTab w) (hG : ETy w) : Calls Tryz.prog 30 #[.agg #[.string hi, .string se], .string f] w fun e w' => e = .returned (.tuple #[.int .i64 (if isB se f then nrB f else 0), .string (if isB se f then hdB hi (nrB f) (rsB f) else ⟨#[]⟩), .bool (isB se f)]) ∧ Below w.heap.size w w' := by
  obtain ⟨h, hh⟩ : ∃ h, w.heap.size = h := ⟨_, rfl⟩
  obtain ⟨x1, hx1⟩ : ∃ q, w.alloc (.cells #[.string hi, .string se] 33) = q := ⟨_, rfl⟩
  obtain ⟨AT, hAT⟩ : ∃ AT : World → Prop, AT = fun y => Below (h + 1) x1 y ∧ h + 1 ≤ y.heap.size := ⟨_, rfl⟩
  have HZ1 := hide (show x1.heap.size = h + 1 from by rw [← hx1]; simp [hh])
  have HW1 := hide (show Below h w x1 from by rw [← hx1, ← hh]; exact (Below.refl _ _).alloc (Nat.le_refl _) _)
  have HAS := hide (show ∀ y, AT y → h + 1 ≤ y.heap.size from fun y hy => by rw [hAT] at hy; exact hy.2)
  have HAB := hide (show ∀ y z, AT y → Below (h + 1) y z → AT z from fun y z hy hz => by
    rw [hAT] at hy ⊢
    exact ⟨hy.1.trans hz, Nat.le_trans hy.2 hz.size⟩)
  have HAK := hide (show ∀ y, AT y → KTab y from fun y hy => by
    rw [hAT] at hy
    exact (hK.below (unhide HW1) (by rw [← hh]; exact hK.1)).below (hy.1.mono (by omega : h ≤ h + 1)) (by rw [← hh]; exact hK.1))
  have HAG := hide (show ∀ y, AT y → ETy y from fun y hy => by
    rw [hAT] at hy
    exact hG.below ((unhide HW1).trans (hy.1.mono (by omega : h ≤ h + 1))) (by rw [← hh]; exact hG.lt))
  have HAW := hide (show ∀ y, AT y → Below h w y from fun y hy => by
    rw [hAT] at hy
    exact (unhide HW1).trans (hy.1.mono (by omega)))
  have HAC := hide (show ∀ y, AT y → y.cell? ⟨h, 0, none⟩ = some (.string hi) ∧ y.cell? ⟨h, 1, none⟩ = some (.string se) from fun y hy => by
    rw [hAT] at hy
    have hB : Blk x1 h #[.string hi, .string se] 33 := by rw [← hx1, ← hh]; exact Blk.new _ _ _
    have hB2 := hB.below hy.1 (by omega)
    exact ⟨hB2.cell 0, hB2.cell 1⟩)
  have HA1 := hide (show AT x1 from by rw [hAT]; exact ⟨Below.refl _ _, Nat.le_of_eq (unhide HZ1).symm⟩)
  clear hAT
  rw [hh]
  obtain ⟨n, hn⟩ : ∃ n, f.size = n := ⟨_, rfl⟩
  by_cases h1 : n < 26
  · have e1 : decide ((n : Int) < 26) = true := decide_eq_true (by omega)
    have hv : isB se f = false := decide_eq_false (fun q => by omega)
    rw [hv]
    clear hv hK hG
    go_enter Tryz.func30, Tryz.ntmps30
    go_wp2
    go_ret3
    exact ⟨rfl, unhide HAW _ (unhide HA1)⟩
  have e1 : decide ((n : Int) < 26) = false := decide_eq_false (by omega)
  by_cases h2 : 4122 < n
  · have e2 : decide ((4122 : Int) < (n : Int)) = true := decide_eq_true (by omega)
    have hv : isB se f = false := decide_eq_false (fun q => by omega)
    rw [hv]
    clear hv hK hG
    go_enter Tryz.func30, Tryz.ntmps30
    go_wp2
    go_ret3
    exact ⟨rfl, unhide HAW _ (unhide HA1)⟩
  have e2 : decide ((4122 : Int) < (n : Int)) = false := decide_eq_false (by omega)
  have e3 : wrap64 ((n : Int) - 16) = ((n - 16 : Nat) : Int) := by rw [wrap64_eq _ (by omega) (by omega)]; omega
  have e4 : wrap64 ((n : Int) - 26) = ((n - 26 : Nat) : Int) := by rw [wrap64_eq _ (by omega) (by omega)]; omega
  have hbz := boB_size f (by omega)
  have hbe : f.extract 0 (n - 16) = boB f := by rw [boB, hn]
  obtain ⟨b, hb⟩ : ∃ b, boB f = b := ⟨_, rfl⟩
  rw [hb] at hbe hbz
  rw [hn] at hbz
  have HTG := hide (fun W (hW : KTab W) => tagged_any se b hs9 (by omega) W hW)
  have htz := tgB_size se b
  have HSA := hide (fun W => same_any (tgB se b) f (by omega) W)
  obtain ⟨B, hB⟩ : ∃ B, decide (tgB se b = f) = B := ⟨_, rfl⟩
  rw [hB] at HSA
  have HRA := hide (fun W rb (hR : Rdr W rb b 0 0) (hg : ETy W) => rawS W rb ⟨b, 0, 0⟩ hR hg ⟨by simp, by simp only; omega⟩ 2)
  obtain ⟨rst, hrst⟩ : ∃ r, b.extract 2 b.size = r := ⟨_, rfl⟩
  have hrz : rst.size = n - 18 := by rw [← hrst, ByteArray.size_extract]; omega
  have hs1 : stepR ⟨b, 0, 0⟩ (rawE 2 b) (2 : Int).toNat = ⟨rst, 2, 0⟩ := by
    have : rawE 2 b = 0 := by rw [rawE, if_neg (by omega), if_neg (by omega)]
    rw [this]
    show (⟨b.extract 2 b.size, 0 + ((2 : Nat) : Int), 0⟩ : RSt) = _
    rw [hrst]
    rfl
  have hv1 : rawV 2 b = b.extract 0 2 := by
    rw [rawV, if_pos (show rawE 2 b = 0 by rw [rawE, if_neg (by omega), if_neg (by omega)])]
    rfl
  simp only [hs1, hv1, if_true] at HRA
  have HNU := hide (fun W rb (hR : Rds W rb ⟨rst, 2, 0⟩) (hg : ETy W) => numS W rb ⟨rst, 2, 0⟩ hR hg ⟨by simp, by simp only; omega⟩ 8)
  obtain ⟨L, hL⟩ : ∃ L, b.extract 0 2 = L := ⟨_, rfl⟩
  rw [hL] at HRA
  obtain ⟨V, hV⟩ : ∃ V, nrB f = V := ⟨_, rfl⟩
  have hV2 : beN ((nums rst).take 8) = V := by rw [← hV, nrB, hb, hrst]
  have hV0 : 0 ≤ V := by rw [← hV]; exact nrB_pos f
  obtain ⟨rs, hrs⟩ : ∃ r, rsB f = r := ⟨_, rfl⟩
  have hrs2 : rst.extract 8 rst.size = rs := by rw [← hrs, rsB, hb, ← hrst, extract_tail]
  have hrsz : rs.size = n - 26 := by rw [← hrs2, ByteArray.size_extract]; omega
  have hisB : isB se f = decide (B = true ∧ L = lmB ∧ V < 9223372036854775808) := by
    unfold isB
    rw [hn, hb, hV, hL, ← hB]
    have a1 : 26 ≤ n := by omega
    have a2 : n ≤ 4122 := by omega
    simp [a1, a2]
  obtain ⟨Z, hZ⟩ : ∃ Z, isB se f = Z := ⟨_, rfl⟩
  rw [hZ] at hisB ⊢
  rw [hV, hrs]
  have HTU := hide (fun (hq : V < 9223372036854775808) W (hW : KTab W) => turned_any hi se hh9 V.toNat (by omega) rs (by omega) W hW)
  rw [show ((V.toNat : Nat) : Int) = V from by omega] at HTU
  obtain ⟨hd, hhd⟩ : ∃ z, hdB hi V rs = z := ⟨_, rfl⟩
  rw [hhd] at HTU ⊢
  have hEn : numE 8 rst = if 9223372036854775807 < V then 30 else 0 := by
    rw [numE, if_neg (by omega), if_neg (by omega)]
    show (if 9223372036854775807 < beN ((nums rst).take 8) then (30 : Int) else 0) = _
    rw [hV2]
  have hnV : numV 8 rst = if 9223372036854775807 < V then 0 else V := by
    rw [numV, hEn]
    by_cases q : 9223372036854775807 < V
    · rw [if_pos q, if_neg (by decide), if_pos q]
    · rw [if_neg q, if_pos rfl, if_neg q]
      exact hV2
  simp only [hEn, hnV, if_true] at HNU
  have HNR := hide (fun W => newReader_any b W)
  have HIB := hide hisB
  clear hK hG hV hZ hrs hhd hB hL hisB hb hV2 hEn hnV hs1 hv1
  have hc := unhide HAC _ (unhide HA1)
  have hcx0 := hc.1
  have hcx1 := hc.2
  clear hc
  go_enter Tryz.func30, Tryz.ntmps30
  go_wp2_with fail
  refine (unhide HTG _ (unhide HAK _ (unhide HA1))).mono ?_
  rintro e y1 ⟨rfl, hb⟩
  have HA2 := hide (unhide HAB _ _ (unhide HA1) (hb.mono (unhide HAS _ (unhide HA1))))
  clear hb hcx0 hcx1
  go_wp2_with fail
  refine (unhide HSA _).mono ?_
  rintro e y2 ⟨rfl, hb⟩
  have HA3 := hide (unhide HAB _ _ (unhide HA2) (hb.mono (unhide HAS _ (unhide HA2))))
  clear hb HA2 HA1
  cases B
  · have HZ := hide (show false = Z from by rw [unhide HIB]; simp)
    cases unhide HZ
    go_wp2
    go_ret3
    exact ⟨rfl, unhide HAW _ (unhide HA3)⟩
  go_wp2_with fail
  refine (unhide HNR _).mono ?_
  rintro e y3 ⟨rfl, hR, hb, hs⟩
  have HA4 := hide (unhide HAB _ _ (unhide HA3) (hb.mono (unhide HAS _ (unhide HA3))))
  obtain ⟨rb, hrb⟩ : ∃ rb, y2.heap.size = rb := ⟨_, rfl⟩
  have hrbh : h + 1 ≤ rb := by rw [← hrb]; exact unhide HAS _ (unhide HA3)
  rw [hrb] at hR ⊢
  have HOB := hide (show ∀ y z, AT y → Only (fun k => k = rb) y z → AT z from fun y z hy hz => unhide HAB _ _ hy (hz.below (unhide HAS _ hy) (fun k hk e => by omega)))
  have HR := hide hR
  clear hb hs hR HA3 hrb
  go_wp2_with fail
  refine (unhide HRA y3 rb (unhide HR) (unhide HAG _ (unhide HA4))).mono ?_
  rintro e y4 ⟨rfl, hR, hO⟩
  have HA5 := hide (unhide HOB _ _ (unhide HA4) hO)
  replace HR := hide hR
  clear hR hO HA4
  by_cases hq : 9223372036854775807 < V
  · simp only [if_pos hq] at HNU
    have HZ := hide (show false = Z from by rw [unhide HIB]; simp; omega)
    cases unhide HZ
    have HRB := hide (fun W (hR : Rds W rb (stepR ⟨rst, 2, 0⟩ 30 (8 : Int).toNat)) (hg : ETy W) => rawS W rb (stepR ⟨rst, 2, 0⟩ 30 (8 : Int).toNat) hR hg (stepR_ok _ _ _ _ ⟨by simp, by simp only; omega⟩ (fun q => by omega)) ((n : Int) - 26))
    have HDN := hide (fun W (hR : Rds W rb (stepR (stepR ⟨rst, 2, 0⟩ 30 (8 : Int).toNat) (rawE ((n : Int) - 26) (stepR ⟨rst, 2, 0⟩ 30 (8 : Int).toNat).r) ((n : Int) - 26).toNat)) => rdone_any W rb _ _ _ hR)
    have q1 : stepR ⟨rst, 2, 0⟩ 30 (8 : Int).toNat = ⟨⟨#[]⟩, 2, 30⟩ := rfl
    simp only [q1] at HRB HDN HNU
    have q2 : stepR ⟨⟨#[]⟩, 2, 30⟩ (rawE ((n : Int) - 26) ⟨#[]⟩) ((n : Int) - 26).toNat = ⟨⟨#[]⟩, 2, 30⟩ := by
      rw [stepR, if_neg (by decide)]
    simp only [q2] at HRB HDN
    have q3 : doneE ⟨#[]⟩ 30 = 30 := by decide
    simp only [q3] at HDN
    simp only [show ((30 : Int) = 0) = False from by simp, if_false] at HRB
    go_wp2_with fail
    refine (unhide HNU y4 rb (unhide HR) (unhide HAG _ (unhide HA5))).mono ?_
    rintro e y5 ⟨rfl, hR, hO⟩
    have HA6 := hide (unhide HOB _ _ (unhide HA5) hO)
    replace HR := hide hR
    clear hR hO HA5
    go_wp2_with fail
    refine (unhide HRB y5 (unhide HR) (unhide HAG _ (unhide HA6))).mono ?_
    rintro e y6 ⟨rfl, hR, hO⟩
    have HA7 := hide (unhide HOB _ _ (unhide HA6) hO)
    replace HR := hide hR
    clear hR hO HA6
    go_wp2_with fail
    refine (unhide HDN y6 (unhide HR)).mono ?_
    rintro e y7 ⟨rfl, hb⟩
    have HA8 := hide (unhide HAB _ _ (unhide HA7) (hb.mono (unhide HAS _ (unhide HA7))))
    clear hb HA7
    go_wp2
    go_ret3
    exact ⟨rfl, unhide HAW _ (unhide HA8)⟩
  · simp only [if_neg hq] at HNU
    have hqV : V < 9223372036854775808 := by omega
    have ht6 : ((n : Int) - 26).toNat = n - 26 := by omega
    have q1 : stepR ⟨rst, 2, 0⟩ 0 (8 : Int).toNat = ⟨rs, 10, 0⟩ := by
      show (⟨rst.extract 8 rst.size, 2 + ((8 : Nat) : Int), 0⟩ : RSt) = _
      rw [hrs2]
      rfl
    simp only [q1] at HNU
    have HRB := hide (fun W (hR : Rds W rb ⟨rs, 10, 0⟩) (hg : ETy W) => rawS W rb ⟨rs, 10, 0⟩ hR hg ⟨by simp, by simp only; omega⟩ ((n : Int) - 26))
    have q4 : rawE ((n : Int) - 26) rs = 0 := by rw [rawE, if_neg (by omega), if_neg (by omega)]
    have q5 : rawV ((n : Int) - 26) rs = rs := by
      rw [rawV, if_pos q4, ht6, ← hrsz]
      exact ByteArray.extract_zero_size
    have q6 : stepR ⟨rs, 10, 0⟩ 0 ((n : Int) - 26).toNat = ⟨⟨#[]⟩, 10 + ((n : Int) - 26), 0⟩ := by
      show (⟨rs.extract ((n : Int) - 26).toNat rs.size, 10 + ((((n : Int) - 26).toNat : Nat) : Int), 0⟩ : RSt) = _
      rw [ht6, drop_end rs (n - 26) (by omega), show (((n - 26 : Nat) : Int)) = (n : Int) - 26 by omega]
    simp only [q4, q5, q6, if_true] at HRB
    have HDN := hide (fun W (hR : Rds W rb ⟨⟨#[]⟩, 10 + ((n : Int) - 26), 0⟩) => rdone_any W rb _ _ _ hR)
    have q3 : doneE ⟨#[]⟩ 0 = 0 := by decide
    simp only [q3] at HDN
    clear q1 q3 q4 q5 q6 hrs2 ht6
    go_wp2_with fail
    refine (unhide HNU y4 rb (unhide HR) (unhide HAG _ (unhide HA5))).mono ?_
    rintro e y5 ⟨rfl, hR, hO⟩
    have HA6 := hide (unhide HOB _ _ (unhide HA5) hO)
    replace HR := hide hR
    clear hR hO HA5
    go_wp2_with fail
    refine (unhide HRB y5 (unhide HR) (unhide HAG _ (unhide HA6))).mono ?_
    rintro e y6 ⟨rfl, hR, hO⟩
    have HA7 := hide (unhide HOB _ _ (unhide HA6) hO)
    replace HR := hide hR
    clear hR hO HA6
    go_wp2_with fail
    refine (unhide HDN y6 (unhide HR)).mono ?_
    rintro e y7 ⟨rfl, hb⟩
    have HA8 := hide (unhide HAB _ _ (unhide HA7) (hb.mono (unhide HAS _ (unhide HA7))))
    have hc := unhide HAC _ (unhide HA8)
    have hcx0 := hc.1
    have hcx1 := hc.2
    clear hb HA7 hc
    by_cases hL : L = lmB
    · have HZ := hide (show true = Z from by rw [unhide HIB]; simp [hL, hqV])
      cases unhide HZ
      subst hL
      have e9 : lmB = (⟨#[76, 77]⟩ : ByteArray) := rfl
      rw [e9]
      go_wp2_with fail
      refine (unhide HTU hqV _ (unhide HAK _ (unhide HA8))).mono ?_
      rintro e y8 ⟨rfl, hb⟩
      have HA9 := hide (unhide HAB _ _ (unhide HA8) (hb.mono (unhide HAS _ (unhide HA8))))
      clear hb HA8
      go_wp2
      go_ret3
      exact ⟨rfl, unhide HAW _ (unhide HA9)⟩
    · have HZ := hide (show false = Z from by rw [unhide HIB]; simp [hL])
      cases unhide HZ
      have e9 : (L.toList == [76, 77]) = false := by
        have := str_ne hL
        rwa [show lmB.toList = [76, 77] from by rw [ByteArray.toList_eq]; rfl] at this
      go_wp2
      go_ret3
      exact ⟨rfl, unhide HAW _ (unhide HA8)⟩
end Go.Proofs.YtifjmldmilmfjaaGreatDoor
