import Derived.Test.YtilhilglokblpaaDoorQmb
namespace Go.Proofs.YtilhilglokblpaaDoor
open Go.RowKit
set_option maxRecDepth 100000
/-- texts in memory, in a block below B -/
def SB (w : World) (B : Nat) (p : Option Addr) (l : List ByteArray) : Prop := ∀ j, j < l.length → ∃ g o, p = some ⟨g, o, none⟩ ∧ g < B ∧ w.cell? ⟨g, o + j, none⟩ = some (.string (l.getD j ⟨#[]⟩))
theorem SB.below {w w' : World} {B : Nat} {p : Option Addr} {l : List ByteArray} (h : SB w B p l) (hb : Below B w w') : SB w' B p l := fun j hj => by
  obtain ⟨g, o, e, hg, hc⟩ := h j hj
  exact ⟨g, o, e, hg, (hb.cell (p := ⟨g, o + j, none⟩) hg).trans hc⟩
theorem SB.mono {w : World} {B B' : Nat} {p : Option Addr} {l : List ByteArray} (h : SB w B p l) (hB : B ≤ B') : SB w B' p l := fun j hj => by
  obtain ⟨g, o, e, hg, hc⟩ := h j hj
  exact ⟨g, o, e, by omega, hc⟩
theorem SB.nil (w : World) (B : Nat) (p : Option Addr) : SB w B p [] := fun j hj => absurd hj (by simp)
theorem getD_take (l : List ByteArray) (k j : Nat) (h : j < k) : (l.take k).getD j ⟨#[]⟩ = l.getD j ⟨#[]⟩ := by
  rw [List.getD_eq_getElem?_getD, List.getD_eq_getElem?_getD, List.getElem?_take, if_pos h]
theorem getD_drop (l : List ByteArray) (k j : Nat) : (l.drop k).getD j ⟨#[]⟩ = l.getD (k + j) ⟨#[]⟩ := by
  rw [List.getD_eq_getElem?_getD, List.getD_eq_getElem?_getD, List.getElem?_drop]
theorem SB.take {w : World} {B g o : Nat} {l : List ByteArray} (h : SB w B (some ⟨g, o, none⟩) l) (k : Nat) : SB w B (some ⟨g, o, none⟩) (l.take k) := fun j hj => by
  rw [List.length_take] at hj
  obtain ⟨g', o', e, hg, hc⟩ := h j (by omega)
  rw [getD_take l k j (by omega)]
  exact ⟨g', o', e, hg, hc⟩
theorem SB.drop {w : World} {B g o : Nat} {l : List ByteArray} (h : SB w B (some ⟨g, o, none⟩) l) (k : Nat) : SB w B (some ⟨g, o + k, none⟩) (l.drop k) := fun j hj => by
  rw [List.length_drop] at hj
  obtain ⟨g', o', e, hg, hc⟩ := h (k + j) (by omega)
  obtain ⟨rfl, rfl⟩ : g = g' ∧ o = o' := by injection e with e; injection e with e1 e2; exact ⟨e1, e2⟩
  rw [getD_drop]
  exact ⟨g, o + k, rfl, hg, by rw [Nat.add_assoc]; exact hc⟩
/-- texts that are short enough to be digested -/
def Sht (l : List ByteArray) : Prop := ∀ j, j < l.length → (l.getD j ⟨#[]⟩).size ≤ 140737488355000
theorem Sht.take {l : List ByteArray} (h : Sht l) (k : Nat) : Sht (l.take k) := fun j hj => by
  rw [List.length_take] at hj
  rw [getD_take l k j (by omega)]
  exact h j (by omega)
theorem Sht.drop {l : List ByteArray} (h : Sht l) (k : Nat) : Sht (l.drop k) := fun j hj => by
  rw [List.length_drop] at hj
  rw [getD_drop]
  exact h _ (by omega)
set_option maxHeartbeats 2000000 in
theorem rootOf_any : ∀ (q : Nat) (l : List ByteArray), l.length = q → ∀ (w : World) (B c : Nat) (p : Option Addr), SB w B p l → B ≤ w.heap.size → KTab w → Sht l → q ≤ 65536 → q ≤ c → c ≤ 9223372036854775807 → Calls Tryd.prog 26 #[.slice p q c] w fun e w' => e = .returned (.agg (dC (rt l)).toArray) ∧ Below w.heap.size w w' := by
  intro q
  induction q using Nat.strongRecOn with
  | _ m ih =>
  intro l hl w B c p hS hB hK hT hm hmc hc9
  obtain ⟨h, hh⟩ : ∃ h, w.heap.size = h := ⟨_, rfl⟩
  obtain ⟨x1, hx1⟩ : ∃ q, w.alloc (.cells #[.int .u8 0, .int .u8 0, .int .u8 0, .int .u8 0, .int .u8 0, .int .u8 0, .int .u8 0, .int .u8 0, .int .u8 0, .int .u8 0, .int .u8 0, .int .u8 0, .int .u8 0, .int .u8 0, .int .u8 0, .int .u8 0, .int .u8 0, .int .u8 0, .int .u8 0, .int .u8 0, .int .u8 0, .int .u8 0, .int .u8 0, .int .u8 0, .int .u8 0, .int .u8 0, .int .u8 0, .int .u8 0, .int .u8 0, .int .u8 0, .int .u8 0, .int .u8 0] 46) = q := ⟨_, rfl⟩
  have HE1 := hide (show x1.heap.size = h + 1 from by rw [← hx1]; simp [hh])
  have HA := hide (show Arr x1 h 0 .u8 (List.replicate 32 0) from by rw [← hx1, ← hh]; exact zD_new w)
  have HB0 := hide (show Below h w x1 from by rw [← hx1, ← hh]; exact (Below.refl _ w).alloc (Nat.le_refl _) _)
  have HB1 := hide (show Below (h + 1) x1 x1 from Below.refl _ _)
  have HKB := hide (show ∀ W, Below (h + 1) x1 W → KTab W from fun W hW => (hK.below (unhide HB0) (by rw [← hh]; exact hK.1)).below hW (by have := hK.1; omega))
  have HLn := hide (dC_len _ (rt_size l))
  have HK1 := hide (dC_all (rt l))
  have HZ := hide (fun y (hy : Arr y h 0 .u8 (List.replicate 32 0)) => zst y h (rt l) (rt_size l) hy)
  rw [hh]
  by_cases h0 : m = 0
  · subst h0
    obtain rfl : l = [] := List.eq_nil_of_length_eq_zero hl
    have HSU := hide (fun W (hW : Below (h + 1) x1 W) => sumOf_any ⟨#[]⟩ W (unhide HKB W hW) (by decide))
    rw [← rt_nil] at HSU
    generalize dC (rt []) = cn at *
    clear hS hK hT
    go_enter Tryd.func26, Tryd.ntmps26
    go_wp2_with fail
    refine (unhide HSU _ (unhide HB1)).mono ?_
    rintro e y3 ⟨rfl, hb3⟩
    have HB4 := hide (show Below (h + 1) x1 y3 from (unhide HB1).trans (hb3.mono (by rw [unhide HE1]; exact Nat.le_refl _)))
    obtain ⟨q1, q2, q3⟩ := unhide HZ y3 ((unhide HA).below (unhide HB4) (by omega))
    have HTH := hide q1
    have HLD := hide q2
    have HBE := hide (q3 w ((unhide HB0).trans ((unhide HB4).mono (by omega))))
    clear q1 q2 q3 hb3
    go_wp2_with (refine wpList_store_mid rfl 46 (.tmp 2) (.tmp 8) rfl h 0 cn.toArray rfl rfl (by simpa [unhide HLn] using unhide HTH) (by rw [szD]; simp [unhide HLn]) (unhide HK1) ?_)
    refine bodyPost_ret (v := .agg cn.toArray) (results_cell rfl _ _ _ ⟨h, 0, none⟩ rfl _ (unhide HLD)) rfl ⟨rfl, unhide HBE⟩
  obtain ⟨g, o, rfl, hgB, hce⟩ := hS 0 (by omega)
  by_cases h1 : m = 1
  · subst h1
    obtain ⟨x, rfl⟩ : ∃ x, l = [x] := List.length_eq_one_iff.1 hl
    have hxs := hT 0 (by simp)
    change x.size ≤ _ at hxs
    change w.cell? ⟨g, o, none⟩ = some (.string x) at hce
    have hcx : x1.cell? ⟨g, o, none⟩ = some (.string x) := ((unhide HB0).cell (p := ⟨g, o, none⟩) (by show g < h; omega)).trans hce
    have hsz : (mk0 ++ x).size < 2305843009213693952 := by rw [ByteArray.size_append, mk0_size]; omega
    have HLT := hide (fun W => leafText_any x hxs W)
    have HSU := hide (fun W (hW : Below (h + 1) x1 W) => sumOf_any (mk0 ++ x) W (unhide HKB W hW) hsz)
    rw [show dg (mk0 ++ x) = rt [x] from (rt_one x).symm] at HSU
    generalize dC (rt [x]) = cn at *
    generalize mk0 ++ x = u at *
    clear hS hK hT hce
    go_enter Tryd.func26, Tryd.ntmps26
    go_wp2_with fail
    refine (unhide HLT _).mono ?_
    rintro e y2 ⟨rfl, hy2⟩
    subst y2
    go_wp2_with fail
    refine (unhide HSU _ (unhide HB1)).mono ?_
    rintro e y3 ⟨rfl, hb3⟩
    have HB4 := hide (show Below (h + 1) x1 y3 from (unhide HB1).trans (hb3.mono (by rw [unhide HE1]; exact Nat.le_refl _)))
    obtain ⟨q1, q2, q3⟩ := unhide HZ y3 ((unhide HA).below (unhide HB4) (by omega))
    have HTH := hide q1
    have HLD := hide q2
    have HBE := hide (q3 w ((unhide HB0).trans ((unhide HB4).mono (by omega))))
    clear q1 q2 q3 hb3
    go_wp2_with (refine wpList_store_mid rfl 46 (.tmp 2) (.tmp 15) rfl h 0 cn.toArray rfl rfl (by simpa [unhide HLn] using unhide HTH) (by rw [szD]; simp [unhide HLn]) (unhide HK1) ?_)
    refine bodyPost_ret (v := .agg cn.toArray) (results_cell rfl _ _ _ ⟨h, 0, none⟩ rfl _ (unhide HLD)) rfl ⟨rfl, unhide HBE⟩
  · have k1 := kk_pos m
    have k2 := kk_lt m (by omega)
    have HF := hide (fun W => firstPart_any m (by omega) hm W)
    have HL := hide (show ∀ W, Below (h + 1) x1 W → Calls Tryd.prog 26 #[.slice (some ⟨g, o, none⟩) (kk m) c] W fun e w' => e = .returned (.agg (dC (rt (l.take (kk m)))).toArray) ∧ Below W.heap.size W w' from fun W hW => ih (kk m) k2 (l.take (kk m)) (by rw [List.length_take]; omega) W B c _ ((hS.below ((unhide HB0).mono (by omega))).below (hW.mono (by omega))|>.take _) (by have := hW.size; have := unhide HE1; omega) (unhide HKB W hW) (hT.take _) (by omega) (by omega) hc9)
    have HR := hide (show ∀ W, Below (h + 1) x1 W → Calls Tryd.prog 26 #[.slice (some ⟨g, o + kk m, none⟩) (m - kk m) (c - kk m)] W fun e w' => e = .returned (.agg (dC (rt (l.drop (kk m)))).toArray) ∧ Below W.heap.size W w' from fun W hW => ih (m - kk m) (by omega) (l.drop (kk m)) (by rw [List.length_drop]; omega) W B (c - kk m) _ ((hS.below ((unhide HB0).mono (by omega))).below (hW.mono (by omega))|>.drop _) (by have := hW.size; have := unhide HE1; omega) (unhide HKB W hW) (hT.drop _) (by omega) (by omega) (by omega))
    have HO := hide (fun W (hW : Below (h + 1) x1 W) => over_any (rt (l.take (kk m))) (rt (l.drop (kk m))) (rt_size _) (rt_size _) W (unhide HKB W hW))
    have hrt := rt_two l (by omega)
    rw [hl] at hrt
    rw [← hrt] at HO
    generalize dC (rt (l.take (kk m))) = ca at *
    generalize dC (rt (l.drop (kk m))) = cb at *
    generalize dC (rt l) = cn at *
    generalize kk m = k at *
    have e1 : (k : Int) ≤ (m : Int) := by omega
    have e2 : (m : Int) ≤ (c : Int) := by omega
    have e3 : ((m : Int) == 0) = false := by simp; omega
    have e4 : ((m : Int) == 1) = false := by simp; omega
    have HM := hide hmc
    clear hS hK hT hce hrt hl ih h0 h1
    go_enter Tryd.func26, Tryd.ntmps26
    go_wp2_with fail
    refine (unhide HF _).mono ?_
    rintro e y2 ⟨rfl, hy2⟩
    subst y2
    go_wp2_with fail
    refine wp_region_held_drew (S := fun _ => True) (by kernel_rfl) trivial ?_
    intro hS
    refine wpAnyH_takeD 0 (some 19) (.slice (some ⟨g, o, none⟩) m c) rfl rfl (by kernel_rfl) (by kernel_rfl) (by kernel_rfl) (fun _ _ _ h => h) (Or.inl ⟨by rfl, fun w hSw => by clear hSw; go_simp; try (intro hbad; omega)⟩) hS ?_
    simp only [Act.put, List.setIfInBounds_toArray, List.set_cons_zero, List.set_cons_succ]
    refine wpAnyH_takeD 1 (some 20) (.int .i64 (k : Int)) rfl rfl (by kernel_rfl) (by kernel_rfl) (by kernel_rfl) (fun _ _ _ h => h) (Or.inl ⟨by rfl, fun w hSw => by clear hSw; go_simp; try (intro hbad; omega)⟩) hS ?_
    simp only [Act.put, List.setIfInBounds_toArray, List.set_cons_zero, List.set_cons_succ]
    refine wpAnyH_takeD 2 (some 21) (.slice (some ⟨g, o, none⟩) k c) rfl rfl (by kernel_rfl) (by kernel_rfl) (by kernel_rfl) (fun _ _ _ h => h) (Or.inl ⟨by rfl, fun w hSw => by clear hSw; go_simp; try (intro hbad; omega)⟩) hS ?_
    simp only [Act.put, List.setIfInBounds_toArray, List.set_cons_zero, List.set_cons_succ]
    refine wpAnyH_takeD 4 (some 23) (.slice (some ⟨g, o, none⟩) m c) rfl rfl (by kernel_rfl) (by kernel_rfl) (by kernel_rfl) (fun _ _ _ h => h) (Or.inl ⟨by rfl, fun w hSw => by clear hSw; go_simp; try (intro hbad; omega)⟩) hS ?_
    simp only [Act.put, List.setIfInBounds_toArray, List.set_cons_zero, List.set_cons_succ]
    refine wpAnyH_takeD 5 (some 24) (.int .i64 (k : Int)) rfl rfl (by kernel_rfl) (by kernel_rfl) (by kernel_rfl) (fun _ _ _ h => h) (Or.inl ⟨by rfl, fun w hSw => by clear hSw; go_simp; try (intro hbad; omega)⟩) hS ?_
    simp only [Act.put, List.setIfInBounds_toArray, List.set_cons_zero, List.set_cons_succ]
    refine wpAnyH_takeD 6 (some 25) (.slice (some ⟨g, o + k, none⟩) (m - k) (c - k)) rfl rfl (by kernel_rfl) (by kernel_rfl) (by kernel_rfl) (fun _ _ _ h => h) (Or.inl ⟨by rfl, fun w hSw => by clear hSw; go_simp; try (intro hbad; omega)⟩) hS ?_
    simp only [Act.put, List.setIfInBounds_toArray, List.set_cons_zero, List.set_cons_succ]
    refine wpAnyH_ready (rs := [3]) (by kernel_rfl) (by simp) ?_
    refine AllReadyH.cons rfl (fun K hK => ?_) AllReadyH.nil
    simp only [List.getElem_toArray, List.getElem_cons_succ, List.getElem_cons_zero]
    go_simp
    refine (unhide HL _ (unhide HB1).drew).mono ?_
    rintro e y1 ⟨rfl, hb1⟩
    have HB2 := hide (show Below (h + 1) x1 y1 from (unhide HB1).drew.trans (hb1.mono (by have := (unhide HE1); show h + 1 ≤ x1.heap.size; omega)))
    clear hb1 HL
    refine hK.out _ _ trivial (fun hS => ?_)
    clear hK K
    refine wpAnyH_ready (rs := [7]) (by kernel_rfl) (by simp) ?_
    refine AllReadyH.cons rfl (fun K hK => ?_) AllReadyH.nil
    simp only [List.getElem_toArray, List.getElem_cons_succ, List.getElem_cons_zero]
    go_simp
    refine (unhide HR _ (unhide HB2)).mono ?_
    rintro e y2 ⟨rfl, hb2⟩
    have HB3 := hide (show Below (h + 1) x1 y2 from (unhide HB2).trans (hb2.mono (by have := (unhide HB2).size; have := (unhide HE1); omega)))
    clear hb2 HR HB2
    refine hK.out _ _ trivial (fun hS => ?_)
    clear hK K
    refine wpAnyH_ready (rs := [8]) (by kernel_rfl) (by simp) ?_
    refine AllReadyH.cons rfl (fun K hK => ?_) AllReadyH.nil
    simp only [List.getElem_toArray, List.getElem_cons_succ, List.getElem_cons_zero]
    go_simp
    refine (unhide HO _ (unhide HB3)).mono ?_
    rintro e y3 ⟨rfl, hb3⟩
    have HB4 := hide (show Below (h + 1) x1 y3 from (unhide HB3).trans (hb3.mono (by have := (unhide HB3).size; have := (unhide HE1); omega)))
    clear hb3 HO HB3
    obtain ⟨q1, q2, q3⟩ := unhide HZ y3 ((unhide HA).below (unhide HB4) (by omega))
    have HTH := hide q1
    have HLD := hide q2
    have HBE := hide (q3 w ((unhide HB0).trans ((unhide HB4).mono (by omega))))
    clear q1 q2 q3 HZ HA HB0 HB4
    refine hK.out _ _ trivial (fun hS => ?_)
    clear hK K
    refine wpAnyH_ready (rs := [9]) (by kernel_rfl) (by simp) ?_
    refine AllReadyH.cons rfl (fun K hK => ?_) AllReadyH.nil
    rw [if_pos (by rfl)]
    refine wp_store_mid 46 (.tmp 2) (.tmp 27) rfl h 0 cn.toArray rfl rfl (by simpa [unhide HLn] using unhide HTH) (by rw [szD]; simp [unhide HLn]) (unhide HK1) ?_
    refine hK.out _ _ trivial (fun hS => ?_)
    clear hK K
    refine wpAnyH_done (by kernel_rfl) ?_ _
    go_wp2_with fail
    refine bodyPost_ret (v := .agg cn.toArray) (results_cell rfl _ _ _ ⟨h, 0, none⟩ rfl _ (by simpa using unhide HLD)) rfl ⟨rfl, by simpa using unhide HBE⟩
theorem root_any (l : List ByteArray) (q : Nat) (hl : l.length = q) (w : World) (B c : Nat) (p : Option Addr) (hS : SB w B p l) (hB : B ≤ w.heap.size) (hK : KTab w) (hT : Sht l) (hm : q ≤ 65536) (hmc : q ≤ c) (hc9 : c ≤ 9223372036854775807) : Calls Tryd.prog 11 #[.slice p q c] w fun e w' => e = .returned (.string (rt l)) ∧ Below w.heap.size w w' := by
  have HR := hide (rootOf_any q l hl w B c p hS hB hK hT hm hmc hc9)
  have HT := hide (fun W => text_any (rt l) (rt_size l) W)
  generalize rt l = r at *
  generalize dC r = cr at *
  clear hS hB hK hT hl
  go_enter Tryd.func11, Tryd.ntmps11
  go_wp2_with fail
  refine (unhide HR).mono ?_
  rintro e y1 ⟨rfl, hb1⟩
  have HB1 := hide hb1
  clear hb1 HR
  go_wp2_with fail
  refine (unhide HT _).mono ?_
  rintro e y2 ⟨rfl, hb2⟩
  have HB2 := hide ((unhide HB1).trans (hb2.mono (unhide HB1).size))
  clear hb2
  go_wp2
  go_ret
  exact ⟨rfl, unhide HB2⟩
end Go.Proofs.YtilhilglokblpaaDoor
