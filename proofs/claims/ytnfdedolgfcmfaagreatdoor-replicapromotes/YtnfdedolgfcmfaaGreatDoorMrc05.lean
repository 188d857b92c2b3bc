import Derived.Test.YtnfdedolgfcmfaaGreatDoorMrc04
import Derived.WalkKit
import Derived.Test.YtnfdedolgfcmfaaGreatDoorMrc00
import Derived.BigQuiet
namespace Go.Proofs.YtnfdedolgfcmfaaGreatDoor
open Go.RowKit
set_option maxRecDepth 100000
/-- texts in memory, in a block below B -/
def SB (w : World) (B : Nat) (p : Option Addr) (l : List ByteArray) : Prop := ∀ j, j < l.length → ∃ g o, p = some ⟨g, o, none⟩ ∧ g < B ∧ w.cell? ⟨g, o + j, none⟩ = some (.string (l.getD j ⟨#[]⟩))
theorem SB.below {w w' : World} {B : Nat} {p : Option Addr} {l : List ByteArray} (h : SB w B p l) (hb : Below B w w') : SB w' B p l := fun j hj => by
  obtain ⟨g, o, e, hg, hc⟩ := h j hj
  exact ⟨g, o, e, hg, (hb.cell (p := ⟨g, o + j, none⟩) hg).trans hc⟩
theorem SB.mono {w : World} {B B' : Nat} {p : Option Addr} {l : List ByteArray} (h : SB w B p l) (hB : B ≤ B') : SB w B' p l := fun j hj => by
  obtain ⟨g, o, e, hg, hc⟩ := h j hj
  exact ⟨g, o, e, by omega, hc⟩
theorem SB.nil (w : World) (B : Nat) (p : Option Addr) : SB w B p [] := fun j hj => absurd hj (by simp)
theorem getD_take (l : List ByteArray) (k j : Nat) (h : j < k) : (l.take k).getD j ⟨#[]⟩ = l.getD j ⟨#[]⟩ := by
  rw [List.getD_eq_getElem?_getD, List.getD_eq_getElem?_getD, List.getElem?_take, if_pos h]
theorem getD_drop (l : List ByteArray) (k j : Nat) : (l.drop k).getD j ⟨#[]⟩ = l.getD (k + j) ⟨#[]⟩ := by
  rw [List.getD_eq_getElem?_getD, List.getD_eq_getElem?_getD, List.getElem?_drop]
theorem SB.take {w : World} {B g o : Nat} {l : List ByteArray} (h : SB w B (some ⟨g, o, none⟩) l) (k : Nat) : SB w B (some ⟨g, o, none⟩) (l.take k) := fun j hj => by
  rw [List.length_take] at hj
  obtain ⟨g', o', e, hg, hc⟩ := h j (by omega)
  rw [getD_take l k j (by omega)]
  exact ⟨g', o', e, hg, hc⟩
theorem SB.drop {w : World} {B g o : Nat} {l : List ByteArray} (h : SB w B (some ⟨g, o, none⟩) l) (k : Nat) : SB w B (some ⟨g, o + k, none⟩) (l.drop k) := fun j hj => by
  rw [List.length_drop] at hj
  obtain ⟨g', o', e, hg, hc⟩ := h (k + j) (by omega)
  obtain ⟨rfl, rfl⟩ : g = g' ∧ o = o' := by injection e with e; injection e with e1 e2; exact ⟨e1, e2⟩
  rw [getD_drop]
  exact ⟨g, o + k, rfl, hg, by rw [Nat.add_assoc]; exact hc⟩
/-- texts that are short enough to be digested -/
def Sht (l : List ByteArray) : Prop := ∀ j, j < l.length → (l.getD j ⟨#[]⟩).size ≤ 140737488355000
theorem Sht.take {l : List ByteArray} (h : Sht l) (k : Nat) : Sht (l.take k) := fun j hj => by
  rw [List.length_take] at hj
  rw [getD_take l k j (by omega)]
  exact h j (by omega)
theorem Sht.drop {l : List ByteArray} (h : Sht l) (k : Nat) : Sht (l.drop k) := fun j hj => by
  rw [List.length_drop] at hj
  rw [getD_drop]
  exact h _ (by omega)
set_option maxHeartbeats 2000000 in
theorem rootOf_any : ∀ (q : Nat) (l : List ByteArray), l.length = q → ∀ (w : World) (B c : Nat) (p : Option Addr), SB w B p l → B ≤ w.heap.size → KTab w → Sht l → q ≤ 65536 → q ≤ c → c ≤ 9223372036854775807 → Calls Tryz.prog 90 #[.slice p q c] w fun e w' => e = .returned (.agg (dC (rt l)).toArray) ∧ Below w.heap.size w w' := by
  intro q
  induction q using Nat.strongRecOn with
  | _ m ih =>
  intro l hl w B c p hS hB hK hT hm hmc hc9
  obtain ⟨h, hh⟩ : ∃ h, w.heap.size = h := ⟨_, rfl⟩
  obtain ⟨x1, hx1⟩ : ∃ q, w.alloc (.cells #[.int .u8 0, .int .u8 0, .int .u8 0, .int .u8 0, .int .u8 0, .int .u8 0, .int .u8 0, .int .u8 0, .int .u8 0, .int .u8 0, .int .u8 0, .int .u8 0, .int .u8 0, .int .u8 0, .int .u8 0, .int .u8 0, .int .u8 0, .int .u8 0, .int .u8 0, .int .u8 0, .int .u8 0, .int .u8 0, .int .u8 0, .int .u8 0, .int .u8 0, .int .u8 0, .int .u8 0, .int .u8 0, .int .u8 0, .int .u8 0, .int .u8 0, .int .u8 0] 160) = q := ⟨_, rfl⟩
  have HE1 := hide (show x1.heap.size = h + 1 from by rw [← hx1]; simp [hh])
  have HA := hide (show Arr x1 h 0 .u8 (List.replicate 32 0) from by rw [← hx1, ← hh]; exact zD_new w)
  have HB0 := hide (show Below h w x1 from by rw [← hx1, ← hh]; exact (Below.refl _ w).alloc (Nat.le_refl _) _)
  have HB1 := hide (show Below (h + 1) x1 x1 from Below.refl _ _)
  have HKB := hide (show ∀ W, Below (h + 1) x1 W → KTab W from fun W hW => (hK.below (unhide HB0) (by rw [← hh]; exact hK.1)).below hW (by have := hK.1; omega))
  have HLn := hide (dC_len _ (rt_size l))
  have HK1 := hide (dC_all (rt l))
  have HZ := hide (fun y (hy : Arr y h 0 .u8 (List.replicate 32 0)) => zst y h (rt l) (rt_size l) hy)
  rw [hh]
  by_cases h0 : m = 0
  · subst h0
    obtain rfl : l = [] := List.eq_nil_of_length_eq_zero hl
    have HSU := hide (fun W (hW : Below (h + 1) x1 W) => sumOf_any ⟨#[]⟩ W (unhide HKB W hW) (by decide))
    rw [← rt_nil] at HSU
    generalize dC (rt []) = cn at *
    clear hS hK hT
    go_enter Tryz.func90, Tryz.ntmps90
    go_wp2_with fail
    refine (unhide HSU _ (unhide HB1)).mono ?_
    rintro e y3 ⟨rfl, hb3⟩
    have HB4 := hide (show Below (h + 1) x1 y3 from (unhide HB1).trans (hb3.mono (by rw [unhide HE1]; exact Nat.le_refl _)))
    obtain ⟨q1, q2, q3⟩ := unhide HZ y3 ((unhide HA).below (unhide HB4) (by omega))
    have HTH := hide q1
    have HLD := hide q2
    have HBE := hide (q3 w ((unhide HB0).trans ((unhide HB4).mono (by omega))))
    clear q1 q2 q3 hb3
    go_wp2_with (refine wpList_store_mid rfl 160 (.tmp 2) (.tmp 8) rfl h 0 cn.toArray rfl rfl (by simpa [unhide HLn] using unhide HTH) (by rw [szD]; simp [unhide HLn]) (unhide HK1) ?_)
    refine bodyPost_ret (v := .agg cn.toArray) (results_cell rfl _ _ _ ⟨h, 0, none⟩ rfl _ (unhide HLD)) rfl ⟨rfl, unhide HBE⟩
  obtain ⟨g, o, rfl, hgB, hce⟩ := hS 0 (by omega)
  by_cases h1 : m = 1
  · subst h1
    obtain ⟨x, rfl⟩ : ∃ x, l = [x] := List.length_eq_one_iff.1 hl
    have hxs := hT 0 (by simp)
    change x.size ≤ _ at hxs
    change w.cell? ⟨g, o, none⟩ = some (.string x) at hce
    have hcx : x1.cell? ⟨g, o, none⟩ = some (.string x) := ((unhide HB0).cell (p := ⟨g, o, none⟩) (by show g < h; omega)).trans hce
    have hsz : (mk0 ++ x).size < 2305843009213693952 := by rw [ByteArray.size_append, mk0_size]; omega
    have HLT := hide (fun W => leafText_any x hxs W)
    have HSU := hide (fun W (hW : Below (h + 1) x1 W) => sumOf_any (mk0 ++ x) W (unhide HKB W hW) hsz)
    rw [show dg (mk0 ++ x) = rt [x] from (rt_one x).symm] at HSU
    generalize dC (rt [x]) = cn at *
    generalize mk0 ++ x = u at *
    clear hS hK hT hce
    go_enter Tryz.func90, Tryz.ntmps90
    go_wp2_with fail
    refine (unhide HLT _).mono ?_
    rintro e y2 ⟨rfl, hy2⟩
    subst y2
    go_wp2_with fail
    refine (unhide HSU _ (unhide HB1)).mono ?_
    rintro e y3 ⟨rfl, hb3⟩
    have HB4 := hide (show Below (h + 1) x1 y3 from (unhide HB1).trans (hb3.mono (by rw [unhide HE1]; exact Nat.le_refl _)))
    obtain ⟨q1, q2, q3⟩ := unhide HZ y3 ((unhide HA).below (unhide HB4) (by omega))
    have HTH := hide q1
    have HLD := hide q2
    have HBE := hide (q3 w ((unhide HB0).trans ((unhide HB4).mono (by omega))))
    clear q1 q2 q3 hb3
    go_wp2_with (refine wpList_store_mid rfl 160 (.tmp 2) (.tmp 15) rfl h 0 cn.toArray rfl rfl (by simpa [unhide HLn] using unhide HTH) (by rw [szD]; simp [unhide HLn]) (unhide HK1) ?_)
    refine bodyPost_ret (v := .agg cn.toArray) (results_cell rfl _ _ _ ⟨h, 0, none⟩ rfl _ (unhide HLD)) rfl ⟨rfl, unhide HBE⟩
  · have k1 := kk_pos m
    have k2 := kk_lt m (by omega)
    have HF := hide (fun W => firstPart_any m (by omega) hm W)
    have HL := hide (show ∀ W, Below (h + 1) x1 W → Calls Tryz.prog 90 #[.slice (some ⟨g, o, none⟩) (kk m) c] W fun e w' => e = .returned (.agg (dC (rt (l.take (kk m)))).toArray) ∧ Below W.heap.size W w' from fun W hW => ih (kk m) k2 (l.take (kk m)) (by rw [List.length_take]; omega) W B c _ ((hS.below ((unhide HB0).mono (by omega))).below (hW.mono (by omega))|>.take _) (by have := hW.size; have := unhide HE1; omega) (unhide HKB W hW) (hT.take _) (by omega) (by omega) hc9)
    have HR := hide (show ∀ W, Below (h + 1) x1 W → Calls Tryz.prog 90 #[.slice (some ⟨g, o + kk m, none⟩) (m - kk m) (c - kk m)] W fun e w' => e = .returned (.agg (dC (rt (l.drop (kk m)))).toArray) ∧ Below W.heap.size W w' from fun W hW => ih (m - kk m) (by omega) (l.drop (kk m)) (by rw [List.length_drop]; omega) W B (c - kk m) _ ((hS.below ((unhide HB0).mono (by omega))).below (hW.mono (by omega))|>.drop _) (by have := hW.size; have := unhide HE1; omega) (unhide HKB W hW) (hT.drop _) (by omega) (by omega) (by omega))
    have HO := hide (fun W (hW : Below (h + 1) x1 W) => over_any (rt (l.take (kk m))) (rt (l.drop (kk m))) (rt_size _) (rt_size _) W (unhide HKB W hW))
    have hrt := rt_two l (by omega)
    rw [hl] at hrt
    rw [← hrt] at HO
    generalize dC (rt (l.take (kk m))) = ca at *
    generalize dC (rt (l.drop (kk m))) = cb at *
    generalize dC (rt l) = cn at *
    generalize kk m = k at *
    have e1 : (k : Int) ≤ (m : Int) := by omega
    have e2 : (m : Int) ≤ (c : Int) := by omega
    have e3 : ((m : Int) == 0) = false := by simp; omega
    have e4 : ((m : Int) == 1) = false := by simp; omega
    have HM := hide hmc
    clear hS hK hT hce hrt hl ih h0 h1
    go_enter Tryz.func90, Tryz.ntmps90
    go_wp2_with fail
    refine (unhide HF _).mono ?_
    rintro e y2 ⟨rfl, hy2⟩
    subst y2
    go_wp2_with fail
    refine wp_region_held_drew (S := fun _ => True) (by kernel_rfl) trivial ?_
    intro hS
    refine wpAnyH_takeD 0 (some 19) (.slice (some ⟨g, o, none⟩) m c) rfl rfl (by kernel_rfl) (by kernel_rfl) (by kernel_rfl) (fun _ _ _ h => h) (Or.inl ⟨by rfl, fun w hSw => by clear hSw; go_simp; try (intro hbad; omega)⟩) hS ?_
    simp only [Act.put, List.setIfInBounds_toArray, List.set_cons_zero, List.set_cons_succ]
    refine wpAnyH_takeD 1 (some 20) (.int .i64 (k : Int)) rfl rfl (by kernel_rfl) (by kernel_rfl) (by kernel_rfl) (fun _ _ _ h => h) (Or.inl ⟨by rfl, fun w hSw => by clear hSw; go_simp; try (intro hbad; omega)⟩) hS ?_
    simp only [Act.put, List.setIfInBounds_toArray, List.set_cons_zero, List.set_cons_succ]
    refine wpAnyH_takeD 2 (some 21) (.slice (some ⟨g, o, none⟩) k c) rfl rfl (by kernel_rfl) (by kernel_rfl) (by kernel_rfl) (fun _ _ _ h => h) (Or.inl ⟨by rfl, fun w hSw => by clear hSw; go_simp; try (intro hbad; omega)⟩) hS ?_
    simp only [Act.put, List.setIfInBounds_toArray, List.set_cons_zero, List.set_cons_succ]
    refine wpAnyH_takeD 4 (some 23) (.slice (some ⟨g, o, none⟩) m c) rfl rfl (by kernel_rfl) (by kernel_rfl) (by kernel_rfl) (fun _ _ _ h => h) (Or.inl ⟨by rfl, fun w hSw => by clear hSw; go_simp; try (intro hbad; omega)⟩) hS ?_
    simp only [Act.put, List.setIfInBounds_toArray, List.set_cons_zero, List.set_cons_succ]
    refine wpAnyH_takeD 5 (some 24) (.int .i64 (k : Int)) rfl rfl (by kernel_rfl) (by kernel_rfl) (by kernel_rfl) (fun _ _ _ h => h) (Or.inl ⟨by rfl, fun w hSw => by clear hSw; go_simp; try (intro hbad; omega)⟩) hS ?_
    simp only [Act.put, List.setIfInBounds_toArray, List.set_cons_zero, List.set_cons_succ]
    refine wpAnyH_takeD 6 (some 25) (.slice (some ⟨g, o + k, none⟩) (m - k) (c - k)) rfl rfl (by kernel_rfl) (by kernel_rfl) (by kernel_rfl) (fun _ _ _ h => h) (Or.inl ⟨by rfl, fun w hSw => by clear hSw; go_simp; try (intro hbad; omega)⟩) hS ?_
    simp only [Act.put, List.setIfInBounds_toArray, List.set_cons_zero, List.set_cons_succ]
    refine wpAnyH_ready (rs := [3]) (by kernel_rfl) (by simp) ?_
    refine AllReadyH.cons rfl (fun K hK => ?_) AllReadyH.nil
    simp only [List.getElem_toArray, List.getElem_cons_succ, List.getElem_cons_zero]
    go_simp
    refine (unhide HL _ (unhide HB1).drew).mono ?_
    rintro e y1 ⟨rfl, hb1⟩
    have HB2 := hide (show Below (h + 1) x1 y1 from (unhide HB1).drew.trans (hb1.mono (by have := (unhide HE1); show h + 1 ≤ x1.heap.size; omega)))
    clear hb1 HL
    refine hK.out _ _ trivial (fun hS => ?_)
    clear hK K
    refine wpAnyH_ready (rs := [7]) (by kernel_rfl) (by simp) ?_
    refine AllReadyH.cons rfl (fun K hK => ?_) AllReadyH.nil
    simp only [List.getElem_toArray, List.getElem_cons_succ, List.getElem_cons_zero]
    go_simp
    refine (unhide HR _ (unhide HB2)).mono ?_
    rintro e y2 ⟨rfl, hb2⟩
    have HB3 := hide (show Below (h + 1) x1 y2 from (unhide HB2).trans (hb2.mono (by have := (unhide HB2).size; have := (unhide HE1); omega)))
    clear hb2 HR HB2
    refine hK.out _ _ trivial (fun hS => ?_)
    clear hK K
    refine wpAnyH_ready (rs := [8]) (by kernel_rfl) (by simp) ?_
    refine AllReadyH.cons rfl (fun K hK => ?_) AllReadyH.nil
    simp only [List.getElem_toArray, List.getElem_cons_succ, List.getElem_cons_zero]
    go_simp
    refine (unhide HO _ (unhide HB3)).mono ?_
    rintro e y3 ⟨rfl, hb3⟩
    have HB4 := hide (show Below (h + 1) x1 y3 from (unhide HB3).trans (hb3.mono (by have := (unhide HB3).size; have := (unhide HE1); omega)))
    clear hb3 HO HB3
    obtain ⟨q1, q2, q3⟩ := unhide HZ y3 ((unhide HA).below (unhide HB4) (by omega))
    have HTH := hide q1
    have HLD := hide q2
    have HBE := hide (q3 w ((unhide HB0).trans ((unhide HB4).mono (by omega))))
    clear q1 q2 q3 HZ HA HB0 HB4
    refine hK.out _ _ trivial (fun hS => ?_)
    clear hK K
    refine wpAnyH_ready (rs := [9]) (by kernel_rfl) (by simp) ?_
    refine AllReadyH.cons rfl (fun K hK => ?_) AllReadyH.nil
    rw [if_pos (by rfl)]
    refine wp_store_mid 160 (.tmp 2) (.tmp 27) rfl h 0 cn.toArray rfl rfl (by simpa [unhide HLn] using unhide HTH) (by rw [szD]; simp [unhide HLn]) (unhide HK1) ?_
    refine hK.out _ _ trivial (fun hS => ?_)
    clear hK K
    refine wpAnyH_done (by kernel_rfl) ?_ _
    go_wp2_with fail
    refine bodyPost_ret (v := .agg cn.toArray) (results_cell rfl _ _ _ ⟨h, 0, none⟩ rfl _ (by simpa using unhide HLD)) rfl ⟨rfl, by simpa using unhide HBE⟩
theorem root_any (l : List ByteArray) (q : Nat) (hl : l.length = q) (w : World) (B c : Nat) (p : Option Addr) (hS : SB w B p l) (hB : B ≤ w.heap.size) (hK : KTab w) (hT : Sht l) (hm : q ≤ 65536) (hmc : q ≤ c) (hc9 : c ≤ 9223372036854775807) : Calls Tryz.prog 53 #[.slice p q c] w fun e w' => e = .returned (.string (rt l)) ∧ Below w.heap.size w w' := by
  have HR := hide (rootOf_any q l hl w B c p hS hB hK hT hm hmc hc9)
  have HT := hide (fun W => text_any (rt l) (rt_size l) W)
  generalize rt l = r at *
  generalize dC r = cr at *
  clear hS hB hK hT hl
  go_enter Tryz.func53, Tryz.ntmps53
  go_wp2_with fail
  refine (unhide HR).mono ?_
  rintro e y1 ⟨rfl, hb1⟩
  have HB1 := hide hb1
  clear hb1 HR
  go_wp2_with fail
  refine (unhide HT _).mono ?_
  rintro e y2 ⟨rfl, hb2⟩
  have HB2 := hide ((unhide HB1).trans (hb2.mono (unhide HB1).size))
  clear hb2
  go_wp2
  go_ret
  exact ⟨rfl, unhide HB2⟩
end Go.Proofs.YtnfdedolgfcmfaaGreatDoor

namespace Go.Proofs.YtnfdedolgfcmfaaGreatDoor
open Go.RowKit
/-- One bit of the check. -/
def cstep (v : Nat) : Nat := (v / 2) ^^^ (if v % 2 = 1 then 3988292384 else 0)
def iter (n : Nat) (v : Nat) : Nat := match n with
  | 0 => v
  | n + 1 => iter n (cstep v)
theorem iter_add (n m v : Nat) : iter (n + m) v = iter m (iter n v) := by
  induction n generalizing v with
  | zero => simp [iter]
  | succ n ih => rw [Nat.succ_add, iter, ih, iter]
theorem cstep_lt (v : Nat) (h : v < 4294967296) : cstep v < 4294967296 := by
  unfold cstep
  refine Nat.xor_lt_two_pow (n := 32) (by omega) ?_
  split <;> omega
theorem iter_lt (n v : Nat) (h : v < 4294967296) : iter n v < 4294967296 := by
  induction n generalizing v with
  | zero => exact h
  | succ n ih => exact ih _ (cstep_lt v h)
/-- The register behind a byte; behind a row of bytes. -/
def cbyte (v b : Nat) : Nat := iter 8 (v ^^^ b)
def crcR (v : Nat) (l : List Nat) : Nat := l.foldl cbyte v
theorem cbyte_lt (v b : Nat) (hv : v < 4294967296) (hb : b < 256) : cbyte v b < 4294967296 :=
  iter_lt _ _ (Nat.xor_lt_two_pow (n := 32) (by omega) (by omega))
end Go.Proofs.YtnfdedolgfcmfaaGreatDoor

namespace Go.Proofs.YtnfdedolgfcmfaaGreatDoor
open Go.RowKit
def nats (l : List Int) : List Nat := l.map Int.toNat
/-- The check of a row of bytes. -/
def chkN (l : List Int) : Nat := 4294967295 - crcR 4294967295 (nats l)
theorem crcR_lt (l : List Nat) (hl : ∀ x ∈ l, x < 256) (v : Nat) (hv : v < 4294967296) : crcR v l < 4294967296 := by
  induction l generalizing v with
  | nil => exact hv
  | cons b l ih => exact ih (fun x hx => hl x (by simp [hx])) _ (cbyte_lt v b hv (hl b (by simp)))
theorem nats_lt (l : List Int) (h : Bytes l) : ∀ x ∈ nats l, x < 256 := by
  intro x hx
  obtain ⟨y, hy, rfl⟩ := List.mem_map.1 hx
  obtain ⟨j, hj, e⟩ := List.getElem_of_mem hy
  have := h j
  rw [List.getD_eq_getElem?_getD, List.getElem?_eq_getElem hj, e] at this
  simp at this
  omega
theorem iter_succ' (n v : Nat) : iter (n + 1) v = cstep (iter n v) := by rw [iter_add]; rfl
theorem nums_nat (s : ByteArray) (i : Nat) (hi : i < s.size) : ∃ B : Nat, B < 256 ∧ (nums s).getD i 0 = (B : Int) ∧ nats ((nums s).take (i + 1)) = nats ((nums s).take i) ++ [B] := by
  have hb := nums_bytes s i
  refine ⟨((nums s).getD i 0).toNat, by omega, by omega, ?_⟩
  have hl : i < (nums s).length := by rw [nums_len]; exact hi
  rw [List.take_add_one, List.getElem?_eq_getElem hl, nats, nats, List.map_append, List.getD_eq_getElem?_getD, List.getElem?_eq_getElem hl]
  rfl
theorem xor_all (v : Nat) (h : v < 4294967296) : v ^^^ 4294967295 = 4294967295 - v := by
  have h1 : (4294967295 : Nat) = 2 ^ 32 - 1 := by decide
  have h2 : v ^^^ (2 ^ 32 - 1) = 2 ^ 32 - 1 - v := by
    apply Nat.eq_of_testBit_eq
    intro i
    rw [Nat.testBit_xor, Nat.testBit_two_pow_sub_one, show 2 ^ 32 - 1 - v = 2 ^ 32 - (v + 1) by omega, Nat.testBit_two_pow_sub_succ (by omega)]
    by_cases hi : i < 32
    · simp [hi]
    · have : v.testBit i = false := Nat.testBit_lt_two_pow (Nat.lt_of_lt_of_le h (by exact Nat.pow_le_pow_right (n := 2) (by decide) (show 32 ≤ i by omega)))
      simp [hi, this]
  rw [h1]; exact h2
set_option maxRecDepth 100000 in
set_option maxHeartbeats 1000000 in
theorem check_g (s : ByteArray) (G : Nat) (hG : G = chkN (nums s)) (hs : s.size ≤ 9223372036854775806) (w : World) :
    Calls Tryz.prog 55 #[.string s] w fun e w' => e = .returned (.int .i64 (G : Int)) ∧ w' = w := by
  have HG := hide hG
  clear hG
  have hix := fun (i : Nat) (hi : i < s.size) (W : World) => index_str s i hi W
  go_enter Tryz.func55, Tryz.ntmps55
  go_wp2
  go_loopw [3, 8] (fun c i wr => ∃ n : Nat, n ≤ s.size ∧ i = .int .i64 (n : Int) ∧ c = .int .u32 (crcR 4294967295 (nats ((nums s).take n)) : Int) ∧ wr = w) (fun _ i _ => s.size - (intOf i).toNat)
  case atStart => exact ⟨0, by omega, rfl, rfl, rfl⟩
  case round =>
    obtain ⟨n, hn, rfl, rfl, rfl⟩ := hrel
    obtain ⟨wo, rfl⟩ : ∃ wo, wo = wr := ⟨_, rfl⟩
    have hlt := crcR_lt (nats ((nums s).take n)) (nats_lt _ (fun j => by
      have := nums_bytes s j
      rw [List.getD_eq_getElem?_getD, List.getElem?_take]
      split
      · rw [← List.getD_eq_getElem?_getD]; exact this
      · simp)) 4294967295 (by omega)
    by_cases hns : n < s.size
    · obtain ⟨B, hB, hBe, hBt⟩ := nums_nat s n hns
      have hi2 := hix n hns
      rw [hBe] at hi2
      have HT := hide hBt
      have HC := hide (show crcR 4294967295 (nats ((nums s).take (n + 1))) = cbyte (crcR 4294967295 (nats ((nums s).take n))) B by rw [hBt, crcR, List.foldl_append]; rfl)
      clear hBt hBe hix
      generalize crcR 4294967295 (nats ((nums s).take n)) = V at *
      have hw8 : IntKind.u32.wrap (B : Int) = (B : Int) := by rw [IntKind.wrap_u32']; omega
      have hx := u32_xor_nat V B hlt (by omega)
      have hxl : V ^^^ B < 4294967296 := Nat.xor_lt_two_pow (n := 32) (by omega) (by omega)
      go_wp2
      go_loopw [3, 17] (fun c i wr => ∃ k : Nat, k ≤ 8 ∧ i = .int .i64 (k : Int) ∧ c = .int .u32 (iter k (V ^^^ B) : Int) ∧ wr = wo) (fun _ i _ => 8 - (intOf i).toNat)
      case atStart => exact ⟨0, by omega, rfl, rfl, rfl⟩
      case round =>
        obtain ⟨k, hk, rfl, rfl, rfl⟩ := hrel
        have hl := iter_lt k (V ^^^ B) hxl
        have HS := hide (iter_succ' k (V ^^^ B))
        by_cases hk8 : k < 8
        · generalize iter k (V ^^^ B) = U at *
          have ha0 := u32_and_nat U 1 hl (by omega)
          rw [Nat.and_one_is_mod] at ha0
          have ha : bits .and .u32 (U : Int) 1 = ((U % 2 : Nat) : Int) := ha0
          have HX2 := hide (u32_xor_nat (U / 2) 3988292384 (by omega) (by omega))
          clear ha0
          rcases Nat.mod_two_eq_zero_or_one U with h | h
          · rw [h] at ha
            go_wp2
            go_roundw
            case rel => exact ⟨k + 1, by omega, by go_num, by rw [unhide HS, cstep, if_neg (by omega), Nat.xor_zero]; simp, trivial⟩
            case measure => simp [intOf]; omega
          · rw [h] at ha
            go_wp2
            go_roundw
            case rel => exact ⟨k + 1, by omega, by go_num, by rw [unhide HS, cstep, if_pos h, ← unhide HX2]; rfl, trivial⟩
            case measure => simp [intOf]; omega
        · obtain rfl : k = 8 := by omega
          go_wp2
          go_roundw
          case rel => exact ⟨n + 1, by omega, by go_num, by rw [unhide HC]; rfl, trivial⟩
          case measure => simp [intOf]; omega
    · have HF := hide (show G = 4294967295 - crcR 4294967295 (nats ((nums s).take n)) by rw [unhide HG, chkN, List.take_of_length_le (by rw [nums_len]; omega)])
      have HX := hide (xor_all _ hlt)
      clear hix HG
      generalize crcR 4294967295 (nats ((nums s).take n)) = V at *
      have hx0 := u32_xor_nat 4294967295 V (by omega) hlt
      rw [Nat.xor_comm, unhide HX] at hx0
      have hx : bits .xor .u32 4294967295 (V : Int) = ((4294967295 - V : Nat) : Int) := hx0
      clear hx0
      obtain ⟨R, hR⟩ : ∃ R, R = 4294967295 - V := ⟨_, rfl⟩
      have hRl : R < 4294967296 := by omega
      rw [← hR] at hx HF
      have HW := hide (show wrap64 (bits .xor .u32 IntKind.u32.max (V : Int)) = (R : Int) by
        have hm : (IntKind.u32.max : Int) = 4294967295 := by decide
        rw [hm, hx]; exact wrap64_eq _ (by omega) (by omega))
      clear hR HX hx
      go_wp2
      go_ret
      refine ⟨?_, rfl⟩
      rw [unhide HF, ← unhide HW]
      rfl
theorem check_any (s : ByteArray) (hs : s.size ≤ 9223372036854775806) (w : World) :
    Calls Tryz.prog 55 #[.string s] w fun e w' => e = .returned (.int .i64 (chkN (nums s) : Int)) ∧ w' = w := check_g s _ rfl hs w
end Go.Proofs.YtnfdedolgfcmfaaGreatDoor

namespace Go.Proofs.YtnfdedolgfcmfaaGreatDoor
open Go.RowKit
set_option maxRecDepth 100000
/-- is a row of texts an image? -/
def imB (l : List ByteArray) : Bool := decide (128 ≤ l.length ∧ l.length ≤ 1024 ∧ ∀ j, j < l.length → (l.getD j ⟨#[]⟩).size = 256)
set_option maxHeartbeats 400000 in
theorem yisSize_any (n : Nat) (w : World) : Calls Tryz.prog 72 #[.int .i64 (n : Int)] w fun e w' => e = .returned (.bool (decide (128 ≤ n ∧ n ≤ 1024))) ∧ w' = w := by
  by_cases h1 : 128 ≤ n
  · have d1 : decide ((128 : Int) ≤ (n : Int)) = true := decide_eq_true (by omega)
    by_cases h2 : n ≤ 1024
    · have d2 : decide ((n : Int) ≤ 1024) = true := decide_eq_true (by omega)
      rw [decide_eq_true (⟨h1, h2⟩ : 128 ≤ n ∧ n ≤ 1024)]
      go_enter Tryz.func72, Tryz.ntmps72
      go_wp2
      go_ret
      exact ⟨rfl, rfl⟩
    · have d2 : decide ((n : Int) ≤ 1024) = false := decide_eq_false (by omega)
      rw [decide_eq_false (fun q : 128 ≤ n ∧ n ≤ 1024 => h2 q.2)]
      go_enter Tryz.func72, Tryz.ntmps72
      go_wp2
      go_ret
      exact ⟨rfl, rfl⟩
  · have d1 : decide ((128 : Int) ≤ (n : Int)) = false := decide_eq_false (by omega)
    rw [decide_eq_false (fun q : 128 ≤ n ∧ n ≤ 1024 => h1 q.1)]
    go_enter Tryz.func72, Tryz.ntmps72
    go_wp2
    go_ret
    exact ⟨rfl, rfl⟩
set_option maxHeartbeats 2000000 in
theorem yisImage_any (l : List ByteArray) (q : Nat) (hq : l.length = q) (w : World) (B c : Nat) (p : Option Addr) (hS : SB w B p l) : Calls Tryz.prog 32 #[.slice p q c] w fun e w' => e = .returned (.bool (imB l)) ∧ w' = w := by
  have HIS := hide (yisSize_any q w)
  obtain ⟨Z, hZ⟩ : ∃ z, imB l = z := ⟨_, rfl⟩
  rw [hZ]
  have HZ := hide hZ
  clear hZ
  by_cases h0 : 128 ≤ q ∧ q ≤ 1024
  · rw [decide_eq_true h0] at HIS
    obtain ⟨h1, h2⟩ := h0
    have HL := hide hq
    have HS := hide hS
    clear hq hS
    go_enter Tryz.func32, Tryz.ntmps32
    go_wp2_with fail
    refine (unhide HIS).mono ?_
    rintro e y ⟨rfl, hy⟩
    subst y
    clear HIS
    go_wp2
    go_loopw [11] (fun iv wr => ∃ k : Nat, k ≤ q ∧ iv = .int .i64 (k : Int) ∧ (∀ j, j < k → (l.getD j ⟨#[]⟩).size = 256) ∧ wr = w) (fun iv _ => q - (intOf iv).toNat)
    case atStart => exact ⟨0, by omega, rfl, fun j hj => absurd hj (by omega), rfl⟩
    case round =>
    obtain ⟨k, hk, rfl, hall, rfl⟩ := hrel
    have HA := hide hall
    clear hall
    by_cases hkq : k < q
    · have e1 : (k : Int) < (q : Int) := by omega
      obtain ⟨g, o, rfl, _, hc⟩ := unhide HS k (by rw [unhide HL]; exact hkq)
      obtain ⟨s, hs⟩ : ∃ z, l.getD k ⟨#[]⟩ = z := ⟨_, rfl⟩
      rw [hs] at hc
      by_cases h256 : s.size = 256
      · have e2 : ((s.size : Int) != 256) = false := by simp; omega
        have HN := hide (show ∀ j, j < k + 1 → (l.getD j ⟨#[]⟩).size = 256 from fun j hj => by
          by_cases r : j = k
          · rw [r, hs]; exact h256
          · exact unhide HA j (by omega))
        clear hs h256
        go_wp2
        go_roundw
        case rel => exact ⟨k + 1, by omega, by go_num, unhide HN, trivial⟩
        case measure => simp [intOf] <;> omega
      · have e2 : ((s.size : Int) != 256) = true := by simp; omega
        have HF := hide (show imB l = false from decide_eq_false (fun r => h256 (by rw [← hs]; exact r.2.2 k (by rw [unhide HL]; exact hkq))))
        have hz : Z = false := by rw [← unhide HZ]; exact unhide HF
        subst hz
        clear hs h256 HF HZ
        go_wp2
        go_ret
        exact ⟨rfl, rfl⟩
    · obtain rfl : k = q := by omega
      have e1 : ¬ (k : Int) < (k : Int) := by omega
      have HF := hide (show imB l = true from decide_eq_true ⟨by rw [unhide HL]; exact h1, by rw [unhide HL]; exact h2, fun j hj => unhide HA j (by rw [unhide HL] at hj; exact hj)⟩)
      have hz : Z = true := by rw [← unhide HZ]; exact unhide HF
      subst hz
      clear HF HZ
      go_wp2
      go_ret
      exact ⟨rfl, rfl⟩
  · rw [decide_eq_false h0] at HIS
    have HF := hide (show imB l = false from decide_eq_false (fun r => h0 (by rw [← hq]; exact ⟨r.1, r.2.1⟩)))
    have hz : Z = false := by rw [← unhide HZ]; exact unhide HF
    subst hz
    clear HF hS hq HZ
    go_enter Tryz.func32, Tryz.ntmps32
    go_wp2_with fail
    refine (unhide HIS).mono ?_
    rintro e y ⟨rfl, hy⟩
    subst y
    go_wp2
    go_ret
    exact ⟨rfl, rfl⟩
/-- a check's four bytes, the lowest first -/
def le4R (c : Nat) : List Int := [((c % 256 : Nat) : Int), ((c / 256 % 256 : Nat) : Int), ((c / 65536 % 256 : Nat) : Int), ((c / 16777216 % 256 : Nat) : Int)]
def ckR (s : ByteArray) : ByteArray := strOfNums (le4R (chkN (nums s)))
theorem ckR_size (s : ByteArray) : (ckR s).size = 4 := by rw [ckR, strOfNums_size]; rfl
set_option maxHeartbeats 2000000 in
theorem ycheckOf_any (s : ByteArray) (hs : s.size ≤ 9223372036854775806) (w : World) : Calls Tryz.prog 108 #[.string s] w fun e w' => e = .returned (.string (ckR s)) ∧ Below w.heap.size w w' := by
  have hc : chkN (nums s) < 4294967296 := by unfold chkN; omega
  have HCK := hide (check_any s hs w)
  unfold ckR
  generalize chkN (nums s) = c at *
  have w0 : IntKind.u8.wrap (c : Int) = ((c % 256 : Nat) : Int) := by rw [IntKind.wrap_u8]; omega
  have w1 : IntKind.u8.wrap ((c : Int) / 256) = ((c / 256 % 256 : Nat) : Int) := by rw [IntKind.wrap_u8]; omega
  have w2 : IntKind.u8.wrap ((c : Int) / 65536) = ((c / 65536 % 256 : Nat) : Int) := by rw [IntKind.wrap_u8]; omega
  have w3 : IntKind.u8.wrap ((c : Int) / 16777216) = ((c / 16777216 % 256 : Nat) : Int) := by rw [IntKind.wrap_u8]; omega
  unfold le4R
  obtain ⟨d0, hd0⟩ : ∃ d, ((c % 256 : Nat) : Int) = d := ⟨_, rfl⟩
  obtain ⟨d1, hd1⟩ : ∃ d, ((c / 256 % 256 : Nat) : Int) = d := ⟨_, rfl⟩
  obtain ⟨d2, hd2⟩ : ∃ d, ((c / 65536 % 256 : Nat) : Int) = d := ⟨_, rfl⟩
  obtain ⟨d3, hd3⟩ : ∃ d, ((c / 16777216 % 256 : Nat) : Int) = d := ⟨_, rfl⟩
  rw [hd0] at w0 ⊢
  rw [hd1] at w1 ⊢
  rw [hd2] at w2 ⊢
  rw [hd3] at w3 ⊢
  have hcv := run_convert_bytes_arg (P := Tryz.prog) (w.alloc (.cells #[.int .u8 d0, .int .u8 d1, .int .u8 d2, .int .u8 d3] 5)) 122 5 Tryz.underlying122 Tryz.underlying5 w.heap.size 0 4 4 [d0, d1, d2, d3] rfl (fun i hi => by
    rw [Nat.zero_add, (Blk.new w 5 #[.int .u8 d0, .int .u8 d1, .int .u8 d2, .int .u8 d3]).cell i]
    obtain rfl | rfl | rfl | rfl : i = 0 ∨ i = 1 ∨ i = 2 ∨ i = 3 := by omega
    all_goals rfl) 9 Tryz.underlying9
  have HB := hide (show Below w.heap.size w (w.alloc (.cells #[.int .u8 d0, .int .u8 d1, .int .u8 d2, .int .u8 d3] 5)) from (Below.refl _ _).alloc (Nat.le_refl _) _)
  clear hd0 hd1 hd2 hd3
  go_enter Tryz.func108, Tryz.ntmps108
  go_wp2_with fail
  refine (unhide HCK).mono ?_
  rintro e y ⟨rfl, hy⟩
  subst y
  clear HCK
  go_wp2
  go_ret
  exact ⟨rfl, unhide HB⟩
end Go.Proofs.YtnfdedolgfcmfaaGreatDoor

namespace Go.Proofs.YtnfdedolgfcmfaaGreatDoor
open Go.RowKit
/-- At block b lies a Writer, whose row is v: the bytes l; what was wrong first is e. -/
def Wtr (w : World) (base b : Nat) (v : Value) (l : List Int) (e : Int) : Prop :=
  Blk w b #[v, .int .i64 e] 156 ∧ w.ownsRow base 5 1 v l.length (l.map (Value.int .u8)) ∧ base ≤ b
/-- The blocks of a Writer. -/
def Fp (b : Nat) (v : Value) (k : Nat) : Prop := k = b ∨ v.ownBlock = some k
/-- Behind a call of the Writer at b, whose row was v. -/
def WPost (base b : Nat) (v : Value) (l : List Int) (e : Int) (w w' : World) : Prop :=
  ∃ v', Wtr w' base b v' l e ∧ Only (Fp b v) w w' ∧ ∀ k, v'.ownBlock = some k → v.ownBlock = some k ∨ w.heap.size ≤ k
theorem Wtr.lt {w : World} {base b : Nat} {v : Value} {l : List Int} {e : Int} (h : Wtr w base b v l e) : b < w.heap.size := h.1.lt
theorem Wtr.form {w : World} {base b : Nat} {v : Value} {l : List Int} {e : Int} (h : Wtr w base b v l e) : ∃ p cap, v = .slice p l.length cap ∧ l.length ≤ cap := by
  rcases h.2.1.2 with ⟨h1, h2⟩ | ⟨g, cap, cur, h1, _, _, h3, _⟩
  · exact ⟨none, 0, by rw [h1, h2], by omega⟩
  · exact ⟨_, cap, h1, h3⟩
theorem Wtr.apart {w : World} {base b : Nat} {v : Value} {l : List Int} {e : Int} (h : Wtr w base b v l e) : v.ownBlock ≠ some b := h.1.not_row (by decide) h.2.1
theorem Wtr.only {w w' : World} {base b : Nat} {v : Value} {l : List Int} {e : Int} {P : Nat → Prop} (h : Wtr w base b v l e) (ho : Only P w w') (hp : ∀ k, Fp b v k → ¬ P k) : Wtr w' base b v l e :=
  ⟨h.1.only ho (hp b (.inl rfl)), owns_only h.2.1 ho (fun k hk => hp k (.inr hk)), h.2.2⟩
theorem WPost.refl {w : World} {base b : Nat} {v : Value} {l : List Int} {e : Int} (h : Wtr w base b v l e) : WPost base b v l e w w := ⟨v, h, Only.refl _ _, fun _ hk => .inl hk⟩
theorem WPost.trans {w w1 w2 : World} {base b : Nat} {v v1 : Value} {l2 : List Int} {e2 : Int} (h : Only (Fp b v) w w1) (hv : ∀ k, v1.ownBlock = some k → v.ownBlock = some k ∨ w.heap.size ≤ k)
    (h2 : WPost base b v1 l2 e2 w1 w2) : WPost base b v l2 e2 w w2 := by
  obtain ⟨v2, a, o, q⟩ := h2
  refine ⟨v2, a, h.trans o (fun k hk hf => ?_), fun k hk => ?_⟩
  · rcases hf with rfl | hf
    · exact .inl rfl
    · rcases hv k hf with h3 | h3
      · exact .inr h3
      · omega
  · rcases q k hk with h3 | h3
    · exact hv k h3
    · exact .inr (Nat.le_trans h.size h3)
theorem wpList_append_none {ops : Array Oper} {rest : List Oper} {op : Oper} {a : Act} {w : World} {Q : Exit → Act → World → Prop} (hgd : op.guard = none) (d x : Operand) (hop : op.op = Op.call { callee := Callee.builtin Builtin.append, args := #[d, x], argTypes := #[122, 122] })
    (p q : Option Addr) (n c c' : Nat) (hd : a.eval d = .slice p n c) (hx : a.eval x = .slice q 0 c') (hn : n ≤ c) (h : wpList Tryz.prog ops Q rest (a.put op.dst (.slice p n c)) w) : wpList Tryz.prog ops Q (op :: rest) a w := by
  refine wpList_plain hgd fun K hK => ?_
  have hrun := run_append_none w p q n c c' hn op.type
  unfold Oper.wp
  simp only [execOp, hop]
  simp [resolve, invoke, builtin, hd, hx, hrun, Result.andThen]
  exact hK _ _ h
set_option maxHeartbeats 400000 in
theorem newWriter_any (w : World) :
    Calls Tryz.prog 50 #[] w fun e w' => e = .returned (.pointer (some ⟨w.heap.size, 0, none⟩)) ∧ Wtr w' w.heap.size w.heap.size (.slice none 0 0) [] 0 ∧ Below w.heap.size w w' ∧ w'.heap.size = w.heap.size + 1 := by
  go_enter Tryz.func50, Tryz.ntmps50
  go_wp2
  go_ret
  exact ⟨rfl, ⟨Blk.new _ _ _, World.ownsRow_nil _ _ _ _, Nat.le_refl _⟩, (Below.refl _ _).alloc (Nat.le_refl _) _, by simp⟩
set_option maxRecDepth 100000 in
set_option maxHeartbeats 1000000 in
theorem lay_any (w : World) (base b : Nat) (v : Value) (l : List Int) (e : Int) (h : Wtr w base b v l e) (hb : base ≤ w.heap.size) (ad : Addr) (m c : Nat) (news : List Int) (hl : news.length = m)
    (hn : ∀ j, j < m → w.cell? (ad.add j) = some (.int .u8 (news.getD j 0))) (hsz : l.length + m ≤ 140737488355328) :
    Calls Tryz.prog 86 #[.pointer (some ⟨b, 0, none⟩), .slice (some ad) m c] w fun ev w' => ev = .returned (.tuple #[]) ∧ WPost base b v (if e = 0 then l ++ news else l) e w w' := by
  obtain ⟨p, cap, rfl, hcap⟩ := h.form
  have c0 : w.cell? ⟨b, 0, none⟩ = some (.slice p l.length cap) := by rw [h.1.cell 0]; rfl
  have c1 : w.cell? ⟨b, 1, none⟩ = some (.int .i64 e) := by rw [h.1.cell 1]; rfl
  have f0 := h.1.frozen 0
  have HW := hide h
  have HP := hide h.apart
  by_cases he : e = 0
  · subst he
    rw [if_pos rfl]
    by_cases hm : m = 0
    · subst hm
      obtain rfl : news = [] := List.eq_nil_of_length_eq_zero hl
      rw [List.append_nil]
      clear h hn
      go_enter Tryz.func86, Tryz.ntmps86
      go_wp2_with (refine wpList_append_none rfl (.tmp 13) (.tmp 14) rfl p (some ad) l.length cap c rfl rfl hcap ?_)
      go_end0
      refine ⟨rfl, .slice p l.length cap, ⟨(unhide HW).1.set 0 _, owns_only (unhide HW).2.1 ((Only.refl (fun k => k = b) w).setCell _ _ (fun _ => rfl)) (fun k hk hkb => unhide HP (hkb ▸ hk)), (unhide HW).2.2⟩, (Only.refl _ w).setCell _ _ (fun _ => .inl rfl), fun k hk => .inl hk⟩
    · obtain ⟨i0, hi, hz0, hz1, hz2⟩ := info_parts info5
      have HN := hide hn
      have HI := hide (And.intro hi (And.intro hz0 (And.intro hz1 hz2)))
      clear h hn hi hz0 hz1 hz2
      go_enter Tryz.func86, Tryz.ntmps86
      go_wp2_with (refine wpList_append_lies w rfl (.tmp 13) (.tmp 14) 122 rfl base 5 i0 (.int .u8 0) 1 1 Tryz.underlying122 (unhide HI).1 (unhide HI).2.1 (unhide HI).2.2.1 (unhide HI).2.2.2 rfl (by decide) _ l.length (l.map (Value.int .u8)) rfl (unhide HW).2.1 ad m c (news.map (Value.int .u8)) rfl (by simp [hl]) ?_ (by simp [Value.oneCell']) (by omega) (by unfold maxLen; omega) (by omega) hb w.heap.size rfl ?_)
      · intro j u hu
        rw [List.getElem?_map] at hu
        cases hq : news[j]? with
        | none => simp [hq] at hu
        | some x =>
          obtain ⟨hj, ex⟩ := List.getElem?_eq_some_iff.1 hq
          rw [hq] at hu
          simp at hu
          rw [unhide HN j (by omega), ← hu]
          simp [hq]
      · intro g cap' w1 ho hg hor hlt
        have B1 : Blk w1 b #[.slice p l.length cap, .int .i64 0] 156 := (unhide HW).1.kept (hg.block b (unhide HW).lt (fun e => unhide HP e.symm))
        have d0 : w1.cell? ⟨b, 0, none⟩ = some (.slice p l.length cap) := by rw [B1.cell 0]; rfl
        have f0' := B1.frozen 0
        have HO := hide ho
        have HG := hide hg
        have HB1 := hide B1
        have HOR := hide hor
        clear ho hg B1 hor
        go_wp2
        go_end0
        have ho := unhide HO
        have hgb : g ≠ b := fun e => by
          subst e
          exact (unhide HB1).not_row (by decide) ho rfl
        have hO1 : Only (Fp b (.slice p l.length cap)) w w1 := (Only.refl _ w).grown (unhide HG) (fun k _ e => .inr e)
        refine ⟨rfl, .slice (some ⟨g, 0, none⟩) (l.length + m) cap', ⟨(unhide HB1).set 0 _, ?_, (unhide HW).2.2⟩, hO1.setCell _ _ (fun _ => .inl rfl), fun k hk => ?_⟩
        · have := owns_only ho ((Only.refl (fun k => k = b) w1).setCell ⟨b, 0, none⟩ (.slice (some ⟨g, 0, none⟩) (l.length + m) cap') (fun _ => rfl)) (fun k hk hkb => hgb (by rw [← hkb]; simpa [Value.ownBlock] using hk))
          simpa [hl] using this
        · obtain rfl : g = k := by simpa [Value.ownBlock] using hk
          rcases unhide HOR with h | h
          · exact .inl h
          · exact .inr (by omega)
  · rw [if_neg he]
    clear h hn
    have hne : (e == 0) = false := by simp [he]
    go_enter Tryz.func86, Tryz.ntmps86
    go_wp2
    go_end0
    exact ⟨rfl, WPost.refl (unhide HW)⟩
set_option maxRecDepth 100000 in
set_option maxHeartbeats 1000000 in
theorem refuse_any (w : World) (base b : Nat) (v : Value) (l : List Int) (e : Int) (h : Wtr w base b v l e) (x : Int) :
    Calls Tryz.prog 88 #[.pointer (some ⟨b, 0, none⟩), .int .i64 x] w fun ev w' => ev = .returned (.tuple #[]) ∧ WPost base b v (if e = 0 then [] else l) (if e = 0 then x else e) w w' := by
  obtain ⟨p, cap, rfl, hcap⟩ := h.form
  have c0 : w.cell? ⟨b, 0, none⟩ = some (.slice p l.length cap) := by rw [h.1.cell 0]; rfl
  have c1 : w.cell? ⟨b, 1, none⟩ = some (.int .i64 e) := by rw [h.1.cell 1]; rfl
  have f0 := h.1.frozen 0
  have f1 := h.1.frozen 1
  have HW := hide h
  by_cases he : e = 0
  · subst he
    rw [if_pos rfl, if_pos rfl]
    clear h
    go_enter Tryz.func88, Tryz.ntmps88
    go_wp2
    go_end0
    exact ⟨rfl, .slice none 0 0, ⟨((unhide HW).1.set 0 _).set 1 _, World.ownsRow_nil _ _ _ _, (unhide HW).2.2⟩, ((Only.refl _ w).setCell _ _ (fun _ => .inl rfl)).setCell _ _ (fun _ => .inl rfl), fun k hk => by cases hk⟩
  · rw [if_neg he, if_neg he]
    clear h
    have hne : (e == 0) = false := by simp [he]
    go_enter Tryz.func88, Tryz.ntmps88
    go_wp2
    go_end0
    exact ⟨rfl, WPost.refl (unhide HW)⟩
end Go.Proofs.YtnfdedolgfcmfaaGreatDoor
