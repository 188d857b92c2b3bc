import Derived.Test.YtkileaocgecckaaDoorQra
namespace Go.Proofs.YtkileaocgecckaaDoor
open Go.RowKit
set_option maxRecDepth 100000
set_option maxHeartbeats 4000000 in
theorem rtexts_any (n i : Nat) (s : ByteArray) (hs : s.size ≤ 140737488355000) (P : List ByteArray) (hF : Fmd P (sd n i).length) (w : World) (c q : Nat) (p : Option Addr) (hq : P.length = q) (hS : SB w w.heap.size p P) (hn1 : 1 ≤ n) (hn : n ≤ 65536) (hin : i < n) : Calls Tryd.prog 57 #[.int .i64 (n : Int), .int .i64 (i : Int), .string s, .slice p q c] w (LQ w (tx (sd n i) s P q)) := by
  obtain ⟨h, hh⟩ : ∃ h, w.heap.size = h := ⟨_, rfl⟩
  rw [hh] at hS
  have HSD := hide (fun W => rsides_any n i W hn1 hn hin)
  have hlen := sd_len n i
  obtain ⟨D, hD⟩ : ∃ z, sd n i = z := ⟨_, rfl⟩
  rw [hD] at HSD hF hlen ⊢
  obtain ⟨L, hL⟩ : ∃ z, D.length = z := ⟨_, rfl⟩
  rw [hL] at hF hlen
  obtain rfl : q = L := by rw [← hq]; exact hF.1
  obtain ⟨i0, hi, hz0, hz1, hz2⟩ := info_parts gr_str
  have HI := hide (And.intro hi (And.intro hz0 (And.intro hz1 hz2)))
  have HSZ := hide (fun k hk => tx_sizes D s P q hF k hk)
  have HP32 := hide hF
  have HSB := hide (show ∀ W, Below h w W → SB W h p P from fun W hW => hS.below hW)
  have HTX0 := hide (show ∀ k, tx D s P (k + 1) = tx D s P k ++ [txN (D.getD k false) (dg ((tx D s P k).getD k ⟨#[]⟩)) (P.getD k ⟨#[]⟩)] from fun k => rfl)
  have HTL := hide (tx_len D s P)
  have HDL := hide hL
  have z0 : (⟨#[0]⟩ : ByteArray).size = 1 := rfl
  have z1 : (⟨#[1]⟩ : ByteArray).size = 1 := rfl
  obtain ⟨t0, ht0⟩ : ∃ z, (⟨#[0]⟩ : ByteArray) ++ s = z := ⟨_, rfl⟩
  have HT0 := hide (show tx D s P 0 = [t0] from by rw [← ht0]; rfl)
  obtain ⟨x1, hx1⟩ : ∃ z, w.alloc (.cells #[.string t0] 9) = z := ⟨_, rfl⟩
  have HX1 := hide (show x1.heap.size = h + 1 from by rw [← hx1]; simp [hh])
  have HB1 := hide (show Below h w x1 from by rw [← hx1, ← hh]; exact (Below.refl _ w).alloc (Nat.le_refl _) _)
  have HO1 := hide (show x1.ownsRow h 9 1 (.slice (some ⟨h, 0, none⟩) 1 1) 1 [.string t0] from ⟨rfl, .inr ⟨h, 1, #[.string t0], rfl, Nat.le_refl _, by rw [← hx1, ← hh]; exact Blk.new w 9 _, Nat.le_refl _, by unfold maxLen; omega, rfl, rfl⟩⟩)
  clear hi hz0 hz1 hz2 hS hq hF hD hL
  go_enter Tryd.func57, Tryd.ntmps57
  go_wp2_with fail
  refine (unhide HSD _).mono ?_
  rintro e y0 ⟨bv, rfl, hob, hb0⟩
  rw [unhide HDL, unhide HX1] at hob
  rw [unhide HX1] at hb0
  obtain ⟨pb, cb, rfl, _⟩ := gr_form hob
  have HBB0 := hide (hob.mono (show h ≤ h + 1 by omega))
  have HNB := hide (show (Value.slice pb q cb).ownBlock ≠ some h from fun e => by have := (hob.lt h e).1; omega)
  have HW0 := hide (show Below h w y0 from (unhide HB1).trans (hb0.mono (by omega)))
  have HO0 := hide (show y0.ownsRow h 9 1 (.slice (some ⟨h, 0, none⟩) 1 1) 1 ((tx D s P 0).map Value.string) from by rw [unhide HT0]; exact own_bel (unhide HO1) (by rw [unhide HX1]; exact hb0))
  clear hob hb0 HSD HO1 HB1
  go_wp2_with fail
  go_loopw [9, 11] (fun lv i wr => ∃ k g c1 : Nat, k ≤ q ∧ i = .int .i64 (k : Int) ∧ lv = .slice (some ⟨g, 0, none⟩) (k + 1) c1 ∧ (Value.slice pb q cb).ownBlock ≠ some g ∧ Hid (wr.ownsRow h 9 1 (.slice (some ⟨g, 0, none⟩) (k + 1) c1) (k + 1) ((tx D s P k).map Value.string)) ∧ Hid (wr.ownsRow h 4 1 (.slice pb q cb) q (D.map Value.bool)) ∧ Hid (Below h w wr)) (fun _ i _ => q - (intOf i).toNat)
  case atStart => exact ⟨0, h, 1, by omega, rfl, rfl, unhide HNB, HO0, HBB0, HW0⟩
  case round =>
  obtain ⟨k, g, c1, hk, rfl, rfl, hne, HO, HBB, HW⟩ := hrel
  obtain ⟨wi, rfl⟩ : ∃ z, z = wr := ⟨_, rfl⟩
  by_cases hkq : k < q
  case neg =>
    obtain rfl : k = q := by omega
    have e1 : ¬ (k : Int) < (k : Int) := by omega
    have HE := hide (show LQ w (tx D s P k) (.returned (.slice (some ⟨g, 0, none⟩) (k + 1) c1)) wi from ⟨_, rfl, by rw [hh, unhide HTL k]; exact unhide HO, by rw [hh]; exact unhide HW⟩)
    clear HO HBB HW hne HNB
    go_wp2
    go_ret
    exact unhide HE
  have e1 : (k : Int) < (q : Int) := by omega
  have hsw : h ≤ wi.heap.size := by have := (unhide HW).size; omega
  obtain ⟨gb, rfl, hcb0, _, _, hgb⟩ := gr_cell (unhide HBB) k hkq
  have hne2 : ¬ gb = g := fun e => hne (by rw [e]; rfl)
  clear hne
  rw [List.getElem?_map, List.getElem?_eq_getElem (by rw [unhide HDL]; exact hkq)] at hcb0
  have hcb : wi.cell? ⟨gb, k, none⟩ = some (.bool (D.getD k false)) := by
    rw [hcb0, List.getD_eq_getElem?_getD, List.getElem?_eq_getElem (by rw [unhide HDL]; exact hkq)]
    rfl
  obtain ⟨gp, op, rfl, hgp, hcp⟩ := unhide HSB wi (unhide HW) k (by rw [(unhide HP32).1]; exact hkq)
  have hpk32 := (unhide HP32).2 k (by rw [(unhide HP32).1]; exact hkq)
  have HTX := hide (unhide HTX0 k)
  have hct0 := (World.ownsRow.cellAt (unhide HO) k (by omega))
  rw [List.getElem?_map, List.getElem?_eq_getElem (by rw [unhide HTL]; omega)] at hct0
  have hct : wi.cell? ⟨g, k, none⟩ = some (.string ((tx D s P k).getD k ⟨#[]⟩)) := by
    rw [hct0, List.getD_eq_getElem?_getD, List.getElem?_eq_getElem (by rw [unhide HTL]; omega)]
    rfl
  clear hct0 hcb0
  have htz : ((tx D s P k).getD k ⟨#[]⟩).size ≤ s.size + 66 := unhide HSZ k (by omega) _ (by
    rw [List.getD_eq_getElem?_getD, List.getElem?_eq_getElem (by rw [unhide HTL]; omega)]
    exact List.getElem_mem _)
  have HSU := hide (fun W => rdg_any ((tx D s P k).getD k ⟨#[]⟩) (by omega) W)
  have hdz := dg_size ((tx D s P k).getD k ⟨#[]⟩)
  obtain ⟨tk, htk⟩ : ∃ z, (tx D s P k).getD k ⟨#[]⟩ = z := ⟨_, rfl⟩
  obtain ⟨pk, hpk⟩ : ∃ z, P.getD k ⟨#[]⟩ = z := ⟨_, rfl⟩
  rw [htk] at hct HSU hdz htz HTX
  rw [hpk] at hcp hpk32 HTX
  obtain ⟨dd, hdd⟩ : ∃ z, dg tk = z := ⟨_, rfl⟩
  have HDD := hide hdd
  rw [hdd] at HSU hdz
  clear htk hpk HSZ HTX0 hdd
  cases hbk : D.getD k false with
  | true =>
    obtain ⟨u1, hu1⟩ : ∃ z, (⟨#[1]⟩ : ByteArray) ++ dd = z := ⟨_, rfl⟩
    obtain ⟨u2, hu2⟩ : ∃ z, u1 ++ pk = z := ⟨_, rfl⟩
    have zu : u1.size = 33 := by rw [← hu1, ByteArray.size_append, hdz]; rfl
    have hbv : D.getD k false = true := hbk
    rw [hbk] at hcb HTX
    have HTX2 := hide (show tx D s P (k + 1) = tx D s P k ++ [u2] from by rw [unhide HTX, ← hu2, ← hu1, unhide HDD]; rfl)
    clear hbk hbv HTX
    go_wp2_with fail
    refine (unhide HSU _).mono ?_
    rintro e y1 ⟨rfl, hb⟩
    have hs1 := hb.size
    have HOy := hide ((own_bel (unhide HO) hb).alloc (.cells #[.string u2] 9))
    have HBy := hide ((own_bel (unhide HBB) hb).alloc (.cells #[.string u2] 9))
    have HW1 := hide (show Below h w y1 from (unhide HW).trans (hb.mono hsw))
    have hcb1 : y1.cell? ⟨gb, k, none⟩ = some (.bool true) := (hb.cell (p := ⟨gb, k, none⟩) hgb).trans hcb
    have hcp1 : y1.cell? ⟨gp, op + k, none⟩ = some (.string pk) := (hb.cell (p := ⟨gp, op + k, none⟩) (by show gp < wi.heap.size; omega)).trans hcp
    clear hb HO HBB HW hcb hcp hct
    go_wp2_with (refine wpList_append_lies _ rfl (.tmp 34) (.tmp 42) 28 rfl h 9 i0 (.string ⟨#[]⟩) 1 16 Tryd.underlying28 (unhide HI).1 (unhide HI).2.1 (unhide HI).2.2.1 (unhide HI).2.2.2 rfl (by decide) _ (k + 1) _ rfl (unhide HOy) ⟨y1.heap.size, 0, none⟩ 1 1 [.string u2] rfl rfl (fun q u hu => gr_new y1 9 _ q u hu) (by simp [Value.oneCell']) (by decide) (by unfold maxLen; omega) (by omega) (by simp; omega) (y1.heap.size + 1) (by simp) ?_)
    intro g5 cap5 x5 ho5 hg5 hat _
    have HWN := hide (show Below h w x5 from ((unhide HW1).alloc (by omega) _).grown hg5 (by simp; omega) (fun q hq => ((unhide HOy).lt q hq).1))
    have hne5 : gb ≠ g5 := by
      rcases hat with q | q
      · have : g = g5 := by simpa [Value.ownBlock] using q
        omega
      · omega
    have HBN := hide (show x5.ownsRow h 4 1 (.slice (some ⟨gb, 0, none⟩) q cb) q (D.map Value.bool) from (unhide HBy).kept hg5 (.inr (by simp [Value.ownBlock]; exact hne2)))
    have HON := hide (show x5.ownsRow h 9 1 (.slice (some ⟨g5, 0, none⟩) (k + 1 + 1) cap5) (k + 1 + 1) ((tx D s P (k + 1)).map Value.string) from by rw [unhide HTX2, List.map_append]; exact ho5)
    clear ho5 hg5 hat HOy HBy HW1 HTX2
    go_wp2
    go_roundw
    case rel => exact ⟨k + 1, g5, cap5, by omega, by go_num, by first | rfl | go_num, fun q => by simp [Value.ownBlock] at q; exact hne5 q, HON, HBN, HWN⟩
    case measure => simp [intOf] <;> omega
  | false =>
    obtain ⟨u1, hu1⟩ : ∃ z, (⟨#[1]⟩ : ByteArray) ++ pk = z := ⟨_, rfl⟩
    obtain ⟨u2, hu2⟩ : ∃ z, u1 ++ dd = z := ⟨_, rfl⟩
    have zu : u1.size = 33 := by rw [← hu1, ByteArray.size_append, hpk32]; rfl
    have hbv : D.getD k false = false := hbk
    rw [hbk] at hcb HTX
    have HTX2 := hide (show tx D s P (k + 1) = tx D s P k ++ [u2] from by rw [unhide HTX, ← hu2, ← hu1, unhide HDD]; rfl)
    clear hbk hbv HTX
    go_wp2_with fail
    refine (unhide HSU _).mono ?_
    rintro e y1 ⟨rfl, hb⟩
    have hs1 := hb.size
    have HOy := hide ((own_bel (unhide HO) hb).alloc (.cells #[.string u2] 9))
    have HBy := hide ((own_bel (unhide HBB) hb).alloc (.cells #[.string u2] 9))
    have HW1 := hide (show Below h w y1 from (unhide HW).trans (hb.mono hsw))
    have hcb1 : y1.cell? ⟨gb, k, none⟩ = some (.bool false) := (hb.cell (p := ⟨gb, k, none⟩) hgb).trans hcb
    have hcp1 : y1.cell? ⟨gp, op + k, none⟩ = some (.string pk) := (hb.cell (p := ⟨gp, op + k, none⟩) (by show gp < wi.heap.size; omega)).trans hcp
    clear hb HO HBB HW hcb hcp hct
    go_wp2_with (refine wpList_append_lies _ rfl (.tmp 44) (.tmp 52) 28 rfl h 9 i0 (.string ⟨#[]⟩) 1 16 Tryd.underlying28 (unhide HI).1 (unhide HI).2.1 (unhide HI).2.2.1 (unhide HI).2.2.2 rfl (by decide) _ (k + 1) _ rfl (unhide HOy) ⟨y1.heap.size, 0, none⟩ 1 1 [.string u2] rfl rfl (fun q u hu => gr_new y1 9 _ q u hu) (by simp [Value.oneCell']) (by decide) (by unfold maxLen; omega) (by omega) (by simp; omega) (y1.heap.size + 1) (by simp) ?_)
    intro g5 cap5 x5 ho5 hg5 hat _
    have HWN := hide (show Below h w x5 from ((unhide HW1).alloc (by omega) _).grown hg5 (by simp; omega) (fun q hq => ((unhide HOy).lt q hq).1))
    have hne5 : gb ≠ g5 := by
      rcases hat with q | q
      · have : g = g5 := by simpa [Value.ownBlock] using q
        omega
      · omega
    have HBN := hide (show x5.ownsRow h 4 1 (.slice (some ⟨gb, 0, none⟩) q cb) q (D.map Value.bool) from (unhide HBy).kept hg5 (.inr (by simp [Value.ownBlock]; exact hne2)))
    have HON := hide (show x5.ownsRow h 9 1 (.slice (some ⟨g5, 0, none⟩) (k + 1 + 1) cap5) (k + 1 + 1) ((tx D s P (k + 1)).map Value.string) from by rw [unhide HTX2, List.map_append]; exact ho5)
    clear ho5 hg5 hat HOy HBy HW1 HTX2
    go_wp2
    go_roundw
    case rel => exact ⟨k + 1, g5, cap5, by omega, by go_num, by first | rfl | go_num, fun q => by simp [Value.ownBlock] at q; exact hne5 q, HON, HBN, HWN⟩
    case measure => simp [intOf] <;> omega
set_option maxHeartbeats 2000000 in
theorem rcheck_any (root : ByteArray) (N I0 : Int) (s : ByteArray) (hs : s.size ≤ 140737488355000) (P : List ByteArray) (q : Nat) (hq : P.length = q) (w : World) (c : Nat) (p : Option Addr) (hS : SB w w.heap.size p P) (hq9 : q ≤ 8796093022200) : Calls Tryd.prog 28 #[.string root, .int .i64 N, .int .i64 I0, .string s, .slice p q c] w fun e w' => e = .returned (.int .i64 (ckE root N I0 s P)) ∧ Below w.heap.size w w' := by
  obtain ⟨h, hh⟩ : ∃ h, w.heap.size = h := ⟨_, rfl⟩
  rw [hh] at hS
  have hck : ckE root N I0 s P = if root.size = 32 then (if 1 ≤ N ∧ N ≤ 4096 ∧ 0 ≤ I0 ∧ I0 < N then (match up N.toNat I0.toNat s P with | none => 192 | some T => if dg (T.getLastD ⟨#[]⟩) = root then 0 else 192) else 190) else 193 := rfl
  rw [hh]
  by_cases hr : root.size = 32
  case neg =>
    rw [hck, if_neg hr]
    have e1 : ((root.size : Int) != 32) = true := by simp; omega
    have HB := hide (show Below h w w from Below.refl _ _)
    clear hS hck hq
    go_enter Tryd.func28, Tryd.ntmps28
    go_wp2
    go_ret
    exact ⟨rfl, unhide HB⟩
  have e1 : ((root.size : Int) != 32) = false := by rw [hr]; rfl
  rw [if_pos hr] at hck
  by_cases hin : 1 ≤ N ∧ N ≤ 4096 ∧ 0 ≤ I0 ∧ I0 < N
  case neg =>
    rw [hck, if_neg hin]
    have HB := hide (show Below h w w from Below.refl _ _)
    clear hS hck hq
    by_cases a1 : N < 1
    case' pos => skip
    case' neg =>
      by_cases a2 : 4096 < N
      case' pos => skip
      case' neg =>
        by_cases a3 : I0 < 0
        case' pos => skip
        case' neg =>
          have a4 : N ≤ I0 := by omega
    all_goals (
      clear hin
      go_enter Tryd.func28, Tryd.ntmps28
      go_wp2
      go_ret
      exact ⟨rfl, unhide HB⟩)
  rw [if_pos hin] at hck
  obtain ⟨g1, g2, g3, g4⟩ := hin
  obtain ⟨n, rfl⟩ : ∃ n : Nat, N = (n : Int) := ⟨N.toNat, by omega⟩
  obtain ⟨i, rfl⟩ : ∃ i : Nat, I0 = (i : Int) := ⟨I0.toNat, by omega⟩
  rw [Int.toNat_natCast, Int.toNat_natCast] at hck
  have a1 : ¬ (n : Int) < 1 := by omega
  have a2 : ¬ 4096 < (n : Int) := by omega
  have a3 : ¬ (i : Int) < 0 := by omega
  have a4 : ¬ (n : Int) ≤ (i : Int) := by omega
  have HSD := hide (rsides_any n i w (by omega) (by omega) (by omega))
  have hlen := sd_len n i
  have HFO := hide (fun W (hW : Below h w W) => rformed_any P q (sd n i).length hq W h c p (hS.below hW) hq9 (by omega))
  obtain ⟨t1, t2⟩ := up_tx n i s P
  by_cases hf : Fmd P (sd n i).length
  case neg =>
    rw [t2 hf] at hck
    rw [hck]
    have HFO2 := hide (fun (W : World) (hW : Below h w W) => (unhide HFO W hW).mono (fun e z hz => (show e = .returned (.bool false) ∧ z = W from ⟨(unhide hz.1).2 hf, hz.2⟩)))
    obtain ⟨L, hL⟩ : ∃ z, (sd n i).length = z := ⟨_, rfl⟩
    have HL := hide hL
    rw [hL] at HFO2
    clear HFO t1 t2 hck hf hS hq hL
    go_enter Tryd.func28, Tryd.ntmps28
    go_wp2_with fail
    refine (unhide HSD).mono ?_
    rintro e y0 ⟨bv, rfl, hob, hb0⟩
    rw [unhide HL] at hob
    obtain ⟨pb, cb, rfl, _⟩ := gr_form hob
    have HB0 := hide (show Below h w y0 from by rw [← hh]; exact hb0)
    clear hob hb0
    go_wp2_with fail
    refine (unhide HFO2 _ (unhide HB0)).mono ?_
    rintro e y1 ⟨rfl, hy1⟩
    subst y1
    go_wp2
    go_ret
    exact ⟨rfl, unhide HB0⟩
  rw [t1 hf, hq] at hck
  have HFO2 := hide (fun (W : World) (hW : Below h w W) => (unhide HFO W hW).mono (fun e z hz => (show e = .returned (.bool true) ∧ z = W from ⟨(unhide hz.1).1 hf, hz.2⟩)))
  have HTE := hide (fun W (hW : Below h w W) => rtexts_any n i s hs P hf W c q p hq ((hS.below hW).mono (by have := hW.size; omega)) (by omega) (by omega) (by omega))
  have htl := tx_len (sd n i) s P q
  have hla := tx_last (sd n i) s P q
  have hsz := tx_sizes (sd n i) s P q (by rw [← hq]; exact ⟨rfl, hf.2⟩) q (Nat.le_refl _) ((tx (sd n i) s P q).getD q ⟨#[]⟩) (by
    rw [List.getD_eq_getElem?_getD, List.getElem?_eq_getElem (by rw [htl]; omega)]
    exact List.getElem_mem _)
  change _ = (if dg ((tx (sd n i) s P q).getLastD ⟨#[]⟩) = root then 0 else 192) at hck
  rw [hla] at hck
  have HCT := hide (show ∀ (z : World) (g1 c1 : Nat), z.ownsRow h 9 1 (.slice (some ⟨g1, 0, none⟩) (q + 1) c1) (q + 1) ((tx (sd n i) s P q).map Value.string) → z.cell? ⟨g1, q, none⟩ = some (.string ((tx (sd n i) s P q).getD q ⟨#[]⟩)) from fun z g1 c1 hz => by
    rw [World.ownsRow.cellAt hz q (by omega), List.getElem?_map, List.getElem?_eq_getElem (by rw [htl]; omega), List.getD_eq_getElem?_getD, List.getElem?_eq_getElem (by rw [htl]; omega)]
    rfl)
  have HSU := hide (fun W => rdg_any ((tx (sd n i) s P q).getD q ⟨#[]⟩) (by omega) W)
  have HQL := hide (show q = (sd n i).length from by rw [← hq]; exact hf.1)
  have HTL := hide htl
  have HFN := hide (show (sd n i).length = q from (unhide HQL).symm)
  rw [unhide HFN] at HFO2
  clear hla hsz t1 t2 HFO
  generalize tx (sd n i) s P q = TT at *
  generalize TT.getD q ⟨#[]⟩ = tq at *
  generalize dg tq = dq at *
  rw [hck]
  have e5 : ((q : Int) + 1) - 1 = (q : Int) := by omega
  have e6 : IntKind.i64.wrap (q : Int) = (q : Int) := wrapI_eq _ (by omega) (by omega)
  have e7 : (q : Int) < (q : Int) + 1 := by omega
  clear hck hf hS hq htl hlen
  obtain ⟨er, her⟩ : ∃ z, (if dq = root then (0 : Int) else 192) = z := ⟨_, rfl⟩
  rw [her]
  have HER := hide her
  clear her
  go_enter Tryd.func28, Tryd.ntmps28
  go_wp2_with fail
  refine (unhide HSD).mono ?_
  rintro e y0 ⟨bv, rfl, hob, hb0⟩
  rw [unhide HFN] at hob
  obtain ⟨pb, cb, rfl, _⟩ := gr_form hob
  have HB0 := hide (show Below h w y0 from by rw [← hh]; exact hb0)
  clear hob hb0
  go_wp2_with fail
  refine (unhide HFO2 _ (unhide HB0)).mono ?_
  rintro e y1 ⟨rfl, hy1⟩
  subst y1
  go_wp2_with fail
  refine (unhide HTE _ (unhide HB0)).mono ?_
  rintro e y2 ⟨v, rfl, ho, hb⟩
  rw [unhide HTL] at ho
  replace ho := ho.mono (show h ≤ y0.heap.size by have := (unhide HB0).size; omega)
  obtain ⟨g5, c5, rfl, _, _⟩ := ho.form (by omega)
  have hct := unhide HCT y2 g5 c5 ho
  have HB2 := hide (show Below h w y2 from (unhide HB0).trans (hb.mono (by have := (unhide HB0).size; omega)))
  clear ho hb HB0 HTE HCT HFO2
  go_wp2_with fail
  refine (unhide HSU _).mono ?_
  rintro e y3 ⟨rfl, hb⟩
  have HB3 := hide (show Below h w y3 from (unhide HB2).trans (hb.mono (by have := (unhide HB2).size; omega)))
  clear hb HB2 HSU
  by_cases hee : dq = root
  · have HE := hide (show er = 0 from by rw [← unhide HER, if_pos hee])
    clear HER
    subst hee
    go_wp2
    go_ret
    exact ⟨by rw [unhide HE]; rfl, unhide HB3⟩
  · have HE := hide (show er = 192 from by rw [← unhide HER, if_neg hee])
    have hne : (dq.toList == root.toList) = false := str_ne hee
    clear HER hee
    go_wp2
    go_ret
    exact ⟨by rw [unhide HE]; rfl, unhide HB3⟩
end Go.Proofs.YtkileaocgecckaaDoor
