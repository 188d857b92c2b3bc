import Derived.Test.YtkileaocgecckabDoorQmd
import Derived.Laws.MakeOwn
import Derived.Laws.CopyOwn
import Derived.Laws.Tables
namespace Go.Proofs.YtkileaocgecckabDoor
open Go.RowKit
set_option maxRecDepth 100000
def spB : ByteArray := ⟨#[115, 112, 97, 114, 101]⟩
/-- a row that was lent: the texts, and eight marks behind them -/
def LnK (w : World) (h : Nat) (l : List ByteArray) (q k : Nat) : Prop := ∃ cur : Array Value, Blk w h cur 9 ∧ cur.size = q + 8 ∧ (∀ j, j < q → cur[j]? = some (.string (l.getD j ⟨#[]⟩))) ∧ ∀ j, q ≤ j → j < k → cur[j]? = some (.string spB)
theorem LnK.SB {w : World} {h : Nat} {l : List ByteArray} {q k : Nat} (hl : l.length = q) (x : LnK w h l q k) : SB w (h + 1) (some ⟨h, 0, none⟩) l := fun j hj => by
  obtain ⟨cur, hB, _, h1, _⟩ := x
  exact ⟨h, 0, rfl, by omega, by rw [Nat.zero_add, hB.cell]; exact h1 j (by omega)⟩
theorem LnK.below {w w' : World} {h : Nat} {l : List ByteArray} {q k : Nat} (x : LnK w h l q k) (hb : Below (h + 1) w w') : LnK w' h l q k := by
  obtain ⟨cur, hB, h0, h1, h2⟩ := x
  exact ⟨cur, hB.below hb (by omega), h0, h1, h2⟩
theorem LnK.put {w : World} {h : Nat} {l : List ByteArray} {q k : Nat} (x : LnK w h l q k) (hqk : q ≤ k) (hk : k < q + 8) : LnK (w.setCell ⟨h, k, none⟩ (.string spB)) h l q (k + 1) := by
  obtain ⟨cur, hB, h0, h1, h2⟩ := x
  refine ⟨cur.setIfInBounds k (.string spB), hB.set k _, by simpa using h0, fun j hj => ?_, fun j hj1 hj2 => ?_⟩
  · rw [Array.getElem?_setIfInBounds_ne (by omega)]; exact h1 j hj
  · by_cases e : k = j
    · subst e; rw [Array.getElem?_setIfInBounds_self_of_lt (by omega)]
    · rw [Array.getElem?_setIfInBounds_ne e]; exact h2 j hj1 (by omega)
theorem LnK.at {w : World} {h : Nat} {l : List ByteArray} {q k : Nat} (x : LnK w h l q k) (j : Nat) (hj : j < q + 8) : (∃ v, w.cell? ⟨h, j, none⟩ = some v) ∧ w.frozen? ⟨h, j, none⟩ = false := by
  obtain ⟨cur, hB, h0, h1, h2⟩ := x
  exact ⟨⟨cur[j]'(by omega), by rw [hB.cell, Array.getElem?_eq_getElem (by omega)]⟩, hB.frozen j⟩
theorem LnK.sp {w : World} {h : Nat} {l : List ByteArray} {q k : Nat} (x : LnK w h l q k) (j : Nat) (h1 : q ≤ j) (h2 : j < k) : w.cell? ⟨h, j, none⟩ = some (.string spB) := by
  obtain ⟨cur, hB, _, _, h3⟩ := x
  rw [hB.cell]; exact h3 j h1 h2
set_option maxHeartbeats 1000000 in
theorem lent19 (w : World) (l : List ByteArray) (q c : Nat) (p : Option Addr) (hq : l.length = q) (hS : SB w w.heap.size p l) (hqb : q ≤ 8796093022200) (hpn : p = none → c = 0) : Calls Tryd.prog 8 #[.slice p q c] w fun e w' => e = .returned (.slice (some ⟨w.heap.size, 0, none⟩) (q + 8) (q + 8)) ∧ Hid (LnK w' w.heap.size l q (q + 8)) ∧ Below w.heap.size w w' := by
  obtain ⟨h, hh⟩ : ∃ h, w.heap.size = h := ⟨_, rfl⟩
  obtain ⟨i0, hi, hz0, hz1, hz2⟩ := info_parts gr_str
  have hmk := run_make (P := Tryd.prog) w 22 9 i0 (.string ⟨#[]⟩) Tryd.underlying22 hi hz0 .i64 .i64 ((q : Int) + 8) ((q : Int) + 8) (by omega) (by omega) (by rw [hz2]; omega) (by omega)
  rw [hz1, Nat.mul_one, show ((q : Int) + 8).toNat = q + 8 by omega] at hmk
  obtain ⟨mc, hmc⟩ : ∃ m, madeCells (Value.string ⟨#[]⟩).cells (q + 8) = m := ⟨_, rfl⟩
  have hms : mc.size = q + 8 := by rw [← hmc, size_madeCells]
  rw [hmc] at hmk
  obtain ⟨x1, hx1⟩ : ∃ z, w.alloc (.cells mc 9) = z := ⟨_, rfl⟩
  rw [hx1] at hmk
  have hB1 : Blk x1 h mc 9 := by rw [← hx1, ← hh]; exact Blk.new w 9 mc
  have hbe1 : Below h w x1 := by rw [← hx1, ← hh]; exact (Below.refl _ w).alloc (Nat.le_refl _) _
  have hcp : ∃ x2, (∀ ty, (Builtin.copy_ #[22, 22] ty #[.slice (some ⟨h, 0, none⟩) (q + 8) (q + 8), .slice p q c]).run Tryd.prog x1 = .ok (.int .i64 (q : Int)) x2) ∧ LnK x2 h l q q ∧ Below h w x2 := by
    cases p with
    | none =>
      have hq0 : q = 0 := by
        refine Nat.eq_zero_of_not_pos (fun hp => ?_)
        obtain ⟨_, _, e, _⟩ := hS 0 (by omega)
        cases e
      have hc0 := hpn rfl
      subst hc0
      subst hq0
      refine ⟨x1, fun ty => run_copy_nil (P := Tryd.prog) x1 22 22 ty 9 _ _ _ Tryd.underlying22 (by rw [hi]; rfl), ⟨mc, hB1, hms, fun j hj => absurd hj (by omega), fun j h1 h2 => absurd h2 (by omega)⟩, hbe1⟩
    | some ad =>
      have hsrc : ∀ j v, (l.map Value.string)[j]? = some v → x1.cell? (ad.add j) = some v := fun j v hv => by
        rw [List.getElem?_map] at hv
        by_cases hj : j < l.length
        · obtain ⟨g, o, e, hg, hc⟩ := hS j hj
          injection e with e
          subst e
          rw [Addr.add_mid]
          rw [List.getElem?_eq_getElem hj] at hv
          rw [hbe1.cell (p := ⟨g, o + j, none⟩) (by show g < h; omega), hc, List.getD_eq_getElem?_getD, List.getElem?_eq_getElem hj]
          exact hv
        · rw [List.getElem?_eq_none (by omega)] at hv; cases hv
      have hlm : (l.map Value.string).length = q := by rw [List.length_map, hq]
      refine ⟨x1.setRow h ((l.map Value.string) ++ mc.toList.drop q).toArray, fun ty => ?_, ⟨((l.map Value.string) ++ mc.toList.drop q).toArray, ?_, ?_, fun j hj => ?_, fun j h1 h2 => absurd h2 (by omega)⟩, below_setRow hbe1 (Nat.le_refl _) _⟩
      · have := run_copy_row (P := Tryd.prog) x1 22 22 ty 9 h 0 (q + 8) (q + 8) ad q c mc 9 (l.map Value.string) Tryd.underlying22 (by rw [hi]; simp [hz1]) hB1 (by rw [hlm]; exact (Nat.min_eq_left (by omega)).symm) hsrc (by rw [hlm, hms]; omega) (by simp [Value.oneCell'])
        rw [hlm, Nat.zero_add] at this
        exact this
      · exact setRow_heap x1 h mc _ 9 (0, 0) hB1
      · simp [hms, hq]
      · rw [List.getElem?_toArray, List.getElem?_append_left (by omega), List.getElem?_map, List.getElem?_eq_getElem (by omega), List.getD_eq_getElem?_getD, List.getElem?_eq_getElem (by omega)]
        rfl
  obtain ⟨x2, hcp2, hln, hbe2⟩ := hcp
  have HLN := hide hln
  have HBE := hide hbe2
  have b2 : IntKind.wrap .i64 ((q : Int) + 8) = (q : Int) + 8 := wrapI_eq _ (by omega) (by omega)
  rw [hh]
  clear hS hq hpn hbe1 hbe2 hln hB1 hmc hms hi hz0 hz1 hz2
  go_enter Tryd.func8, Tryd.ntmps8
  go_wp2
  clear hmk hcp2 b2
  go_loopw [4] (fun i wr => ∃ k : Nat, q ≤ k ∧ k ≤ q + 8 ∧ i = .int .i64 (k : Int) ∧ Hid (LnK wr h l q k) ∧ Hid (Below h w wr)) (fun i _ => q + 8 - (intOf i).toNat)
  case atStart => exact ⟨q, Nat.le_refl _, by omega, rfl, HLN, HBE⟩
  case round =>
  obtain ⟨k, hk1, hk2, rfl, HL, HB⟩ := hrel
  obtain ⟨wi, rfl⟩ : ∃ z, z = wr := ⟨_, rfl⟩
  by_cases hkq : k < q + 8
  · have e1 : (k : Int) < (q : Int) + 8 := by omega
    obtain ⟨⟨v, hc⟩, hf⟩ := (unhide HL).at k hkq
    have HN := hide ((unhide HL).put hk1 hkq)
    have HBN := hide (show Below h w (wi.setCell ⟨h, k, none⟩ (.string spB)) from (unhide HB).setCell (Nat.le_refl _) _)
    rw [show spB = ⟨#[115, 112, 97, 114, 101]⟩ from rfl] at HBN HN
    clear HL HB
    go_wp2
    go_roundw
    case rel => exact ⟨k + 1, by omega, by omega, by go_num, HN, HBN⟩
    case measure => simp [intOf] <;> omega
  · obtain rfl : k = q + 8 := by omega
    have e1 : ¬ ((q + 8 : Nat) : Int) < (q : Int) + 8 := by omega
    go_wp2
    go_ret
    exact ⟨rfl, HL, unhide HB⟩
set_option maxHeartbeats 1000000 in
/-- the same texts -/
theorem same19 (w : World) (L : List ByteArray) (q B1 B2 c1 c2 : Nat) (p1 p2 : Option Addr) (hq : L.length = q) (h1 : SB w B1 p1 L) (h2 : SB w B2 p2 L) (hq9 : q ≤ 8796093022200) : Calls Tryd.prog 16 #[.slice p1 q c1, .slice p2 q c2] w fun e w' => e = .returned (.bool true) ∧ Below w.heap.size w w' := by
  have H1 := hide h1
  have H2 := hide h2
  have HQ := hide hq
  obtain ⟨h, hh⟩ : ∃ h, w.heap.size = h := ⟨_, rfl⟩
  have e0 : ((q : Int) != (q : Int)) = false := by simp
  clear h1 h2 hq
  rw [hh]
  go_enter Tryd.func16, Tryd.ntmps16
  go_wp2
  go_loopw [5] (fun i wr => ∃ k : Nat, k ≤ q ∧ i = .int .i64 (k : Int) ∧ Hid (∃ n, wr = w.drewN n)) (fun i _ => q - (intOf i).toNat)
  case atStart => exact ⟨0, by omega, rfl, ⟨0, rfl⟩⟩
  case round =>
  obtain ⟨k, hk, rfl, HW⟩ := hrel
  obtain ⟨wi, rfl⟩ : ∃ z, z = wr := ⟨_, rfl⟩
  by_cases hkq : k < q
  · have e1 : (k : Int) < (q : Int) := by omega
    obtain ⟨g1, o1, rfl, _, a1⟩ := unhide H1 k (by rw [unhide HQ]; exact hkq)
    obtain ⟨g2, o2, rfl, _, a2⟩ := unhide H2 k (by rw [unhide HQ]; exact hkq)
    have HWN := hide (show ∃ n, wi.drew = w.drewN n from by obtain ⟨n, rfl⟩ := unhide HW; exact ⟨n + 1, rfl⟩)
    obtain ⟨n, hn⟩ := unhide HW
    have a1 : wi.drew.cell? ⟨g1, o1 + k, none⟩ = some (.string (L.getD k ⟨#[]⟩)) := by rw [hn]; exact a1
    have a2 : wi.drew.cell? ⟨g2, o2 + k, none⟩ = some (.string (L.getD k ⟨#[]⟩)) := by rw [hn]; exact a2
    generalize L.getD k ⟨#[]⟩ = t at *
    clear hn n HW
    go_wp2_with fail
    refine wp_region_held_drew (S := fun W => W.cell? ⟨g1, o1 + k, none⟩ = some (.string t) ∧ W.cell? ⟨g2, o2 + k, none⟩ = some (.string t)) (by kernel_rfl) ⟨a1, a2⟩ ?_
    intro hS
    refine wpAnyH_takeD 0 (some 17) (.slice (some ⟨g1, o1, none⟩) q c1) rfl rfl (by kernel_rfl) (by kernel_rfl) (by kernel_rfl) (fun _ _ _ h => h) (Or.inl ⟨by rfl, fun w hSw => by obtain ⟨b1, b2⟩ := hSw; go_simp; try (intro hbad; omega)⟩) hS ?_
    simp only [Act.put, List.setIfInBounds_toArray, List.set_cons_zero, List.set_cons_succ]
    refine wpAnyH_takeD 1 (some 18) (.int .i64 (k : Int)) rfl rfl (by kernel_rfl) (by kernel_rfl) (by kernel_rfl) (fun _ _ _ h => h) (Or.inl ⟨by rfl, fun w hSw => by obtain ⟨b1, b2⟩ := hSw; go_simp; try (intro hbad; omega)⟩) hS ?_
    simp only [Act.put, List.setIfInBounds_toArray, List.set_cons_zero, List.set_cons_succ]
    refine wpAnyH_takeD 2 (some 19) (.pointer (some ⟨g1, o1 + k, none⟩)) rfl rfl (by kernel_rfl) (by kernel_rfl) (by kernel_rfl) (fun _ _ _ h => h) (Or.inl ⟨by rfl, fun w hSw => by obtain ⟨b1, b2⟩ := hSw; go_simp; try (intro hbad; omega)⟩) hS ?_
    simp only [Act.put, List.setIfInBounds_toArray, List.set_cons_zero, List.set_cons_succ]
    refine wpAnyH_takeD 3 (some 20) (.string t) rfl rfl (by kernel_rfl) (by kernel_rfl) (by kernel_rfl) (fun _ _ _ h => h) (Or.inl ⟨by rfl, fun w hSw => by obtain ⟨b1, b2⟩ := hSw; go_simp; try (intro hbad; omega)⟩) hS ?_
    simp only [Act.put, List.setIfInBounds_toArray, List.set_cons_zero, List.set_cons_succ]
    refine wpAnyH_takeD 4 (some 21) (.slice (some ⟨g2, o2, none⟩) q c2) rfl rfl (by kernel_rfl) (by kernel_rfl) (by kernel_rfl) (fun _ _ _ h => h) (Or.inl ⟨by rfl, fun w hSw => by obtain ⟨b1, b2⟩ := hSw; go_simp; try (intro hbad; omega)⟩) hS ?_
    simp only [Act.put, List.setIfInBounds_toArray, List.set_cons_zero, List.set_cons_succ]
    refine wpAnyH_takeD 5 (some 22) (.int .i64 (k : Int)) rfl rfl (by kernel_rfl) (by kernel_rfl) (by kernel_rfl) (fun _ _ _ h => h) (Or.inl ⟨by rfl, fun w hSw => by obtain ⟨b1, b2⟩ := hSw; go_simp; try (intro hbad; omega)⟩) hS ?_
    simp only [Act.put, List.setIfInBounds_toArray, List.set_cons_zero, List.set_cons_succ]
    refine wpAnyH_takeD 6 (some 23) (.pointer (some ⟨g2, o2 + k, none⟩)) rfl rfl (by kernel_rfl) (by kernel_rfl) (by kernel_rfl) (fun _ _ _ h => h) (Or.inl ⟨by rfl, fun w hSw => by obtain ⟨b1, b2⟩ := hSw; go_simp; try (intro hbad; omega)⟩) hS ?_
    simp only [Act.put, List.setIfInBounds_toArray, List.set_cons_zero, List.set_cons_succ]
    refine wpAnyH_takeD 7 (some 24) (.string t) rfl rfl (by kernel_rfl) (by kernel_rfl) (by kernel_rfl) (fun _ _ _ h => h) (Or.inl ⟨by rfl, fun w hSw => by obtain ⟨b1, b2⟩ := hSw; go_simp; try (intro hbad; omega)⟩) hS ?_
    simp only [Act.put, List.setIfInBounds_toArray, List.set_cons_zero, List.set_cons_succ]
    refine wpAnyH_takeD 8 (some 25) (.bool false) rfl rfl (by kernel_rfl) (by kernel_rfl) (by kernel_rfl) (fun _ _ _ h => h) (Or.inl ⟨by rfl, fun w hSw => by obtain ⟨b1, b2⟩ := hSw; go_simp; try (intro hbad; omega)⟩) hS ?_
    simp only [Act.put, List.setIfInBounds_toArray, List.set_cons_zero, List.set_cons_succ]
    refine wpAnyH_done (by kernel_rfl) ?_ _
    go_wp2
    go_roundw
    case rel => exact ⟨k + 1, by omega, by go_num, HWN⟩
    case measure => simp [intOf] <;> omega
  · have e1 : ¬ (k : Int) < (q : Int) := by omega
    have HB := hide (show Below h w wi from by obtain ⟨n, rfl⟩ := unhide HW; exact below_drewN (Below.refl _ _) n)
    clear HW
    go_wp2
    go_ret
    exact ⟨rfl, unhide HB⟩
set_option maxHeartbeats 1000000 in
theorem kept19 (w : World) (l : List ByteArray) (h q c : Nat) (p : Option Addr) (B : Nat) (hq : l.length = q) (hL : LnK w h l q (q + 8)) (hS : SB w B p l) (hq9 : q ≤ 8796093022100) : Calls Tryd.prog 10 #[.slice (some ⟨h, 0, none⟩) (q + 8) (q + 8), .slice p q c] w fun e w' => e = .returned (.bool true) ∧ Below w.heap.size w w' := by
  have HSM := hide (same19 w l q (h + 1) B (q + 8) c (some ⟨h, 0, none⟩) p hq (hL.SB hq) hS (by omega))
  have HL := hide hL
  clear hS hL hq
  go_enter Tryd.func10, Tryd.ntmps10
  go_wp2
  go_loopw [5] (fun i wr => ∃ k : Nat, q ≤ k ∧ k ≤ q + 8 ∧ i = .int .i64 (k : Int) ∧ wr = w) (fun i _ => q + 8 - (intOf i).toNat)
  case atStart => exact ⟨q, Nat.le_refl _, by omega, rfl, rfl⟩
  case round =>
  obtain ⟨k, hk1, hk2, rfl, hw⟩ := hrel
  subst wr
  by_cases hkq : k < q + 8
  · have e1 : (k : Int) < (q : Int) + 8 := by omega
    have hc := (unhide HL).sp k hk1 hkq
    rw [show spB = ⟨#[115, 112, 97, 114, 101]⟩ from rfl] at hc
    go_wp2
    go_roundw
    case rel => exact ⟨k + 1, by omega, by omega, by go_num, by first | rfl | trivial⟩
    case measure => simp [intOf] <;> omega
  · obtain rfl : k = q + 8 := by omega
    have e1 : ¬ ((q + 8 : Nat) : Int) < (q : Int) + 8 := by omega
    have e2 : (q : Int) ≤ (q : Int) + 8 := by omega
    go_wp2_with fail
    refine (unhide HSM).mono ?_
    rintro e z ⟨rfl, hb⟩
    have HB := hide hb
    clear hb HSM
    go_wp2
    go_ret
    exact ⟨rfl, unhide HB⟩
end Go.Proofs.YtkileaocgecckabDoor
