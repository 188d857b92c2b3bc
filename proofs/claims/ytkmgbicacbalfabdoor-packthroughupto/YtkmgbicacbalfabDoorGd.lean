import Derived.Test.YtkmgbicacbalfabDoorTkd
import Derived.Test.YtkmgbicacbalfabDoorPk3
import Derived.Test.YtkmgbicacbalfabDoorBlk
import Derived.Deep.RegionHeld3
import Derived.BigQuiet
import Derived.Deep.AppendLies
namespace Go.Proofs.YtkmgbicacbalfabDoor
open Go.RowKit
def gS (t : ByteArray) : ByteArray := if 300 < t.size then t.extract 0 300 else t
def gn (K N : Nat) (z : Int) : Nat := if K = 1 ∧ N < 8 then pickP z 9223372036854775807 % 256 ^ N else pickP z 9223372036854775807
def gL (K N : Nat) (Z : Nat → Int) (n : Nat) : List Int := (List.range n).map (fun i => ((gn K N (Z i) : Nat) : Int))
theorem gdS {w' : World} {B : Nat} {kd nn : Int} {sl : Value} {t : ByteArray} (h : Blk w' B #[.int .i64 kd, .int .i64 nn, sl, .string t] 28) : w'.cell? ⟨B, 0, none⟩ = some (.int .i64 kd) ∧ w'.cell? ⟨B, 3, none⟩ = some (.string t) ∧ Blk w' B #[.int .i64 kd, .int .i64 nn, sl, .string t] 28 := ⟨by rw [h.cell 0]; rfl, by rw [h.cell 3]; rfl, h⟩
theorem gL_succ (K N : Nat) (Z : Nat → Int) (n : Nat) : gL K N Z (n + 1) = gL K N Z n ++ [((gn K N (Z n) : Nat) : Int)] := by simp [gL, List.range_succ]
theorem gnews (w : World) (T : TypeId) (xs : Array Value) (j : Nat) (u : Value) (hu : xs.toList[j]? = some u) : (w.alloc (.cells xs T)).cell? (Addr.add ⟨w.heap.size, 0, none⟩ j) = some u := by
  rw [Addr.add_mid, Nat.zero_add, (Blk.new w T xs).cell j, ← hu]
  simp
theorem infoI3g : (Tryd.prog.info? 3).map (fun i => (i.zero, i.size, i.bytes)) = some (some (.int .i64 0), 1, 8) := by kernel_rfl
/-- The step that came in, the step that is made, and what was there ahead of both. -/
def GW (W : World) (o pp : Array Value) (wr : World) : Prop := Blk wr W.heap.size o 28 ∧ Blk wr (W.heap.size + 1 + 1) pp 28 ∧ Below W.heap.size W wr ∧ Blk wr (W.heap.size + 1) #[.int .i64 0, .int .i64 0, .slice none 0 0, .string ⟨#[]⟩] 28
theorem gload {W : World} {b : Nat} {cur : Array Value} {T : TypeId} (ty : TypeId) (d : TypeDesc) (h : Blk W b cur T) (hu : Tryd.prog.underlying ty = some d) (hd : d.isRow = true) (hi : (Tryd.prog.info? ty).map (·.size) = some cur.size) : (loadVar ty ⟨b, 0, none⟩).run Tryd.prog W = .ok (.agg cur) W := by
  have := run_loadVar_mid (P := Tryd.prog) W b 0 ty cur.toList d (fun j v hv => by rw [Nat.zero_add, h.cell j]; simpa using hv) hu hd (by simpa using hi)
  simpa using this
theorem gd_at {w : World} {n : Nat} (h : w.heap.size = n) (T : TypeId) (cur : Array Value) : Blk (w.alloc (.cells cur T)) n cur T := h ▸ Blk.new w T cur
theorem pick_g (c : Int) (n : Nat) (hn : 0 < n) (hc : I64 c) (m : Int) (hm : m = (n : Int)) (w : World) : Calls Tryd.prog 26 #[.int .i64 c, .int .i64 m] w fun e w' => e = .returned (.int .i64 (pickP c n : Int)) ∧ w' = w := hm ▸ pick3_any c n hn hc w
set_option maxRecDepth 100000 in
set_option maxHeartbeats 4000000 in
theorem good_any (W : World) (kd nn : Int) (hkd : I64 kd) (hnn : I64 nn) (p : Option Addr) (ln lc : Nat) (Z : Nat → Int) (t : ByteArray)
    (hL : ∀ i, i < ln → ∃ b o, p = some ⟨b, o, none⟩ ∧ b < W.heap.size ∧ W.cell? ⟨b, o + i, none⟩ = some (.int .i64 (Z i)) ∧ I64 (Z i)) :
    Calls Tryd.prog 10 #[.agg #[.int .i64 kd, .int .i64 nn, .slice p ln lc, .string t]] W fun e w' => ∃ v, w'.ownsRow W.heap.size 3 1 v (min ln 6) ((gL (1 + pickP kd 4) (1 + pickP nn 8) Z (min ln 6)).map (Value.int .i64)) ∧ e = .returned (.agg #[.int .i64 ((1 + pickP kd 4 : Nat) : Int), .int .i64 ((1 + pickP nn 8 : Nat) : Int), v, .string (gS t)]) ∧ Below W.heap.size W w' := by
  have HP1 := hide (fun w => pick_g kd 4 (by decide) hkd 4 rfl w)
  have HP2 := hide (fun w => pick_g nn 8 (by decide) hnn 8 rfl w)
  have l1 := pickP_lt kd 4 (by decide)
  have l2 := pickP_lt nn 8 (by decide)
  have HL := hide hL
  generalize pickP kd 4 = k1 at *
  generalize pickP nn 8 = n1 at *
  obtain ⟨K1, hK1⟩ : ∃ K1, 1 + k1 = K1 := ⟨_, rfl⟩
  rw [hK1]
  have hk1 : (1 : Int) + (k1 : Int) = (K1 : Int) := by omega
  have hwk : IntKind.i64.wrap (K1 : Int) = (K1 : Int) := wrapI_eq _ (by omega) (by omega)
  obtain ⟨N1, hN1⟩ : ∃ N1, 1 + n1 = N1 := ⟨_, rfl⟩
  rw [hN1]
  have hn1 : (1 : Int) + (n1 : Int) = (N1 : Int) := by omega
  have hwn : IntKind.i64.wrap (N1 : Int) = (N1 : Int) := wrapI_eq _ (by omega) (by omega)
  replace hN1 := hide hN1
  replace hK1 := hide hK1
  clear hL hkd hnn
  have Q0 : Blk ((W.alloc (Obj.cells #[.int .i64 kd, .int .i64 nn, .slice p ln lc, .string t] 28)).alloc (Obj.cells #[.int .i64 0, .int .i64 0, .slice none 0 0, .string ⟨#[]⟩] 28)) W.heap.size #[.int .i64 kd, .int .i64 nn, .slice p ln lc, .string t] 28 := (Blk.new W _ _).alloc _
  go_enter Tryd.func10, Tryd.ntmps10
  go_wp2
  refine wp_region_held_drew (S := fun w' => w'.cell? ⟨W.heap.size, 0, none⟩ = some (.int .i64 kd) ∧ w'.cell? ⟨W.heap.size, 3, none⟩ = some (.string t) ∧ Blk w' W.heap.size #[.int .i64 kd, .int .i64 nn, .slice p ln lc, .string t] 28) (by kernel_rfl) (gdS Q0) ?_
  intro hS
  refine wpAnyH_takeD 0 (some 8) (.pointer (some ⟨W.heap.size, 0, none⟩)) rfl rfl (by kernel_rfl) (by kernel_rfl) (by kernel_rfl) (fun _ _ _ h => h) (Or.inl ⟨by rfl, fun w' hSw => by obtain ⟨q0, q3, qB⟩ := hSw; go_simp⟩) hS ?_
  simp only [Act.put, List.setIfInBounds_toArray, List.set_cons_zero, List.set_cons_succ]
  refine wpAnyH_takeD 1 (some 9) (.int .i64 kd) rfl rfl (by kernel_rfl) (by kernel_rfl) (by kernel_rfl) (fun _ _ _ h => h) (Or.inl ⟨by rfl, fun w' hSw => by obtain ⟨q0, q3, qB⟩ := hSw; go_simp⟩) hS ?_
  simp only [Act.put, List.setIfInBounds_toArray, List.set_cons_zero, List.set_cons_succ]
  refine wpAnyH_takeD 4 (some 12) (.pointer (some ⟨W.heap.size, 3, none⟩)) rfl rfl (by kernel_rfl) (by kernel_rfl) (by kernel_rfl) (fun _ _ _ h => h) (Or.inl ⟨by rfl, fun w' hSw => by obtain ⟨q0, q3, qB⟩ := hSw; go_simp⟩) hS ?_
  simp only [Act.put, List.setIfInBounds_toArray, List.set_cons_zero, List.set_cons_succ]
  refine wpAnyH_takeD 5 (some 13) (.string t) rfl rfl (by kernel_rfl) (by kernel_rfl) (by kernel_rfl) (fun _ _ _ h => h) (Or.inl ⟨by rfl, fun w' hSw => by obtain ⟨q0, q3, qB⟩ := hSw; go_simp⟩) hS ?_
  simp only [Act.put, List.setIfInBounds_toArray, List.set_cons_zero, List.set_cons_succ]
  refine wpAnyH_ready (rs := [2, 7]) (by kernel_rfl) (by simp) ?_
  refine AllReadyH.cons rfl (fun K hK => ?b1) (AllReadyH.cons rfl (fun K hK => ?b2) AllReadyH.nil)
  case' b1 =>
    simp only [List.getElem_toArray, List.getElem_cons_succ, List.getElem_cons_zero]
    go_simp
    refine (unhide HP1 _).mono ?_
    rintro e wx ⟨rfl, rfl⟩
    refine hK.out _ _ hS (fun hS => ?_)
    clear hK K
    refine wpAnyH_takeD 3 (some 11) (.int .i64 (K1 : Int)) rfl rfl (by kernel_rfl) (by kernel_rfl) (by kernel_rfl) (fun _ _ _ h => h) (Or.inl ⟨by rfl, fun w' hSw => by obtain ⟨q0, q3, qB⟩ := hSw; go_simp⟩) hS ?_
    simp only [Act.put, List.setIfInBounds_toArray, List.set_cons_zero, List.set_cons_succ]
    refine wpAnyH_takeD 6 (some 14) (.agg #[.int .i64 (K1 : Int), .int .i64 0, .slice none 0 0, .string t]) rfl rfl (by kernel_rfl) (by kernel_rfl) (by kernel_rfl) (fun _ _ _ h => h) (Or.inl ⟨by rfl, fun w' hSw => by obtain ⟨q0, q3, qB⟩ := hSw; go_simp⟩) hS ?_
    simp only [Act.put, List.setIfInBounds_toArray, List.set_cons_zero, List.set_cons_succ]
    refine wpAnyH_ready (rs := [7]) (by kernel_rfl) (by simp) ?_
    refine AllReadyH.cons rfl (fun K hK => ?_) AllReadyH.nil
    simp only [List.getElem_toArray, List.getElem_cons_succ, List.getElem_cons_zero]
    go_simp
    refine hK.out _ _ (gdS (hS.2.2.alloc _)) (fun hS => ?_)
    clear hK K
    refine wpAnyH_ready (rs := [8]) (by kernel_rfl) (by simp) ?_
    refine AllReadyH.cons rfl (fun K hK => ?_) AllReadyH.nil
    simp only [List.getElem_toArray, List.getElem_cons_succ, List.getElem_cons_zero]
    go_simp
    refine hK.out _ _ (gdS (((Blk.new W _ _).alloc _).alloc _)) (fun hS => ?_)
    clear hK K
    refine wpAnyH_done (by kernel_rfl) ?_ _
    clear hS
  case' b2 =>
    simp only [List.getElem_toArray, List.getElem_cons_succ, List.getElem_cons_zero]
    go_simp
    refine hK.out _ _ (gdS (hS.2.2.alloc _)) (fun hS => ?_)
    clear hK K
    refine wpAnyH_ready (rs := [2]) (by kernel_rfl) (by simp) ?_
    refine AllReadyH.cons rfl (fun K hK => ?_) AllReadyH.nil
    simp only [List.getElem_toArray, List.getElem_cons_succ, List.getElem_cons_zero]
    go_simp
    refine (unhide HP1 _).mono ?_
    rintro e wx ⟨rfl, rfl⟩
    refine hK.out _ _ hS (fun hS => ?_)
    clear hK K
    refine wpAnyH_takeD 3 (some 11) (.int .i64 (K1 : Int)) rfl rfl (by kernel_rfl) (by kernel_rfl) (by kernel_rfl) (fun _ _ _ h => h) (Or.inl ⟨by rfl, fun w' hSw => by obtain ⟨q0, q3, qB⟩ := hSw; go_simp⟩) hS ?_
    simp only [Act.put, List.setIfInBounds_toArray, List.set_cons_zero, List.set_cons_succ]
    refine wpAnyH_takeD 6 (some 14) (.agg #[.int .i64 (K1 : Int), .int .i64 0, .slice none 0 0, .string t]) rfl rfl (by kernel_rfl) (by kernel_rfl) (by kernel_rfl) (fun _ _ _ h => h) (Or.inl ⟨by rfl, fun w' hSw => by obtain ⟨q0, q3, qB⟩ := hSw; go_simp⟩) hS ?_
    simp only [Act.put, List.setIfInBounds_toArray, List.set_cons_zero, List.set_cons_succ]
    refine wpAnyH_ready (rs := [8]) (by kernel_rfl) (by simp) ?_
    refine AllReadyH.cons rfl (fun K hK => ?_) AllReadyH.nil
    simp only [List.getElem_toArray, List.getElem_cons_succ, List.getElem_cons_zero]
    go_simp
    refine hK.out _ _ (gdS (((Blk.new W _ _).alloc _).alloc _)) (fun hS => ?_)
    clear hK K
    refine wpAnyH_done (by kernel_rfl) ?_ _
    clear hS
  all_goals
    obtain ⟨w3, hw3⟩ : ∃ w3, w3 = (((W.alloc (Obj.cells #[.int .i64 kd, .int .i64 nn, .slice p ln lc, .string t] 28)).alloc (Obj.cells #[.int .i64 0, .int .i64 0, .slice none 0 0, .string ⟨#[]⟩] 28)).alloc (Obj.cells #[.int .i64 (K1 : Int), .int .i64 0, .slice none 0 0, .string t] 28)).drew := ⟨_, rfl⟩
    rw [← hw3]
    have hBo : Blk w3 W.heap.size #[.int .i64 kd, .int .i64 nn, .slice p ln lc, .string t] 28 := by rw [hw3]; exact ((Blk.new W _ _).alloc _).alloc _
    have hBp : Blk w3 (W.heap.size + 1 + 1) #[.int .i64 (K1 : Int), .int .i64 0, .slice none 0 0, .string t] 28 := by rw [hw3]; exact gd_at (by simp) _ _
    have hBr : Blk w3 (W.heap.size + 1) #[.int .i64 0, .int .i64 0, .slice none 0 0, .string ⟨#[]⟩] 28 := by rw [hw3]; exact (gd_at (by simp) _ _).alloc _
    have hbl : Below W.heap.size W w3 := by
      rw [hw3]
      exact ((((Below.refl _ W).alloc (Nat.le_refl _) _).alloc (by simp) _).alloc (by simp <;> omega) _).drew
    have p0 : w3.cell? ⟨W.heap.size + 1 + 1, 0, none⟩ = some (.int .i64 (K1 : Int)) := by rw [hBp.cell 0]; rfl
    have p1 : w3.cell? ⟨W.heap.size + 1 + 1, 1, none⟩ = some (.int .i64 0) := by rw [hBp.cell 1]; rfl
    have p3 : w3.cell? ⟨W.heap.size + 1 + 1, 3, none⟩ = some (.string t) := by rw [hBp.cell 3]; rfl
    have o1 : w3.cell? ⟨W.heap.size, 1, none⟩ = some (.int .i64 nn) := by rw [hBo.cell 1]; rfl
    have f3 := hBp.frozen 3
    have f1 := hBp.frozen 1
    have HBS := hide (And.intro hBo (And.intro hBr (And.intro hBp hbl)))
    clear hBo hBr hBp hbl hw3 Q0
    by_cases h300 : 300 < t.size
    case' pos =>
      have z1 : (300 : Int) < (t.size : Int) := by omega
      obtain ⟨wG, hwG⟩ : ∃ x, ((w3.setCell ⟨W.heap.size + 1 + 1, 3, none⟩ (.string (t.extract 0 300))).setCell ⟨W.heap.size + 1 + 1, 1, none⟩ (.int .i64 (N1 : Int))) = x := ⟨_, rfl⟩
      have HGW := hide (show GW W #[.int .i64 kd, .int .i64 nn, .slice p ln lc, .string t] #[.int .i64 (K1 : Int), .int .i64 (N1 : Int), .slice none 0 0, .string (gS t)] wG by
        rw [← hwG, gS, if_pos h300]
        exact ⟨((unhide HBS).1.other _ _ (by show W.heap.size + 1 + 1 ≠ W.heap.size; omega)).other _ _ (by show W.heap.size + 1 + 1 ≠ W.heap.size; omega), ((unhide HBS).2.2.1.set 3 _).set 1 _, (((unhide HBS).2.2.2).setCell (by show W.heap.size ≤ W.heap.size + 1 + 1; omega) _).setCell (by show W.heap.size ≤ W.heap.size + 1 + 1; omega) _, ((unhide HBS).2.1.other _ _ (by show W.heap.size + 1 + 1 ≠ W.heap.size + 1; omega)).other _ _ (by show W.heap.size + 1 + 1 ≠ W.heap.size + 1; omega)⟩)
    case' neg =>
      have z1 : ¬ (300 : Int) < (t.size : Int) := by omega
      obtain ⟨wG, hwG⟩ : ∃ x, (w3.setCell ⟨W.heap.size + 1 + 1, 1, none⟩ (.int .i64 (N1 : Int))) = x := ⟨_, rfl⟩
      have HGW := hide (show GW W #[.int .i64 kd, .int .i64 nn, .slice p ln lc, .string t] #[.int .i64 (K1 : Int), .int .i64 (N1 : Int), .slice none 0 0, .string (gS t)] wG by
        rw [← hwG, gS, if_neg h300]
        exact ⟨(unhide HBS).1.other _ _ (by show W.heap.size + 1 + 1 ≠ W.heap.size; omega), (unhide HBS).2.2.1.set 1 _, ((unhide HBS).2.2.2).setCell (by show W.heap.size ≤ W.heap.size + 1 + 1; omega) _, (unhide HBS).2.1.other _ _ (by show W.heap.size + 1 + 1 ≠ W.heap.size + 1; omega)⟩)
    all_goals
      have HwG := hide hwG
      clear hwG HBS
      by_cases hb : K1 = 1 ∧ N1 < 8
      case' pos =>
        have b1 : ((K1 : Int) == 1) = true := by simp; omega
        have b2 : decide ((N1 : Int) < 8) = true := decide_eq_true (by omega)
        have HB := hide hb
        have hN8 : N1 < 8 := hb.2
        clear hb
        go_wp2_with (first | (go_at_call 26; refine (unhide HP2 _).mono ?_; rintro e wx ⟨rfl, hwx⟩; rw [hwx]; clear hwx))
        rw [unhide HwG]
        clear b1 b2 p0 p1 p3 o1 f1 f3 HwG
        go_loopw [4, 5] (fun bd i wr => ∃ j : Nat, j ≤ N1 ∧ i = .int .i64 (j : Int) ∧ bd = .int .i64 ((256 ^ j : Nat) : Int) ∧ GW W #[.int .i64 kd, .int .i64 nn, .slice p ln lc, .string t] #[.int .i64 (K1 : Int), .int .i64 (N1 : Int), .slice none 0 0, .string (gS t)] wr) (fun _ i _ => N1 - (intOf i).toNat)
        case' atStart => exact ⟨0, by omega, rfl, rfl, unhide HGW⟩
        case' round =>
          obtain ⟨j, hj, rfl, rfl, hI⟩ := hrel
          have XI := hide hI
          clear hI HGW
          have p1 : wr.cell? ⟨W.heap.size + 1 + 1, 1, none⟩ = some (.int .i64 (N1 : Int)) := by rw [(unhide XI).2.1.cell 1]; rfl
          by_cases hjn : j < N1
          · obtain ⟨X, hX⟩ : ∃ X, 256 ^ j = X := ⟨_, rfl⟩
            have hXb : X ≤ 256 ^ 6 := by rw [← hX]; exact Nat.pow_le_pow_right (by decide) (by omega)
            have hXc : X ≤ 281474976710656 := hXb
            have HX := hide (show 256 * X = 256 ^ (j + 1) by rw [← hX, Nat.pow_succ]; omega)
            have hm : (256 : Int) * (X : Int) = ((256 * X : Nat) : Int) := by omega
            have hw : IntKind.i64.wrap (((256 * X : Nat)) : Int) = ((256 * X : Nat) : Int) := wrapI_eq _ (by omega) (by omega)
            rw [hX]
            clear hXb hX
            obtain ⟨Y, hY⟩ : ∃ Y, 256 * X = Y := ⟨_, rfl⟩
            rw [hY] at hm hw HX
            clear hY
            go_wp2
            go_roundw
            case rel => exact ⟨j + 1, by omega, by go_num, by rw [← unhide HX], unhide XI⟩
            case measure => simp [intOf]; omega
          · have hjN : j = N1 := by omega
            obtain ⟨BD, hBD⟩ : ∃ BD, 256 ^ j = BD := ⟨_, rfl⟩
            have hBp : 0 < BD := by rw [← hBD]; exact Nat.pow_pos (by decide)
            have hBl : BD ≤ 256 ^ 7 := by rw [← hBD]; exact Nat.pow_le_pow_right (by decide) (by omega)
            have hBc : BD ≤ 72057594037927936 := hBl
            rw [hBD]
            rw [hjN] at hBD
            have HBD := hide hBD
            have HJN := hide hjN
            clear hBD hBl hjN
            go_wp2
            clear HJN p1
            have XJ := XI
            clear XI
            go_loopw [6, 7] (fun i _ wr => ∃ (j : Nat) (v : Value), j ≤ 6 ∧ j ≤ ln ∧ i = .int .i64 (j : Int) ∧ GW W #[.int .i64 kd, .int .i64 nn, .slice p ln lc, .string t] #[.int .i64 (K1 : Int), .int .i64 (N1 : Int), v, .string (gS t)] wr ∧ wr.ownsRow W.heap.size 3 1 v j ((gL K1 N1 Z j).map (Value.int .i64))) (fun i _ _ => 6 - (intOf i).toNat)
            case atStart => exact ⟨0, .slice none 0 0, by omega, by omega, rfl, unhide XJ, World.ownsRow_nil _ _ _ _⟩
            case round =>
              obtain ⟨j, v, hj6, hjl, rfl, hI, hrow⟩ := hrel
              have XI := hide hI
              have XR := hide hrow
              have o2 : wr.cell? ⟨W.heap.size, 2, none⟩ = some (.slice p ln lc) := by rw [hI.1.cell 2]; rfl
              obtain ⟨pv, cv, ev⟩ : ∃ pv cv, v = .slice pv j cv := by
                rcases hrow.2 with ⟨h1, h2⟩ | ⟨g, cap, cur, h1, _⟩
                · exact ⟨none, 0, by rw [h1, h2]⟩
                · exact ⟨_, cap, h1⟩
              have p2 : wr.cell? ⟨W.heap.size + 1 + 1, 2, none⟩ = some (.slice pv j cv) := by rw [hI.2.1.cell 2, ← ev]; rfl
              have f2 := hI.2.1.frozen 2
              have HEV := hide ev
              clear hI hrow XJ ev
              by_cases hl : j < ln
              · by_cases h6 : j < 6
                · obtain ⟨zb, zo, rfl, hzb, hzc, hzi⟩ := unhide HL j hl
                  have zc : wr.cell? ⟨zb, zo + j, none⟩ = some (.int .i64 (Z j)) := ((unhide XI).2.2.1.cell (p := ⟨zb, zo + j, none⟩) hzb).trans hzc
                  have HPZ := hide (fun W' => pick_g (Z j) 9223372036854775807 (by decide) hzi 9223372036854775807 rfl W')
                  have hXl := pickP_lt (Z j) 9223372036854775807 (by decide)
                  obtain ⟨X, hX⟩ : ∃ X, pickP (Z j) 9223372036854775807 = X := ⟨_, rfl⟩
                  rw [hX] at HPZ hXl
                  have hz8 : ((BD : Int) == 0) = false := by simp; omega
                  have hlt : (BD : Int) < 9223372036854775807 := by omega
                  obtain ⟨Y, hY⟩ : ∃ Y, X % BD = Y := ⟨_, rfl⟩
                  have hmod : ((X : Int)).tmod (BD : Int) = (Y : Int) := by rw [← hY]; rfl
                  have hYX : Y ≤ X := by rw [← hY]; exact Nat.mod_le _ _
                  have HY := hide (show gn K1 N1 (Z j) = Y by rw [gn, if_pos (unhide HB), hX, unhide HBD, hY])
                  clear hY hX
                  have HLs := hide (show (gL K1 N1 Z j).map (Value.int .i64) ++ [Value.int .i64 (Y : Int)] = (gL K1 N1 Z (j + 1)).map (Value.int .i64) by rw [gL_succ, unhide HY]; simp)
                  have i1 : (j : Int) < (ln : Int) := by omega
                  have i6 : (j : Int) < 6 := by omega
                  have i0 : 0 ≤ (j : Int) := by omega
                  clear hzc hzi
                  generalize Z j = z at *
                  obtain ⟨i0', hi0, hz0, hz1, hz2⟩ := info_parts infoI3g
                  have HI := hide (And.intro hi0 (And.intro hz0 (And.intro hz1 hz2)))
                  clear hi0 hz0 hz1 hz2
                  have HRA := hide (owns_only (unhide XR) (Only.of_below (P := fun _ => False) ((Below.refl _ wr).alloc (Nat.le_refl _) (.cells #[.int .i64 (Y : Int)] 3))) (fun _ _ q => q))
                  go_wp2_with (first | (go_at_call 26; refine (unhide HPZ _).mono ?_; rintro e wx ⟨rfl, hwx⟩; rw [hwx]; clear hwx) | (refine wpList_append_lies _ rfl (.tmp 67) (.tmp 69) 26 rfl W.heap.size 3 i0' (.int .i64 0) 1 8 Tryd.underlying26 (unhide HI).1 (unhide HI).2.1 (unhide HI).2.2.1 (unhide HI).2.2.2 rfl (by decide) _ j ((gL K1 N1 Z j).map (Value.int .i64)) (unhide HEV).symm (unhide HRA) ⟨wr.heap.size, 0, none⟩ 1 1 [.int .i64 (Y : Int)] rfl rfl (fun q u hu => gnews wr 3 _ q u hu) (by simp [Value.oneCell']) (by decide) (by unfold maxLen; omega) (by omega) (by have := (unhide XI).2.2.1.size; simp; omega) _ rfl ?_))
                  intro g5 cap5 w5 ho hg hor hlt5
                  have hO := (Only.refl (fun k => v.ownBlock = some k) (wr.alloc (.cells #[.int .i64 (Y : Int)] 3))).grown hg (fun k _ q => q)
                  have b5o : Blk w5 W.heap.size #[.int .i64 kd, .int .i64 nn, .slice (some ⟨zb, zo, none⟩) ln lc, .string t] 28 := ((unhide XI).1.alloc _).only hO ((unhide XI).1.not_row (by decide) (unhide XR))
                  have b5p : Blk w5 (W.heap.size + 1 + 1) #[.int .i64 (K1 : Int), .int .i64 (N1 : Int), v, .string (gS t)] 28 := ((unhide XI).2.1.alloc _).only hO ((unhide XI).2.1.not_row (by decide) (unhide XR))
                  have bel5 : Below W.heap.size W w5 := ((unhide XI).2.2.1.alloc (unhide XI).2.2.1.size _).grown hg (by have := (unhide XI).2.2.1.size; simp; omega) (fun q hq => ((unhide XR).lt q hq).1)
                  have b5r : Blk w5 (W.heap.size + 1) #[.int .i64 0, .int .i64 0, .slice none 0 0, .string ⟨#[]⟩] 28 := ((unhide XI).2.2.2.alloc _).only hO ((unhide XI).2.2.2.not_row (by decide) (unhide XR))
                  have p2' : w5.cell? ⟨W.heap.size + 1 + 1, 2, none⟩ = some (.slice pv j cv) := by rw [b5p.cell 2, ← unhide HEV]; rfl
                  have f2' := b5p.frozen 2
                  have nb := b5p.not_row (by decide) ho
                  have HZ5 := hide (And.intro b5o (And.intro b5p (And.intro bel5 (And.intro ho (And.intro nb b5r)))))
                  clear ho hg hor hlt5 hO b5o b5p bel5 nb b5r p2 f2
                  go_wp2
                  go_roundw
                  case rel =>
                    refine ⟨j + 1, .slice (some ⟨g5, 0, none⟩) (j + 1) cap5, by omega, by omega, by go_num, ⟨(unhide HZ5).1.other _ _ (by show W.heap.size + 1 + 1 ≠ W.heap.size; omega), (unhide HZ5).2.1.set 2 _, (unhide HZ5).2.2.1.setCell (by show W.heap.size ≤ W.heap.size + 1 + 1; omega) _, (unhide HZ5).2.2.2.2.2.other _ _ (by show W.heap.size + 1 + 1 ≠ W.heap.size + 1; omega)⟩, ?_⟩
                    rw [← unhide HLs]
                    exact owns_only (unhide HZ5).2.2.2.1 ((Only.refl (fun k => k = W.heap.size + 1 + 1) w5).setCell _ _ (fun _ => rfl)) (fun k hk q => (unhide HZ5).2.2.2.2.1 (q ▸ hk))
                  case measure => simp [intOf]; omega
                · have i6 : ¬ (j : Int) < 6 := by omega
                  have i1 : (j : Int) < (ln : Int) := by omega
                  have p0' : wr.cell? ⟨W.heap.size + 1 + 1, 0, none⟩ = some (.int .i64 (K1 : Int)) := by rw [(unhide XI).2.1.cell 0]; rfl
                  have p1' : wr.cell? ⟨W.heap.size + 1 + 1, 1, none⟩ = some (.int .i64 (N1 : Int)) := by rw [(unhide XI).2.1.cell 1]; rfl
                  have p3' : wr.cell? ⟨W.heap.size + 1 + 1, 3, none⟩ = some (.string (gS t)) := by rw [(unhide XI).2.1.cell 3]; rfl
                  have r0 : wr.cell? ⟨W.heap.size + 1, 0, none⟩ = some (.int .i64 0) := by rw [(unhide XI).2.2.2.cell 0]; rfl
                  have fr0 := (unhide XI).2.2.2.frozen 0
                  have r1 : wr.cell? ⟨W.heap.size + 1, 1, none⟩ = some (.int .i64 0) := by rw [(unhide XI).2.2.2.cell 1]; rfl
                  have fr1 := (unhide XI).2.2.2.frozen 1
                  have r2 : wr.cell? ⟨W.heap.size + 1, 2, none⟩ = some (.slice none 0 0) := by rw [(unhide XI).2.2.2.cell 2]; rfl
                  have fr2 := (unhide XI).2.2.2.frozen 2
                  have r3 : wr.cell? ⟨W.heap.size + 1, 3, none⟩ = some (.string ⟨#[]⟩) := by rw [(unhide XI).2.2.2.cell 3]; rfl
                  have fr3 := (unhide XI).2.2.2.frozen 3
                  have hmin : j = min ln 6 := by omega
                  have HM := hide hmin
                  clear hmin
                  go_wp2
                  have BR := ((((unhide XI).2.2.2.set 0 (.int .i64 (K1 : Int))).set 1 (.int .i64 (N1 : Int))).set 2 (.slice pv j cv)).set 3 (.string (gS t))
                  have hld := gload 28 _ BR Tryd.underlying28 rfl (by kernel_rfl)
                  refine bodyPost_ret (v := .agg #[.int .i64 (K1 : Int), .int .i64 (N1 : Int), .slice pv j cv, .string (gS t)]) (results_cell rfl _ _ _ ⟨W.heap.size + 1, 0, none⟩ rfl _ hld) rfl ⟨.slice pv j cv, ?_, rfl, ((((unhide XI).2.2.1.setCell (by show W.heap.size ≤ W.heap.size + 1; omega) _).setCell (by show W.heap.size ≤ W.heap.size + 1; omega) _).setCell (by show W.heap.size ≤ W.heap.size + 1; omega) _).setCell (by show W.heap.size ≤ W.heap.size + 1; omega) _⟩
                  rw [← unhide HM, ← unhide HEV]
                  exact owns_only (unhide XR) (((((Only.refl (fun k => k = W.heap.size + 1) wr).setCell _ _ (fun _ => rfl)).setCell _ _ (fun _ => rfl)).setCell _ _ (fun _ => rfl)).setCell _ _ (fun _ => rfl)) (fun k hk q => (unhide XI).2.2.2.not_row (by decide) (unhide XR) (q ▸ hk))
              · have i1 : ¬ (j : Int) < (ln : Int) := by omega
                have p0' : wr.cell? ⟨W.heap.size + 1 + 1, 0, none⟩ = some (.int .i64 (K1 : Int)) := by rw [(unhide XI).2.1.cell 0]; rfl
                have p1' : wr.cell? ⟨W.heap.size + 1 + 1, 1, none⟩ = some (.int .i64 (N1 : Int)) := by rw [(unhide XI).2.1.cell 1]; rfl
                have p3' : wr.cell? ⟨W.heap.size + 1 + 1, 3, none⟩ = some (.string (gS t)) := by rw [(unhide XI).2.1.cell 3]; rfl
                have r0 : wr.cell? ⟨W.heap.size + 1, 0, none⟩ = some (.int .i64 0) := by rw [(unhide XI).2.2.2.cell 0]; rfl
                have fr0 := (unhide XI).2.2.2.frozen 0
                have r1 : wr.cell? ⟨W.heap.size + 1, 1, none⟩ = some (.int .i64 0) := by rw [(unhide XI).2.2.2.cell 1]; rfl
                have fr1 := (unhide XI).2.2.2.frozen 1
                have r2 : wr.cell? ⟨W.heap.size + 1, 2, none⟩ = some (.slice none 0 0) := by rw [(unhide XI).2.2.2.cell 2]; rfl
                have fr2 := (unhide XI).2.2.2.frozen 2
                have r3 : wr.cell? ⟨W.heap.size + 1, 3, none⟩ = some (.string ⟨#[]⟩) := by rw [(unhide XI).2.2.2.cell 3]; rfl
                have fr3 := (unhide XI).2.2.2.frozen 3
                have hmin : j = min ln 6 := by omega
                have HM := hide hmin
                clear hmin
                go_wp2
                have BR := ((((unhide XI).2.2.2.set 0 (.int .i64 (K1 : Int))).set 1 (.int .i64 (N1 : Int))).set 2 (.slice pv j cv)).set 3 (.string (gS t))
                have hld := gload 28 _ BR Tryd.underlying28 rfl (by kernel_rfl)
                refine bodyPost_ret (v := .agg #[.int .i64 (K1 : Int), .int .i64 (N1 : Int), .slice pv j cv, .string (gS t)]) (results_cell rfl _ _ _ ⟨W.heap.size + 1, 0, none⟩ rfl _ hld) rfl ⟨.slice pv j cv, ?_, rfl, ((((unhide XI).2.2.1.setCell (by show W.heap.size ≤ W.heap.size + 1; omega) _).setCell (by show W.heap.size ≤ W.heap.size + 1; omega) _).setCell (by show W.heap.size ≤ W.heap.size + 1; omega) _).setCell (by show W.heap.size ≤ W.heap.size + 1; omega) _⟩
                rw [← unhide HM, ← unhide HEV]
                exact owns_only (unhide XR) (((((Only.refl (fun k => k = W.heap.size + 1) wr).setCell _ _ (fun _ => rfl)).setCell _ _ (fun _ => rfl)).setCell _ _ (fun _ => rfl)).setCell _ _ (fun _ => rfl)) (fun k hk q => (unhide XI).2.2.2.not_row (by decide) (unhide XR) (q ▸ hk))
      case' neg =>
        have HB := hide hb
        by_cases hk : K1 = 1
        · have b1 : ((K1 : Int) == 1) = true := by simp; omega
          have b2 : decide ((N1 : Int) < 8) = false := decide_eq_false (by omega)
          clear hb hk
          go_wp2_with (first | (go_at_call 26; refine (unhide HP2 _).mono ?_; rintro e wx ⟨rfl, hwx⟩; rw [hwx]; clear hwx))
          rw [unhide HwG]
          clear b1 b2 p0 p1 p3 o1 f1 f3 HwG
          go_loopw [6, 7] (fun i _ wr => ∃ (j : Nat) (v : Value), j ≤ 6 ∧ j ≤ ln ∧ i = .int .i64 (j : Int) ∧ GW W #[.int .i64 kd, .int .i64 nn, .slice p ln lc, .string t] #[.int .i64 (K1 : Int), .int .i64 (N1 : Int), v, .string (gS t)] wr ∧ wr.ownsRow W.heap.size 3 1 v j ((gL K1 N1 Z j).map (Value.int .i64))) (fun i _ _ => 6 - (intOf i).toNat)
          case atStart => exact ⟨0, .slice none 0 0, by omega, by omega, rfl, unhide HGW, World.ownsRow_nil _ _ _ _⟩
          case round =>
            obtain ⟨j, v, hj6, hjl, rfl, hI, hrow⟩ := hrel
            have XI := hide hI
            have XR := hide hrow
            have o2 : wr.cell? ⟨W.heap.size, 2, none⟩ = some (.slice p ln lc) := by rw [hI.1.cell 2]; rfl
            obtain ⟨pv, cv, ev⟩ : ∃ pv cv, v = .slice pv j cv := by
              rcases hrow.2 with ⟨h1, h2⟩ | ⟨g, cap, cur, h1, _⟩
              · exact ⟨none, 0, by rw [h1, h2]⟩
              · exact ⟨_, cap, h1⟩
            have p2 : wr.cell? ⟨W.heap.size + 1 + 1, 2, none⟩ = some (.slice pv j cv) := by rw [hI.2.1.cell 2, ← ev]; rfl
            have f2 := hI.2.1.frozen 2
            have HEV := hide ev
            clear hI hrow HGW ev
            by_cases hl : j < ln
            · by_cases h6 : j < 6
              · obtain ⟨zb, zo, rfl, hzb, hzc, hzi⟩ := unhide HL j hl
                have zc : wr.cell? ⟨zb, zo + j, none⟩ = some (.int .i64 (Z j)) := ((unhide XI).2.2.1.cell (p := ⟨zb, zo + j, none⟩) hzb).trans hzc
                have HPZ := hide (fun W' => pick_g (Z j) 9223372036854775807 (by decide) hzi 9223372036854775807 rfl W')
                have hXl := pickP_lt (Z j) 9223372036854775807 (by decide)
                obtain ⟨X, hX⟩ : ∃ X, pickP (Z j) 9223372036854775807 = X := ⟨_, rfl⟩
                rw [hX] at HPZ hXl
                have HY := hide (show gn K1 N1 (Z j) = X by rw [gn, if_neg (unhide HB), hX])
                clear hX
                have HLs := hide (show (gL K1 N1 Z j).map (Value.int .i64) ++ [Value.int .i64 (X : Int)] = (gL K1 N1 Z (j + 1)).map (Value.int .i64) by rw [gL_succ, unhide HY]; simp)
                have i1 : (j : Int) < (ln : Int) := by omega
                have i6 : (j : Int) < 6 := by omega
                have i0 : 0 ≤ (j : Int) := by omega
                clear hzc hzi
                generalize Z j = z at *
                obtain ⟨i0', hi0, hz0, hz1, hz2⟩ := info_parts infoI3g
                have HI := hide (And.intro hi0 (And.intro hz0 (And.intro hz1 hz2)))
                clear hi0 hz0 hz1 hz2
                have HRA := hide (owns_only (unhide XR) (Only.of_below (P := fun _ => False) ((Below.refl _ wr).alloc (Nat.le_refl _) (.cells #[.int .i64 (X : Int)] 3))) (fun _ _ q => q))
                go_wp2_with (first | (go_at_call 26; refine (unhide HPZ _).mono ?_; rintro e wx ⟨rfl, hwx⟩; rw [hwx]; clear hwx) | (refine wpList_append_lies _ rfl (.tmp 67) (.tmp 69) 26 rfl W.heap.size 3 i0' (.int .i64 0) 1 8 Tryd.underlying26 (unhide HI).1 (unhide HI).2.1 (unhide HI).2.2.1 (unhide HI).2.2.2 rfl (by decide) _ j ((gL K1 N1 Z j).map (Value.int .i64)) (unhide HEV).symm (unhide HRA) ⟨wr.heap.size, 0, none⟩ 1 1 [.int .i64 (X : Int)] rfl rfl (fun q u hu => gnews wr 3 _ q u hu) (by simp [Value.oneCell']) (by decide) (by unfold maxLen; omega) (by omega) (by have := (unhide XI).2.2.1.size; simp; omega) _ rfl ?_))
                intro g5 cap5 w5 ho hg hor hlt5
                have hO := (Only.refl (fun k => v.ownBlock = some k) (wr.alloc (.cells #[.int .i64 (X : Int)] 3))).grown hg (fun k _ q => q)
                have b5o : Blk w5 W.heap.size #[.int .i64 kd, .int .i64 nn, .slice (some ⟨zb, zo, none⟩) ln lc, .string t] 28 := ((unhide XI).1.alloc _).only hO ((unhide XI).1.not_row (by decide) (unhide XR))
                have b5p : Blk w5 (W.heap.size + 1 + 1) #[.int .i64 (K1 : Int), .int .i64 (N1 : Int), v, .string (gS t)] 28 := ((unhide XI).2.1.alloc _).only hO ((unhide XI).2.1.not_row (by decide) (unhide XR))
                have bel5 : Below W.heap.size W w5 := ((unhide XI).2.2.1.alloc (unhide XI).2.2.1.size _).grown hg (by have := (unhide XI).2.2.1.size; simp; omega) (fun q hq => ((unhide XR).lt q hq).1)
                have b5r : Blk w5 (W.heap.size + 1) #[.int .i64 0, .int .i64 0, .slice none 0 0, .string ⟨#[]⟩] 28 := ((unhide XI).2.2.2.alloc _).only hO ((unhide XI).2.2.2.not_row (by decide) (unhide XR))
                have p2' : w5.cell? ⟨W.heap.size + 1 + 1, 2, none⟩ = some (.slice pv j cv) := by rw [b5p.cell 2, ← unhide HEV]; rfl
                have f2' := b5p.frozen 2
                have nb := b5p.not_row (by decide) ho
                have HZ5 := hide (And.intro b5o (And.intro b5p (And.intro bel5 (And.intro ho (And.intro nb b5r)))))
                clear ho hg hor hlt5 hO b5o b5p bel5 nb b5r p2 f2
                go_wp2
                go_roundw
                case rel =>
                  refine ⟨j + 1, .slice (some ⟨g5, 0, none⟩) (j + 1) cap5, by omega, by omega, by go_num, ⟨(unhide HZ5).1.other _ _ (by show W.heap.size + 1 + 1 ≠ W.heap.size; omega), (unhide HZ5).2.1.set 2 _, (unhide HZ5).2.2.1.setCell (by show W.heap.size ≤ W.heap.size + 1 + 1; omega) _, (unhide HZ5).2.2.2.2.2.other _ _ (by show W.heap.size + 1 + 1 ≠ W.heap.size + 1; omega)⟩, ?_⟩
                  rw [← unhide HLs]
                  exact owns_only (unhide HZ5).2.2.2.1 ((Only.refl (fun k => k = W.heap.size + 1 + 1) w5).setCell _ _ (fun _ => rfl)) (fun k hk q => (unhide HZ5).2.2.2.2.1 (q ▸ hk))
                case measure => simp [intOf]; omega
              · have i6 : ¬ (j : Int) < 6 := by omega
                have i1 : (j : Int) < (ln : Int) := by omega
                have p0' : wr.cell? ⟨W.heap.size + 1 + 1, 0, none⟩ = some (.int .i64 (K1 : Int)) := by rw [(unhide XI).2.1.cell 0]; rfl
                have p1' : wr.cell? ⟨W.heap.size + 1 + 1, 1, none⟩ = some (.int .i64 (N1 : Int)) := by rw [(unhide XI).2.1.cell 1]; rfl
                have p3' : wr.cell? ⟨W.heap.size + 1 + 1, 3, none⟩ = some (.string (gS t)) := by rw [(unhide XI).2.1.cell 3]; rfl
                have r0 : wr.cell? ⟨W.heap.size + 1, 0, none⟩ = some (.int .i64 0) := by rw [(unhide XI).2.2.2.cell 0]; rfl
                have fr0 := (unhide XI).2.2.2.frozen 0
                have r1 : wr.cell? ⟨W.heap.size + 1, 1, none⟩ = some (.int .i64 0) := by rw [(unhide XI).2.2.2.cell 1]; rfl
                have fr1 := (unhide XI).2.2.2.frozen 1
                have r2 : wr.cell? ⟨W.heap.size + 1, 2, none⟩ = some (.slice none 0 0) := by rw [(unhide XI).2.2.2.cell 2]; rfl
                have fr2 := (unhide XI).2.2.2.frozen 2
                have r3 : wr.cell? ⟨W.heap.size + 1, 3, none⟩ = some (.string ⟨#[]⟩) := by rw [(unhide XI).2.2.2.cell 3]; rfl
                have fr3 := (unhide XI).2.2.2.frozen 3
                have hmin : j = min ln 6 := by omega
                have HM := hide hmin
                clear hmin
                go_wp2
                have BR := ((((unhide XI).2.2.2.set 0 (.int .i64 (K1 : Int))).set 1 (.int .i64 (N1 : Int))).set 2 (.slice pv j cv)).set 3 (.string (gS t))
                have hld := gload 28 _ BR Tryd.underlying28 rfl (by kernel_rfl)
                refine bodyPost_ret (v := .agg #[.int .i64 (K1 : Int), .int .i64 (N1 : Int), .slice pv j cv, .string (gS t)]) (results_cell rfl _ _ _ ⟨W.heap.size + 1, 0, none⟩ rfl _ hld) rfl ⟨.slice pv j cv, ?_, rfl, ((((unhide XI).2.2.1.setCell (by show W.heap.size ≤ W.heap.size + 1; omega) _).setCell (by show W.heap.size ≤ W.heap.size + 1; omega) _).setCell (by show W.heap.size ≤ W.heap.size + 1; omega) _).setCell (by show W.heap.size ≤ W.heap.size + 1; omega) _⟩
                rw [← unhide HM, ← unhide HEV]
                exact owns_only (unhide XR) (((((Only.refl (fun k => k = W.heap.size + 1) wr).setCell _ _ (fun _ => rfl)).setCell _ _ (fun _ => rfl)).setCell _ _ (fun _ => rfl)).setCell _ _ (fun _ => rfl)) (fun k hk q => (unhide XI).2.2.2.not_row (by decide) (unhide XR) (q ▸ hk))
            · have i1 : ¬ (j : Int) < (ln : Int) := by omega
              have p0' : wr.cell? ⟨W.heap.size + 1 + 1, 0, none⟩ = some (.int .i64 (K1 : Int)) := by rw [(unhide XI).2.1.cell 0]; rfl
              have p1' : wr.cell? ⟨W.heap.size + 1 + 1, 1, none⟩ = some (.int .i64 (N1 : Int)) := by rw [(unhide XI).2.1.cell 1]; rfl
              have p3' : wr.cell? ⟨W.heap.size + 1 + 1, 3, none⟩ = some (.string (gS t)) := by rw [(unhide XI).2.1.cell 3]; rfl
              have r0 : wr.cell? ⟨W.heap.size + 1, 0, none⟩ = some (.int .i64 0) := by rw [(unhide XI).2.2.2.cell 0]; rfl
              have fr0 := (unhide XI).2.2.2.frozen 0
              have r1 : wr.cell? ⟨W.heap.size + 1, 1, none⟩ = some (.int .i64 0) := by rw [(unhide XI).2.2.2.cell 1]; rfl
              have fr1 := (unhide XI).2.2.2.frozen 1
              have r2 : wr.cell? ⟨W.heap.size + 1, 2, none⟩ = some (.slice none 0 0) := by rw [(unhide XI).2.2.2.cell 2]; rfl
              have fr2 := (unhide XI).2.2.2.frozen 2
              have r3 : wr.cell? ⟨W.heap.size + 1, 3, none⟩ = some (.string ⟨#[]⟩) := by rw [(unhide XI).2.2.2.cell 3]; rfl
              have fr3 := (unhide XI).2.2.2.frozen 3
              have hmin : j = min ln 6 := by omega
              have HM := hide hmin
              clear hmin
              go_wp2
              have BR := ((((unhide XI).2.2.2.set 0 (.int .i64 (K1 : Int))).set 1 (.int .i64 (N1 : Int))).set 2 (.slice pv j cv)).set 3 (.string (gS t))
              have hld := gload 28 _ BR Tryd.underlying28 rfl (by kernel_rfl)
              refine bodyPost_ret (v := .agg #[.int .i64 (K1 : Int), .int .i64 (N1 : Int), .slice pv j cv, .string (gS t)]) (results_cell rfl _ _ _ ⟨W.heap.size + 1, 0, none⟩ rfl _ hld) rfl ⟨.slice pv j cv, ?_, rfl, ((((unhide XI).2.2.1.setCell (by show W.heap.size ≤ W.heap.size + 1; omega) _).setCell (by show W.heap.size ≤ W.heap.size + 1; omega) _).setCell (by show W.heap.size ≤ W.heap.size + 1; omega) _).setCell (by show W.heap.size ≤ W.heap.size + 1; omega) _⟩
              rw [← unhide HM, ← unhide HEV]
              exact owns_only (unhide XR) (((((Only.refl (fun k => k = W.heap.size + 1) wr).setCell _ _ (fun _ => rfl)).setCell _ _ (fun _ => rfl)).setCell _ _ (fun _ => rfl)).setCell _ _ (fun _ => rfl)) (fun k hk q => (unhide XI).2.2.2.not_row (by decide) (unhide XR) (q ▸ hk))
        · have b1 : ((K1 : Int) == 1) = false := by simp; omega
          clear hb hk
          go_wp2_with (first | (go_at_call 26; refine (unhide HP2 _).mono ?_; rintro e wx ⟨rfl, hwx⟩; rw [hwx]; clear hwx))
          rw [unhide HwG]
          clear b1 p0 p1 p3 o1 f1 f3 HwG
          go_loopw [6, 7] (fun i _ wr => ∃ (j : Nat) (v : Value), j ≤ 6 ∧ j ≤ ln ∧ i = .int .i64 (j : Int) ∧ GW W #[.int .i64 kd, .int .i64 nn, .slice p ln lc, .string t] #[.int .i64 (K1 : Int), .int .i64 (N1 : Int), v, .string (gS t)] wr ∧ wr.ownsRow W.heap.size 3 1 v j ((gL K1 N1 Z j).map (Value.int .i64))) (fun i _ _ => 6 - (intOf i).toNat)
          case atStart => exact ⟨0, .slice none 0 0, by omega, by omega, rfl, unhide HGW, World.ownsRow_nil _ _ _ _⟩
          case round =>
            obtain ⟨j, v, hj6, hjl, rfl, hI, hrow⟩ := hrel
            have XI := hide hI
            have XR := hide hrow
            have o2 : wr.cell? ⟨W.heap.size, 2, none⟩ = some (.slice p ln lc) := by rw [hI.1.cell 2]; rfl
            obtain ⟨pv, cv, ev⟩ : ∃ pv cv, v = .slice pv j cv := by
              rcases hrow.2 with ⟨h1, h2⟩ | ⟨g, cap, cur, h1, _⟩
              · exact ⟨none, 0, by rw [h1, h2]⟩
              · exact ⟨_, cap, h1⟩
            have p2 : wr.cell? ⟨W.heap.size + 1 + 1, 2, none⟩ = some (.slice pv j cv) := by rw [hI.2.1.cell 2, ← ev]; rfl
            have f2 := hI.2.1.frozen 2
            have HEV := hide ev
            clear hI hrow HGW ev
            by_cases hl : j < ln
            · by_cases h6 : j < 6
              · obtain ⟨zb, zo, rfl, hzb, hzc, hzi⟩ := unhide HL j hl
                have zc : wr.cell? ⟨zb, zo + j, none⟩ = some (.int .i64 (Z j)) := ((unhide XI).2.2.1.cell (p := ⟨zb, zo + j, none⟩) hzb).trans hzc
                have HPZ := hide (fun W' => pick_g (Z j) 9223372036854775807 (by decide) hzi 9223372036854775807 rfl W')
                have hXl := pickP_lt (Z j) 9223372036854775807 (by decide)
                obtain ⟨X, hX⟩ : ∃ X, pickP (Z j) 9223372036854775807 = X := ⟨_, rfl⟩
                rw [hX] at HPZ hXl
                have HY := hide (show gn K1 N1 (Z j) = X by rw [gn, if_neg (unhide HB), hX])
                clear hX
                have HLs := hide (show (gL K1 N1 Z j).map (Value.int .i64) ++ [Value.int .i64 (X : Int)] = (gL K1 N1 Z (j + 1)).map (Value.int .i64) by rw [gL_succ, unhide HY]; simp)
                have i1 : (j : Int) < (ln : Int) := by omega
                have i6 : (j : Int) < 6 := by omega
                have i0 : 0 ≤ (j : Int) := by omega
                clear hzc hzi
                generalize Z j = z at *
                obtain ⟨i0', hi0, hz0, hz1, hz2⟩ := info_parts infoI3g
                have HI := hide (And.intro hi0 (And.intro hz0 (And.intro hz1 hz2)))
                clear hi0 hz0 hz1 hz2
                have HRA := hide (owns_only (unhide XR) (Only.of_below (P := fun _ => False) ((Below.refl _ wr).alloc (Nat.le_refl _) (.cells #[.int .i64 (X : Int)] 3))) (fun _ _ q => q))
                go_wp2_with (first | (go_at_call 26; refine (unhide HPZ _).mono ?_; rintro e wx ⟨rfl, hwx⟩; rw [hwx]; clear hwx) | (refine wpList_append_lies _ rfl (.tmp 67) (.tmp 69) 26 rfl W.heap.size 3 i0' (.int .i64 0) 1 8 Tryd.underlying26 (unhide HI).1 (unhide HI).2.1 (unhide HI).2.2.1 (unhide HI).2.2.2 rfl (by decide) _ j ((gL K1 N1 Z j).map (Value.int .i64)) (unhide HEV).symm (unhide HRA) ⟨wr.heap.size, 0, none⟩ 1 1 [.int .i64 (X : Int)] rfl rfl (fun q u hu => gnews wr 3 _ q u hu) (by simp [Value.oneCell']) (by decide) (by unfold maxLen; omega) (by omega) (by have := (unhide XI).2.2.1.size; simp; omega) _ rfl ?_))
                intro g5 cap5 w5 ho hg hor hlt5
                have hO := (Only.refl (fun k => v.ownBlock = some k) (wr.alloc (.cells #[.int .i64 (X : Int)] 3))).grown hg (fun k _ q => q)
                have b5o : Blk w5 W.heap.size #[.int .i64 kd, .int .i64 nn, .slice (some ⟨zb, zo, none⟩) ln lc, .string t] 28 := ((unhide XI).1.alloc _).only hO ((unhide XI).1.not_row (by decide) (unhide XR))
                have b5p : Blk w5 (W.heap.size + 1 + 1) #[.int .i64 (K1 : Int), .int .i64 (N1 : Int), v, .string (gS t)] 28 := ((unhide XI).2.1.alloc _).only hO ((unhide XI).2.1.not_row (by decide) (unhide XR))
                have bel5 : Below W.heap.size W w5 := ((unhide XI).2.2.1.alloc (unhide XI).2.2.1.size _).grown hg (by have := (unhide XI).2.2.1.size; simp; omega) (fun q hq => ((unhide XR).lt q hq).1)
                have b5r : Blk w5 (W.heap.size + 1) #[.int .i64 0, .int .i64 0, .slice none 0 0, .string ⟨#[]⟩] 28 := ((unhide XI).2.2.2.alloc _).only hO ((unhide XI).2.2.2.not_row (by decide) (unhide XR))
                have p2' : w5.cell? ⟨W.heap.size + 1 + 1, 2, none⟩ = some (.slice pv j cv) := by rw [b5p.cell 2, ← unhide HEV]; rfl
                have f2' := b5p.frozen 2
                have nb := b5p.not_row (by decide) ho
                have HZ5 := hide (And.intro b5o (And.intro b5p (And.intro bel5 (And.intro ho (And.intro nb b5r)))))
                clear ho hg hor hlt5 hO b5o b5p bel5 nb b5r p2 f2
                go_wp2
                go_roundw
                case rel =>
                  refine ⟨j + 1, .slice (some ⟨g5, 0, none⟩) (j + 1) cap5, by omega, by omega, by go_num, ⟨(unhide HZ5).1.other _ _ (by show W.heap.size + 1 + 1 ≠ W.heap.size; omega), (unhide HZ5).2.1.set 2 _, (unhide HZ5).2.2.1.setCell (by show W.heap.size ≤ W.heap.size + 1 + 1; omega) _, (unhide HZ5).2.2.2.2.2.other _ _ (by show W.heap.size + 1 + 1 ≠ W.heap.size + 1; omega)⟩, ?_⟩
                  rw [← unhide HLs]
                  exact owns_only (unhide HZ5).2.2.2.1 ((Only.refl (fun k => k = W.heap.size + 1 + 1) w5).setCell _ _ (fun _ => rfl)) (fun k hk q => (unhide HZ5).2.2.2.2.1 (q ▸ hk))
                case measure => simp [intOf]; omega
              · have i6 : ¬ (j : Int) < 6 := by omega
                have i1 : (j : Int) < (ln : Int) := by omega
                have p0' : wr.cell? ⟨W.heap.size + 1 + 1, 0, none⟩ = some (.int .i64 (K1 : Int)) := by rw [(unhide XI).2.1.cell 0]; rfl
                have p1' : wr.cell? ⟨W.heap.size + 1 + 1, 1, none⟩ = some (.int .i64 (N1 : Int)) := by rw [(unhide XI).2.1.cell 1]; rfl
                have p3' : wr.cell? ⟨W.heap.size + 1 + 1, 3, none⟩ = some (.string (gS t)) := by rw [(unhide XI).2.1.cell 3]; rfl
                have r0 : wr.cell? ⟨W.heap.size + 1, 0, none⟩ = some (.int .i64 0) := by rw [(unhide XI).2.2.2.cell 0]; rfl
                have fr0 := (unhide XI).2.2.2.frozen 0
                have r1 : wr.cell? ⟨W.heap.size + 1, 1, none⟩ = some (.int .i64 0) := by rw [(unhide XI).2.2.2.cell 1]; rfl
                have fr1 := (unhide XI).2.2.2.frozen 1
                have r2 : wr.cell? ⟨W.heap.size + 1, 2, none⟩ = some (.slice none 0 0) := by rw [(unhide XI).2.2.2.cell 2]; rfl
                have fr2 := (unhide XI).2.2.2.frozen 2
                have r3 : wr.cell? ⟨W.heap.size + 1, 3, none⟩ = some (.string ⟨#[]⟩) := by rw [(unhide XI).2.2.2.cell 3]; rfl
                have fr3 := (unhide XI).2.2.2.frozen 3
                have hmin : j = min ln 6 := by omega
                have HM := hide hmin
                clear hmin
                go_wp2
                have BR := ((((unhide XI).2.2.2.set 0 (.int .i64 (K1 : Int))).set 1 (.int .i64 (N1 : Int))).set 2 (.slice pv j cv)).set 3 (.string (gS t))
                have hld := gload 28 _ BR Tryd.underlying28 rfl (by kernel_rfl)
                refine bodyPost_ret (v := .agg #[.int .i64 (K1 : Int), .int .i64 (N1 : Int), .slice pv j cv, .string (gS t)]) (results_cell rfl _ _ _ ⟨W.heap.size + 1, 0, none⟩ rfl _ hld) rfl ⟨.slice pv j cv, ?_, rfl, ((((unhide XI).2.2.1.setCell (by show W.heap.size ≤ W.heap.size + 1; omega) _).setCell (by show W.heap.size ≤ W.heap.size + 1; omega) _).setCell (by show W.heap.size ≤ W.heap.size + 1; omega) _).setCell (by show W.heap.size ≤ W.heap.size + 1; omega) _⟩
                rw [← unhide HM, ← unhide HEV]
                exact owns_only (unhide XR) (((((Only.refl (fun k => k = W.heap.size + 1) wr).setCell _ _ (fun _ => rfl)).setCell _ _ (fun _ => rfl)).setCell _ _ (fun _ => rfl)).setCell _ _ (fun _ => rfl)) (fun k hk q => (unhide XI).2.2.2.not_row (by decide) (unhide XR) (q ▸ hk))
            · have i1 : ¬ (j : Int) < (ln : Int) := by omega
              have p0' : wr.cell? ⟨W.heap.size + 1 + 1, 0, none⟩ = some (.int .i64 (K1 : Int)) := by rw [(unhide XI).2.1.cell 0]; rfl
              have p1' : wr.cell? ⟨W.heap.size + 1 + 1, 1, none⟩ = some (.int .i64 (N1 : Int)) := by rw [(unhide XI).2.1.cell 1]; rfl
              have p3' : wr.cell? ⟨W.heap.size + 1 + 1, 3, none⟩ = some (.string (gS t)) := by rw [(unhide XI).2.1.cell 3]; rfl
              have r0 : wr.cell? ⟨W.heap.size + 1, 0, none⟩ = some (.int .i64 0) := by rw [(unhide XI).2.2.2.cell 0]; rfl
              have fr0 := (unhide XI).2.2.2.frozen 0
              have r1 : wr.cell? ⟨W.heap.size + 1, 1, none⟩ = some (.int .i64 0) := by rw [(unhide XI).2.2.2.cell 1]; rfl
              have fr1 := (unhide XI).2.2.2.frozen 1
              have r2 : wr.cell? ⟨W.heap.size + 1, 2, none⟩ = some (.slice none 0 0) := by rw [(unhide XI).2.2.2.cell 2]; rfl
              have fr2 := (unhide XI).2.2.2.frozen 2
              have r3 : wr.cell? ⟨W.heap.size + 1, 3, none⟩ = some (.string ⟨#[]⟩) := by rw [(unhide XI).2.2.2.cell 3]; rfl
              have fr3 := (unhide XI).2.2.2.frozen 3
              have hmin : j = min ln 6 := by omega
              have HM := hide hmin
              clear hmin
              go_wp2
              have BR := ((((unhide XI).2.2.2.set 0 (.int .i64 (K1 : Int))).set 1 (.int .i64 (N1 : Int))).set 2 (.slice pv j cv)).set 3 (.string (gS t))
              have hld := gload 28 _ BR Tryd.underlying28 rfl (by kernel_rfl)
              refine bodyPost_ret (v := .agg #[.int .i64 (K1 : Int), .int .i64 (N1 : Int), .slice pv j cv, .string (gS t)]) (results_cell rfl _ _ _ ⟨W.heap.size + 1, 0, none⟩ rfl _ hld) rfl ⟨.slice pv j cv, ?_, rfl, ((((unhide XI).2.2.1.setCell (by show W.heap.size ≤ W.heap.size + 1; omega) _).setCell (by show W.heap.size ≤ W.heap.size + 1; omega) _).setCell (by show W.heap.size ≤ W.heap.size + 1; omega) _).setCell (by show W.heap.size ≤ W.heap.size + 1; omega) _⟩
              rw [← unhide HM, ← unhide HEV]
              exact owns_only (unhide XR) (((((Only.refl (fun k => k = W.heap.size + 1) wr).setCell _ _ (fun _ => rfl)).setCell _ _ (fun _ => rfl)).setCell _ _ (fun _ => rfl)).setCell _ _ (fun _ => rfl)) (fun k hk q => (unhide XI).2.2.2.not_row (by decide) (unhide XR) (q ▸ hk))
end Go.Proofs.YtkmgbicacbalfabDoor
