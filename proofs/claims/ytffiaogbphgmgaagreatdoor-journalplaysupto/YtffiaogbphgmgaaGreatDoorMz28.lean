import Derived.Test.YtffiaogbphgmgaaGreatDoorMz15
import Derived.BigQuiet
import Derived.Test.YtffiaogbphgmgaaGreatDoorMz20
import Derived.Test.YtffiaogbphgmgaaGreatDoorMz14
import Derived.Test.YtffiaogbphgmgaaGreatDoorMz13
import Derived.Test.YtffiaogbphgmgaaGreatDoorMz02
import Derived.Test.YtffiaogbphgmgaaGreatDoorMz05
namespace Go.Proofs.YtffiaogbphgmgaaGreatDoor
open Go.RowKit
set_option maxRecDepth 100000
def w77 : Wr1 := (-77, ⟨#[]⟩)
def wOv : Wr1 := (25, ⟨#[111, 118, 101, 114]⟩)
theorem infoWz : (Tryz.prog.info? 49).map (fun i => (i.zero, i.size, i.bytes)) = some (some (.agg #[.int .i64 0, .string ⟨#[]⟩]), 2, 24) := by kernel_rfl
theorem made_w (n : Nat) : madeCells #[.int .i64 0, .string ⟨#[]⟩] (n * 2) = (wrv (List.replicate n wr0)).toArray := by
  apply Array.ext_getElem?
  intro i
  have hl : (wrv (List.replicate n wr0)).length = n * 2 := by rw [wrv_len, List.length_replicate]
  by_cases hi : i < n * 2
  · obtain ⟨h1, h2⟩ := wrv_at (List.replicate n wr0) (i / 2) (by rw [List.length_replicate]; omega)
    have e0 : (List.replicate n wr0).getD (i / 2) wr0 = wr0 := by rw [List.getD_eq_getElem?_getD, List.getElem?_replicate, if_pos (by omega)]; rfl
    rw [e0] at h1 h2
    have hL : ∀ v, (if i % 2 = 0 then Value.int .i64 0 else Value.string ⟨#[]⟩) = v → (madeCells #[.int .i64 0, .string ⟨#[]⟩] (n * 2))[i]? = some v := fun v hv => by
      have hsz : i < (madeCells #[Value.int .i64 0, .string ⟨#[]⟩] (n * 2)).size := by simp [madeCells]; exact hi
      rw [Array.getElem?_eq_getElem hsz, ← hv]
      simp only [madeCells, Array.getElem_map, Array.getElem_range]
      rcases Nat.mod_two_eq_zero_or_one i with q | q <;> simp [q]
    by_cases hm : i % 2 = 0
    · rw [hL _ (if_pos hm), show ((wrv (List.replicate n wr0)).toArray)[i]? = (wrv (List.replicate n wr0))[i]? from List.getElem?_toArray .., show i = i / 2 * 2 by omega, h1]
      rfl
    · rw [hL _ (if_neg hm), show ((wrv (List.replicate n wr0)).toArray)[i]? = (wrv (List.replicate n wr0))[i]? from List.getElem?_toArray .., show i = i / 2 * 2 + 1 by omega, h2]
      rfl
  · rw [show ((wrv (List.replicate n wr0)).toArray)[i]? = (wrv (List.replicate n wr0))[i]? from List.getElem?_toArray .., List.getElem?_eq_none (by omega), Array.getElem?_eq_none (by simp [madeCells]; omega)]
theorem makeW (n : Nat) (hn : n ≤ 8000000) (w : World) : (Instr.makeSlice 38 (.int .i64 (n : Int)) (.int .i64 (n : Int))).run Tryz.prog w = .ok (.slice (some ⟨w.heap.size, 0, none⟩) n n) (w.alloc (.cells (wrv (List.replicate n wr0)).toArray 49)) := by
  have h := infoWz
  cases hq : Tryz.prog.info? 49 with
  | none => rw [hq] at h; cases h
  | some i =>
    rw [hq] at h
    simp only [Option.map_some, Option.some.injEq, Prod.mk.injEq] at h
    obtain ⟨hz, hs, hbt⟩ := h
    have := run_makeSlice (P := Tryz.prog) w 38 49 i _ Tryz.underlying38 hq hz .i64 .i64 (n : Int) (n : Int) (by omega) (by omega) (by rw [hs, Int.toNat_natCast]; omega) (by rw [hbt]; omega) (by omega)
    rw [Int.toNat_natCast, hs] at this
    rw [← made_w]
    exact this
theorem Blk.wset {w : World} {g : Nat} {D : List Wr1} (h : Blk w g (wrv D).toArray 49) (k : Nat) (hk : k < D.length) (x : Wr1) : Blk ((w.setCell ⟨g, k * 2, none⟩ (.int .i64 x.1)).setCell ⟨g, k * 2 + 1, none⟩ (.string x.2)) g (wrv (D.set k x)).toArray 49 := by
  have h2 := (h.set (k * 2) (.int .i64 x.1)).set (k * 2 + 1) (.string x.2)
  rw [List.setIfInBounds_toArray, List.setIfInBounds_toArray, wrv_set D k x hk] at h2
  exact h2
theorem Blk.wat {w : World} {g : Nat} {D : List Wr1} (h : Blk w g (wrv D).toArray 49) (k : Nat) (hk : k < D.length) : w.cell? ⟨g, k * 2, none⟩ = some (.int .i64 (D.getD k wr0).1) ∧ w.cell? ⟨g, k * 2 + 1, none⟩ = some (.string (D.getD k wr0).2) := by
  obtain ⟨h1, h2⟩ := wrv_at D k hk
  rw [h.cell, h.cell, List.getElem?_toArray, List.getElem?_toArray]
  exact ⟨h1, h2⟩
/-- the list, and marks behind it up to k -/
def lnt (l : List Wr1) (k : Nat) : List Wr1 := l ++ (List.replicate (k - l.length) w77 ++ List.replicate (l.length + 20 - k) wr0)
theorem lnt_len (l : List Wr1) (k : Nat) (h1 : l.length ≤ k) (h2 : k ≤ l.length + 20) : (lnt l k).length = l.length + 20 := by simp [lnt]; omega
theorem lnt_step (l : List Wr1) (k : Nat) (h1 : l.length ≤ k) (h2 : k < l.length + 20) : (lnt l k).set k w77 = lnt l (k + 1) := by
  obtain ⟨d, rfl⟩ : ∃ d, k = l.length + d := ⟨k - l.length, by omega⟩
  obtain ⟨r, hr⟩ : ∃ r, 20 - d = r + 1 := ⟨20 - d - 1, by omega⟩
  unfold lnt
  rw [show l.length + d - l.length = d by omega, show l.length + d + 1 - l.length = d + 1 by omega, show l.length + 20 - (l.length + d) = r + 1 by omega, show l.length + 20 - (l.length + d + 1) = r by omega]
  rw [List.set_append_right _ _ (by omega), show l.length + d - l.length = d by omega, List.set_append_right _ _ (by simp), List.length_replicate, Nat.sub_self]
  rw [List.replicate_succ (n := r), List.set_cons_zero, List.replicate_succ' (n := d), List.append_assoc]
  rfl
set_option maxHeartbeats 4000000 in
theorem lent5 (w : World) (p : Option Addr) (c m : Nat) (l : List Wr1) (hm : m = l.length) (hl : Wls w p l) (hm2 : m ≤ 7000000) :
    Calls Tryz.prog 32 #[.slice p m c] w fun e w' => e = .returned (.slice (some ⟨w.heap.size, 0, none⟩) (m + 20) (m + 20)) ∧ Blk w' w.heap.size (wrv (lnt l (m + 20))).toArray 49 ∧ Below w.heap.size w w' := by
  have hmk := makeW (m + 20) (by omega) w
  obtain ⟨g, hg⟩ : ∃ z, w.heap.size = z := ⟨_, rfl⟩
  obtain ⟨x1, hx1⟩ : ∃ z, w.alloc (.cells (wrv (List.replicate (m + 20) wr0)).toArray 49) = z := ⟨_, rfl⟩
  have B1 : Blk x1 g (wrv (List.replicate (m + 20) wr0)).toArray 49 := by rw [← hx1, ← hg]; exact Blk.new w _ _
  have hb1 : Below w.heap.size w x1 := by rw [← hx1]; exact (Below.refl _ _).alloc (Nat.le_refl _) _
  rw [hx1, hg] at hmk
  have hmI : ((m + 20 : Nat) : Int) = (m : Int) + 20 := by omega
  rw [hmI] at hmk
  have hw : IntKind.i64.wrap ((m : Int) + 20) = (m : Int) + 20 := wrapI_eq _ (by omega) (by omega)
  have HS := hide (And.intro hm hl)
  have HB1 := hide (And.intro B1 hb1)
  have HG := hide hg
  have e0 : (List.replicate (m + 20) wr0).take 0 ++ l ++ (List.replicate (m + 20) wr0).drop (0 + m) = lnt l m := by
    rw [List.take_zero, List.nil_append, List.drop_replicate, lnt, hm, show l.length - l.length = 0 by omega]
    simp
  have HE0 := hide e0
  rw [hg]
  clear hm hl B1 hb1 hg hx1 e0 hmI
  go_enter Tryz.func32, Tryz.ntmps32
  by_cases h0 : m = 0
  · as_aux_lemma =>
      have HX2 := hide (show Blk x1 g (wrv (lnt l m)).toArray 49 ∧ Below g w x1 from by
        have e := unhide HE0
        have hl0 : l = [] := List.eq_nil_of_length_eq_zero (by rw [← (unhide HS).1]; exact h0)
        refine ⟨?_, by have hh := (unhide HB1).2; rw [unhide HG] at hh; exact hh⟩
        have := (unhide HB1).1
        rw [← e, hl0, h0]
        simpa [h0] using this)
      have HM0 := hide h0
      clear h0
      go_wp2_with (refine wpList_copy_z rfl (.tmp 9) (.tmp 10) rfl g 0 (m + 20) (m + 20) c p rfl (by have h9 := unhide HM0; subst h9; rfl) ?_)
      go_loopw [4] (fun iv wr => ∃ k : Nat, m ≤ k ∧ k ≤ m + 20 ∧ iv = .int .i64 (k : Int) ∧ Blk wr g (wrv (lnt l k)).toArray 49 ∧ Below g w wr) (fun iv _ => m + 20 - (intOf iv).toNat)
      case atStart => exact ⟨m, by omega, by omega, rfl, unhide HX2⟩
      case round =>
        obtain ⟨k, hk1, hk2, rfl, hB, hb⟩ := hrel
        obtain ⟨wo, rfl⟩ : ∃ wo, wo = wr := ⟨_, rfl⟩
        have XB := hide (And.intro hB hb)
        clear hB hb HX2
        by_cases hkl : k < m + 20
        · as_aux_lemma =>
            have hkl' : (k : Int) < ((m + 20 : Nat) : Int) := by omega
            have i0 : (0 : Int) ≤ (k : Int) := by omega
            have hlen : k < (lnt l k).length := by rw [lnt_len l k (by rw [← (unhide HS).1]; exact hk1) (by rw [← (unhide HS).1]; exact hk2)]; have := (unhide HS).1; omega
            obtain ⟨c0, c1⟩ := (unhide XB).1.wat k hlen
            have f0 : wo.frozen? ⟨g, k * 2, none⟩ = false := (unhide XB).1.frozen (k * 2)
            have f1 : wo.frozen? ⟨g, k * 2 + 1, none⟩ = false := (unhide XB).1.frozen (k * 2 + 1)
            generalize ((lnt l k).getD k wr0).1 = oz at *
            generalize ((lnt l k).getD k wr0).2 = ot at *
            have HN := hide (show Blk ((wo.setCell ⟨g, k * 2, none⟩ (.int .i64 (-77))).setCell ⟨g, k * 2 + 1, none⟩ (.string ⟨#[]⟩)) g (wrv (lnt l (k + 1))).toArray 49 ∧ Below g w ((wo.setCell ⟨g, k * 2, none⟩ (.int .i64 (-77))).setCell ⟨g, k * 2 + 1, none⟩ (.string ⟨#[]⟩)) from by
              refine ⟨?_, ?_⟩
              · have := (unhide XB).1.wset k hlen w77
                rw [lnt_step l k (by rw [← (unhide HS).1]; exact hk1) (by rw [← (unhide HS).1]; exact hkl)] at this
                exact this
              · have hgg : w.heap.size = g := unhide HG
                exact ((unhide XB).2.setCell (show g ≤ g from Nat.le_refl _) _).setCell (show g ≤ g from Nat.le_refl _) _)
            clear hlen
            go_wp2
            go_roundw
            case rel => exact ⟨k + 1, by omega, by omega, by go_num, unhide HN⟩
            case measure => simp [intOf]; omega
        · as_aux_lemma =>
            have hkl' : ¬ (k : Int) < ((m + 20 : Nat) : Int) := by omega
            obtain rfl : k = m + 20 := by omega
            have HF := hide (unhide XB)
            go_wp2
            go_ret
            exact ⟨rfl, unhide HF⟩
  · as_aux_lemma =>
      obtain ⟨g2, o2, rfl, hg2, -, -⟩ := (unhide HS).2 0 (by have := (unhide HS).1; omega)
      have hsrc : ∀ j v, (wrv l)[j]? = some v → x1.cell? ((⟨g2, o2, none⟩ : Addr).add j) = some v := fun j v hv => by
        have hj : j < l.length * 2 := by
          rw [← wrv_len]
          exact (List.getElem?_eq_some_iff.1 hv).1
        obtain ⟨g3, o3, e3, hg3, q1, q2⟩ := (unhide HS).2 (j / 2) (by omega)
        injection e3 with e3
        injection e3 with e4 e5
        subst e4 e5
        obtain ⟨r1, r2⟩ := wrv_at l (j / 2) (by omega)
        rw [Addr.add_mid]
        by_cases hm2 : j % 2 = 0
        · have ej : j = j / 2 * 2 := by omega
          rw [ej] at hv ⊢
          rw [r1] at hv
          rw [(unhide HB1).2.cell (p := ⟨g2, o2 + j / 2 * 2, none⟩) hg3, q1, hv]
        · have ej : j = j / 2 * 2 + 1 := by omega
          rw [ej] at hv ⊢
          rw [r2] at hv
          rw [← Nat.add_assoc, (unhide HB1).2.cell (p := ⟨g2, o2 + j / 2 * 2 + 1, none⟩) hg3, q2, hv]
      have HSRC := hide hsrc
      clear hsrc h0
      go_wp2_with (refine wpList_copy_w rfl (.tmp 9) (.tmp 10) rfl (no := 0) (unhide HB1).1 m (unhide HS).1 (by rw [List.length_replicate]; omega) (m + 20) (m + 20) m c ⟨g2, o2, none⟩ rfl rfl (Nat.min_eq_left (Nat.le_add_right m 20)).symm (unhide HSRC) ?_)
      intro x2 hB2 hO2
      have HX2 := hide (show Blk x2 g (wrv (lnt l m)).toArray 49 ∧ Below g w x2 from by
        have e1 : lnt l m = l ++ List.replicate 20 wr0 := by
          rw [lnt, (unhide HS).1, Nat.sub_self, show l.length + 20 - l.length = 20 by omega]
          rfl
        refine ⟨by rw [e1]; exact hB2, ?_⟩
        have hh := (unhide HB1).2
        rw [unhide HG] at hh
        have hgg : w.heap.size = g := unhide HG
        exact hh.trans (hO2.below (by have := hh.size; omega) (fun k hk e => by omega)))
      clear hB2 hO2 HSRC
      go_wp2_with fail
      go_loopw [4] (fun iv wr => ∃ k : Nat, m ≤ k ∧ k ≤ m + 20 ∧ iv = .int .i64 (k : Int) ∧ Blk wr g (wrv (lnt l k)).toArray 49 ∧ Below g w wr) (fun iv _ => m + 20 - (intOf iv).toNat)
      case atStart => exact ⟨m, by omega, by omega, rfl, unhide HX2⟩
      case round =>
        obtain ⟨k, hk1, hk2, rfl, hB, hb⟩ := hrel
        obtain ⟨wo, rfl⟩ : ∃ wo, wo = wr := ⟨_, rfl⟩
        have XB := hide (And.intro hB hb)
        clear hB hb HX2
        by_cases hkl : k < m + 20
        · as_aux_lemma =>
            have hkl' : (k : Int) < ((m + 20 : Nat) : Int) := by omega
            have i0 : (0 : Int) ≤ (k : Int) := by omega
            have hlen : k < (lnt l k).length := by rw [lnt_len l k (by rw [← (unhide HS).1]; exact hk1) (by rw [← (unhide HS).1]; exact hk2)]; have := (unhide HS).1; omega
            obtain ⟨c0, c1⟩ := (unhide XB).1.wat k hlen
            have f0 : wo.frozen? ⟨g, k * 2, none⟩ = false := (unhide XB).1.frozen (k * 2)
            have f1 : wo.frozen? ⟨g, k * 2 + 1, none⟩ = false := (unhide XB).1.frozen (k * 2 + 1)
            generalize ((lnt l k).getD k wr0).1 = oz at *
            generalize ((lnt l k).getD k wr0).2 = ot at *
            have HN := hide (show Blk ((wo.setCell ⟨g, k * 2, none⟩ (.int .i64 (-77))).setCell ⟨g, k * 2 + 1, none⟩ (.string ⟨#[]⟩)) g (wrv (lnt l (k + 1))).toArray 49 ∧ Below g w ((wo.setCell ⟨g, k * 2, none⟩ (.int .i64 (-77))).setCell ⟨g, k * 2 + 1, none⟩ (.string ⟨#[]⟩)) from by
              refine ⟨?_, ?_⟩
              · have := (unhide XB).1.wset k hlen w77
                rw [lnt_step l k (by rw [← (unhide HS).1]; exact hk1) (by rw [← (unhide HS).1]; exact hkl)] at this
                exact this
              · have hgg : w.heap.size = g := unhide HG
                exact ((unhide XB).2.setCell (show g ≤ g from Nat.le_refl _) _).setCell (show g ≤ g from Nat.le_refl _) _)
            clear hlen
            go_wp2
            go_roundw
            case rel => exact ⟨k + 1, by omega, by omega, by go_num, unhide HN⟩
            case measure => simp [intOf]; omega
        · as_aux_lemma =>
            have hkl' : ¬ (k : Int) < ((m + 20 : Nat) : Int) := by omega
            obtain rfl : k = m + 20 := by omega
            have HF := hide (unhide XB)
            go_wp2
            go_ret
            exact ⟨rfl, unhide HF⟩
theorem lnt_mark (l : List Wr1) (k : Nat) (h1 : l.length ≤ k) (h2 : k < l.length + 20) : (lnt l (l.length + 20)).getD k wr0 = w77 := by
  unfold lnt
  rw [List.getD_eq_getElem?_getD, List.getElem?_append_right h1, List.getElem?_append_left (by simp; omega), List.getElem?_replicate, if_pos (by omega)]
  rfl
theorem lnt_at (l : List Wr1) (k : Nat) (h1 : k < l.length) (q : Nat) : (lnt l q).getD k wr0 = l.getD k wr0 := by
  unfold lnt
  rw [List.getD_eq_getElem?_getD, List.getElem?_append_left h1, List.getD_eq_getElem?_getD]
/-- the list that was lent, as far as it was looked at -/
def KpI (l : List Wr1) (g m : Nat) (w : World) (k : Nat) (wr : World) : Prop := ∃ D, Blk wr g (wrv D).toArray 49 ∧ D.length = m + 20 ∧ (∀ j, k ≤ j → j < m → D.getD j wr0 = l.getD j wr0) ∧ Only (fun q => q = g) w wr
set_option maxHeartbeats 4000000 in
theorem kept5 (w : World) (g m c : Nat) (p : Option Addr) (l : List Wr1) (hm : m = l.length) (hB : Blk w g (wrv (lnt l (m + 20))).toArray 49) (hl : Wls w p l) (hpg : ∀ g2 o, p = some ⟨g2, o, none⟩ → 0 < l.length → g2 ≠ g) (hm2 : m ≤ 7000000) :
    Calls Tryz.prog 34 #[.slice (some ⟨g, 0, none⟩) (m + 20) (m + 20), .slice p m c] w fun e w' => e = .returned (.bool true) ∧ Only (fun k => k = g) w w' := by
  have HS := hide (And.intro hm (And.intro hl hpg))
  have HB := hide hB
  clear hm hB hl hpg
  go_enter Tryz.func34, Tryz.ntmps34
  go_wp2
  go_loopw [5, 6] (fun okv iv wr => ∃ k : Nat, m ≤ k ∧ k ≤ m + 20 ∧ okv = .bool true ∧ iv = .int .i64 (k : Int) ∧ wr = w) (fun _ iv _ => m + 20 - (intOf iv).toNat)
  case atStart => exact ⟨m, by omega, by omega, rfl, rfl, rfl⟩
  case round =>
    obtain ⟨k, hk1, hk2, rfl, rfl, rfl⟩ := hrel
    by_cases hkl : k < m + 20
    · as_aux_lemma =>
        have hkl' : (k : Int) < ((m + 20 : Nat) : Int) := by omega
        have i0 : (0 : Int) ≤ (k : Int) := by omega
        obtain ⟨c0, c1⟩ := (unhide HB).wat k (by rw [lnt_len l (m + 20) (by have := (unhide HS).1; omega) (by have := (unhide HS).1; omega)]; have := (unhide HS).1; omega)
        have e7 : (lnt l (m + 20)).getD k wr0 = w77 := by
          have := lnt_mark l k (by have := (unhide HS).1; omega) (by have := (unhide HS).1; omega)
          rw [← (unhide HS).1] at this
          exact this
        rw [e7] at c0 c1
        have c0' : wr.cell? ⟨g, k * 2, none⟩ = some (.int .i64 (-77)) := c0
        have c1' : wr.cell? ⟨g, k * 2 + 1, none⟩ = some (.string ⟨#[]⟩) := c1
        clear e7 c0 c1
        go_wp2
        go_roundw
        case rel => exact ⟨k + 1, by omega, by omega, rfl, by go_num, by first | rfl | trivial⟩
        case measure => simp [intOf]; omega
    · as_aux_lemma =>
        have hkl' : ¬ (k : Int) < ((m + 20 : Nat) : Int) := by omega
        have X0 := hide (show KpI l g m wr 0 wr from ⟨_, unhide HB, by rw [lnt_len l (m + 20) (by have := (unhide HS).1; omega) (by have := (unhide HS).1; omega), ← (unhide HS).1], fun j _ hj => lnt_at l j (by rw [← (unhide HS).1]; exact hj) _, Only.refl _ _⟩)
        obtain ⟨w9, rfl⟩ : ∃ q, q = wr := ⟨_, rfl⟩
        go_wp2
        go_loopw [5, 7] (fun okv iv wr => ∃ k : Nat, k ≤ m ∧ okv = .bool true ∧ iv = .int .i64 (k : Int) ∧ KpI l g m w9 k wr) (fun _ iv _ => m - (intOf iv).toNat)
        case atStart => exact ⟨0, by omega, rfl, rfl, unhide X0⟩
        case round =>
          obtain ⟨j, hj, rfl, rfl, D, hD, hDl, hDe, hO⟩ := hrel
          obtain ⟨wo, rfl⟩ : ∃ wo, wo = wr := ⟨_, rfl⟩
          have XI := hide (And.intro hD (And.intro hDl (And.intro hDe hO)))
          clear hD hDl hDe hO X0
          by_cases hjm : j < m
          · as_aux_lemma =>
              have hjm' : (j : Int) < (m : Int) := by omega
              have hjm2 : (j : Int) < ((m + 20 : Nat) : Int) := by omega
              have hjm3 : (j : Int) < (m : Int) + 20 := by omega
              have i0 : (0 : Int) ≤ (j : Int) := by omega
              have hjD : j < D.length := by rw [(unhide XI).2.1]; omega
              obtain ⟨c0, c1⟩ := (unhide XI).1.wat j hjD
              rw [(unhide XI).2.2.1 j (Nat.le_refl _) hjm] at c0 c1
              obtain ⟨g2, o2, rfl, hg2, d0, d1⟩ := (unhide HS).2.1 j (by rw [← (unhide HS).1]; exact hjm)
              have hne := (unhide HS).2.2 g2 o2 rfl (by have := (unhide HS).1; omega)
              have e0 := (World.cell?_of_block (a := ⟨g2, o2 + j * 2, none⟩) ((unhide XI).2.2.2.2 g2 hg2 hne)).trans d0
              have e1 := (World.cell?_of_block (a := ⟨g2, o2 + j * 2 + 1, none⟩) ((unhide XI).2.2.2.2 g2 hg2 hne)).trans d1
              generalize (l.getD j wr0).1 = z at *
              generalize (l.getD j wr0).2 = t at *
              have zz : (z == z) = true := by simp
              have tt : (t.toList == t.toList) = true := by simp
              clear d0 d1 hne
              go_wp2_with fail
              go_quiet (fail)
              obtain ⟨wd, hwd⟩ : ∃ q, wo.drewN nq = q := ⟨_, rfl⟩
              rw [hwd]
              have bD : Blk wd g (wrv D).toArray 49 := by rw [← hwd]; exact (unhide XI).1.below (below_drewN (Below.refl wo.heap.size wo) _) (unhide XI).1.lt
              have oD : Only (fun q => q = g) w9 wd := by rw [← hwd]; exact (unhide XI).2.2.2.drewN _
              obtain ⟨k0, k1⟩ := bD.wat j hjD
              have f0 : wd.frozen? ⟨g, j * 2, none⟩ = false := bD.frozen (j * 2)
              have f1 : wd.frozen? ⟨g, j * 2 + 1, none⟩ = false := bD.frozen (j * 2 + 1)
              have HN := hide (show KpI l g m w9 (j + 1) ((wd.setCell ⟨g, j * 2, none⟩ (.int .i64 25)).setCell ⟨g, j * 2 + 1, none⟩ (.string ⟨#[111, 118, 101, 114]⟩)) from by
                refine ⟨D.set j wOv, bD.wset j hjD wOv, by rw [List.length_set]; exact (unhide XI).2.1, fun i h1 h2 => ?_, (oD.setCell ⟨g, j * 2, none⟩ _ (fun _ => rfl)).setCell ⟨g, j * 2 + 1, none⟩ _ (fun _ => rfl)⟩
                rw [List.getD_eq_getElem?_getD, List.getElem?_set_ne (by omega), ← List.getD_eq_getElem?_getD]
                exact (unhide XI).2.2.1 i (by omega) h2)
              generalize (D.getD j wr0).1 = oz at *
              generalize (D.getD j wr0).2 = ot at *
              clear hwd bD oD c0 c1 e0 e1
              go_wp2
              go_roundw
              case rel => exact ⟨j + 1, by omega, rfl, by go_num, unhide HN⟩
              case measure => simp [intOf]; omega
          · as_aux_lemma =>
              have hjm' : ¬ (j : Int) < (m : Int) := by omega
              have HF := hide (unhide XI).2.2.2
              go_wp2
              go_ret
              exact ⟨rfl, unhide HF⟩
end Go.Proofs.YtffiaogbphgmgaaGreatDoor

namespace Go.Proofs.YtffiaogbphgmgaaGreatDoor
open Go.RowKit
set_option maxRecDepth 100000
theorem setB_eq (n : Nat) (hn : n < 4294967296) (l : List Int) (hl : l.length = 16) : makeB 2 (n : Int) (strOfNums ([1] ++ outN 4 (l.take 16))) = headB n l := by
  have e1 : l.take 16 = l := List.take_of_length_le (by omega)
  have e2 : headL l = [1] ++ outN 4 l := by rw [headL, if_neg (by omega)]
  have e3 : nums (strOfNums (headL l)) = headL l := nums_strOfNums _ (headL_bytes l)
  have e4 : (strOfNums (headL l)).size = 65 := by rw [strOfNums_size, e2, List.length_append, outN_len, hl]; rfl
  rw [e1, ← e2, makeB, e3, headB, if_pos]
  rw [e4, errM, if_neg, if_neg (by omega)]
  intro q
  rcases q with q | q
  · exact q ⟨by decide, by decide⟩
  · exact q ⟨by omega, by simp; omega⟩
set_option maxHeartbeats 2000000 in
/-- A head that is set: the program's own. -/
theorem rset_any (n : Nat) (hn : n < 4294967296) (p : Option Addr) (c : Nat) (l : List Int) (hl : l.length = 16) (w : World) (hI : Ints w p l) (hB : ∀ z ∈ l, 0 ≤ z ∧ z < 4294967296) :
    Calls Tryz.prog 38 #[.int .i64 (n : Int), .slice p 16 c] w fun e w' => e = .returned (.string (headB n l)) ∧ Below w.heap.size w w' := by
  have HL := hide (And.intro hl (And.intro hI hB))
  have X0 := hide (Below.refl w.heap.size w)
  have HHB := hide (setB_eq n hn l hl)
  obtain ⟨hb16, ehb⟩ : ∃ z, headB n l = z := ⟨_, rfl⟩
  rw [ehb] at HHB ⊢
  clear hl hI hB ehb
  go_enter Tryz.func38, Tryz.ntmps38
  go_wp2
  go_loopw [5, 6, 7] (fun s i _ wr => ∃ (j : Nat) (t : ByteArray), j ≤ 16 ∧ i = .int .i64 (j : Int) ∧ s = .string t ∧ t = strOfNums ([1] ++ outN 4 (l.take j)) ∧ Below w.heap.size w wr) (fun _ i _ _ => 16 - (intOf i).toNat)
  case atStart => exact ⟨0, _, by omega, rfl, rfl, rfl, unhide X0⟩
  case round =>
    obtain ⟨j, t, hj, rfl, rfl, ht, hb⟩ := hrel
    obtain ⟨wo, rfl⟩ : ∃ wo, wo = wr := ⟨_, rfl⟩
    have HBE := hide hb
    have HT := hide ht
    clear hb X0 ht
    by_cases hj16 : j < 16
    · have j16 : (j : Int) < 16 := by omega
      obtain ⟨hl, hI, hB⟩ := unhide HL
      obtain ⟨g, o, rfl, hg, hc⟩ := hI j (by omega)
      have cj : wo.cell? ⟨g, o + j, none⟩ = some (.int .i64 (l.getD j 0)) := by rw [(unhide HBE).cell (p := ⟨g, o + j, none⟩) hg]; exact hc
      have hz := hB (l.getD j 0) (by rw [List.getD_eq_getElem?_getD, List.getElem?_eq_getElem (by omega)]; exact List.getElem_mem _)
      obtain ⟨z, hzn⟩ := Int.eq_ofNat_of_zero_le hz.1
      have HSN := hide (show strOfNums ([1] ++ outN 4 (l.take (j + 1))) = t ++ strOfNums (numB (z : Int) 4) from by rw [outN_snoc 4 l j (by omega), hzn, ← List.append_assoc, strOfNums_app, ← unhide HT])
      have HSZ := hide (show t.size ≤ 65 from by rw [unhide HT, strOfNums_size, List.length_append, outN_len, List.length_take]; simp; omega)
      rw [hzn] at cj hz
      have HRB := hide (rbytes_any z 4 (by omega) (by decide) wo)
      obtain ⟨u, hu⟩ : ∃ q, strOfNums (numB (z : Int) 4) = q := ⟨_, rfl⟩
      have hus : u.size = 4 := by rw [← hu, strOfNums_size, numB_len]
      rw [hu] at HRB HSN
      have y1 : ¬ 9223372036854775807 < t.size + u.size := by have := unhide HSZ; omega
      clear hl hI hB hc hz hzn hu hus
      have i0 : (0 : Int) ≤ (j : Int) := by omega
      go_wp2_with fail
      refine (unhide HRB).mono ?_
      rintro e x1 ⟨rfl, hb1⟩
      have HB1 := hide (show Below w.heap.size w x1 from (unhide HBE).trans (hb1.mono (unhide HBE).size))
      clear hb1 HRB cj
      go_wp2
      go_roundw
      case rel => exact ⟨j + 1, _, by omega, by go_num, rfl, (unhide HSN).symm, unhide HB1⟩
      case measure => simp [intOf]; omega
    · have j16 : ¬ (j : Int) < 16 := by omega
      have ej : j = 16 := by omega
      have HMK := hide (rmake_any 2 (n : Int) t wo)
      have HTT := hide (show makeB 2 (n : Int) t = hb16 from by rw [unhide HT, ej]; exact unhide HHB)
      rw [unhide HTT] at HMK
      clear ej
      go_wp2_with fail
      refine (unhide HMK).mono ?_
      rintro e x1 ⟨rfl, hb1⟩
      have HB1 := hide (show Below w.heap.size w x1 from (unhide HBE).trans (hb1.mono (unhide HBE).size))
      clear hb1 HMK HTT HT HHB
      go_wp2
      go_ret
      exact ⟨rfl, unhide HB1⟩
end Go.Proofs.YtffiaogbphgmgaaGreatDoor

namespace Go.Proofs.YtffiaogbphgmgaaGreatDoor
open Go.RowKit Go.Maps Go.Sort Go.Shelf
theorem any_at {q : Wr1 → Bool} {l : List Wr1} (k : Nat) (hk : k < l.length) (h : q (l.getD k wr0) = true) : l.any q = true := by
  rw [List.any_eq_true]
  exact ⟨l[k], List.getElem_mem hk, by rw [getD_of hk] at h; exact h⟩
theorem any_not {q : Wr1 → Bool} {l : List Wr1} (h : ∀ k, k < l.length → q (l.getD k wr0) = false) : l.any q = false := by
  rw [List.any_eq_false]
  intro x hx
  obtain ⟨k, hk, rfl⟩ := List.mem_iff_getElem.1 hx
  have := h k hk
  rw [getD_of hk] at this
  simp [this]
theorem secs_nodup {l : List Wr1} (h : ∀ i j, j < i → i < l.length → (l.getD j wr0).1 ≠ (l.getD i wr0).1) : (secs l).Nodup := by
  rw [List.Nodup, List.pairwise_iff_getElem]
  intro i j hi hj hij
  have hi' : i < l.length := by simpa [secs] using hi
  have hj' : j < l.length := by simpa [secs] using hj
  have := h j i hij hj'
  rw [getD_of hi', getD_of hj'] at this
  simpa [secs] using this
theorem secs_twice {l : List Wr1} (i j : Nat) (hij : j < i) (hi : i < l.length) (e : (l.getD j wr0).1 = (l.getD i wr0).1) : ¬ (secs l).Nodup := fun h => by
  rw [List.Nodup, List.pairwise_iff_getElem] at h
  have hj : j < l.length := by omega
  have := h j i (by simpa [secs] using hj) (by simpa [secs] using hi) hij
  rw [getD_of hi, getD_of hj] at e
  simp [secs] at this
  exact this e
set_option maxRecDepth 100000 in
set_option maxHeartbeats 2000000 in
theorem rrefused_any (w : World) (base b jb n : Nat) (lost : Bool) (v : RV) (s : DSt) (h : Rk w base b v s) (hJ : Rj w jb b n lost) (p : Option Addr) (c : Nat) (l : List Wr1) (m : Nat) (hm : m = l.length) (hl : Wls w p l) :
    Calls Tryz.prog 78 #[.pointer (some ⟨jb, 0, none⟩), .slice p m c] w fun e w' => e = .returned (.int .i64 (refE l (s.last.length : Int))) ∧ Below w.heap.size w w' := by
  obtain ⟨pl, cl, hvl, _⟩ := row_form h.rl
  have j0 : w.cell? ⟨jb, 0, none⟩ = some (.pointer (some ⟨b, 0, none⟩)) := by rw [Blk.cell hJ 0]; rfl
  have d0 : w.cell? ⟨b, 0, none⟩ = some (.slice pl s.last.length cl) := by rw [h.blk.cell 0, hvl]; rfl
  obtain ⟨sz, hsz⟩ : ∃ q, s.last.length = q := ⟨_, rfl⟩
  rw [hsz] at d0 ⊢
  have HC := hide (And.intro j0 (And.intro (Blk.lt hJ) (And.intro d0 h.blk.lt)))
  have HL := hide (And.intro hm hl)
  clear h hJ hvl hsz j0 d0 hm hl
  by_cases h16 : 16 < m
  · have h16' : (16 : Int) < (m : Int) := by omega
    have HE := hide (show refE l (sz : Int) = 50 from by rw [refE, if_pos (by rw [← (unhide HL).1]; exact h16)])
    clear h16
    go_enter Tryz.func78, Tryz.ntmps78
    go_wp2
    go_ret
    exact ⟨by rw [unhide HE]; rfl, Below.refl _ _⟩
  · have h16' : ¬ (16 : Int) < (m : Int) := by omega
    go_enter Tryz.func78, Tryz.ntmps78
    go_wp2
    go_loopw [5] (fun i wr => ∃ k : Nat, k ≤ m ∧ i = .int .i64 (k : Int) ∧ Below w.heap.size w wr ∧ ∀ i, i < k → freeP (sz : Int) (l.getD i wr0) = false) (fun i _ => m - (intOf i).toNat)
    case atStart => exact ⟨0, by omega, rfl, Below.refl _ _, fun i hi => absurd hi (Nat.not_lt_zero i)⟩
    case round =>
      obtain ⟨k, hk, rfl, hB, hF⟩ := hrel
      obtain ⟨wo, rfl⟩ : ∃ wo, wo = wr := ⟨_, rfl⟩
      have HB := hide hB
      have HF := hide hF
      clear hF
      by_cases hkn : k < m
      · have hkn' : (k : Int) < (m : Int) := by omega
        have k0 : (0 : Int) ≤ (k : Int) := by omega
        obtain ⟨g, oo, rfl, hgl, q0, _⟩ := (unhide HL).2 k (by rw [← (unhide HL).1]; exact hkn)
        have a0 : wo.cell? ⟨g, oo + k * 2, none⟩ = some (.int .i64 (l.getD k wr0).1) := by rw [hB.cell (p := ⟨g, _, none⟩) hgl]; exact q0
        have a1 : wo.cell? ⟨jb, 0, none⟩ = some (.pointer (some ⟨b, 0, none⟩)) := by rw [hB.cell (p := ⟨jb, 0, none⟩) (unhide HC).2.1]; exact (unhide HC).1
        have a2 : wo.cell? ⟨b, 0, none⟩ = some (.slice pl sz cl) := by rw [hB.cell (p := ⟨b, 0, none⟩) (unhide HC).2.2.2]; exact (unhide HC).2.2.1
        have HX := hide (show freeP (sz : Int) (l.getD k wr0) = !decide (19 ≤ (l.getD k wr0).1 ∧ (l.getD k wr0).1 < (sz : Int)) from rfl)
        obtain ⟨z, hz⟩ : ∃ z, (l.getD k wr0).1 = z := ⟨_, rfl⟩
        rw [hz] at a0 HX
        clear hB hgl q0 hz
        by_cases c1 : z < 19
        · have d1 : decide (z < 19) = true := decide_eq_true c1
          have HE := hide (show refE l (sz : Int) = 52 from by
            rw [refE, if_neg (by rw [← (unhide HL).1]; exact h16), if_pos (any_at k (by rw [← (unhide HL).1]; exact hkn) (by rw [unhide HX]; simp; omega))])
          clear c1
          go_wp2_with fail
          go_quiet (fail)
          go_wp2
          go_ret
          exact ⟨by rw [unhide HE]; rfl, below_drewN (unhide HB) _⟩
        · have d1 : decide (z < 19) = false := decide_eq_false c1
          by_cases c2 : (sz : Int) ≤ z
          · have d2 : decide ((sz : Int) ≤ z) = true := decide_eq_true c2
            have HE := hide (show refE l (sz : Int) = 52 from by
              rw [refE, if_neg (by rw [← (unhide HL).1]; exact h16), if_pos (any_at k (by rw [← (unhide HL).1]; exact hkn) (by rw [unhide HX]; simp; omega))])
            clear c1 c2
            go_wp2_with fail
            go_quiet (fail)
            go_wp2
            go_ret
            exact ⟨by rw [unhide HE]; rfl, below_drewN (unhide HB) _⟩
          · have d2 : decide ((sz : Int) ≤ z) = false := decide_eq_false c2
            have HN := hide (show freeP (sz : Int) (l.getD k wr0) = false from by rw [unhide HX]; simp; omega)
            clear c1 c2
            go_wp2_with fail
            go_quiet (fail)
            go_wp2
            go_roundw
            case rel => exact ⟨k + 1, by omega, by go_num, below_drewN (unhide HB) _, fun i hi => by
              rcases Nat.lt_or_ge i k with q | q
              · exact unhide HF i q
              · rw [show i = k by omega]; exact unhide HN⟩
            case measure => simp [intOf]; omega
      · have hkn' : ¬ (k : Int) < (m : Int) := by omega
        have HNO := hide (show l.any (freeP (sz : Int)) = false from any_not (fun i hi => unhide HF i (by have := (unhide HL).1; omega)))
        clear hB HF
        go_wp2
        go_loopw [6] (fun i wr => ∃ k : Nat, k ≤ m ∧ i = .int .i64 (k : Int) ∧ Below w.heap.size w wr ∧ ∀ i j, j < i → i < k → (l.getD j wr0).1 ≠ (l.getD i wr0).1) (fun i _ => m - (intOf i).toNat)
        case atStart => exact ⟨0, by omega, rfl, unhide HB, fun i j _ hi => absurd hi (Nat.not_lt_zero i)⟩
        case round =>
          obtain ⟨k2, hk2, rfl, hB2, hF2⟩ := hrel
          obtain ⟨wp, rfl⟩ : ∃ wo, wo = wr := ⟨_, rfl⟩
          clear HB
          have HB2 := hide hB2
          have HF2 := hide hF2
          clear hF2 hB2
          by_cases hkn2 : k2 < m
          · have hkn2' : (k2 : Int) < (m : Int) := by omega
            have k20 : (0 : Int) ≤ (k2 : Int) := by omega
            go_wp2
            go_loopw [7] (fun i wr => ∃ k : Nat, k ≤ k2 ∧ i = .int .i64 (k : Int) ∧ Below w.heap.size w wr ∧ ∀ j, j < k → (l.getD j wr0).1 ≠ (l.getD k2 wr0).1) (fun i _ => k2 - (intOf i).toNat)
            case atStart => exact ⟨0, by omega, rfl, unhide HB2, fun j hj => absurd hj (Nat.not_lt_zero j)⟩
            case round =>
              obtain ⟨k3, hk3, rfl, hB3, hF3⟩ := hrel
              obtain ⟨wq, rfl⟩ : ∃ wo, wo = wr := ⟨_, rfl⟩
              have HB3 := hide hB3
              have HF3 := hide hF3
              clear hF3
              by_cases hkn3 : k3 < k2
              · have hkn3' : (k3 : Int) < (k2 : Int) := by omega
                have hkm : (k3 : Int) < (m : Int) := by omega
                have k30 : (0 : Int) ≤ (k3 : Int) := by omega
                obtain ⟨g, oo, rfl, hgl, q0, _⟩ := (unhide HL).2 k3 (by rw [← (unhide HL).1]; omega)
                obtain ⟨g', oo', e', _, q1, _⟩ := (unhide HL).2 k2 (by rw [← (unhide HL).1]; omega)
                obtain ⟨rfl, rfl⟩ : g = g' ∧ oo = oo' := by simpa using e'
                have a0 : wq.cell? ⟨g, oo + k3 * 2, none⟩ = some (.int .i64 (l.getD k3 wr0).1) := by rw [hB3.cell (p := ⟨g, _, none⟩) hgl]; exact q0
                have a1 : wq.cell? ⟨g, oo + k2 * 2, none⟩ = some (.int .i64 (l.getD k2 wr0).1) := by rw [hB3.cell (p := ⟨g, _, none⟩) hgl]; exact q1
                obtain ⟨z1, hz1⟩ : ∃ z, (l.getD k3 wr0).1 = z := ⟨_, rfl⟩
                obtain ⟨z2, hz2⟩ : ∃ z, (l.getD k2 wr0).1 = z := ⟨_, rfl⟩
                rw [hz1] at a0
                rw [hz2] at a1
                have HZ := hide (And.intro hz1 hz2)
                clear hB3 q0 q1 e' hgl hz1 hz2
                by_cases ce : z1 = z2
                · have d1 : (z1 == z2) = true := by simpa using ce
                  have HE := hide (show refE l (sz : Int) = 51 from by
                    rw [refE, if_neg (by rw [← (unhide HL).1]; exact h16), if_neg (by rw [unhide HNO]; decide), if_pos (secs_twice k2 k3 hkn3 (by rw [← (unhide HL).1]; exact hkn2) (by rw [(unhide HZ).1, (unhide HZ).2]; exact ce))])
                  clear ce
                  go_wp2_with fail
                  go_quiet (fail)
                  go_wp2
                  go_ret
                  exact ⟨by rw [unhide HE]; rfl, below_drewN (unhide HB3) _⟩
                · have d1 : (z1 == z2) = false := by simpa using ce
                  have HN := hide (show (l.getD k3 wr0).1 ≠ (l.getD k2 wr0).1 from by rw [(unhide HZ).1, (unhide HZ).2]; exact ce)
                  clear ce
                  go_wp2_with fail
                  go_quiet (fail)
                  go_wp2
                  go_roundw
                  case rel => exact ⟨k3 + 1, by omega, by go_num, below_drewN (unhide HB3) _, fun i hi => by
                    rcases Nat.lt_or_ge i k3 with q | q
                    · exact unhide HF3 i q
                    · rw [show i = k3 by omega]; exact unhide HN⟩
                  case measure => simp [intOf]; omega
              · have hkn3' : ¬ (k3 : Int) < (k2 : Int) := by omega
                clear hB3
                go_wp2
                go_roundw
                case rel => exact ⟨k2 + 1, by omega, by go_num, unhide HB3, fun i j hij hi => by
                  rcases Nat.lt_or_ge i k2 with q | q
                  · exact unhide HF2 i j hij q
                  · rw [show i = k2 by omega]; exact unhide HF3 j (by omega)⟩
                case measure => simp [intOf]; omega
          · have hkn2' : ¬ (k2 : Int) < (m : Int) := by omega
            have HND := hide (show (secs l).Nodup from secs_nodup (fun i j hij hi => unhide HF2 i j hij (by have := (unhide HL).1; omega)))
            clear HF2
            go_wp2
            go_loopw [8] (fun i wr => ∃ k : Nat, k ≤ m ∧ i = .int .i64 (k : Int) ∧ Below w.heap.size w wr ∧ ∀ i, i < k → longP (l.getD i wr0) = false) (fun i _ => m - (intOf i).toNat)
            case atStart => exact ⟨0, by omega, rfl, unhide HB2, fun i hi => absurd hi (Nat.not_lt_zero i)⟩
            case round =>
              obtain ⟨k4, hk4, rfl, hB4, hF4⟩ := hrel
              obtain ⟨wt, rfl⟩ : ∃ wo, wo = wr := ⟨_, rfl⟩
              clear HB2
              have HB4 := hide hB4
              have HF4 := hide hF4
              clear hF4
              by_cases hkn4 : k4 < m
              · have hkn4' : (k4 : Int) < (m : Int) := by omega
                have k40 : (0 : Int) ≤ (k4 : Int) := by omega
                obtain ⟨g, oo, rfl, hgl, _, q1⟩ := (unhide HL).2 k4 (by rw [← (unhide HL).1]; exact hkn4)
                have a1 : wt.cell? ⟨g, oo + k4 * 2 + 1, none⟩ = some (.string (l.getD k4 wr0).2) := by rw [hB4.cell (p := ⟨g, _, none⟩) hgl]; exact q1
                have HX := hide (show longP (l.getD k4 wr0) = decide ((l.getD k4 wr0).2.size ≠ 256) from rfl)
                obtain ⟨t, ht⟩ : ∃ z, (l.getD k4 wr0).2 = z := ⟨_, rfl⟩
                rw [ht] at a1 HX
                clear hB4 hgl q1 ht
                by_cases ce : t.size = 256
                · have d1 : ((t.size : Int) != 256) = false := by rw [ce]; rfl
                  have HN := hide (show longP (l.getD k4 wr0) = false from by rw [unhide HX]; simpa using ce)
                  clear ce
                  go_wp2
                  go_roundw
                  case rel => exact ⟨k4 + 1, by omega, by go_num, unhide HB4, fun i hi => by
                    rcases Nat.lt_or_ge i k4 with q | q
                    · exact unhide HF4 i q
                    · rw [show i = k4 by omega]; exact unhide HN⟩
                  case measure => simp [intOf]; omega
                · have d1 : ((t.size : Int) != 256) = true := by simp; omega
                  have HE := hide (show refE l (sz : Int) = 42 from by
                    rw [refE, if_neg (by rw [← (unhide HL).1]; exact h16), if_neg (by rw [unhide HNO]; decide), if_neg (fun q => q (unhide HND)), if_pos (any_at k4 (by rw [← (unhide HL).1]; exact hkn4) (by rw [unhide HX]; simpa using ce))])
                  clear ce
                  go_wp2
                  go_ret
                  exact ⟨by rw [unhide HE]; rfl, unhide HB4⟩
              · have hkn4' : ¬ (k4 : Int) < (m : Int) := by omega
                have HE := hide (show refE l (sz : Int) = 0 from by
                  rw [refE, if_neg (by rw [← (unhide HL).1]; exact h16), if_neg (by rw [unhide HNO]; decide), if_neg (fun q => q (unhide HND)), if_neg (by rw [any_not (q := longP) (fun i hi => unhide HF4 i (by have := (unhide HL).1; omega))]; decide)])
                clear hB4
                go_wp2
                go_ret
                exact ⟨by rw [unhide HE]; rfl, unhide HB4⟩
end Go.Proofs.YtffiaogbphgmgaaGreatDoor
