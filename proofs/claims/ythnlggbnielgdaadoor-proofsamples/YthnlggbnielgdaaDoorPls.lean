import Derived.Test.YthnlggbnielgdaaDoorBlk
import Derived.Test.YthnlggbnielgdaaDoorPlf
import Derived.Lib.SliceRun
namespace Go.Proofs.YthnlggbnielgdaaDoor
open Go.RowKit Go.Conc
set_option maxRecDepth 100000
/-- Another cell of a row of one's own. -/
theorem owns_set {w : World} {base : Nat} {e : TypeId} {k n : Nat} {v : Value} {xs : List Value} (h : w.ownsRow base e k v n xs) {g : Nat} (hv : v.ownBlock = some g) (j : Nat) (u : Value) : (w.setCell ⟨g, j, none⟩ u).ownsRow base e k v n (xs.set j u) := by
  refine ⟨by rw [List.length_set]; exact h.1, ?_⟩
  rcases h.2 with ⟨h1, h2⟩ | ⟨g', cap, cur, rfl, hb, hg, hn, hc, hs, hx⟩
  · rw [h1] at hv; cases hv
  · obtain rfl : g' = g := by simpa [Value.ownBlock] using hv
    refine .inr ⟨g', cap, cur.setIfInBounds j u, rfl, hb, Blk.set hg j u, hn, hc, by simpa using hs, ?_⟩
    rw [← hx]
    simp [List.take_set]
theorem row_form {w : World} {base n : Nat} {e : TypeId} {k : Nat} {v : Value} {xs : List Value} (h : w.ownsRow base e k v n xs) : ∃ p cap, v = .slice p n cap ∧ n ≤ cap := by
  rcases h.2 with ⟨h1, h2⟩ | ⟨g, cap, cur, h1, _, _, h3, _⟩
  · exact ⟨none, 0, by rw [h1, h2], by omega⟩
  · exact ⟨_, cap, h1, h3⟩
theorem infoI : (Tryd.prog.info? 3).map (fun i => (i.zero, i.size, i.bytes)) = some (some (.int .i64 0), 1, 8) := by kernel_rfl
def ints (l : List Int) : List Value := l.map (Value.int .i64)
/-- What a lent list holds: the numbers, and eight marks behind them. -/
def lentL (l : List Int) : List Int := l ++ List.replicate 8 (-77)
theorem lentL_lt (l : List Int) (k : Nat) (h : k < l.length) : (lentL l).getD k 0 = l.getD k 0 := by
  simp [lentL, List.getD_eq_getElem?_getD, List.getElem?_append_left h]
theorem lentL_ge (l : List Int) (k : Nat) (h : ¬ k < l.length) (h2 : k < l.length + 8) : (lentL l).getD k 0 = -77 := by
  rw [lentL, List.getD_eq_getElem?_getD, List.getElem?_append_right (by omega), List.getElem?_replicate, if_pos (by omega)]
  rfl
set_option maxRecDepth 100000 in
set_option maxHeartbeats 1000000 in
theorem asLent_any (w : World) (base g cap : Nat) (l : List Int) (p : Option Addr) (c : Nat) (hl : Ils w p l) (hll : l.length ≤ 17592186043904) (hn : p ≠ none) (hcap : l.length + 8 ≤ cap) (hg : 0 < l.length → ∀ o, p ≠ some ⟨g, o, none⟩)
    (hr : w.ownsRow base 3 1 (.slice (some ⟨g, 0, none⟩) (l.length + 8) cap) (l.length + 8) (ints (lentL l))) :
    Calls Tryd.prog 24 #[.slice (some ⟨g, 0, none⟩) l.length cap, .slice p l.length c] w fun e w' => e = .returned (.bool true) ∧ Only (fun k => k = g) w w' ∧ ∃ ys, w'.ownsRow base 3 1 (.slice (some ⟨g, 0, none⟩) (l.length + 8) cap) (l.length + 8) ys := by
  have en := fun w' => Lib.run_eql_slice_nil (P := Tryd.prog) w' 26 3 p l.length c 0 0 Tryd.underlying26
  have hpn : p.isNone = false := by cases p with
    | none => exact absurd rfl hn
    | some a => rfl
  rw [hpn] at en
  have HL := hide hl
  have HG := hide hg
  have HR := hide hr
  clear hl hn hpn hg hr
  go_enter Tryd.func24, Tryd.ntmps24
  have b1 : (l.length : Int) + 8 ≤ (cap : Int) := by omega
  have b2 : IntKind.wrap .i64 ((l.length : Int) + 8) = (l.length : Int) + 8 := wrapI_eq _ (by omega) (by omega)
  go_wp2
  clear en b1 b2
  go_loopw [6, 7] (fun i _ wr => ∃ k : Nat, k ≤ l.length + 8 ∧ i = .int .i64 (k : Int) ∧ Only (fun k => k = g) w wr ∧ ∃ ys : List Value, wr.ownsRow base 3 1 (.slice (some ⟨g, 0, none⟩) (l.length + 8) cap) (l.length + 8) ys ∧ ∀ j, k ≤ j → j < l.length + 8 → ys[j]? = some (.int .i64 ((lentL l).getD j 0))) (fun i _ _ => l.length + 8 - (intOf i).toNat)
  case atStart => exact ⟨0, by omega, rfl, Only.refl _ _, _, unhide HR, fun j _ hj => by
    rw [ints, List.getElem?_map, List.getElem?_eq_getElem (by simp [lentL]; omega), List.getD_eq_getElem?_getD, List.getElem?_eq_getElem (by simp [lentL]; omega)]
    rfl⟩
  case round =>
    obtain ⟨k, hk, rfl, hO, ys, hY, hys⟩ := hrel
    have XO := hide hO
    have XY := hide hY
    have XS := hide hys
    clear hO hY hys
    by_cases hkl : k < l.length + 8
    · have hc : wr.cell? ⟨g, k, none⟩ = some (.int .i64 ((lentL l).getD k 0)) := by rw [(own_at (unhide XY) rfl k hkl).1]; exact unhide XS k (Nat.le_refl _) hkl
      have hf : wr.frozen? ⟨g, k, none⟩ = false := (own_at (unhide XY) rfl k hkl).2
      have i0 : 0 ≤ (k : Int) := by omega
      have i1 : (k : Int) < ((l.length + 8 : Nat) : Int) := by omega
      by_cases hk2 : k < l.length
      · obtain ⟨gl, ol, rfl, hgl, hcl0⟩ := unhide HL k hk2
        have hne : gl ≠ g := fun e => unhide HG (by omega) ol (by rw [e])
        have hcl : wr.cell? ⟨gl, ol + k, none⟩ = some (.int .i64 (l.getD k 0)) := (World.cell?_of_block (a := ⟨gl, ol + k, none⟩) ((unhide XO).2 gl hgl hne)).trans hcl0
        have i2 : (k : Int) < (l.length : Int) := by omega
        rw [lentL_lt l k hk2] at hc
        clear hcl0 hne
        generalize l.getD k 0 = z at *
        go_wp2
        go_roundw
        case rel =>
          refine ⟨k + 1, by omega, by go_num, (unhide XO).setCell _ _ (fun _ => rfl), _, owns_set (unhide XY) rfl k _, fun j hj hj2 => ?_⟩
          rw [List.getElem?_set_ne (by omega)]
          exact unhide XS j (by omega) hj2
        case measure => simp [intOf]; omega
      · rw [lentL_ge l k hk2 hkl] at hc
        have i2 : (l.length : Int) ≤ (k : Int) := by omega
        go_wp2
        go_roundw
        case rel =>
          refine ⟨k + 1, by omega, by go_num, (unhide XO).setCell _ _ (fun _ => rfl), _, owns_set (unhide XY) rfl k _, fun j hj hj2 => ?_⟩
          rw [List.getElem?_set_ne (by omega)]
          exact unhide XS j (by omega) hj2
        case measure => simp [intOf]; omega
    · go_wp2
      go_ret
      exact ⟨rfl, unhide XO, _, unhide XY⟩
theorem news_arr (w : World) (T : TypeId) (xs : Array Value) (j : Nat) (u : Value) (hu : xs.toList[j]? = some u) : (w.alloc (.cells xs T)).cell? (Addr.add ⟨w.heap.size, 0, none⟩ j) = some u := by
  rw [Addr.add_mid, Nat.zero_add, (Blk.new w T xs).cell j, ← hu]
  simp
theorem ints_at (l : List Int) (j : Nat) (u : Value) (h : (ints l)[j]? = some u) : j < l.length ∧ u = .int .i64 (l.getD j 0) := by
  rw [ints, List.getElem?_map] at h
  by_cases hj : j < l.length
  · rw [List.getElem?_eq_getElem hj] at h
    refine ⟨hj, ?_⟩
    rw [List.getD_eq_getElem?_getD, List.getElem?_eq_getElem hj]
    simpa using h.symm
  · rw [List.getElem?_eq_none (by omega)] at h
    cases h
set_option maxRecDepth 100000 in
set_option maxHeartbeats 1000000 in
theorem lent_any (w : World) (l : List Int) (ad : Addr) (c : Nat) (hl : Ils w (some ad) l) (hll : l.length ≤ 17592186043904) :
    Calls Tryd.prog 23 #[.slice (some ad) l.length c] w fun e w' => ∃ g cap, e = .returned (.slice (some ⟨g, 0, none⟩) l.length cap) ∧ l.length + 8 ≤ cap ∧ w'.ownsRow w.heap.size 3 1 (.slice (some ⟨g, 0, none⟩) (l.length + 8) cap) (l.length + 8) (ints (lentL l)) ∧ Below w.heap.size w w' := by
  have en := fun w' => Lib.run_eql_slice_nil (P := Tryd.prog) w' 26 3 (some ad) l.length c 0 0 Tryd.underlying26
  have hpn : (some ad).isNone = false := rfl
  rw [hpn] at en
  have HL := hide hl
  obtain ⟨i0, hi0, hz0, hz1, hz2⟩ := info_parts infoI
  have HI := hide (And.intro hi0 (And.intro hz0 (And.intro hz1 hz2)))
  clear hl hpn hi0 hz0 hz1 hz2
  go_enter Tryd.func23, Tryd.ntmps23
  go_wp2_with (refine wpList_append_own _ rfl (.const (.slice none 0 0)) (.tmp 5) 26 rfl w.heap.size 3 i0 (.int .i64 0) 1 8 Tryd.underlying26 (unhide HI).1 (unhide HI).2.1 (unhide HI).2.2.1 (unhide HI).2.2.2 rfl (by decide) _ 0 [] rfl (World.ownsRow_nil _ _ _ _) ad l.length c (ints l) rfl (by simp [ints]) (fun j u hu => by
      obtain ⟨hj, rfl⟩ := ints_at l j u hu
      obtain ⟨g1, o1, e, _, hc⟩ := unhide HL j hj
      cases e
      rw [Addr.add_mid]
      exact hc) (by simp [ints, Value.oneCell']) (by unfold maxLen; omega) (by omega) (Nat.le_refl _) ?_)
  intro v' w1 ho hg _
  have hb1 : Below w.heap.size w w1 := (Below.refl _ w).grown hg (Nat.le_refl _) (fun q hq => by cases hq)
  have ho1 : w1.ownsRow w.heap.size 3 1 v' l.length (ints l) := by simpa using ho
  have hsz := hb1.size
  have HA := hide (owns_only ho1 (Only.of_below (P := fun _ => False) ((Below.refl _ w1).alloc (Nat.le_refl _) (.cells #[.int .i64 (-77), .int .i64 (-77), .int .i64 (-77), .int .i64 (-77), .int .i64 (-77), .int .i64 (-77), .int .i64 (-77), .int .i64 (-77)] 3))) (fun _ _ q => q))
  have HB := hide hb1
  clear ho hg ho1 hb1
  go_wp2_with (refine wpList_append_lies _ rfl (.tmp 6) (.tmp 7) 26 rfl w.heap.size 3 i0 (.int .i64 0) 1 8 Tryd.underlying26 (unhide HI).1 (unhide HI).2.1 (unhide HI).2.2.1 (unhide HI).2.2.2 rfl (by decide) _ l.length (ints l) rfl (unhide HA) ⟨w1.heap.size, 0, none⟩ 8 8 (ints (List.replicate 8 (-77))) rfl rfl (fun q u hu => news_arr w1 3 _ q u hu) (by simp [ints, Value.oneCell']) (by decide) (by unfold maxLen; omega) (by omega) (by simp; omega) _ rfl ?_)
  intro g5 cap5 w5 ho hg hor hlt
  have hc5 : l.length + 8 ≤ cap5 := by
    obtain ⟨p5, c5, e5, h5⟩ := row_form ho
    cases e5
    exact h5
  have hb5 : Below w.heap.size w w5 := ((unhide HB).alloc (unhide HB).size _).grown hg (by simp; omega) (fun q hq => ((unhide HA).lt q hq).1)
  have ho5 : w5.ownsRow w.heap.size 3 1 (.slice (some ⟨g5, 0, none⟩) (l.length + 8) cap5) (l.length + 8) (ints (lentL l)) := by
    have e : ints (lentL l) = ints l ++ ints (List.replicate 8 (-77)) := by simp [lentL, ints]
    rw [e]
    exact ho
  have X5 := hide (And.intro ho5 hb5)
  have b1 : (l.length : Int) ≤ (cap5 : Int) := by omega
  clear ho hg hor hlt hb5 ho5
  go_wp2
  go_ret
  exact ⟨g5, cap5, rfl, hc5, (unhide X5).1, (unhide X5).2⟩
/-- A list that is nil. -/
theorem lent_nil (w : World) : Calls Tryd.prog 23 #[.slice none 0 0] w fun e w' => e = .returned (.slice none 0 0) ∧ w' = w := by
  have en := fun w' => Lib.run_eql_slice_nil (P := Tryd.prog) w' 26 3 none 0 0 0 0 Tryd.underlying26
  have hpn : (none : Option Addr).isNone = true := rfl
  rw [hpn] at en
  go_enter Tryd.func23, Tryd.ntmps23
  go_wp2
  go_ret
  exact ⟨rfl, rfl⟩
theorem asLent_nil (w : World) (v : Value) : Calls Tryd.prog 24 #[v, .slice none 0 0] w fun e w' => e = .returned (.bool true) ∧ w' = w := by
  have en := fun w' => Lib.run_eql_slice_nil (P := Tryd.prog) w' 26 3 none 0 0 0 0 Tryd.underlying26
  have hpn : (none : Option Addr).isNone = true := rfl
  rw [hpn] at en
  go_enter Tryd.func24, Tryd.ntmps24
  go_wp2
  go_ret
  exact ⟨rfl, rfl⟩
end Go.Proofs.YthnlggbnielgdaaDoor
