import Derived.Test.YtmnbfkehepccfaaGlx
import Derived.Lib.SliceRun
namespace Go.Proofs.Ytmnbfkehepccfaa
open Go.RowKit
def ints (l : List Int) : List Value := l.map (Value.int .i64)
theorem own_at {w : World} {base : Nat} {e : TypeId} {n : Nat} {v : Value} {xs : List Value} {g : Nat} (h : w.ownsRow base e 1 v n xs) (hv : v.ownBlock = some g) (i : Nat) (hi : i < n) : w.cell? ⟨g, i, none⟩ = xs[i]? ∧ w.frozen? ⟨g, i, none⟩ = false := by
  rcases h.2 with ⟨h1, h2⟩ | ⟨g', cap, cur, rfl, hb, hg, hn, hc, hs, hx⟩
  · omega
  · obtain rfl : g' = g := by simpa [Value.ownBlock] using hv
    have hB : Blk w g' cur e := hg
    refine ⟨?_, hB.frozen i⟩
    rw [hB.cell i, ← hx, List.getElem?_take, if_pos (by omega)]
    simp
theorem owns_set {w : World} {base : Nat} {e : TypeId} {k n : Nat} {v : Value} {xs : List Value} (h : w.ownsRow base e k v n xs) {g : Nat} (hv : v.ownBlock = some g) (j : Nat) (u : Value) : (w.setCell ⟨g, j, none⟩ u).ownsRow base e k v n (xs.set j u) := by
  refine ⟨by rw [List.length_set]; exact h.1, ?_⟩
  rcases h.2 with ⟨h1, h2⟩ | ⟨g', cap, cur, rfl, hb, hg, hn, hc, hs, hx⟩
  · rw [h1] at hv; cases hv
  · obtain rfl : g' = g := by simpa [Value.ownBlock] using hv
    refine .inr ⟨g', cap, cur.setIfInBounds j u, rfl, hb, Blk.set hg j u, hn, hc, by simpa using hs, ?_⟩
    rw [← hx]
    simp [List.take_set]
/-- What a lent list holds: the numbers, and four marks behind them. -/
def lentL (l : List Int) : List Int := l ++ List.replicate 4 (-7)
theorem lentL_lt (l : List Int) (k : Nat) (h : k < l.length) : (lentL l).getD k 0 = l.getD k 0 := by
  simp [lentL, List.getD_eq_getElem?_getD, List.getElem?_append_left h]
theorem lentL_ge (l : List Int) (k : Nat) (h : ¬ k < l.length) (h2 : k < l.length + 4) : (lentL l).getD k 0 = -7 := by
  rw [lentL, List.getD_eq_getElem?_getD, List.getElem?_append_right (by omega), List.getElem?_replicate, if_pos (by omega)]
  rfl
set_option maxRecDepth 100000 in
set_option maxHeartbeats 1000000 in
theorem asLent18_any (w : World) (base g cap : Nat) (l : List Int) (p : Option Addr) (c : Nat) (hl : GLs w w.heap.size p l) (hll : l.length ≤ 17592186043999) (hn : p ≠ none) (hcap : l.length + 4 ≤ cap) (hg : 0 < l.length → ∀ o, p ≠ some ⟨g, o, none⟩)
    (hr : w.ownsRow base 3 1 (.slice (some ⟨g, 0, none⟩) (l.length + 4) cap) (l.length + 4) (ints (lentL l))) :
    Calls Try.prog 24 #[.slice (some ⟨g, 0, none⟩) l.length cap, .slice p l.length c] w fun e w' => e = .returned (.bool true) ∧ Only (fun k => k = g) w w' := by
  have en := fun w' => Lib.run_eql_slice_nil (P := Try.prog) w' 32 3 p l.length c 0 0 Try.underlying32
  have hpn : p.isNone = false := by cases p with
    | none => exact absurd rfl hn
    | some a => rfl
  rw [hpn] at en
  have HL := hide hl
  have HG := hide hg
  have HR := hide hr
  clear hl hn hpn hg hr
  go_enter Try.func24, Try.ntmps24
  have b1 : (l.length : Int) + 4 ≤ (cap : Int) := by omega
  have b2 : IntKind.wrap .i64 ((l.length : Int) + 4) = (l.length : Int) + 4 := wrapI_eq _ (by omega) (by omega)
  go_wp2
  clear en b1 b2
  go_loopw [6, 7] (fun i _ wr => ∃ k : Nat, k ≤ l.length + 4 ∧ i = .int .i64 (k : Int) ∧ Only (fun k => k = g) w wr ∧ ∃ ys : List Value, wr.ownsRow base 3 1 (.slice (some ⟨g, 0, none⟩) (l.length + 4) cap) (l.length + 4) ys ∧ ∀ j, k ≤ j → j < l.length + 4 → ys[j]? = some (.int .i64 ((lentL l).getD j 0))) (fun i _ _ => l.length + 4 - (intOf i).toNat)
  case atStart => exact ⟨0, by omega, rfl, Only.refl _ _, _, unhide HR, fun j _ hj => by
    rw [ints, List.getElem?_map, List.getElem?_eq_getElem (by simp [lentL]; omega), List.getD_eq_getElem?_getD, List.getElem?_eq_getElem (by simp [lentL]; omega)]
    rfl⟩
  case round =>
    obtain ⟨k, hk, rfl, hO, ys, hY, hys⟩ := hrel
    have XO := hide hO
    have XY := hide hY
    have XS := hide hys
    clear hO hY hys
    by_cases hkl : k < l.length + 4
    · have hc : wr.cell? ⟨g, k, none⟩ = some (.int .i64 ((lentL l).getD k 0)) := by rw [(own_at (unhide XY) rfl k hkl).1]; exact unhide XS k (Nat.le_refl _) hkl
      have hf : wr.frozen? ⟨g, k, none⟩ = false := (own_at (unhide XY) rfl k hkl).2
      have i0 : 0 ≤ (k : Int) := by omega
      have i1 : (k : Int) < ((l.length + 4 : Nat) : Int) := by omega
      by_cases hk2 : k < l.length
      · obtain ⟨gl, ol, rfl, hgl, hcl0⟩ := unhide HL k hk2
        have hne : gl ≠ g := fun e => unhide HG (by omega) ol (by rw [e])
        have hcl : wr.cell? ⟨gl, ol + k, none⟩ = some (.int .i64 (l.getD k 0)) := (World.cell?_of_block (a := ⟨gl, ol + k, none⟩) ((unhide XO).2 gl hgl hne)).trans hcl0
        have i2 : (k : Int) < (l.length : Int) := by omega
        rw [lentL_lt l k hk2] at hc
        clear hcl0 hne
        generalize l.getD k 0 = z at *
        go_wp2
        go_roundw
        case rel =>
          refine ⟨k + 1, by omega, by go_num, (unhide XO).setCell _ _ (fun _ => rfl), _, owns_set (unhide XY) rfl k _, fun j hj hj2 => ?_⟩
          rw [List.getElem?_set_ne (by omega)]
          exact unhide XS j (by omega) hj2
        case measure => simp [intOf]; omega
      · rw [lentL_ge l k hk2 hkl] at hc
        have i2 : (l.length : Int) ≤ (k : Int) := by omega
        go_wp2
        go_roundw
        case rel =>
          refine ⟨k + 1, by omega, by go_num, (unhide XO).setCell _ _ (fun _ => rfl), _, owns_set (unhide XY) rfl k _, fun j hj hj2 => ?_⟩
          rw [List.getElem?_set_ne (by omega)]
          exact unhide XS j (by omega) hj2
        case measure => simp [intOf]; omega
    · go_wp2
      go_ret
      exact ⟨rfl, unhide XO⟩
theorem news_arr (w : World) (T : TypeId) (xs : Array Value) (j : Nat) (u : Value) (hu : xs.toList[j]? = some u) : (w.alloc (.cells xs T)).cell? (Addr.add ⟨w.heap.size, 0, none⟩ j) = some u := by
  rw [Addr.add_mid, Nat.zero_add, (Blk.new w T xs).cell j, ← hu]
  simp
theorem ints_at (l : List Int) (j : Nat) (u : Value) (h : (ints l)[j]? = some u) : j < l.length ∧ u = .int .i64 (l.getD j 0) := by
  rw [ints, List.getElem?_map] at h
  by_cases hj : j < l.length
  · rw [List.getElem?_eq_getElem hj] at h
    refine ⟨hj, ?_⟩
    rw [List.getD_eq_getElem?_getD, List.getElem?_eq_getElem hj]
    simpa using h.symm
  · rw [List.getElem?_eq_none (by omega)] at h
    cases h
set_option maxRecDepth 100000 in
set_option maxHeartbeats 1000000 in
theorem lent18_any (w : World) (l : List Int) (a : Addr) (c : Nat) (hl : GLs w w.heap.size (some a) l) (hll : l.length ≤ 17592186043999) :
    Calls Try.prog 23 #[.slice (some a) l.length c] w fun e w' => ∃ g cap, e = .returned (.slice (some ⟨g, 0, none⟩) l.length cap) ∧ l.length + 4 ≤ cap ∧ w'.ownsRow w.heap.size 3 1 (.slice (some ⟨g, 0, none⟩) (l.length + 4) cap) (l.length + 4) (ints (lentL l)) ∧ Below w.heap.size w w' := by
  have en := fun w' => Lib.run_eql_slice_nil (P := Try.prog) w' 32 3 (some a) l.length c 0 0 Try.underlying32
  have hpn : (some a).isNone = false := rfl
  rw [hpn] at en
  have HL := hide hl
  obtain ⟨i0, hi0, hz0, hz1, hz2⟩ := info_parts gr_int
  have HI := hide (And.intro hi0 (And.intro hz0 (And.intro hz1 hz2)))
  clear hl hpn hi0 hz0 hz1 hz2
  go_enter Try.func23, Try.ntmps23
  go_wp2_with (refine wpList_append_own _ rfl (.const (.slice none 0 0)) (.tmp 5) 32 rfl w.heap.size 3 i0 (.int .i64 0) 1 8 Try.underlying32 (unhide HI).1 (unhide HI).2.1 (unhide HI).2.2.1 (unhide HI).2.2.2 rfl (by decide) _ 0 [] rfl (World.ownsRow_nil _ _ _ _) a l.length c (ints l) rfl (by simp [ints]) (fun j u hu => by
      obtain ⟨hj, rfl⟩ := ints_at l j u hu
      obtain ⟨g1, o1, e, _, hc⟩ := unhide HL j hj
      cases e
      rw [Addr.add_mid]
      exact hc) (by simp [ints, Value.oneCell']) (by unfold maxLen; omega) (by omega) (Nat.le_refl _) ?_)
  intro v' w1 ho hg _
  have hb1 : Below w.heap.size w w1 := (Below.refl _ w).grown hg (Nat.le_refl _) (fun q hq => by cases hq)
  have ho1 : w1.ownsRow w.heap.size 3 1 v' l.length (ints l) := by simpa using ho
  have hsz := hb1.size
  have HA := hide (owns_only ho1 (Only.of_below (P := fun _ => False) ((Below.refl _ w1).alloc (Nat.le_refl _) (.cells #[.int .i64 (-7), .int .i64 (-7), .int .i64 (-7), .int .i64 (-7)] 3))) (fun _ _ q => q))
  have HB := hide hb1
  clear ho hg ho1 hb1
  go_wp2_with (refine wpList_append_lies _ rfl (.tmp 6) (.tmp 7) 32 rfl w.heap.size 3 i0 (.int .i64 0) 1 8 Try.underlying32 (unhide HI).1 (unhide HI).2.1 (unhide HI).2.2.1 (unhide HI).2.2.2 rfl (by decide) _ l.length (ints l) rfl (unhide HA) ⟨w1.heap.size, 0, none⟩ 4 4 (ints (List.replicate 4 (-7))) rfl rfl (fun q u hu => news_arr w1 3 _ q u hu) (by simp [ints, Value.oneCell']) (by decide) (by unfold maxLen; omega) (by omega) (by simp; omega) _ rfl ?_)
  intro g5 cap5 w5 ho hg hor hlt
  have hc5 : l.length + 4 ≤ cap5 := by
    obtain ⟨p5, c5, e5, h5⟩ := gr_form ho
    cases e5
    exact h5
  have hb5 : Below w.heap.size w w5 := ((unhide HB).alloc (unhide HB).size _).grown hg (by simp; omega) (fun q hq => ((unhide HA).lt q hq).1)
  have ho5 : w5.ownsRow w.heap.size 3 1 (.slice (some ⟨g5, 0, none⟩) (l.length + 4) cap5) (l.length + 4) (ints (lentL l)) := by
    have e : ints (lentL l) = ints l ++ ints (List.replicate 4 (-7)) := by simp [lentL, ints]
    rw [e]
    exact ho
  have X5 := hide (And.intro ho5 hb5)
  have b1 : (l.length : Int) ≤ (cap5 : Int) := by omega
  clear ho hg hor hlt hb5 ho5
  go_wp2
  go_ret
  exact ⟨g5, cap5, rfl, hc5, (unhide X5).1, (unhide X5).2⟩
theorem asLent18_nil (w : World) : Calls Try.prog 24 #[.slice none 0 0, .slice none 0 0] w fun e w' => e = .returned (.bool true) ∧ w' = w := by
  have en := fun w' => Lib.run_eql_slice_nil (P := Try.prog) w' 32 3 none 0 0 0 0 Try.underlying32
  rw [show (none : Option Addr).isNone = true from rfl] at en
  go_enter Try.func24, Try.ntmps24
  go_wp2
  go_ret
  exact ⟨rfl, rfl⟩
theorem lent18_nil (w : World) : Calls Try.prog 23 #[.slice none 0 0] w fun e w' => e = .returned (.slice none 0 0) ∧ w' = w := by
  have en := fun w' => Lib.run_eql_slice_nil (P := Try.prog) w' 32 3 none 0 0 0 0 Try.underlying32
  rw [show (none : Option Addr).isNone = true from rfl] at en
  go_enter Try.func23, Try.ntmps23
  go_wp2
  go_ret
  exact ⟨rfl, rfl⟩
end Go.Proofs.Ytmnbfkehepccfaa
