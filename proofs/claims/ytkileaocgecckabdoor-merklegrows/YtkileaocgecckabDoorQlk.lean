import Derived.Test.YtkileaocgecckabDoorQlh
namespace Go.Proofs.YtkileaocgecckabDoor
open Go.RowKit
set_option maxRecDepth 100000
/-- a list that is written over: all its texts are t; only the old block and new ones turn -/
def OvI (w : World) (v0 : Value) (B : Nat) (t : ByteArray) (n : Nat) (v : Value) (W : World) : Prop := W.ownsRow B 9 1 v n (List.replicate n (.string t)) ∧ (v.ownBlock = v0.ownBlock ∨ ∀ k, v.ownBlock = some k → w.heap.size ≤ k) ∧ Only (fun k => v0.ownBlock = some k) w W
theorem OvI.app {w : World} {v0 : Value} {B : Nat} {t : ByteArray} {n : Nat} {v : Value} {wc x5 : World} {g5 cap5 : Nat} (h : OvI w v0 B t n v wc) (ho : x5.ownsRow B 9 1 (.slice (some ⟨g5, 0, none⟩) (n + 1) cap5) (n + 1) (List.replicate n (.string t) ++ [.string t])) (hg : (wc.alloc (.cells #[.string t] 9)).grownBy x5 v.ownBlock) (hat : v.ownBlock = some g5 ∨ wc.heap.size ≤ g5) : OvI w v0 B t (n + 1) (.slice (some ⟨g5, 0, none⟩) (n + 1) cap5) x5 := by
  obtain ⟨h1, h2, h3⟩ := h
  refine ⟨by rw [List.replicate_succ']; exact ho, ?_, (h3.alloc _).grown hg (fun k hk e => ?_)⟩
  · rcases hat with q | q
    · rcases h2 with r | r
      · exact .inl (by rw [← r, q]; rfl)
      · exact .inr (fun k hk => by have : g5 = k := by simpa [Value.ownBlock] using hk
                                   exact r k (by rw [q, this]))
    · exact .inr (fun k hk => by have : g5 = k := by simpa [Value.ownBlock] using hk
                                 have := h3.size
                                 omega)
  · rcases h2 with r | r
    · rw [← r]; exact e
    · have := r k e
      omega
set_option maxHeartbeats 2000000 in
theorem over19 (w : World) (v0 : Value) (B n : Nat) (xs : List Value) (t : ByteArray) (hn : n ≤ 100000) (hB : B ≤ w.heap.size) (ho : w.ownsRow B 9 1 v0 n xs) : Calls Tryd.prog 19 #[v0, .string t] w fun e w' => ∃ v, e = .returned v ∧ OvI w v0 B t (n + 22) v w' := by
  obtain ⟨i0, hi, hz0, hz1, hz2⟩ := info_parts gr_str
  have HI := hide (And.intro hi (And.intro hz0 (And.intro hz1 hz2)))
  obtain ⟨p0, c0, rfl, _⟩ := gr_form ho
  have HO := hide ho
  clear hi hz0 hz1 hz2 ho
  go_enter Tryd.func19, Tryd.ntmps19
  go_wp2
  go_loopw [5] (fun i wr => ∃ k : Nat, k ≤ n ∧ i = .int .i64 (k : Int) ∧ ∃ ys : List Value, Hid (wr.ownsRow B 9 1 (.slice p0 n c0) n ys ∧ (∀ j, j < k → ys[j]? = some (.string t)) ∧ Only (fun k => (Value.slice p0 n c0).ownBlock = some k) w wr)) (fun i _ => n - (intOf i).toNat)
  case atStart => exact ⟨0, by omega, rfl, _, unhide HO, fun j hj => absurd hj (by omega), Only.refl _ _⟩
  case round =>
  obtain ⟨k, hk, rfl, ys, HK⟩ := hrel
  obtain ⟨wi, rfl⟩ : ∃ z, z = wr := ⟨_, rfl⟩
  by_cases hkn : k < n
  · have e1 : (k : Int) < (n : Int) := by omega
    obtain ⟨g, rfl, hc0, hf, _, _⟩ := gr_cell (unhide HK).1 k hkn
    have hyl := (unhide HK).1.1
    obtain ⟨ov, hov⟩ : ∃ z, ys[k]? = some z := ⟨_, List.getElem?_eq_getElem (by omega)⟩
    have hc : wi.cell? ⟨g, k, none⟩ = some ov := hc0.trans hov
    have HN := hide (show (wi.setCell ⟨g, k, none⟩ (.string t)).ownsRow B 9 1 (.slice (some ⟨g, 0, none⟩) n c0) n (ys.set k (.string t)) ∧ (∀ j, j < k + 1 → (ys.set k (.string t))[j]? = some (.string t)) ∧ Only (fun k => (Value.slice (some ⟨g, 0, none⟩) n c0).ownBlock = some k) w (wi.setCell ⟨g, k, none⟩ (.string t)) from ⟨((unhide HK).1.stored k (.string t)).1, fun j hj => by
      by_cases e : k = j
      · subst e; rw [List.getElem?_set_self (by omega)]
      · rw [List.getElem?_set_ne e]; exact (unhide HK).2.1 j (by omega), (unhide HK).2.2.setCell _ _ (fun _ => rfl)⟩)
    clear HK hc0 hov hyl HO
    go_wp2
    go_roundw
    case rel => exact ⟨k + 1, by omega, by go_num, _, HN⟩
    case measure => simp [intOf] <;> omega
  obtain rfl : k = n := by omega
  have e1 : ¬ (k : Int) < (k : Int) := by omega
  obtain ⟨wc, hwc⟩ : ∃ z, wi = z := ⟨_, rfl⟩
  subst hwc
  obtain ⟨wc, rfl⟩ : ∃ z, z = wi := ⟨_, rfl⟩
  have HV := hide (show OvI w (.slice p0 k c0) B t k (.slice p0 k c0) wc from ⟨by
    have := (unhide HK).1
    have hy : ys = List.replicate k (.string t) := List.ext_getElem? (fun j => by
      by_cases hj : j < k
      · rw [(unhide HK).2.1 j hj, List.getElem?_replicate, if_pos hj]
      · rw [List.getElem?_eq_none (by rw [this.1]; omega), List.getElem?_eq_none (by rw [List.length_replicate]; omega)])
    rw [hy] at this
    exact this, .inl rfl, (unhide HK).2.2⟩)
  clear HK HO
  have HO := hide ((unhide HV).1.alloc (.cells #[.string t] 9))
  have HBW := hide (unhide HV)
  have hsw : w.heap.size ≤ wc.heap.size := (unhide HV).2.2.size
  clear HV
  go_wp2_with (refine wpList_append_lies _ rfl (.tmp 19) (.tmp 21) 22 rfl B 9 i0 (.string ⟨#[]⟩) 1 16 Tryd.underlying22 (unhide HI).1 (unhide HI).2.1 (unhide HI).2.2.1 (unhide HI).2.2.2 rfl (by decide) _ (k) _ rfl (unhide HO) ⟨wc.heap.size, 0, none⟩ 1 1 [.string t] rfl rfl (fun q u hu => gr_new wc 9 _ q u hu) (by simp [Value.oneCell']) (by decide) (by unfold maxLen; omega) (by omega) (by simp; omega) (wc.heap.size + 1) (by simp) ?_)
  intro g5 cap5 x5 ho5 hg5 hat _
  have HV := hide (OvI.app (unhide HBW) ho5 hg5 (by rcases hat with q | q; exact .inl q; exact .inr (by omega)))
  clear ho5 hg5 hat HO HBW hsw
  obtain ⟨wc, rfl⟩ : ∃ z, z = x5 := ⟨_, rfl⟩
  have HO := hide ((unhide HV).1.alloc (.cells #[.string t] 9))
  have HBW := hide (unhide HV)
  have hsw : w.heap.size ≤ wc.heap.size := (unhide HV).2.2.size
  clear HV
  go_wp2_with (refine wpList_append_lies _ rfl (.tmp 23) (.tmp 25) 22 rfl B 9 i0 (.string ⟨#[]⟩) 1 16 Tryd.underlying22 (unhide HI).1 (unhide HI).2.1 (unhide HI).2.2.1 (unhide HI).2.2.2 rfl (by decide) _ (k + 1) _ rfl (unhide HO) ⟨wc.heap.size, 0, none⟩ 1 1 [.string t] rfl rfl (fun q u hu => gr_new wc 9 _ q u hu) (by simp [Value.oneCell']) (by decide) (by unfold maxLen; omega) (by omega) (by simp; omega) (wc.heap.size + 1) (by simp) ?_)
  intro g5 cap5 x5 ho5 hg5 hat _
  have HV := hide (OvI.app (unhide HBW) ho5 hg5 (by rcases hat with q | q; exact .inl q; exact .inr (by omega)))
  clear ho5 hg5 hat HO HBW hsw
  go_wp2_with fail
  go_loopw [7, 8] (fun lv i wr => ∃ j : Nat, j ≤ 20 ∧ i = .int .i64 (j : Int) ∧ Hid (OvI w (.slice p0 k c0) B t (k + 2 + j) lv wr)) (fun _ i _ => 20 - (intOf i).toNat)
  case atStart => exact ⟨0, by omega, rfl, HV⟩
  case round =>
  clear HV
  obtain ⟨j, hj, rfl, HV⟩ := hrel
  obtain ⟨wc, rfl⟩ : ∃ z, z = wr := ⟨_, rfl⟩
  obtain ⟨pv, cv, rfl, _⟩ := gr_form (unhide HV).1
  by_cases hj2 : j < 20
  · have e2 : (j : Int) < 20 := by omega
    have HO := hide ((unhide HV).1.alloc (.cells #[.string t] 9))
    have HBW := hide (unhide HV)
    have hsw : w.heap.size ≤ wc.heap.size := (unhide HV).2.2.size
    clear HV
    go_wp2_with (refine wpList_append_lies _ rfl (.tmp 31) (.tmp 33) 22 rfl B 9 i0 (.string ⟨#[]⟩) 1 16 Tryd.underlying22 (unhide HI).1 (unhide HI).2.1 (unhide HI).2.2.1 (unhide HI).2.2.2 rfl (by decide) _ (k + 2 + j) _ rfl (unhide HO) ⟨wc.heap.size, 0, none⟩ 1 1 [.string t] rfl rfl (fun q u hu => gr_new wc 9 _ q u hu) (by simp [Value.oneCell']) (by decide) (by unfold maxLen; omega) (by omega) (by simp; omega) (wc.heap.size + 1) (by simp) ?_)
    intro g5 cap5 x5 ho5 hg5 hat _
    have HV := hide (OvI.app (unhide HBW) ho5 hg5 (by rcases hat with q | q; exact .inl q; exact .inr (by omega)))
    clear ho5 hg5 hat HO HBW hsw
    go_wp2
    go_roundw
    case rel => exact ⟨j + 1, by omega, by go_num, HV⟩
    case measure => simp [intOf] <;> omega
  · obtain rfl : j = 20 := by omega
    have e2 : ¬ ((20 : Nat) : Int) < 20 := by omega
    go_wp2
    go_ret
    exact ⟨_, rfl, unhide HV⟩
set_option maxHeartbeats 1000000 in
theorem still19 (w : World) (v : Value) (B n : Nat) (t : ByteArray) (ho : w.ownsRow B 9 1 v n (List.replicate n (.string t))) (hn : n ≤ 200000) : Calls Tryd.prog 20 #[v, .string t] w fun e w' => e = .returned (.bool true) ∧ w' = w := by
  obtain ⟨p0, c0, rfl, _⟩ := gr_form ho
  have HO := hide ho
  clear ho
  go_enter Tryd.func20, Tryd.ntmps20
  go_wp2
  go_loopw [5] (fun i wr => ∃ k : Nat, k ≤ n ∧ i = .int .i64 (k : Int) ∧ wr = w) (fun i _ => n - (intOf i).toNat)
  case atStart => exact ⟨0, by omega, rfl, rfl⟩
  case round =>
  obtain ⟨k, hk, rfl, hw⟩ := hrel
  subst wr
  by_cases hkn : k < n
  · have e1 : (k : Int) < (n : Int) := by omega
    obtain ⟨g, rfl, hc0, _, _, _⟩ := gr_cell (unhide HO) k hkn
    have hc : w.cell? ⟨g, k, none⟩ = some (.string t) := by rw [hc0, List.getElem?_replicate, if_pos hkn]
    clear hc0
    go_wp2
    go_roundw
    case rel => exact ⟨k + 1, by omega, by go_num, by first | rfl | trivial⟩
    case measure => simp [intOf] <;> omega
  · have e1 : ¬ (k : Int) < (n : Int) := by omega
    go_wp2
    go_ret
    exact ⟨rfl, rfl⟩
end Go.Proofs.YtkileaocgecckabDoor
