import Derived.Test.YtilhilglokblpaaDoorQmc
import Derived.Test.YtilhilglokblpaaDoorQpg
import Derived.Deep.AppendLies
import Derived.Deep.Onto
import Derived.OwnWalk
namespace Go.Proofs.YtilhilglokblpaaDoor
open Go.RowKit
set_option maxRecDepth 100000
theorem gr_form {w : World} {base n : Nat} {e : TypeId} {k : Nat} {v : Value} {xs : List Value} (h : w.ownsRow base e k v n xs) : ∃ p cap, v = .slice p n cap ∧ n ≤ cap := by
  rcases h.2 with ⟨h1, h0⟩ | ⟨g, cap, cur, h1, hb, hg, hn, hc, hs, hx⟩
  · exact ⟨none, 0, by rw [h1, h0], by omega⟩
  · exact ⟨_, cap, h1, by omega⟩
theorem gr_cell {w : World} {base : Nat} {e : TypeId} {n c : Nat} {p : Option Addr} {xs : List Value} (h : w.ownsRow base e 1 (.slice p n c) n xs) (j : Nat) (hj : j < n) : ∃ g, p = some ⟨g, 0, none⟩ ∧ w.cell? ⟨g, j, none⟩ = xs[j]? ∧ w.frozen? ⟨g, j, none⟩ = false ∧ base ≤ g ∧ g < w.heap.size := by
  rcases h.2 with ⟨h1, h0⟩ | ⟨g, cap, cur, h1, hb, hg, hn, hc, hs, hx⟩
  · omega
  · have e0 : p = some ⟨g, 0, none⟩ := by injection h1
    have hB : Blk w g cur e := hg
    refine ⟨g, e0, ?_, hB.frozen j, hb, hB.lt⟩
    rw [hB.cell, ← hx, List.getElem?_take, if_pos (by omega)]
    simp
theorem gr_new (w : World) (T : TypeId) (x : Value) (j : Nat) (u : Value) (hu : [x][j]? = some u) : (w.alloc (.cells #[x] T)).cell? (Addr.add ⟨w.heap.size, 0, none⟩ j) = some u := by
  rw [Addr.add_mid, Nat.zero_add, (Blk.new w T #[x]).cell j, ← hu]
  simp
theorem gr_str : (Tryd.prog.info? 9).map (fun i => (i.zero, i.size, i.bytes)) = some (some (.string ⟨#[]⟩), 1, 16) := by kernel_rfl
theorem own_bel {w w' : World} {B : Nat} {e : TypeId} {k n : Nat} {v : Value} {xs : List Value} (h : w.ownsRow B e k v n xs) (hb : Below w.heap.size w w') : w'.ownsRow B e k v n xs := owns_only h (Only.of_below (P := fun _ => False) hb) (fun _ _ q => q)
/-- a list of texts of one's own is one in memory -/
theorem own_SB {w : World} {base n c : Nat} {p : Option Addr} {L : List ByteArray} (hn : L.length = n) (h : w.ownsRow base 9 1 (.slice p n c) n (L.map Value.string)) : SB w w.heap.size p L := fun j hj => by
  obtain ⟨g, e, hc, _, _, hg⟩ := gr_cell h j (by omega)
  refine ⟨g, 0, e, hg, ?_⟩
  rw [Nat.zero_add, hc, List.getElem?_map, List.getD_eq_getElem?_getD, List.getElem?_eq_getElem hj]
  rfl
/-- a list of texts comes out, new -/
def LQ (w : World) (L : List ByteArray) (e : Ending) (w' : World) : Prop := ∃ v, e = .returned v ∧ w'.ownsRow w.heap.size 9 1 v L.length (L.map Value.string) ∧ Below w.heap.size w w'
theorem LQ.nil {w : World} : LQ w [] (.returned (.slice none 0 0)) w := ⟨_, rfl, ⟨rfl, .inl ⟨rfl, rfl⟩⟩, Below.refl _ _⟩
theorem pt_len : ∀ (q : Nat) (l : List ByteArray), l.length = q → ∀ i, (pt l i).length ≤ l.length := by
  intro q
  induction q using Nat.strongRecOn with
  | _ q ih =>
  intro l hl i
  by_cases h : 2 ≤ l.length
  · have k1 := kk_pos l.length
    have k2 := kk_lt l.length h
    by_cases hk : i < kk l.length
    · have := ih (kk l.length) (by omega) (l.take (kk l.length)) (by rw [List.length_take]; omega) i
      rw [pt_left l i h hk, List.length_append]
      rw [List.length_take] at this
      simp only [List.length_singleton]
      omega
    · have := ih (l.length - kk l.length) (by omega) (l.drop (kk l.length)) (by rw [List.length_drop]) (i - kk l.length)
      rw [pt_right l i h hk, List.length_append]
      rw [List.length_drop] at this
      simp only [List.length_singleton]
      omega
  · rw [pt_one l i (by omega)]
    simp
theorem gr_len : ∀ (q : Nat) (l : List ByteArray), l.length = q → ∀ m w, 1 ≤ m → m ≤ l.length → (gr l m w).length ≤ l.length := by
  intro q
  induction q using Nat.strongRecOn with
  | _ q ih =>
  intro l hl m w h1 h2
  by_cases e : m = l.length
  · subst e
    rw [gr_all]
    split
    · simp
    · simpa using h1
  · have k1 := kk_pos l.length
    have k2 := kk_lt l.length (by omega)
    by_cases hk : m ≤ kk l.length
    · have := ih (kk l.length) (by omega) (l.take (kk l.length)) (by rw [List.length_take]; omega) m w h1 (by rw [List.length_take]; omega)
      rw [gr_left l m w (by omega) e hk, List.length_append]
      rw [List.length_take] at this
      simp only [List.length_singleton]
      omega
    · have := ih (l.length - kk l.length) (by omega) (l.drop (kk l.length)) (by rw [List.length_drop]) (m - kk l.length) false (by omega) (by rw [List.length_drop]; omega)
      rw [gr_right l m w (by omega) e hk, List.length_append]
      rw [List.length_drop] at this
      simp only [List.length_singleton]
      omega
set_option maxHeartbeats 1000000 in
theorem pathOf_any : ∀ (q : Nat) (l : List ByteArray), l.length = q → ∀ (i : Nat), i < q → ∀ (w : World) (B c : Nat) (p : Option Addr), SB w B p l → B ≤ w.heap.size → KTab w → Sht l → q ≤ 65536 → q ≤ c → c ≤ 9223372036854775807 → Calls Tryd.prog 30 #[.slice p q c, .int .i64 (i : Int)] w (LQ w (pt l i)) := by
  intro q
  induction q using Nat.strongRecOn with
  | _ m ih =>
  intro l hl i him w B c p hS hB hK hT hm hmc hc9
  obtain ⟨h, hh⟩ : ∃ h, w.heap.size = h := ⟨_, rfl⟩
  obtain ⟨g, o, rfl, hgB, hce⟩ := hS 0 (by omega)
  obtain ⟨i0, hi, hz0, hz1, hz2⟩ := info_parts gr_str
  have HI := hide (And.intro hi (And.intro hz0 (And.intro hz1 hz2)))
  clear hi hz0 hz1 hz2
  have HB0 := hide (show Below h w w from Below.refl _ _)
  have HKB := hide (show ∀ W, Below h w W → KTab W from fun W hW => hK.below hW (by rw [← hh]; exact hK.1))
  have HSB := hide (show ∀ W, Below h w W → SB W B (some ⟨g, o, none⟩) l from fun W hW => hS.below (hW.mono (by omega)))
  by_cases h1 : m = 1
  · have HE := hide (show LQ w (pt l i) (.returned (.slice none 0 0)) w from by rw [pt_one l i (by omega)]; exact LQ.nil)
    have e4 : ((m : Int) == 1) = true := by simp; omega
    clear ih hS hK hT hl
    go_enter Tryd.func30, Tryd.ntmps30
    go_wp2
    go_ret
    exact unhide HE
  have k1 := kk_pos m
  have k2 := kk_lt m (by omega)
  have HF := hide (fun W => firstPart_any m (by omega) hm W)
  have e4 : ((m : Int) == 1) = false := by simp; omega
  have e1 : (kk m : Int) ≤ (m : Int) := by omega
  have e2 : (m : Int) ≤ (c : Int) := by omega
  by_cases hik : i < kk m
  · have e5 : (i : Int) < (kk m : Int) := by omega
    have HP := hide (show ∀ W, Below h w W → Calls Tryd.prog 30 #[.slice (some ⟨g, o, none⟩) (kk m) c, .int .i64 (i : Int)] W (LQ W (pt (l.take (kk m)) i)) from fun W hW => ih (kk m) (by omega) (l.take (kk m)) (by rw [List.length_take]; omega) i (by omega) W B c _ ((unhide HSB W hW).take _) (by have := hW.size; omega) (unhide HKB W hW) (hT.take _) (by omega) (by omega) (by omega))
    have HR := hide (show ∀ W, Below h w W → Calls Tryd.prog 26 #[.slice (some ⟨g, o + kk m, none⟩) (m - kk m) (c - kk m)] W fun e w' => e = .returned (.agg (dC (rt (l.drop (kk m)))).toArray) ∧ Below W.heap.size W w' from fun W hW => rootOf_any (m - kk m) (l.drop (kk m)) (by rw [List.length_drop]; omega) W B (c - kk m) _ ((unhide HSB W hW).drop _) (by have := hW.size; omega) (unhide HKB W hW) (hT.drop _) (by omega) (by omega) (by omega))
    have HT := hide (fun W => text_any (rt (l.drop (kk m))) (rt_size _) W)
    have hL := pt_left l i (by omega) (by rw [hl]; exact hik)
    have hlen := pt_len _ (l.take (kk m)) rfl i
    obtain ⟨A, hA⟩ : ∃ q, pt (l.take (kk m)) i = q := ⟨_, rfl⟩
    obtain ⟨r, hr⟩ : ∃ q, rt (l.drop (kk m)) = q := ⟨_, rfl⟩
    obtain ⟨na, hna⟩ : ∃ q, A.length = q := ⟨_, rfl⟩
    rw [hA] at HP
    rw [hr] at HR HT
    simp only [hl] at hL
    rw [hA, hr] at hL
    rw [hA, hna, List.length_take] at hlen
    have hn9 : na ≤ 65536 := by omega
    have HF9 := hide (show ∀ g5 cap5 x5, x5.ownsRow h 9 1 (.slice (some ⟨g5, 0, none⟩) (na + 1) cap5) (na + 1) (A.map Value.string ++ [.string r]) → Below h w x5 → LQ w (pt (l) i) (.returned (.slice (some ⟨g5, 0, none⟩) (na + 1) cap5)) x5 from fun g5 cap5 x5 h1 h2 => ⟨_, rfl, by rw [hL, hh, List.length_append, hna, List.map_append]; exact h1, by rw [hh]; exact h2⟩)
    generalize dC r = cr at *
    clear hL hA hr hlen
    clear hS hK hT hce hl ih
    generalize kk m = k at *
    go_enter Tryd.func30, Tryd.ntmps30
    go_wp2_with fail
    refine (unhide HF _).mono ?_
    rintro e y0 ⟨rfl, hy0⟩
    subst y0
    go_wp2_with fail
    refine wp_region_held_drew (S := fun _ => True) (by kernel_rfl) trivial ?_
    intro hS
    refine wpAnyH_takeD 0 (some 15) (.slice (some ⟨g, o, none⟩) m c) rfl rfl (by kernel_rfl) (by kernel_rfl) (by kernel_rfl) (fun _ _ _ h => h) (Or.inl ⟨by rfl, fun w hSw => by clear hSw; go_simp; try (intro hbad; omega)⟩) hS ?_
    simp only [Act.put, List.setIfInBounds_toArray, List.set_cons_zero, List.set_cons_succ]
    refine wpAnyH_takeD 1 (some 16) (.int .i64 (k : Int)) rfl rfl (by kernel_rfl) (by kernel_rfl) (by kernel_rfl) (fun _ _ _ h => h) (Or.inl ⟨by rfl, fun w hSw => by clear hSw; go_simp; try (intro hbad; omega)⟩) hS ?_
    simp only [Act.put, List.setIfInBounds_toArray, List.set_cons_zero, List.set_cons_succ]
    refine wpAnyH_takeD 2 (some 17) (.slice (some ⟨g, o, none⟩) k c) rfl rfl (by kernel_rfl) (by kernel_rfl) (by kernel_rfl) (fun _ _ _ h => h) (Or.inl ⟨by rfl, fun w hSw => by clear hSw; go_simp; try (intro hbad; omega)⟩) hS ?_
    simp only [Act.put, List.setIfInBounds_toArray, List.set_cons_zero, List.set_cons_succ]
    refine wpAnyH_takeD 3 (some 18) (.int .i64 (i : Int)) rfl rfl (by kernel_rfl) (by kernel_rfl) (by kernel_rfl) (fun _ _ _ h => h) (Or.inl ⟨by rfl, fun w hSw => by clear hSw; go_simp; try (intro hbad; omega)⟩) hS ?_
    simp only [Act.put, List.setIfInBounds_toArray, List.set_cons_zero, List.set_cons_succ]
    refine wpAnyH_takeD 5 (some 20) (.slice (some ⟨g, o, none⟩) m c) rfl rfl (by kernel_rfl) (by kernel_rfl) (by kernel_rfl) (fun _ _ _ h => h) (Or.inl ⟨by rfl, fun w hSw => by clear hSw; go_simp; try (intro hbad; omega)⟩) hS ?_
    simp only [Act.put, List.setIfInBounds_toArray, List.set_cons_zero, List.set_cons_succ]
    refine wpAnyH_takeD 6 (some 21) (.int .i64 (k : Int)) rfl rfl (by kernel_rfl) (by kernel_rfl) (by kernel_rfl) (fun _ _ _ h => h) (Or.inl ⟨by rfl, fun w hSw => by clear hSw; go_simp; try (intro hbad; omega)⟩) hS ?_
    simp only [Act.put, List.setIfInBounds_toArray, List.set_cons_zero, List.set_cons_succ]
    refine wpAnyH_takeD 7 (some 22) (.slice (some ⟨g, o + k, none⟩) (m - k) (c - k)) rfl rfl (by kernel_rfl) (by kernel_rfl) (by kernel_rfl) (fun _ _ _ h => h) (Or.inl ⟨by rfl, fun w hSw => by clear hSw; go_simp; try (intro hbad; omega)⟩) hS ?_
    simp only [Act.put, List.setIfInBounds_toArray, List.set_cons_zero, List.set_cons_succ]
    refine wpAnyH_ready (rs := [4]) (by kernel_rfl) (by simp) ?_
    refine AllReadyH.cons rfl (fun K hK => ?_) AllReadyH.nil
    simp only [List.getElem_toArray, List.getElem_cons_succ, List.getElem_cons_zero]
    go_simp
    refine (unhide HP _ (unhide HB0).drew).mono ?_
    rintro e y1 ⟨v, rfl, ho, hb⟩
    rw [hna] at ho
    obtain ⟨pv, cv, rfl, _⟩ := gr_form ho
    have HO1 := hide (show y1.ownsRow h 9 1 (.slice pv na cv) na (A.map Value.string) from ho.mono (by show h ≤ w.heap.size; omega))
    have HB1 := hide (show Below h w y1 from (unhide HB0).drew.trans (hb.mono (by show h ≤ w.heap.size; omega)))
    clear ho hb HP
    refine hK.out _ _ trivial (fun hS => ?_)
    clear hK K
    refine wpAnyH_ready (rs := [8]) (by kernel_rfl) (by simp) ?_
    refine AllReadyH.cons rfl (fun K hK => ?_) AllReadyH.nil
    simp only [List.getElem_toArray, List.getElem_cons_succ, List.getElem_cons_zero]
    go_simp
    refine (unhide HR _ (unhide HB1)).mono ?_
    rintro e y2 ⟨rfl, hb⟩
    have HO2 := hide (own_bel (unhide HO1) hb)
    have HB2 := hide (show Below h w y2 from (unhide HB1).trans (hb.mono (by have := (unhide HB1).size; omega)))
    clear hb HR HO1 HB1
    refine hK.out _ _ trivial (fun hS => ?_)
    clear hK K
    refine wpAnyH_ready (rs := [9]) (by kernel_rfl) (by simp) ?_
    refine AllReadyH.cons rfl (fun K hK => ?_) AllReadyH.nil
    simp only [List.getElem_toArray, List.getElem_cons_succ, List.getElem_cons_zero]
    go_simp
    refine (unhide HT _).mono ?_
    rintro e y3 ⟨rfl, hb⟩
    have HO3 := hide ((own_bel (unhide HO2) hb).alloc (.cells #[.string r] 9))
    have HB3 := hide (show Below h w y3 from (unhide HB2).trans (hb.mono (by have := (unhide HB2).size; omega)))
    have hs3 : h ≤ y3.heap.size := by have := (unhide HB3).size; omega
    clear hb HT HO2 HB2
    refine hK.out _ _ trivial (fun hS => ?_)
    clear hK K
    refine wpAnyH_ready (rs := [10]) (by kernel_rfl) (by simp) ?_
    refine AllReadyH.cons rfl (fun K hK => ?_) AllReadyH.nil
    simp only [List.getElem_toArray, List.getElem_cons_succ, List.getElem_cons_zero]
    go_simp
    refine hK.out _ _ trivial (fun hS => ?_)
    clear hK K
    refine wpAnyH_ready (rs := [11]) (by kernel_rfl) (by simp) ?_
    refine AllReadyH.cons rfl (fun K hK => ?_) AllReadyH.nil
    rw [if_pos (by rfl)]
    refine wp_append_lies _ (.tmp 19) (.tmp 25) 22 rfl h 9 i0 (.string ⟨#[]⟩) 1 16 Tryd.underlying22 (unhide HI).1 (unhide HI).2.1 (unhide HI).2.2.1 (unhide HI).2.2.2 rfl (by decide) _ na _ rfl (unhide HO3) ⟨y3.heap.size, 0, none⟩ 1 1 [.string r] rfl rfl (fun q u hu => gr_new y3 9 _ q u hu) (by simp [Value.oneCell']) (by decide) (by unfold maxLen; omega) (by omega) (by simp; omega) (y3.heap.size + 1) (by simp) ?_
    intro g5 cap5 x5 ho5 hg5 _ _
    have HN := hide (unhide HF9 g5 cap5 x5 ho5 (((unhide HB3).alloc hs3 _).grown hg5 (by simp; omega) (fun q hq => ((unhide HO3).lt q hq).1)))
    clear ho5 hg5 HO3 HB3
    simp only [List.getElem_toArray, List.getElem_cons_succ, List.getElem_cons_zero, Act.put, List.setIfInBounds_toArray, List.set_cons_zero, List.set_cons_succ]
    refine hK.out _ _ trivial (fun hS => ?_)
    clear hK K
    refine wpAnyH_takeD 12 (some 4) (.slice (some ⟨g5, 0, none⟩) (na + 1) cap5) rfl rfl (by kernel_rfl) (by kernel_rfl) (by kernel_rfl) (fun _ _ _ h => h) (Or.inl ⟨by rfl, fun w hSw => by clear hSw; go_simp; try (intro hbad; omega)⟩) hS ?_
    simp only [Act.put, List.setIfInBounds_toArray, List.set_cons_zero, List.set_cons_succ]
    refine wpAnyH_done (by kernel_rfl) ?_ _
    go_wp2
    go_ret
    exact unhide HN
  · have e5 : ¬ (i : Int) < (kk m : Int) := by omega
    have HP := hide (show ∀ W, Below h w W → Calls Tryd.prog 30 #[.slice (some ⟨g, o + kk m, none⟩) (m - kk m) (c - kk m), .int .i64 ((i - kk m : Nat) : Int)] W (LQ W (pt (l.drop (kk m)) (i - kk m))) from fun W hW => ih (m - kk m) (by omega) (l.drop (kk m)) (by rw [List.length_drop]; omega) (i - kk m) (by omega) W B (c - kk m) _ ((unhide HSB W hW).drop _) (by have := hW.size; omega) (unhide HKB W hW) (hT.drop _) (by omega) (by omega) (by omega))
    have HR := hide (show ∀ W, Below h w W → Calls Tryd.prog 26 #[.slice (some ⟨g, o, none⟩) (kk m) c] W fun e w' => e = .returned (.agg (dC (rt (l.take (kk m)))).toArray) ∧ Below W.heap.size W w' from fun W hW => rootOf_any (kk m) (l.take (kk m)) (by rw [List.length_take]; omega) W B c _ ((unhide HSB W hW).take _) (by have := hW.size; omega) (unhide HKB W hW) (hT.take _) (by omega) (by omega) (by omega))
    have HT := hide (fun W => text_any (rt (l.take (kk m))) (rt_size _) W)
    have hL := pt_right l i (by omega) (by rw [hl]; exact hik)
    have hlen := pt_len _ (l.drop (kk m)) rfl (i - kk m)
    obtain ⟨A, hA⟩ : ∃ q, pt (l.drop (kk m)) (i - kk m) = q := ⟨_, rfl⟩
    obtain ⟨r, hr⟩ : ∃ q, rt (l.take (kk m)) = q := ⟨_, rfl⟩
    obtain ⟨na, hna⟩ : ∃ q, A.length = q := ⟨_, rfl⟩
    rw [hA] at HP
    rw [hr] at HR HT
    simp only [hl] at hL
    rw [hA, hr] at hL
    rw [hA, hna, List.length_drop] at hlen
    have hn9 : na ≤ 65536 := by omega
    have HF9 := hide (show ∀ g5 cap5 x5, x5.ownsRow h 9 1 (.slice (some ⟨g5, 0, none⟩) (na + 1) cap5) (na + 1) (A.map Value.string ++ [.string r]) → Below h w x5 → LQ w (pt l i) (.returned (.slice (some ⟨g5, 0, none⟩) (na + 1) cap5)) x5 from fun g5 cap5 x5 h1 h2 => ⟨_, rfl, by rw [hL, hh, List.length_append, hna, List.map_append]; exact h1, by rw [hh]; exact h2⟩)
    generalize dC r = cr at *
    clear hL hA hr hlen
    have hdd : ((i : Int) - (kk m : Int)) = ((i - kk m : Nat) : Int) := by omega
    have hdw : IntKind.i64.wrap ((i - kk m : Nat) : Int) = ((i - kk m : Nat) : Int) := wrapI_eq _ (by omega) (by omega)
    generalize i - kk m = d at *
    clear hS hK hT hce hl ih
    generalize kk m = k at *
    go_enter Tryd.func30, Tryd.ntmps30
    go_wp2_with fail
    refine (unhide HF _).mono ?_
    rintro e y0 ⟨rfl, hy0⟩
    subst y0
    go_wp2_with fail
    refine wp_region_held_drew (S := fun _ => True) (by kernel_rfl) trivial ?_
    intro hS
    refine wpAnyH_takeD 0 (some 27) (.slice (some ⟨g, o, none⟩) m c) rfl rfl (by kernel_rfl) (by kernel_rfl) (by kernel_rfl) (fun _ _ _ h => h) (Or.inl ⟨by rfl, fun w hSw => by clear hSw; go_simp; try (intro hbad; omega)⟩) hS ?_
    simp only [Act.put, List.setIfInBounds_toArray, List.set_cons_zero, List.set_cons_succ]
    refine wpAnyH_takeD 1 (some 28) (.int .i64 (k : Int)) rfl rfl (by kernel_rfl) (by kernel_rfl) (by kernel_rfl) (fun _ _ _ h => h) (Or.inl ⟨by rfl, fun w hSw => by clear hSw; go_simp; try (intro hbad; omega)⟩) hS ?_
    simp only [Act.put, List.setIfInBounds_toArray, List.set_cons_zero, List.set_cons_succ]
    refine wpAnyH_takeD 2 (some 29) (.slice (some ⟨g, o + k, none⟩) (m - k) (c - k)) rfl rfl (by kernel_rfl) (by kernel_rfl) (by kernel_rfl) (fun _ _ _ h => h) (Or.inl ⟨by rfl, fun w hSw => by clear hSw; go_simp; try (intro hbad; omega)⟩) hS ?_
    simp only [Act.put, List.setIfInBounds_toArray, List.set_cons_zero, List.set_cons_succ]
    refine wpAnyH_takeD 3 (some 30) (.int .i64 (i : Int)) rfl rfl (by kernel_rfl) (by kernel_rfl) (by kernel_rfl) (fun _ _ _ h => h) (Or.inl ⟨by rfl, fun w hSw => by clear hSw; go_simp; try (intro hbad; omega)⟩) hS ?_
    simp only [Act.put, List.setIfInBounds_toArray, List.set_cons_zero, List.set_cons_succ]
    refine wpAnyH_takeD 4 (some 31) (.int .i64 (k : Int)) rfl rfl (by kernel_rfl) (by kernel_rfl) (by kernel_rfl) (fun _ _ _ h => h) (Or.inl ⟨by rfl, fun w hSw => by clear hSw; go_simp; try (intro hbad; omega)⟩) hS ?_
    simp only [Act.put, List.setIfInBounds_toArray, List.set_cons_zero, List.set_cons_succ]
    refine wpAnyH_takeD 5 (some 32) (.int .i64 (d : Int)) rfl rfl (by kernel_rfl) (by kernel_rfl) (by kernel_rfl) (fun _ _ _ h => h) (Or.inl ⟨by rfl, fun w hSw => by clear hSw; go_simp; try (intro hbad; omega)⟩) hS ?_
    simp only [Act.put, List.setIfInBounds_toArray, List.set_cons_zero, List.set_cons_succ]
    refine wpAnyH_takeD 7 (some 34) (.slice (some ⟨g, o, none⟩) m c) rfl rfl (by kernel_rfl) (by kernel_rfl) (by kernel_rfl) (fun _ _ _ h => h) (Or.inl ⟨by rfl, fun w hSw => by clear hSw; go_simp; try (intro hbad; omega)⟩) hS ?_
    simp only [Act.put, List.setIfInBounds_toArray, List.set_cons_zero, List.set_cons_succ]
    refine wpAnyH_takeD 8 (some 35) (.int .i64 (k : Int)) rfl rfl (by kernel_rfl) (by kernel_rfl) (by kernel_rfl) (fun _ _ _ h => h) (Or.inl ⟨by rfl, fun w hSw => by clear hSw; go_simp; try (intro hbad; omega)⟩) hS ?_
    simp only [Act.put, List.setIfInBounds_toArray, List.set_cons_zero, List.set_cons_succ]
    refine wpAnyH_takeD 9 (some 36) (.slice (some ⟨g, o, none⟩) k c) rfl rfl (by kernel_rfl) (by kernel_rfl) (by kernel_rfl) (fun _ _ _ h => h) (Or.inl ⟨by rfl, fun w hSw => by clear hSw; go_simp; try (intro hbad; omega)⟩) hS ?_
    simp only [Act.put, List.setIfInBounds_toArray, List.set_cons_zero, List.set_cons_succ]
    refine wpAnyH_ready (rs := [6]) (by kernel_rfl) (by simp) ?_
    refine AllReadyH.cons rfl (fun K hK => ?_) AllReadyH.nil
    simp only [List.getElem_toArray, List.getElem_cons_succ, List.getElem_cons_zero]
    go_simp
    refine (unhide HP _ (unhide HB0).drew).mono ?_
    rintro e y1 ⟨v, rfl, ho, hb⟩
    rw [hna] at ho
    obtain ⟨pv, cv, rfl, _⟩ := gr_form ho
    have HO1 := hide (show y1.ownsRow h 9 1 (.slice pv na cv) na (A.map Value.string) from ho.mono (by show h ≤ w.heap.size; omega))
    have HB1 := hide (show Below h w y1 from (unhide HB0).drew.trans (hb.mono (by show h ≤ w.heap.size; omega)))
    clear ho hb HP
    refine hK.out _ _ trivial (fun hS => ?_)
    clear hK K
    refine wpAnyH_ready (rs := [10]) (by kernel_rfl) (by simp) ?_
    refine AllReadyH.cons rfl (fun K hK => ?_) AllReadyH.nil
    simp only [List.getElem_toArray, List.getElem_cons_succ, List.getElem_cons_zero]
    go_simp
    refine (unhide HR _ (unhide HB1)).mono ?_
    rintro e y2 ⟨rfl, hb⟩
    have HO2 := hide (own_bel (unhide HO1) hb)
    have HB2 := hide (show Below h w y2 from (unhide HB1).trans (hb.mono (by have := (unhide HB1).size; omega)))
    clear hb HR HO1 HB1
    refine hK.out _ _ trivial (fun hS => ?_)
    clear hK K
    refine wpAnyH_ready (rs := [11]) (by kernel_rfl) (by simp) ?_
    refine AllReadyH.cons rfl (fun K hK => ?_) AllReadyH.nil
    simp only [List.getElem_toArray, List.getElem_cons_succ, List.getElem_cons_zero]
    go_simp
    refine (unhide HT _).mono ?_
    rintro e y3 ⟨rfl, hb⟩
    have HO3 := hide ((own_bel (unhide HO2) hb).alloc (.cells #[.string r] 9))
    have HB3 := hide (show Below h w y3 from (unhide HB2).trans (hb.mono (by have := (unhide HB2).size; omega)))
    have hs3 : h ≤ y3.heap.size := by have := (unhide HB3).size; omega
    clear hb HT HO2 HB2
    refine hK.out _ _ trivial (fun hS => ?_)
    clear hK K
    refine wpAnyH_ready (rs := [12]) (by kernel_rfl) (by simp) ?_
    refine AllReadyH.cons rfl (fun K hK => ?_) AllReadyH.nil
    simp only [List.getElem_toArray, List.getElem_cons_succ, List.getElem_cons_zero]
    go_simp
    refine hK.out _ _ trivial (fun hS => ?_)
    clear hK K
    refine wpAnyH_ready (rs := [13]) (by kernel_rfl) (by simp) ?_
    refine AllReadyH.cons rfl (fun K hK => ?_) AllReadyH.nil
    rw [if_pos (by rfl)]
    refine wp_append_lies _ (.tmp 33) (.tmp 39) 22 rfl h 9 i0 (.string ⟨#[]⟩) 1 16 Tryd.underlying22 (unhide HI).1 (unhide HI).2.1 (unhide HI).2.2.1 (unhide HI).2.2.2 rfl (by decide) _ na _ rfl (unhide HO3) ⟨y3.heap.size, 0, none⟩ 1 1 [.string r] rfl rfl (fun q u hu => gr_new y3 9 _ q u hu) (by simp [Value.oneCell']) (by decide) (by unfold maxLen; omega) (by omega) (by simp; omega) (y3.heap.size + 1) (by simp) ?_
    intro g5 cap5 x5 ho5 hg5 _ _
    have HN := hide (unhide HF9 g5 cap5 x5 ho5 (((unhide HB3).alloc hs3 _).grown hg5 (by simp; omega) (fun q hq => ((unhide HO3).lt q hq).1)))
    clear ho5 hg5 HO3 HB3
    simp only [List.getElem_toArray, List.getElem_cons_succ, List.getElem_cons_zero, Act.put, List.setIfInBounds_toArray, List.set_cons_zero, List.set_cons_succ]
    refine hK.out _ _ trivial (fun hS => ?_)
    clear hK K
    refine wpAnyH_takeD 14 (some 4) (.slice (some ⟨g5, 0, none⟩) (na + 1) cap5) rfl rfl (by kernel_rfl) (by kernel_rfl) (by kernel_rfl) (fun _ _ _ h => h) (Or.inl ⟨by rfl, fun w hSw => by clear hSw; go_simp; try (intro hbad; omega)⟩) hS ?_
    simp only [Act.put, List.setIfInBounds_toArray, List.set_cons_zero, List.set_cons_succ]
    refine wpAnyH_done (by kernel_rfl) ?_ _
    go_wp2
    go_ret
    exact unhide HN
set_option maxHeartbeats 1000000 in
theorem growthOf_any : ∀ (q : Nat) (l : List ByteArray), l.length = q → ∀ (i : Nat), 1 ≤ i → i ≤ q → ∀ (b : Bool) (w : World) (B c : Nat) (p : Option Addr), SB w B p l → B ≤ w.heap.size → KTab w → Sht l → q ≤ 65536 → q ≤ c → c ≤ 9223372036854775807 → Calls Tryd.prog 27 #[.slice p q c, .int .i64 (i : Int), .bool b] w (LQ w (gr l i b)) := by
  intro q
  induction q using Nat.strongRecOn with
  | _ m ih =>
  intro l hl i hi1 him b w B c p hS hB hK hT hm hmc hc9
  obtain ⟨h, hh⟩ : ∃ h, w.heap.size = h := ⟨_, rfl⟩
  obtain ⟨g, o, rfl, hgB, hce⟩ := hS 0 (by omega)
  obtain ⟨i0, hi, hz0, hz1, hz2⟩ := info_parts gr_str
  have HI := hide (And.intro hi (And.intro hz0 (And.intro hz1 hz2)))
  clear hi hz0 hz1 hz2
  have HB0 := hide (show Below h w w from Below.refl _ _)
  have HKB := hide (show ∀ W, Below h w W → KTab W from fun W hW => hK.below hW (by rw [← hh]; exact hK.1))
  have HSB := hide (show ∀ W, Below h w W → SB W B (some ⟨g, o, none⟩) l from fun W hW => hS.below (hW.mono (by omega)))
  by_cases h1 : i = m
  · have e4 : ((i : Int) == (m : Int)) = true := by simp; omega
    cases b with
    | true =>
      have HE := hide (show LQ w (gr l i true) (.returned (.slice none 0 0)) w from by rw [h1, ← hl, gr_all, if_pos rfl]; exact LQ.nil)
      clear ih hS hK hT hl h1
      go_enter Tryd.func27, Tryd.ntmps27
      go_wp2
      go_ret
      exact unhide HE
    | false =>
      have HR := hide (rootOf_any m l hl w B c _ hS hB hK hT hm hmc hc9)
      have HT := hide (fun W => text_any (rt l) (rt_size _) W)
      have HE := hide (show ∀ y, Below h w y → LQ w (gr l i false) (.returned (.slice (some ⟨y.heap.size, 0, none⟩) 1 1)) (y.alloc (.cells #[.string (rt l)] 9)) from fun y hy => by
        rw [h1, ← hl, gr_all, if_neg (by simp)]
        refine ⟨_, rfl, ⟨rfl, .inr ⟨y.heap.size, 1, #[.string (rt l)], rfl, by have := hy.size; omega, ?_, Nat.le_refl _, by unfold maxLen; omega, rfl, rfl⟩⟩, ?_⟩
        · exact Blk.new y 9 #[.string (rt l)]
        · rw [hh]; exact hy.alloc (by have := hy.size; omega) _)
      generalize rt l = r at *
      generalize dC r = cr at *
      clear ih hS hK hT hl h1
      go_enter Tryd.func27, Tryd.ntmps27
      go_wp2_with fail
      refine (unhide HR).mono ?_
      rintro e y1 ⟨rfl, hb⟩
      have HB1 := hide (show Below h w y1 from (unhide HB0).trans (hb.mono (by omega)))
      clear hb HR
      go_wp2_with fail
      refine (unhide HT _).mono ?_
      rintro e y2 ⟨rfl, hb⟩
      have HB2 := hide (show Below h w y2 from (unhide HB1).trans (hb.mono (by have := (unhide HB1).size; omega)))
      clear hb HT HB1
      go_wp2
      go_ret
      exact unhide HE _ (unhide HB2)
  have k1 := kk_pos m
  have k2 := kk_lt m (by omega)
  have HF := hide (fun W => firstPart_any m (by omega) hm W)
  have e4 : ((i : Int) == (m : Int)) = false := by simp; omega
  have e1 : (kk m : Int) ≤ (m : Int) := by omega
  have e2 : (m : Int) ≤ (c : Int) := by omega
  by_cases hik : i ≤ kk m
  · have e5 : (i : Int) ≤ (kk m : Int) := by omega
    have HP := hide (show ∀ W, Below h w W → Calls Tryd.prog 27 #[.slice (some ⟨g, o, none⟩) (kk m) c, .int .i64 (i : Int), .bool b] W (LQ W (gr (l.take (kk m)) i b)) from fun W hW => ih (kk m) (by omega) (l.take (kk m)) (by rw [List.length_take]; omega) i hi1 (by omega) b W B c _ ((unhide HSB W hW).take _) (by have := hW.size; omega) (unhide HKB W hW) (hT.take _) (by omega) (by omega) (by omega))
    have HR := hide (show ∀ W, Below h w W → Calls Tryd.prog 26 #[.slice (some ⟨g, o + kk m, none⟩) (m - kk m) (c - kk m)] W fun e w' => e = .returned (.agg (dC (rt (l.drop (kk m)))).toArray) ∧ Below W.heap.size W w' from fun W hW => rootOf_any (m - kk m) (l.drop (kk m)) (by rw [List.length_drop]; omega) W B (c - kk m) _ ((unhide HSB W hW).drop _) (by have := hW.size; omega) (unhide HKB W hW) (hT.drop _) (by omega) (by omega) (by omega))
    have HT := hide (fun W => text_any (rt (l.drop (kk m))) (rt_size _) W)
    have hL := gr_left l i b (by omega) (by omega) (by rw [hl]; exact hik)
    have hlen := gr_len _ (l.take (kk m)) rfl i b hi1 (by rw [List.length_take]; omega)
    obtain ⟨A, hA⟩ : ∃ q, gr (l.take (kk m)) i b = q := ⟨_, rfl⟩
    obtain ⟨r, hr⟩ : ∃ q, rt (l.drop (kk m)) = q := ⟨_, rfl⟩
    obtain ⟨na, hna⟩ : ∃ q, A.length = q := ⟨_, rfl⟩
    rw [hA] at HP
    rw [hr] at HR HT
    simp only [hl] at hL
    rw [hA, hr] at hL
    rw [hA, hna, List.length_take] at hlen
    have hn9 : na ≤ 65536 := by omega
    have HF9 := hide (show ∀ g5 cap5 x5, x5.ownsRow h 9 1 (.slice (some ⟨g5, 0, none⟩) (na + 1) cap5) (na + 1) (A.map Value.string ++ [.string r]) → Below h w x5 → LQ w (gr (l) i b) (.returned (.slice (some ⟨g5, 0, none⟩) (na + 1) cap5)) x5 from fun g5 cap5 x5 h1 h2 => ⟨_, rfl, by rw [hL, hh, List.length_append, hna, List.map_append]; exact h1, by rw [hh]; exact h2⟩)
    generalize dC r = cr at *
    clear hL hA hr hlen
    clear hS hK hT hce hl ih
    generalize kk m = k at *
    go_enter Tryd.func27, Tryd.ntmps27
    go_wp2_with fail
    refine (unhide HF _).mono ?_
    rintro e y0 ⟨rfl, hy0⟩
    subst y0
    go_wp2_with fail
    refine wp_region_held_drew (S := fun _ => True) (by kernel_rfl) trivial ?_
    intro hS
    refine wpAnyH_takeD 0 (some 23) (.slice (some ⟨g, o, none⟩) m c) rfl rfl (by kernel_rfl) (by kernel_rfl) (by kernel_rfl) (fun _ _ _ h => h) (Or.inl ⟨by rfl, fun w hSw => by clear hSw; go_simp; try (intro hbad; omega)⟩) hS ?_
    simp only [Act.put, List.setIfInBounds_toArray, List.set_cons_zero, List.set_cons_succ]
    refine wpAnyH_takeD 1 (some 24) (.int .i64 (k : Int)) rfl rfl (by kernel_rfl) (by kernel_rfl) (by kernel_rfl) (fun _ _ _ h => h) (Or.inl ⟨by rfl, fun w hSw => by clear hSw; go_simp; try (intro hbad; omega)⟩) hS ?_
    simp only [Act.put, List.setIfInBounds_toArray, List.set_cons_zero, List.set_cons_succ]
    refine wpAnyH_takeD 2 (some 25) (.slice (some ⟨g, o, none⟩) k c) rfl rfl (by kernel_rfl) (by kernel_rfl) (by kernel_rfl) (fun _ _ _ h => h) (Or.inl ⟨by rfl, fun w hSw => by clear hSw; go_simp; try (intro hbad; omega)⟩) hS ?_
    simp only [Act.put, List.setIfInBounds_toArray, List.set_cons_zero, List.set_cons_succ]
    refine wpAnyH_takeD 3 (some 26) (.int .i64 (i : Int)) rfl rfl (by kernel_rfl) (by kernel_rfl) (by kernel_rfl) (fun _ _ _ h => h) (Or.inl ⟨by rfl, fun w hSw => by clear hSw; go_simp; try (intro hbad; omega)⟩) hS ?_
    simp only [Act.put, List.setIfInBounds_toArray, List.set_cons_zero, List.set_cons_succ]
    refine wpAnyH_takeD 4 (some 27) (.bool b) rfl rfl (by kernel_rfl) (by kernel_rfl) (by kernel_rfl) (fun _ _ _ h => h) (Or.inl ⟨by rfl, fun w hSw => by clear hSw; go_simp; try (intro hbad; omega)⟩) hS ?_
    simp only [Act.put, List.setIfInBounds_toArray, List.set_cons_zero, List.set_cons_succ]
    refine wpAnyH_takeD 6 (some 29) (.slice (some ⟨g, o, none⟩) m c) rfl rfl (by kernel_rfl) (by kernel_rfl) (by kernel_rfl) (fun _ _ _ h => h) (Or.inl ⟨by rfl, fun w hSw => by clear hSw; go_simp; try (intro hbad; omega)⟩) hS ?_
    simp only [Act.put, List.setIfInBounds_toArray, List.set_cons_zero, List.set_cons_succ]
    refine wpAnyH_takeD 7 (some 30) (.int .i64 (k : Int)) rfl rfl (by kernel_rfl) (by kernel_rfl) (by kernel_rfl) (fun _ _ _ h => h) (Or.inl ⟨by rfl, fun w hSw => by clear hSw; go_simp; try (intro hbad; omega)⟩) hS ?_
    simp only [Act.put, List.setIfInBounds_toArray, List.set_cons_zero, List.set_cons_succ]
    refine wpAnyH_takeD 8 (some 31) (.slice (some ⟨g, o + k, none⟩) (m - k) (c - k)) rfl rfl (by kernel_rfl) (by kernel_rfl) (by kernel_rfl) (fun _ _ _ h => h) (Or.inl ⟨by rfl, fun w hSw => by clear hSw; go_simp; try (intro hbad; omega)⟩) hS ?_
    simp only [Act.put, List.setIfInBounds_toArray, List.set_cons_zero, List.set_cons_succ]
    refine wpAnyH_ready (rs := [5]) (by kernel_rfl) (by simp) ?_
    refine AllReadyH.cons rfl (fun K hK => ?_) AllReadyH.nil
    simp only [List.getElem_toArray, List.getElem_cons_succ, List.getElem_cons_zero]
    go_simp
    refine (unhide HP _ (unhide HB0).drew).mono ?_
    rintro e y1 ⟨v, rfl, ho, hb⟩
    rw [hna] at ho
    obtain ⟨pv, cv, rfl, _⟩ := gr_form ho
    have HO1 := hide (show y1.ownsRow h 9 1 (.slice pv na cv) na (A.map Value.string) from ho.mono (by show h ≤ w.heap.size; omega))
    have HB1 := hide (show Below h w y1 from (unhide HB0).drew.trans (hb.mono (by show h ≤ w.heap.size; omega)))
    clear ho hb HP
    refine hK.out _ _ trivial (fun hS => ?_)
    clear hK K
    refine wpAnyH_ready (rs := [9]) (by kernel_rfl) (by simp) ?_
    refine AllReadyH.cons rfl (fun K hK => ?_) AllReadyH.nil
    simp only [List.getElem_toArray, List.getElem_cons_succ, List.getElem_cons_zero]
    go_simp
    refine (unhide HR _ (unhide HB1)).mono ?_
    rintro e y2 ⟨rfl, hb⟩
    have HO2 := hide (own_bel (unhide HO1) hb)
    have HB2 := hide (show Below h w y2 from (unhide HB1).trans (hb.mono (by have := (unhide HB1).size; omega)))
    clear hb HR HO1 HB1
    refine hK.out _ _ trivial (fun hS => ?_)
    clear hK K
    refine wpAnyH_ready (rs := [10]) (by kernel_rfl) (by simp) ?_
    refine AllReadyH.cons rfl (fun K hK => ?_) AllReadyH.nil
    simp only [List.getElem_toArray, List.getElem_cons_succ, List.getElem_cons_zero]
    go_simp
    refine (unhide HT _).mono ?_
    rintro e y3 ⟨rfl, hb⟩
    have HO3 := hide ((own_bel (unhide HO2) hb).alloc (.cells #[.string r] 9))
    have HB3 := hide (show Below h w y3 from (unhide HB2).trans (hb.mono (by have := (unhide HB2).size; omega)))
    have hs3 : h ≤ y3.heap.size := by have := (unhide HB3).size; omega
    clear hb HT HO2 HB2
    refine hK.out _ _ trivial (fun hS => ?_)
    clear hK K
    refine wpAnyH_ready (rs := [11]) (by kernel_rfl) (by simp) ?_
    refine AllReadyH.cons rfl (fun K hK => ?_) AllReadyH.nil
    simp only [List.getElem_toArray, List.getElem_cons_succ, List.getElem_cons_zero]
    go_simp
    refine hK.out _ _ trivial (fun hS => ?_)
    clear hK K
    refine wpAnyH_ready (rs := [12]) (by kernel_rfl) (by simp) ?_
    refine AllReadyH.cons rfl (fun K hK => ?_) AllReadyH.nil
    rw [if_pos (by rfl)]
    refine wp_append_lies _ (.tmp 28) (.tmp 34) 22 rfl h 9 i0 (.string ⟨#[]⟩) 1 16 Tryd.underlying22 (unhide HI).1 (unhide HI).2.1 (unhide HI).2.2.1 (unhide HI).2.2.2 rfl (by decide) _ na _ rfl (unhide HO3) ⟨y3.heap.size, 0, none⟩ 1 1 [.string r] rfl rfl (fun q u hu => gr_new y3 9 _ q u hu) (by simp [Value.oneCell']) (by decide) (by unfold maxLen; omega) (by omega) (by simp; omega) (y3.heap.size + 1) (by simp) ?_
    intro g5 cap5 x5 ho5 hg5 _ _
    have HN := hide (unhide HF9 g5 cap5 x5 ho5 (((unhide HB3).alloc hs3 _).grown hg5 (by simp; omega) (fun q hq => ((unhide HO3).lt q hq).1)))
    clear ho5 hg5 HO3 HB3
    simp only [List.getElem_toArray, List.getElem_cons_succ, List.getElem_cons_zero, Act.put, List.setIfInBounds_toArray, List.set_cons_zero, List.set_cons_succ]
    refine hK.out _ _ trivial (fun hS => ?_)
    clear hK K
    refine wpAnyH_takeD 13 (some 6) (.slice (some ⟨g5, 0, none⟩) (na + 1) cap5) rfl rfl (by kernel_rfl) (by kernel_rfl) (by kernel_rfl) (fun _ _ _ h => h) (Or.inl ⟨by rfl, fun w hSw => by clear hSw; go_simp; try (intro hbad; omega)⟩) hS ?_
    simp only [Act.put, List.setIfInBounds_toArray, List.set_cons_zero, List.set_cons_succ]
    refine wpAnyH_done (by kernel_rfl) ?_ _
    go_wp2
    go_ret
    exact unhide HN
  · have e5 : ¬ (i : Int) ≤ (kk m : Int) := by omega
    have HP := hide (show ∀ W, Below h w W → Calls Tryd.prog 27 #[.slice (some ⟨g, o + kk m, none⟩) (m - kk m) (c - kk m), .int .i64 ((i - kk m : Nat) : Int), .bool false] W (LQ W (gr (l.drop (kk m)) (i - kk m) false)) from fun W hW => ih (m - kk m) (by omega) (l.drop (kk m)) (by rw [List.length_drop]; omega) (i - kk m) (by omega) (by omega) false W B (c - kk m) _ ((unhide HSB W hW).drop _) (by have := hW.size; omega) (unhide HKB W hW) (hT.drop _) (by omega) (by omega) (by omega))
    have HR := hide (show ∀ W, Below h w W → Calls Tryd.prog 26 #[.slice (some ⟨g, o, none⟩) (kk m) c] W fun e w' => e = .returned (.agg (dC (rt (l.take (kk m)))).toArray) ∧ Below W.heap.size W w' from fun W hW => rootOf_any (kk m) (l.take (kk m)) (by rw [List.length_take]; omega) W B c _ ((unhide HSB W hW).take _) (by have := hW.size; omega) (unhide HKB W hW) (hT.take _) (by omega) (by omega) (by omega))
    have HT := hide (fun W => text_any (rt (l.take (kk m))) (rt_size _) W)
    have hL := gr_right l i b (by omega) (by omega) (by rw [hl]; exact hik)
    have hlen := gr_len _ (l.drop (kk m)) rfl (i - kk m) false (by omega) (by rw [List.length_drop]; omega)
    obtain ⟨A, hA⟩ : ∃ q, gr (l.drop (kk m)) (i - kk m) false = q := ⟨_, rfl⟩
    obtain ⟨r, hr⟩ : ∃ q, rt (l.take (kk m)) = q := ⟨_, rfl⟩
    obtain ⟨na, hna⟩ : ∃ q, A.length = q := ⟨_, rfl⟩
    rw [hA] at HP
    rw [hr] at HR HT
    simp only [hl] at hL
    rw [hA, hr] at hL
    rw [hA, hna, List.length_drop] at hlen
    have hn9 : na ≤ 65536 := by omega
    have HF9 := hide (show ∀ g5 cap5 x5, x5.ownsRow h 9 1 (.slice (some ⟨g5, 0, none⟩) (na + 1) cap5) (na + 1) (A.map Value.string ++ [.string r]) → Below h w x5 → LQ w (gr l i b) (.returned (.slice (some ⟨g5, 0, none⟩) (na + 1) cap5)) x5 from fun g5 cap5 x5 h1 h2 => ⟨_, rfl, by rw [hL, hh, List.length_append, hna, List.map_append]; exact h1, by rw [hh]; exact h2⟩)
    generalize dC r = cr at *
    clear hL hA hr hlen
    have hdd : ((i : Int) - (kk m : Int)) = ((i - kk m : Nat) : Int) := by omega
    have hdw : IntKind.i64.wrap ((i - kk m : Nat) : Int) = ((i - kk m : Nat) : Int) := wrapI_eq _ (by omega) (by omega)
    generalize i - kk m = d at *
    clear hS hK hT hce hl ih
    generalize kk m = k at *
    go_enter Tryd.func27, Tryd.ntmps27
    go_wp2_with fail
    refine (unhide HF _).mono ?_
    rintro e y0 ⟨rfl, hy0⟩
    subst y0
    go_wp2_with fail
    refine wp_region_held_drew (S := fun _ => True) (by kernel_rfl) trivial ?_
    intro hS
    refine wpAnyH_takeD 0 (some 36) (.slice (some ⟨g, o, none⟩) m c) rfl rfl (by kernel_rfl) (by kernel_rfl) (by kernel_rfl) (fun _ _ _ h => h) (Or.inl ⟨by rfl, fun w hSw => by clear hSw; go_simp; try (intro hbad; omega)⟩) hS ?_
    simp only [Act.put, List.setIfInBounds_toArray, List.set_cons_zero, List.set_cons_succ]
    refine wpAnyH_takeD 1 (some 37) (.int .i64 (k : Int)) rfl rfl (by kernel_rfl) (by kernel_rfl) (by kernel_rfl) (fun _ _ _ h => h) (Or.inl ⟨by rfl, fun w hSw => by clear hSw; go_simp; try (intro hbad; omega)⟩) hS ?_
    simp only [Act.put, List.setIfInBounds_toArray, List.set_cons_zero, List.set_cons_succ]
    refine wpAnyH_takeD 2 (some 38) (.slice (some ⟨g, o + k, none⟩) (m - k) (c - k)) rfl rfl (by kernel_rfl) (by kernel_rfl) (by kernel_rfl) (fun _ _ _ h => h) (Or.inl ⟨by rfl, fun w hSw => by clear hSw; go_simp; try (intro hbad; omega)⟩) hS ?_
    simp only [Act.put, List.setIfInBounds_toArray, List.set_cons_zero, List.set_cons_succ]
    refine wpAnyH_takeD 3 (some 39) (.int .i64 (i : Int)) rfl rfl (by kernel_rfl) (by kernel_rfl) (by kernel_rfl) (fun _ _ _ h => h) (Or.inl ⟨by rfl, fun w hSw => by clear hSw; go_simp; try (intro hbad; omega)⟩) hS ?_
    simp only [Act.put, List.setIfInBounds_toArray, List.set_cons_zero, List.set_cons_succ]
    refine wpAnyH_takeD 4 (some 40) (.int .i64 (k : Int)) rfl rfl (by kernel_rfl) (by kernel_rfl) (by kernel_rfl) (fun _ _ _ h => h) (Or.inl ⟨by rfl, fun w hSw => by clear hSw; go_simp; try (intro hbad; omega)⟩) hS ?_
    simp only [Act.put, List.setIfInBounds_toArray, List.set_cons_zero, List.set_cons_succ]
    refine wpAnyH_takeD 5 (some 41) (.int .i64 (d : Int)) rfl rfl (by kernel_rfl) (by kernel_rfl) (by kernel_rfl) (fun _ _ _ h => h) (Or.inl ⟨by rfl, fun w hSw => by clear hSw; go_simp; try (intro hbad; omega)⟩) hS ?_
    simp only [Act.put, List.setIfInBounds_toArray, List.set_cons_zero, List.set_cons_succ]
    refine wpAnyH_takeD 7 (some 43) (.slice (some ⟨g, o, none⟩) m c) rfl rfl (by kernel_rfl) (by kernel_rfl) (by kernel_rfl) (fun _ _ _ h => h) (Or.inl ⟨by rfl, fun w hSw => by clear hSw; go_simp; try (intro hbad; omega)⟩) hS ?_
    simp only [Act.put, List.setIfInBounds_toArray, List.set_cons_zero, List.set_cons_succ]
    refine wpAnyH_takeD 8 (some 44) (.int .i64 (k : Int)) rfl rfl (by kernel_rfl) (by kernel_rfl) (by kernel_rfl) (fun _ _ _ h => h) (Or.inl ⟨by rfl, fun w hSw => by clear hSw; go_simp; try (intro hbad; omega)⟩) hS ?_
    simp only [Act.put, List.setIfInBounds_toArray, List.set_cons_zero, List.set_cons_succ]
    refine wpAnyH_takeD 9 (some 45) (.slice (some ⟨g, o, none⟩) k c) rfl rfl (by kernel_rfl) (by kernel_rfl) (by kernel_rfl) (fun _ _ _ h => h) (Or.inl ⟨by rfl, fun w hSw => by clear hSw; go_simp; try (intro hbad; omega)⟩) hS ?_
    simp only [Act.put, List.setIfInBounds_toArray, List.set_cons_zero, List.set_cons_succ]
    refine wpAnyH_ready (rs := [6]) (by kernel_rfl) (by simp) ?_
    refine AllReadyH.cons rfl (fun K hK => ?_) AllReadyH.nil
    simp only [List.getElem_toArray, List.getElem_cons_succ, List.getElem_cons_zero]
    go_simp
    refine (unhide HP _ (unhide HB0).drew).mono ?_
    rintro e y1 ⟨v, rfl, ho, hb⟩
    rw [hna] at ho
    obtain ⟨pv, cv, rfl, _⟩ := gr_form ho
    have HO1 := hide (show y1.ownsRow h 9 1 (.slice pv na cv) na (A.map Value.string) from ho.mono (by show h ≤ w.heap.size; omega))
    have HB1 := hide (show Below h w y1 from (unhide HB0).drew.trans (hb.mono (by show h ≤ w.heap.size; omega)))
    clear ho hb HP
    refine hK.out _ _ trivial (fun hS => ?_)
    clear hK K
    refine wpAnyH_ready (rs := [10]) (by kernel_rfl) (by simp) ?_
    refine AllReadyH.cons rfl (fun K hK => ?_) AllReadyH.nil
    simp only [List.getElem_toArray, List.getElem_cons_succ, List.getElem_cons_zero]
    go_simp
    refine (unhide HR _ (unhide HB1)).mono ?_
    rintro e y2 ⟨rfl, hb⟩
    have HO2 := hide (own_bel (unhide HO1) hb)
    have HB2 := hide (show Below h w y2 from (unhide HB1).trans (hb.mono (by have := (unhide HB1).size; omega)))
    clear hb HR HO1 HB1
    refine hK.out _ _ trivial (fun hS => ?_)
    clear hK K
    refine wpAnyH_ready (rs := [11]) (by kernel_rfl) (by simp) ?_
    refine AllReadyH.cons rfl (fun K hK => ?_) AllReadyH.nil
    simp only [List.getElem_toArray, List.getElem_cons_succ, List.getElem_cons_zero]
    go_simp
    refine (unhide HT _).mono ?_
    rintro e y3 ⟨rfl, hb⟩
    have HO3 := hide ((own_bel (unhide HO2) hb).alloc (.cells #[.string r] 9))
    have HB3 := hide (show Below h w y3 from (unhide HB2).trans (hb.mono (by have := (unhide HB2).size; omega)))
    have hs3 : h ≤ y3.heap.size := by have := (unhide HB3).size; omega
    clear hb HT HO2 HB2
    refine hK.out _ _ trivial (fun hS => ?_)
    clear hK K
    refine wpAnyH_ready (rs := [12]) (by kernel_rfl) (by simp) ?_
    refine AllReadyH.cons rfl (fun K hK => ?_) AllReadyH.nil
    simp only [List.getElem_toArray, List.getElem_cons_succ, List.getElem_cons_zero]
    go_simp
    refine hK.out _ _ trivial (fun hS => ?_)
    clear hK K
    refine wpAnyH_ready (rs := [13]) (by kernel_rfl) (by simp) ?_
    refine AllReadyH.cons rfl (fun K hK => ?_) AllReadyH.nil
    rw [if_pos (by rfl)]
    refine wp_append_lies _ (.tmp 42) (.tmp 48) 22 rfl h 9 i0 (.string ⟨#[]⟩) 1 16 Tryd.underlying22 (unhide HI).1 (unhide HI).2.1 (unhide HI).2.2.1 (unhide HI).2.2.2 rfl (by decide) _ na _ rfl (unhide HO3) ⟨y3.heap.size, 0, none⟩ 1 1 [.string r] rfl rfl (fun q u hu => gr_new y3 9 _ q u hu) (by simp [Value.oneCell']) (by decide) (by unfold maxLen; omega) (by omega) (by simp; omega) (y3.heap.size + 1) (by simp) ?_
    intro g5 cap5 x5 ho5 hg5 _ _
    have HN := hide (unhide HF9 g5 cap5 x5 ho5 (((unhide HB3).alloc hs3 _).grown hg5 (by simp; omega) (fun q hq => ((unhide HO3).lt q hq).1)))
    clear ho5 hg5 HO3 HB3
    simp only [List.getElem_toArray, List.getElem_cons_succ, List.getElem_cons_zero, Act.put, List.setIfInBounds_toArray, List.set_cons_zero, List.set_cons_succ]
    refine hK.out _ _ trivial (fun hS => ?_)
    clear hK K
    refine wpAnyH_takeD 14 (some 6) (.slice (some ⟨g5, 0, none⟩) (na + 1) cap5) rfl rfl (by kernel_rfl) (by kernel_rfl) (by kernel_rfl) (fun _ _ _ h => h) (Or.inl ⟨by rfl, fun w hSw => by clear hSw; go_simp; try (intro hbad; omega)⟩) hS ?_
    simp only [Act.put, List.setIfInBounds_toArray, List.set_cons_zero, List.set_cons_succ]
    refine wpAnyH_done (by kernel_rfl) ?_ _
    go_wp2
    go_ret
    exact unhide HN
end Go.Proofs.YtilhilglokblpaaDoor
