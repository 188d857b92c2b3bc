import Derived.Test.YtokaomlhnmbajaaDoorKn
import Derived.Deep.RegionWith
namespace Go.Proofs.YtokaomlhnmbajaaDoor
open Go.RowKit
set_option maxHeartbeats 400000 in
theorem pick_any (c n : Int) (hn : 0 < n) (hc : -9223372036854775808 ≤ c) (hc2 : c ≤ 9223372036854775807) (w : World) :
    Calls Tryd.prog 15 #[.int .i64 c, .int .i64 n] w fun e w' => ∃ r : Nat, (r : Int) < n ∧ e = .returned (.int .i64 (r : Int)) ∧ w' = w := by
  by_cases h : c < 0
  · have e1 : (-(c + 1)).tmod n = (-(c + 1)) % n := Int.tmod_eq_emod_of_nonneg (by omega)
    have hp : 0 ≤ (-(c + 1)) % n := Int.emod_nonneg _ (by omega)
    have hl : (-(c + 1)) % n < n := Int.emod_lt_of_pos _ hn
    have hz : (n == 0) = false := by simp; omega
    go_enter Tryd.func15, Tryd.ntmps15
    go_wp2
    go_ret
    exact ⟨((-(c + 1)) % n).toNat, by omega, by simp; omega, rfl⟩
  · have e1 : c.tmod n = c % n := Int.tmod_eq_emod_of_nonneg (by omega)
    have hp : 0 ≤ c % n := Int.emod_nonneg _ (by omega)
    have hl : c % n < n := Int.emod_lt_of_pos _ hn
    have hz : (n == 0) = false := by simp; omega
    go_enter Tryd.func15, Tryd.ntmps15
    go_wp2
    go_ret
    exact ⟨(c % n).toNat, by omega, by simp; omega, rfl⟩
/-- A slice of numbers that came in: nil; or a row of 'cap' cells. -/
def IsRow (k : IntKind) (w : World) (a : Option Addr) (len cap : Nat) (zs : List Int) : Prop :=
  (a = none ∧ len = 0 ∧ cap = 0 ∧ zs = []) ∨
  ∃ x, a = some x ∧ len ≤ cap ∧ cap ≤ maxLen ∧ zs.length = cap ∧ (∀ i, i < zs.length → w.cell? (x.add i) = some (.int k (zs.getD i 0))) ∧ ∀ n ∈ zs, (Lit.int k n).wf = true
theorem nums_extract_pre (t : ByteArray) (m : Nat) : nums (t.extract 0 m) = (nums t).take m := by
  unfold nums
  simp only [ByteArray.data_extract, Array.toList_extract, List.extract_eq_take_drop, List.map_take, List.drop_zero, Nat.sub_zero]
theorem nums_extract_mid (t : ByteArray) (f m : Nat) : (nums t).take f ++ nums (t.extract f (f + m)) = (nums t).take (f + m) := by
  unfold nums
  simp only [ByteArray.data_extract, Array.toList_extract, List.extract_eq_take_drop, List.map_take, List.map_drop, Nat.add_sub_cancel_left]
  rw [List.take_add]
theorem nums_extract_end (t : ByteArray) (f : Nat) : (nums t).take f ++ nums (t.extract f t.size) = nums t := by
  rw [nums_extract, List.take_append_drop]
theorem sum_pre (s : ByteArray) (f : Nat) (w : World) (hK : KTab w) (hn : s.size < 2305843009213693952) :
    Calls Tryd.prog 19 #[.string (s.extract 0 f)] w fun e w' => e = .returned (.string (strOfNums (sha ((nums s).take f)))) ∧ Below w.heap.size w w' := by
  have := sum_any (s.extract 0 f) w hK (by rw [← nums_len, nums_extract_pre, List.length_take, nums_len]; omega)
  rw [nums_extract_pre] at this
  exact this
theorem wf_i64 {z : Int} (h : (Lit.int .i64 z).wf = true) : -9223372036854775808 ≤ z ∧ z ≤ 9223372036854775807 := by
  simpa [Lit.wf, IntKind.min, IntKind.max, IntKind.signed, IntKind.bits] using h
theorem cut_rel {w w4 w5 w6 : World} {s : ByteArray} {hb k n r len : Nat} (hk : k + 1 ≤ len) (hn : n + r ≤ s.size) (h4 : Hs w4 hb ((nums s).take (n + r))) (hB4 : Below w.heap.size w w4) (hbs : hb < w4.heap.size) (hL : w.heap.size ≤ hb)
    (h5 : Below w4.heap.size w4.drew w5) (h6 : Below w5.heap.size w5 w6) :
    ∃ k' n' : Nat, k' ≤ len ∧ n' ≤ s.size ∧ Value.int .i64 ((k : Int) + 1) = .int .i64 k' ∧ Value.int .i64 ((n : Int) + (r : Int)) = .int .i64 n' ∧ Hs w6 hb ((nums s).take n') ∧ Below w.heap.size w w6 ∧ hb < w6.heap.size := by
  have h4' : Hs w4.drew hb ((nums s).take (n + r)) := h4
  have hs5 : w4.heap.size ≤ w5.heap.size := h5.size
  have h45 : Below w4.heap.size w4 w5 := ⟨h5.os, h5.tape, h5.output, h5.size, h5.block⟩
  exact ⟨k + 1, n + r, hk, hn, by simp, by simp, (h4'.below h5 hbs).below h6 (by omega), (hB4.trans (h45.mono (by omega))).trans (h6.mono (by omega)), Nat.lt_of_lt_of_le hbs (Nat.le_trans hs5 h6.size)⟩
set_option maxRecDepth 100000 in
set_option maxHeartbeats 1000000 in
theorem cuts_walk (s : ByteArray) (hs : s.size ≤ 140737488351232) (ao : Option Addr) (len cap : Nat) (zs : List Int) (w : World) (hK : KTab w) (hlen : len ≤ 140737488351232)
    (hcell : ∀ i, i < len → ∃ b off, ao = some ⟨b, off, none⟩ ∧ w.cell? ⟨b, off + i, none⟩ = some (.int .i64 (zs.getD i 0))) (hwf : ∀ i, i < len → (Lit.int .i64 (zs.getD i 0)).wf = true) :
    Calls Tryd.prog 4 #[.string s, .slice ao len cap] w fun e w' => e = .returned (.bool true) ∧ Below w.heap.size w w' := by
  have HK := hide hK
  have HC := hide hcell
  have HW := hide hwf
  clear hK hcell hwf
  go_enter Tryd.func4, Tryd.ntmps4
  go_wp2_with fail
  refine (known_any w (unhide HK)).mono ?_
  rintro e w1 ⟨rfl, hb1⟩
  have HB1 := hide hb1
  clear hb1
  go_wp2_with fail
  refine (new_any w1).mono ?_
  rintro e w2 ⟨rfl, h2, hb2, hs2⟩
  have HB2 := hide ((unhide HB1).trans (hb2.mono (unhide HB1).size))
  have H2 := hide h2
  have HS2 := hide (show w1.heap.size < w2.heap.size by omega)
  have HL1 := hide (unhide HB1).size
  clear h2 hb2 hs2 HB1
  obtain ⟨hb, hhb⟩ : ∃ hb, hb = w1.heap.size := ⟨_, rfl⟩
  rw [← hhb]
  rw [← hhb] at H2 HS2 HL1
  clear hhb
  go_wp2
  go_loopw [7, 8] (fun f i wr => ∃ k n : Nat, k ≤ len ∧ n ≤ s.size ∧ i = .int .i64 k ∧ f = .int .i64 n ∧ Hs wr hb ((nums s).take n) ∧ Below w.heap.size w wr ∧ hb < wr.heap.size) (fun _ i _ => len - (intOf i).toNat)
  case atStart => exact ⟨0, 0, by omega, by omega, rfl, rfl, by simpa using unhide H2, unhide HB2, unhide HS2⟩
  case round =>
    clear H2 HB2 HS2
    obtain ⟨k, n, hk, hn, rfl, rfl, hI, hB, hbs⟩ := hrel
    have HI := hide hI
    have HB := hide hB
    clear hI hB
    by_cases hlt : k < len
    · obtain ⟨b, off, hao, hc⟩ := unhide HC k hlt
      subst hao
      have c1 : wr.cell? ⟨b, off + k, none⟩ = some (.int .i64 (zs.getD k 0)) := by
        rw [(unhide HB).cell (p := ⟨b, off + k, none⟩) (World.block_lt_of_cell? w _ hc)]
        exact hc
      have hw := wf_i64 (unhide HW k hlt)
      obtain ⟨z, hz⟩ : ∃ z, z = zs.getD k 0 := ⟨_, rfl⟩
      rw [← hz] at c1 hw
      clear hz hc
      go_wp2_with fail
      refine (pick_any z ((s.size : Int) - (n : Int) + 1) (by omega) hw.1 hw.2 _).mono ?_
      rintro e w3 ⟨r, hr, rfl, rfl⟩
      have hsx : (s.extract n (n + r)).size ≤ s.size := by rw [ByteArray.size_extract]; omega
      have hb0 : 0 < hb := Nat.lt_of_lt_of_le (unhide HK).1 (unhide HL1)
      go_wp2_with fail
      refine (write_any w3 hb ((nums s).take n) (s.extract n (n + r)) (unhide HI) hb0 hbs ((unhide HK).below (unhide HB) (unhide HK).1) (by rw [List.length_take]; omega)).mono ?_
      rintro e w4 ⟨rfl, h4, ht4⟩
      rw [nums_extract_mid] at h4
      have hK4 : KTab w4 := ((unhide HK).below (unhide HB) (unhide HK).1).touch ht4 hb0
      have hbs4 : hb < w4.heap.size := Nat.lt_of_lt_of_le hbs ht4.1.size
      have hB4 : Below w.heap.size w w4 := (unhide HB).trans (ht4.1.mono (unhide HL1))
      have hll : (((nums s).take (n + r)).length : Int) = (n : Int) + (r : Int) := by rw [List.length_take, nums_len]; omega
      have C17 := hide (len_any w4.drew hb _ h4)
      rw [hll] at C17
      have C18 := hide (msum_any w4.drew hb _ h4 hbs4 hK4 (by omega))
      have C19 := hide (fun W (hW : KTab W) => sum_pre s (n + r) W hW (by omega))
      have H4 := hide h4
      have HB4 := hide hB4
      have HK4 : Hid (KTab w4.drew) := hK4
      clear h4 ht4 hK4 hB4 hll HI HB c1
      generalize strOfNums (sha ((nums s).take (n + r))) = D at *
      go_wp2_with fail
      go_region_with (first
        | (go_at_call 17; refine (unhide C17).mono ?_; rintro e w' ⟨rfl, rfl⟩)
        | (go_at_call 18; refine (unhide C18).mono ?_; rintro e w5 ⟨rfl, hb5⟩; have hK5 := hide ((unhide HK4).below hb5 (unhide HK4).1); have HB5 := hide hb5; clear hb5)
        | (go_at_call 19; refine (unhide C19 _ (unhide hK5)).mono ?_; rintro e w6 ⟨rfl, hb6⟩; have HB6 := hide hb6; clear hb6))
      all_goals go_wp2
      all_goals
        go_roundw
        case rel => exact cut_rel (Nat.succ_le_of_lt hlt) (by omega) (unhide H4) (unhide HB4) hbs4 (unhide HL1) (unhide HB5) (unhide HB6)
        case measure => simp [intOf]; omega
    · have hn2 : s.size < 2305843009213693952 := by omega
      have hb0 : 0 < hb := Nat.lt_of_lt_of_le (unhide HK).1 (unhide HL1)
      have hsx : (s.extract n s.size).size ≤ s.size := by rw [ByteArray.size_extract]; omega
      go_wp2_with fail
      refine (write_any wr hb ((nums s).take n) (s.extract n s.size) (unhide HI) hb0 hbs ((unhide HK).below (unhide HB) (unhide HK).1) (by rw [List.length_take]; omega)).mono ?_
      rintro e w4 ⟨rfl, h4, ht4⟩
      rw [nums_extract_end] at h4
      have hK4 : KTab w4 := ((unhide HK).below (unhide HB) (unhide HK).1).touch ht4 hb0
      have hbs4 : hb < w4.heap.size := Nat.lt_of_lt_of_le hbs ht4.1.size
      have hB4 := hide ((unhide HB).trans (ht4.1.mono (unhide HL1)))
      have C18 := hide (msum_any w4 hb _ h4 hbs4 hK4 (by rw [nums_len]; omega))
      have HK4 := hide hK4
      clear h4 ht4 hK4 HI HB
      go_wp2_with fail
      refine (unhide C18).mono ?_
      rintro e w5 ⟨rfl, hb5⟩
      have hB5 := hide ((unhide hB4).trans (hb5.mono (unhide hB4).size))
      have HK5 := hide ((unhide HK4).below hb5 (unhide HK4).1)
      clear hb5
      go_wp2_with fail
      refine (sum_any s w5 (unhide HK5) hn2).mono ?_
      rintro e w6 ⟨rfl, hb6⟩
      have hB6 := hide ((unhide hB5).trans (hb6.mono (unhide hB5).size))
      clear hb6 C18
      generalize strOfNums (sha (nums s)) = D at *
      go_wp2
      go_ret
      exact ⟨by simp, unhide hB6⟩
end Go.Proofs.YtokaomlhnmbajaaDoor
