import Derived.Test.YtabgcgdpeikieaaDoorPdd
import Derived.BigQuiet
namespace Go.Proofs.YtabgcgdpeikieaaDoor
open Go.RowKit
set_option maxRecDepth 100000
theorem isFull_any {w : World} {g : Nat} {S : List Nat} (h : Blk w g (chA S) 114) :
    Calls Tryd.prog 62 #[.pointer (some ⟨g, 0, none⟩)] w fun e w' => e = .returned (.bool (decide (S.length = 8))) ∧ w' = w := by
  have c1 : w.cell? ⟨g, 256, none⟩ = some (.int .i64 (S.length : Int)) := by rw [h.cell, chA_n]
  have e1 : ((S.length : Int) == 8) = decide (S.length = 8) := by
    by_cases q : S.length = 8
    · rw [decide_eq_true q, beq_iff_eq]; omega
    · rw [decide_eq_false q, beq_eq_false_iff_ne]; omega
  clear h
  go_enter Tryd.func62, Tryd.ntmps62
  go_wp2
  go_ret
  exact ⟨rfl, rfl⟩
set_option maxHeartbeats 1000000 in
theorem cadd_any {w : World} {g : Nat} {S : List Nat} (h : Blk w g (chA S) 114) (hl : S.length ≤ 8) (p : Nat) (hp : p < 256) :
    Calls Tryd.prog 63 #[.pointer (some ⟨g, 0, none⟩), .int .i64 (p : Int)] w fun e w' => e = .returned (.tuple #[]) ∧ Blk w' g (chA (addP S p)) 114 ∧ Only (fun x => x = g) w w' := by
  have HF := hide (isFull_any h)
  have HH := hide h
  have c1 : w.cell? ⟨g, 256, none⟩ = some (.int .i64 (S.length : Int)) := by rw [h.cell, chA_n]
  have c2 : w.cell? ⟨g, p, none⟩ = some (.bool (decide (p ∈ S))) := by rw [h.cell, chA_at _ _ hp]
  have f1 := h.frozen 256
  have f2 := h.frozen p
  have i1 : 0 ≤ (p : Int) := by omega
  have i2 : (p : Int) < 256 := by omega
  have w1 : IntKind.i64.wrap ((S.length : Int) + 1) = (S.length : Int) + 1 := wrapI_eq _ (by omega) (by omega)
  have hne : ¬ (p = 256) := by omega
  have hne2 : ¬ (256 = p) := by omega
  clear h
  by_cases q1 : S.length = 8
  · have e1 : decide (S.length = 8) = true := decide_eq_true q1
    have HA := hide (addP_full q1 p)
    rw [e1] at HF
    clear e1
    go_enter Tryd.func63, Tryd.ntmps63
    go_wp2_with (go_at_call 62; refine (unhide HF).mono ?_; rintro e z ⟨rfl, rfl⟩)
    refine bodyPost_ret (results_none rfl _ _ _) rfl ?_
    refine ⟨rfl, ?_, Only.refl _ _⟩
    rw [unhide HA]
    exact unhide HH
  · have e1 : decide (S.length = 8) = false := decide_eq_false q1
    rw [e1] at HF
    clear e1
    by_cases q2 : p ∈ S
    · have e2 : decide (p ∈ S) = true := decide_eq_true q2
      rw [e2] at c2
      have HA := hide (show addP S p = S by unfold addP; rw [if_pos (.inr q2)])
      clear e2 q2
      go_enter Tryd.func63, Tryd.ntmps63
      go_wp2_with (go_at_call 62; refine (unhide HF).mono ?_; rintro e z ⟨rfl, rfl⟩)
      refine bodyPost_ret (results_none rfl _ _ _) rfl ?_
      refine ⟨rfl, ?_, Only.refl _ _⟩
      rw [unhide HA]
      exact unhide HH
    · have e2 : decide (p ∈ S) = false := decide_eq_false q2
      rw [e2] at c2
      have HA := hide (show addP S p = S ++ [p] by unfold addP; rw [if_neg (fun q => q.elim q1 q2)])
      clear e2 q2
      go_enter Tryd.func63, Tryd.ntmps63
      go_wp2_with (go_at_call 62; refine (unhide HF).mono ?_; rintro e z ⟨rfl, rfl⟩)
      go_end0
      refine ⟨rfl, ?_, ((Only.refl (fun x => x = g) _).setCell _ _ (fun _ => rfl)).setCell _ _ (fun _ => rfl)⟩
      rw [unhide HA, ← chA_add S p hp]
      exact ((unhide HH).set p (.bool true)).set 256 (.int .i64 ((S.length : Int) + 1))
/-- A text's bytes. -/
def bts (s : ByteArray) : List Nat := (nums s).map Int.toNat
theorem bts_len (s : ByteArray) : (bts s).length = s.size := by rw [bts, List.length_map, nums_len]
theorem bts_lt (s : ByteArray) (p : Nat) (h : p ∈ bts s) : p < 256 := by
  rw [bts, List.mem_map] at h
  obtain ⟨x, hx, rfl⟩ := h
  obtain ⟨j, hj, e⟩ := List.getElem_of_mem hx
  have := nums_bytes s j
  have e2 : (nums s).getD j 0 = x := by rw [← e]; simp [hj]
  rw [e2] at this
  omega
theorem bts_at (s : ByteArray) (k : Nat) : (((bts s).getD k 0 : Nat) : Int) = (nums s).getD k 0 := by
  have h := (nums_bytes s k).1
  have e : (bts s).getD k 0 = ((nums s).getD k 0).toNat := by
    unfold bts
    simp only [List.getD_eq_getElem?_getD, List.getElem?_map]
    cases (nums s)[k]? <;> rfl
  rw [e, Int.toNat_of_nonneg h]
theorem bts_in (s : ByteArray) (k : Nat) (h : k < s.size) : (bts s).getD k 0 ∈ bts s := by
  have : k < (bts s).length := by rw [bts_len]; exact h
  rw [List.getD_eq_getElem?_getD, List.getElem?_eq_getElem this, Option.getD_some]
  exact List.getElem_mem this
theorem bts_take (s : ByteArray) (k : Nat) (h : k < s.size) : (bts s).take (k + 1) = (bts s).take k ++ [(bts s).getD k 0] := by
  rw [List.take_add_one]
  have : k < (bts s).length := by rw [bts_len]; exact h
  simp [this]
set_option maxHeartbeats 1000000 in
theorem cbytes_any {w : World} {g : Nat} {S : List Nat} (h : Blk w g (chA S) 114) (hS : Chs S) (s : ByteArray) (hs : s.size ≤ 8160) :
    Calls Tryd.prog 61 #[.pointer (some ⟨g, 0, none⟩), .string s] w fun e w' => e = .returned (.tuple #[]) ∧ Blk w' g (chA (addsP S (bts s))) 114 ∧ Only (fun x => x = g) w w' := by
  have HH := hide h
  clear h
  go_enter Tryd.func61, Tryd.ntmps61
  go_wp2
  go_loopw [7] (fun i wr => ∃ k : Nat, k ≤ s.size ∧ i = .int .i64 (k : Int) ∧ Blk wr g (chA (addsP S ((bts s).take k))) 114 ∧ Only (fun x => x = g) w wr) (fun i _ => s.size - (intOf i).toNat)
  case atStart => exact ⟨0, by omega, rfl, by simpa [addsP] using unhide HH, Only.refl _ _⟩
  case round =>
    obtain ⟨k, hk, rfl, hB, hO⟩ := hrel
    by_cases hlt : k < s.size
    · have i1 : (k : Int) < (s.size : Int) := by omega
      have i2 : 0 ≤ (k : Int) := by omega
      have hc := hS.adds ((bts s).take k) (fun p hp => bts_lt s p (List.mem_of_mem_take hp))
      have hm : (bts s).getD k 0 < 256 := bts_lt s _ (bts_in s k hlt)
      have HC := hide (cadd_any hB hc.len _ hm)
      have HE := hide (bts_take s k hlt)
      have HO := hide hO
      have hix := index_str s k hlt wr
      rw [← bts_at s k] at hix
      obtain ⟨x, hx⟩ : ∃ x, (bts s).getD k 0 = x := ⟨_, rfl⟩
      rw [hx] at HC HE hix hm
      have w1 : IntKind.i64.wrap (x : Int) = (x : Int) := wrapI_eq _ (by omega) (by omega)
      clear hB hO hc HH hx
      go_wp2_with (go_at_call 63; refine (unhide HC).mono ?_; rintro e z ⟨rfl, hB2, hO2⟩; have HB2 := hide hB2; have HO2 := hide ((unhide HO).trans hO2 (fun _ _ q => q)); clear hB2 hO2)
      go_roundw
      case rel =>
        refine ⟨k + 1, by omega, by go_num, ?_, unhide HO2⟩
        rw [unhide HE, addsP_snoc]
        exact unhide HB2
      case measure => simp [intOf]; omega
    · have hk' : k = s.size := by omega
      subst hk'
      have i1 : ¬ ((s.size : Int) < (s.size : Int)) := by omega
      have HB := hide hB
      have HO := hide hO
      clear hB hO hlt HH
      go_wp2
      go_end0
      refine ⟨rfl, ?_, unhide HO⟩
      have := unhide HB
      rwa [List.take_of_length_le (by rw [bts_len]; exact Nat.le_refl _)] at this
/-- The chosen places below k. -/
def lowR (S : List Nat) (k : Nat) : List Nat := (List.range k).filter (fun p => decide (p ∈ S))
theorem lowR_succ (S : List Nat) (k : Nat) : lowR S (k + 1) = if k ∈ S then lowR S k ++ [k] else lowR S k := by
  unfold lowR
  rw [List.range_succ, List.filter_append]
  by_cases h : k ∈ S
  · rw [if_pos h]; simp [h]
  · rw [if_neg h]; simp [h]
theorem lowR_le (S : List Nat) : ∀ (m k : Nat), (lowR S k).length ≤ (lowR S (k + m)).length
  | 0, _ => Nat.le_refl _
  | m + 1, k => by
    have := lowR_le S m k
    have h := lowR_succ S (k + m)
    rw [show k + (m + 1) = k + m + 1 by omega, h]
    split
    · rw [List.length_append, List.length_singleton]; omega
    · exact this
theorem lowR_lt {S : List Nat} (h : Chs S) (h8 : S.length = 8) {k : Nat} (hk : k < 256) (hm : k ∈ S) : (lowR S k).length < 8 := by
  have h1 := lowR_le S (255 - k) (k + 1)
  rw [show k + 1 + (255 - k) = 256 by omega, show lowR S 256 = plR S from rfl, plR_len h h8, lowR_succ, if_pos hm, List.length_append, List.length_singleton] at h1
  omega
/-- Eight numbers as cells: those of a list, and noughts behind. -/
def arr8 (l : List Nat) : Array Value := ((List.range 8).map (fun j => Value.int .i64 ((l.getD j 0 : Nat) : Int))).toArray
theorem arr8_set (l : List Nat) (h : l.length < 8) (x : Nat) : (arr8 l).setIfInBounds l.length (.int .i64 (x : Int)) = arr8 (l ++ [x]) := by
  apply Array.ext_getElem?
  intro j
  rw [Array.getElem?_setIfInBounds]
  unfold arr8
  by_cases h1 : l.length = j
  · subst h1
    simp [h]
  · rw [if_neg h1]
    by_cases h2 : j < 8
    · simp only [List.getElem?_toArray, List.getElem?_map, List.getElem?_range h2, Option.map_some]
      congr 3
      rw [List.getD_eq_getElem?_getD, List.getD_eq_getElem?_getD]
      by_cases h3 : j < l.length
      · rw [List.getElem?_append_left h3]
      · rw [List.getElem?_eq_none (by omega), List.getElem?_eq_none (by rw [List.length_append, List.length_singleton]; omega)]
    · simp [h2]
theorem sizePla : (Tryd.prog.info? 78).map (·.size) = some 8 := by kernel_rfl
theorem sizeBls : (Tryd.prog.info? 112).map (·.size) = some 256 := by kernel_rfl
/-- The 256 marks of a choice. -/
def mks (S : List Nat) : List Value := (List.range 256).map (fun p => Value.bool (decide (p ∈ S)))
theorem mks_len (S : List Nat) : (mks S).length = 256 := by simp [mks]
theorem mks_range {w : World} {g : Nat} {S : List Nat} (h : Blk w g (chA S) 114) : w.rangeAt g 0 (mks S) := fun j v hv => by
  have hj : j < 256 := by
    have := (List.getElem?_eq_some_iff.1 hv).1
    rwa [mks_len] at this
  rw [Nat.zero_add, h.cell, chA_at _ _ hj]
  rw [← hv]
  simp [mks, hj]
theorem index_mks (S : List Nat) (k : Nat) (hk : k < 256) (w : World) : (Instr.index 112 (.agg (mks S).toArray) (.int .i64 (k : Int))).run Tryd.prog w = .ok (.bool (decide (k ∈ S))) w := by
  have hi : ∃ i, Tryd.prog.info? 4 = some i ∧ i.size = 1 := by
    have h : (Tryd.prog.info? 4).map (·.size) = some 1 := by kernel_rfl
    obtain ⟨i, hi, hb⟩ := Option.map_eq_some_iff.1 h
    exact ⟨i, hi, hb⟩
  obtain ⟨i, hi, hb⟩ := hi
  have hc : (mks S)[k]? = some (.bool (decide (k ∈ S))) := by simp [mks, hk]
  have hk2 : 0 ≤ (k : Int) ∧ (k : Int) < 256 := by omega
  simp [Instr.index, asIntOf, run_underlying Tryd.underlying112, sizeOf, typeInfo, hi, hb, part, isAgg, run_underlying Tryd.underlying4, hc, hk]
set_option maxHeartbeats 2000000 in
theorem rising_any {w : World} {g : Nat} {S : List Nat} (h : Blk w g (chA S) 114) (hS : Chs S) (h8 : S.length = 8) :
    Calls Tryd.prog 64 #[.pointer (some ⟨g, 0, none⟩)] w fun e w' => e = .returned (.agg (arr8 (plR S))) ∧ Below w.heap.size w w' := by
  have hRG := mks_range h
  have hgl := h.lt
  have hB1 := Blk.new w 78 (arr8 [])
  have hB2 := Blk.new (w.alloc (.cells (arr8 []) 78)) 78 (arr8 [])
  have hlo : Below w.heap.size w ((w.alloc (.cells (arr8 []) 78)).alloc (.cells (arr8 []) 78)) := ((Below.refl _ _).alloc (Nat.le_refl _) _).alloc (by rw [World.size_alloc]; omega) _
  have hh := h.below hlo hgl
  have hB1 := hB1.alloc (.cells (arr8 []) 78)
  rw [World.size_alloc] at hB2
  have e0 : arr8 [] = #[.int .i64 0, .int .i64 0, .int .i64 0, .int .i64 0, .int .i64 0, .int .i64 0, .int .i64 0, .int .i64 0] := rfl
  rw [e0] at hB1 hB2 hlo hh
  obtain ⟨n, hn⟩ : ∃ n, w.heap.size = n := ⟨_, rfl⟩
  obtain ⟨y, hy⟩ : ∃ Z, (w.alloc (.cells #[.int .i64 0, .int .i64 0, .int .i64 0, .int .i64 0, .int .i64 0, .int .i64 0, .int .i64 0, .int .i64 0] 78)).alloc (.cells #[.int .i64 0, .int .i64 0, .int .i64 0, .int .i64 0, .int .i64 0, .int .i64 0, .int .i64 0, .int .i64 0] 78) = Z := ⟨_, rfl⟩
  rw [hy] at hB1 hB2 hlo hh
  rw [hn] at hB1 hB2 hlo hgl ⊢
  have HB1 := hide hB1
  have HB2 := hide hB2
  have HLO := hide hlo
  have HRG := hide (mks_range hh)
  clear hB1 hB2 hlo hh hRG h e0 hgl
  go_enter Tryd.func64, Tryd.ntmps64
  go_wp2_with (refine wpList_load_mid rfl 112 (.tmp 9) rfl g 0 rfl (mks S) _ (unhide HRG) Tryd.underlying112 rfl (by rw [sizeBls, mks_len]) ?_)
  clear hy
  go_loopw [4, 11] (fun m i wr => ∃ k : Nat, k ≤ 256 ∧ i = .int .i64 (k : Int) ∧ m = .int .i64 ((lowR S k).length : Int) ∧ Blk wr n #[.int .i64 0, .int .i64 0, .int .i64 0, .int .i64 0, .int .i64 0, .int .i64 0, .int .i64 0, .int .i64 0] 78 ∧ Blk wr (n + 1) (arr8 (lowR S k)) 78 ∧ Below n w wr) (fun _ i _ => 256 - (intOf i).toNat)
  case atStart => exact ⟨0, by omega, rfl, rfl, unhide HB1, unhide HB2, unhide HLO⟩
  case round =>
    obtain ⟨k, hk, rfl, rfl, hb1, hb2, hlo⟩ := hrel
    by_cases hlt : k < 256
    · have i1 : (k : Int) < 256 := by omega
      have i2 : 0 ≤ (k : Int) := by omega
      have hix := index_mks S k hlt wr
      have X1 := hide hb1
      have X2 := hide hb2
      have X3 := hide hlo
      have HLT := hide hlt
      have HR := hide (lowR_succ S k)
      by_cases hm : k ∈ S
      · have h7 := lowR_lt hS h8 hlt hm
        rw [decide_eq_true hm] at hix
        rw [if_pos hm] at HR
        obtain ⟨r, hr⟩ : ∃ r, (lowR S k).length = r := ⟨_, rfl⟩
        have c0 : ∃ v, wr.cell? ⟨n + 1, r, none⟩ = some v := by
          rw [hb2.cell]
          have : r < (arr8 (lowR S k)).size := by simp [arr8]; omega
          exact ⟨_, Array.getElem?_eq_getElem this⟩
        obtain ⟨v0, c0⟩ := c0
        have f0 := hb2.frozen r
        have HRR := hide hr
        rw [hr] at h7
        have j1 : 0 ≤ (r : Int) := by omega
        have j2 : (r : Int) < 8 := by omega
        have w1 : IntKind.i64.wrap ((r : Int) + 1) = (r : Int) + 1 := wrapI_eq _ (by omega) (by omega)
        rw [hr]
        clear hb1 hb2 hlo HB1 HB2 HLO HRG hr hm hlt
        go_wp2
        go_roundw
        case rel =>
          have e : (lowR S (k + 1)) = lowR S k ++ [k] := unhide HR
          refine ⟨k + 1, by have := unhide HLT; omega, by go_num, ?_, (unhide X1).other _ _ (by show n + 1 ≠ n; omega), ?_, (unhide X3).setCell (p := ⟨n + 1, r, none⟩) (by show n ≤ n + 1; omega) _⟩
          · rw [e, List.length_append, List.length_singleton, unhide HRR]
            go_num
          · rw [e, ← arr8_set _ (by rw [unhide HRR]; exact h7), unhide HRR]
            exact (unhide X2).set r (.int .i64 (k : Int))
        case measure => have := unhide HLT; simp [intOf]; omega
      · rw [decide_eq_false hm] at hix
        rw [if_neg hm] at HR
        clear hb1 hb2 hlo HB1 HB2 HLO HRG hm hlt
        go_wp2
        go_roundw
        case rel =>
          have e : (lowR S (k + 1)) = lowR S k := unhide HR
          refine ⟨k + 1, by have := unhide HLT; omega, by go_num, by rw [e], unhide X1, by rw [e]; exact unhide X2, unhide X3⟩
        case measure => have := unhide HLT; simp [intOf]; omega
    · have hk' : k = 256 := by omega
      subst hk'
      have X1 := hide hb1
      have X2 := hide hb2
      have X3 := hide hlo
      have hsz : (arr8 (lowR S 256)).size = 8 := by simp [arr8]
      have h1 : (arr8 (lowR S 256)).all (·.oneCell') = true := by simp [arr8, Value.oneCell']
      have HSZ := hide hsz
      have H1 := hide h1
      have HR2 := hide (blk_range (show Blk wr (n + 1) (arr8 (lowR S 256)).toList.toArray 78 by simpa using hb2))
      have HT := hide (blk_there hb1 8 rfl)
      have HW := hide (show Blk (wr.setCells n 0 (arr8 (lowR S 256)).toList) n (arr8 (lowR S 256)) 78 from by
        have := setCells_all hb1 (arr8 (lowR S 256)).toList (by rw [Array.length_toList, hsz]; rfl)
        simpa using this)
      clear hb1 hb2 hlo HB1 HB2 HLO HRG hlt h1 hsz
      go_wp2_with (first | refine wpList_load_mid rfl 78 (.tmp 3) rfl (n + 1) 0 rfl (arr8 (lowR S 256)).toList _ (unhide HR2) Tryd.underlying78 rfl (by rw [sizePla, Array.length_toList, unhide HSZ]) ?_ | refine wpList_store_mid rfl 78 (.tmp 2) (.tmp 22) rfl n 0 (arr8 (lowR S 256)) rfl (by simp [Act.eval, Act.put]) (by rw [unhide HSZ]; exact unhide HT) (by rw [sizePla, unhide HSZ]) (unhide H1) ?_)
      simp only [Act.put]
      refine bodyPost_ret (results_cell rfl _ _ _ ⟨n, 0, none⟩ rfl _ (iload_blk _ _ (unhide HW) Tryd.underlying78 rfl (by rw [sizePla, unhide HSZ]))) rfl ?_
      exact ⟨rfl, below_setCells (Nat.le_refl _) _ _ (unhide X3)⟩
end Go.Proofs.YtabgcgdpeikieaaDoor
