import Derived.Test.YtabgcgdpeikieaaDoorPle
import Derived.Test.YtabgcgdpeikieaaDoorPlf
import Derived.Test.YtabgcgdpeikieaaDoorMpc
import Derived.Test.YtabgcgdpeikieaaDoorPlc
import Derived.Test.YtabgcgdpeikieaaDoorPld
import Derived.BigQuiet
import Derived.Test.YtabgcgdpeikieaaDoorBlk
import Derived.Lib.SliceRun
namespace Go.Proofs.YtabgcgdpeikieaaDoor
open Go.RowKit Go.Conc
set_option maxRecDepth 100000
theorem outP_take (key info : List Int) (k : Nat) : ∀ j, (outP key info (k + j)).take (32 * k) = outP key info k
  | 0 => List.take_of_length_le (by rw [Nat.add_zero, outP_len]; exact Nat.le_refl _)
  | j + 1 => by
    rw [← Nat.add_assoc, outP, List.take_append_of_le_length (by rw [outP_len]; omega)]
    exact outP_take key info k j
/-- All that the key gives. -/
def dvM (dr dg : ByteArray) : List Nat := (outP (nums dr) (nums (plc ++ dg)) 255).map Int.toNat
theorem dvM_len (dr dg : ByteArray) : (dvM dr dg).length = 8160 := by rw [dvM, List.length_map, outP_len]
theorem dvS_take (dr dg : ByteArray) (n : Nat) (hn : n ≤ 8160) : bts (dvS dr dg n) = (dvM dr dg).take n := by
  have hk : (n + 31) / 32 ≤ 255 := by omega
  have e := outP_take (nums dr) (nums (plc ++ dg)) ((n + 31) / 32) (255 - (n + 31) / 32)
  rw [show (n + 31) / 32 + (255 - (n + 31) / 32) = 255 by omega] at e
  have hb : Bytes ((outP (nums dr) (nums (plc ++ dg)) ((n + 31) / 32)).take n) := by
    have h9 := outP_bytes (nums dr) (nums (plc ++ dg)) ((n + 31) / 32)
    have h8 := nums_strOfNums _ h9
    intro j
    by_cases hj : j < n
    · have := h9 j
      rw [List.getD_eq_getElem?_getD, List.getElem?_take, if_pos hj, ← List.getD_eq_getElem?_getD]
      exact this
    · rw [List.getD_eq_getElem?_getD, List.getElem?_take, if_neg hj]
      simp
  rw [bts, dvS, nums_strOfNums _ hb, ← e, List.take_take, dvM, ← List.map_take]
  congr 2
  omega
theorem addsP_again (l : List Nat) (S : List Nat) : addsP (addsP S l) l = addsP S l := addsP_mem l (fun x hx => (addsP_all l S).elim .inl (fun h => .inr (h x hx)))
theorem addsP_pre (M : List Nat) (n : Nat) : addsP (addsP [] (M.take n)) M = addsP [] M := by
  conv => lhs; rw [← List.take_append_drop n M]
  rw [addsP_append, List.take_append_drop, addsP_again, ← addsP_append, List.take_append_drop]
theorem addsP_fullpre (M : List Nat) (n : Nat) (h : (addsP [] (M.take n)).length = 8) : addsP [] M = addsP [] (M.take n) := by
  conv => lhs; rw [← List.take_append_drop n M]
  rw [addsP_append, addsP_full _ h]
/-- What the document takes of the key. -/
def plF (dr dg : ByteArray) : List Nat := addsP [] (dvM dr dg)
theorem plS_eq (dr dg : ByteArray) : plS (bts (dvS dr dg 32)) (bts (dvS dr dg 8160)) = addsP (plF dr dg) (List.range 256) := by
  have hM : (dvM dr dg).take 8160 = dvM dr dg := List.take_of_length_le (by rw [dvM_len]; exact Nat.le_refl _)
  rw [dvS_take _ _ _ (by omega), dvS_take _ _ _ (by omega), hM, plS, plF]
  split
  · rename_i h
    rw [addsP_fullpre _ 32 h]
  · rw [addsP_pre]
set_option maxHeartbeats 1000000 in
theorem rhas_any (w : World) (ao : Option Addr) (cap n : Nat) (l : List Int) (x : Int) (hn : n = l.length) (hz : n ≤ 1000000) (h : Ils w ao l) : Calls Tryd.prog 58 #[.slice ao n cap, .int .i64 x] w fun e w' => e = .returned (.bool (decide (x ∈ l))) ∧ w' = w := by
  have HL := hide (And.intro hn h)
  clear hn h
  go_enter Tryd.func58, Tryd.ntmps58
  go_wp2
  go_loopw [5] (fun i wr => ∃ k : Nat, k ≤ n ∧ i = .int .i64 (k : Int) ∧ (∀ j, j < k → l.getD j 0 ≠ x) ∧ wr = w) (fun i _ => n - (intOf i).toNat)
  case atStart => exact ⟨0, by omega, rfl, fun j hj => absurd hj (by omega), rfl⟩
  case round =>
    obtain ⟨k, hk, rfl, hall, rfl⟩ := hrel
    have HA := hide hall
    clear hall
    by_cases hkn : k < n
    · obtain ⟨g, o, rfl, q1, d1⟩ := (unhide HL).2 k (by have := (unhide HL).1; omega)
      obtain ⟨z, hz1⟩ : ∃ z, l.getD k 0 = z := ⟨_, rfl⟩
      rw [hz1] at d1
      have HZ := hide hz1
      clear q1 hz1
      have j0 : 0 ≤ (k : Int) := by omega
      have j1 : (k : Int) < (n : Int) := by omega
      by_cases hzz : z = x
      · subst hzz
        have HD := hide (show decide (z ∈ l) = true from decide_eq_true (by
          have hk9 : k < l.length := by have := (unhide HL).1; omega
          have e9 := unhide HZ
          rw [List.getD_eq_getElem?_getD, List.getElem?_eq_getElem hk9, Option.getD_some] at e9
          rw [← e9]
          exact List.getElem_mem _))
        go_wp2
        go_ret
        rw [unhide HD]
        exact ⟨rfl, rfl⟩
      · have hq : (z == x) = false := by simpa using hzz
        have HZZ := hide hzz
        clear hzz
        go_wp2
        go_roundw
        case rel =>
          refine ⟨k + 1, by omega, by go_num, fun j hj => ?_, by first | rfl | trivial⟩
          by_cases e : j = k
          · rw [e, unhide HZ]
            exact unhide HZZ
          · exact unhide HA j (by omega)
        case measure => simp [intOf]; omega
    · have hkk : k = n := by omega
      have HD := hide (show decide (x ∈ l) = false from decide_eq_false (fun hm => by
        obtain ⟨i, hi, e9⟩ := List.getElem_of_mem hm
        have h1 := (unhide HL).1
        refine unhide HA i (by omega) ?_
        rw [List.getD_eq_getElem?_getD, List.getElem?_eq_getElem hi, Option.getD_some]
        exact e9))
      have e1 : ¬ (k : Int) < (n : Int) := by omega
      clear hkn
      go_wp2
      go_ret
      rw [unhide HD]
      exact ⟨rfl, rfl⟩
end Go.Proofs.YtabgcgdpeikieaaDoor
namespace Go.Proofs.YtabgcgdpeikieaaDoor
open Go.RowKit Go.Conc
set_option maxRecDepth 100000
set_option maxHeartbeats 2000000 in
theorem sampleB_any {w : World} (s : ByteArray) (l : List Int) (ao : Option Addr) (cap : Nat) (h : Ils w ao l) (hl : l.length ≤ 17592186044416) :
    Calls Tryd.prog 21 #[.string s, .slice ao l.length cap] w fun e w' => e = .returned (.tuple #[.string (smS s l), .int .i64 (smE s l)]) ∧ Below w.heap.size w w' := by
  by_cases hs : s.size = 256
  · have i0 : (s.size : Int) = 256 := by omega
    obtain ⟨i5, hi5, hz0, hz1, hz2⟩ := info_parts info5
    have HIN := hide (And.intro hi5 (And.intro hz0 (And.intro hz1 hz2)))
    obtain ⟨N, hn⟩ : ∃ N, w.heap.size = N := ⟨_, rfl⟩
    have HH := hide h
    have HL := hide hl
    have HS := hide hs
    clear hi5 hz0 hz1 hz2 h hl hs
    rw [hn]
    go_enter Tryd.func21, Tryd.ntmps21
    go_wp2_with (refine wpList_make_own _ rfl _ _ 47 rfl N 5 i5 (.int .u8 0) 1 Tryd.underlying47 (unhide HIN).1 (unhide HIN).2.1 (unhide HIN).2.2.1 .i64 .i64 _ l.length rfl rfl rfl (by rw [(unhide HIN).2.2.2]; have := unhide HL; omega) (by unfold maxLen; have := unhide HL; omega) (by omega) ?_)
    intro y ho hg
    have hyN : Below N w y := by rw [← hn]; exact (Below.refl _ _).grown hg (Nat.le_refl _) (fun q hq => by cases hq)
    have HOW := hide ho
    have HYB := hide hyN
    clear ho hg hyN
    go_wp2
    go_loopw [6, 17] (fun v i wr => ∃ k : Nat, k ≤ l.length ∧ i = .int .i64 (k : Int) ∧ v = .slice (some ⟨N, 0, none⟩) k l.length ∧ (∀ p, p ∈ l.take k → 0 ≤ p ∧ p < 256) ∧ wr.ownsRow N 5 1 (.slice (some ⟨N, 0, none⟩) k l.length) k ((smL s (l.take k)).map (Value.int .u8)) ∧ Below N w wr) (fun _ i _ => l.length - (intOf i).toNat)
    case atStart => exact ⟨0, by omega, rfl, rfl, by simp, by simpa [smL] using unhide HOW, unhide HYB⟩
    case round =>
      obtain ⟨k, hk, rfl, rfl, hok, hrow, hlo⟩ := hrel
      by_cases hlt : k < l.length
      · obtain ⟨g, o, rfl, hgw, hcw⟩ := unhide HH k hlt
        have hcr : wr.cell? ⟨g, o + k, none⟩ = some (.int .i64 (l.getD k 0)) := only_cell (P := fun _ => False) (Only.of_below (by rw [hn]; exact hlo)) (fun q => q) hcw
        have hmem : l.getD k 0 ∈ l := by
          rw [List.getD_eq_getElem?_getD, List.getElem?_eq_getElem hlt, Option.getD_some]
          exact List.getElem_mem hlt
        have htk : l.take (k + 1) = l.take k ++ [l.getD k 0] := by
          rw [List.take_add_one, List.getElem?_eq_getElem hlt]
          simp [hlt]
        obtain ⟨p, hp⟩ : ∃ p, l.getD k 0 = p := ⟨_, rfl⟩
        rw [hp] at hcr hmem htk
        have i1 : (k : Int) < (l.length : Int) := by omega
        have i2 : 0 ≤ (k : Int) := by omega
        have hl2 := unhide HL
        have HR := hide hrow
        have HLO := hide hlo
        have HTK := hide htk
        have HOK := hide hok
        clear hrow hlo htk hok hcw hp hgw HOW HYB
        by_cases hb : 0 ≤ p ∧ p < 256
        · obtain ⟨b1, b2⟩ := hb
          have q1 : ¬ (p < 0) := by omega
          have q2 : ¬ (256 ≤ p) := by omega
          obtain ⟨j, hj⟩ : ∃ j : Nat, p = (j : Int) := ⟨p.toNat, by omega⟩
          subst hj
          have hix := index_str s j (by have := unhide HS; omega) wr
          have HW1 := hide (show Below N w (wr.alloc (.cells #[.int .u8 ((nums s).getD j 0)] 5)) from (unhide HLO).alloc (by have := (unhide HLO).size; omega) _)
          obtain ⟨x, hx⟩ : ∃ x, (nums s).getD j 0 = x := ⟨_, rfl⟩
          rw [hx] at hix HW1
          have HX := hide hx
          have HRA := hide ((unhide HR).alloc (.cells #[.int .u8 x] 5))
          have hN2 : N < wr.heap.size := by
            have hq := (unhide HR)
            exact (hq.lt N (by rfl)).2
          have HN2 := hide hN2
          clear hx hmem hN2
          go_wp2_with (refine wpList_append_fits _ rfl (.tmp 27) (.tmp 31) 47 rfl N 5 i5 1 Tryd.underlying47 (unhide HIN).1 (unhide HIN).2.2.1 N k l.length ((smL s (l.take k)).map (Value.int .u8)) rfl (unhide HRA) ⟨wr.heap.size, 0, none⟩ 1 1 [.int .u8 x] rfl rfl (fun q u hu => news_one wr 5 _ q u hu) (by simp [Value.oneCell']) (by omega) ?_)
          intro y2 ho2 hg2
          have HO2 := hide ho2
          have HL2 := hide (show Below N w y2 from (unhide HW1).grown hg2 (by have := (unhide HW1).size; omega) (fun q hq => by cases hq; exact Nat.le_refl _))
          clear ho2 hg2 hix hcr
          go_wp2
          go_roundw
          case rel =>
            refine ⟨k + 1, by omega, by go_num, rfl, ?_, ?_, unhide HL2⟩
            · rw [unhide HTK]
              intro p hp
              rcases List.mem_append.1 hp with hp | hp
              · exact unhide HOK p hp
              · rw [List.mem_singleton] at hp
                subst hp
                exact ⟨b1, b2⟩
            · have h9 := unhide HO2
              rw [unhide HTK]
              have e9 : smL s (l.take k ++ [(j : Int)]) = smL s (l.take k) ++ [x] := by
                unfold smL
                rw [List.map_append, List.map_singleton, Int.toNat_natCast, unhide HX]
              rw [e9, List.map_append]
              exact h9
          case measure => simp [intOf]; omega
        · have hno : ¬ okS s l := fun q => hb (q.2 p hmem)
          have HE := hide (show smE s l = 132 by unfold smE; rw [if_neg hno])
          have HSS := hide (show smS s l = ⟨#[]⟩ by unfold smS; rw [if_neg hno])
          clear hno hmem
          by_cases q1 : p < 0
          · go_wp2
            go_ret2
            exact ⟨by rw [unhide HE, unhide HSS]; rfl, unhide HLO⟩
          · have q2 : 256 ≤ p := by omega
            clear hb
            go_wp2
            go_ret2
            exact ⟨by rw [unhide HE, unhide HSS]; rfl, unhide HLO⟩
      · have hk' : k = l.length := by omega
        subst hk'
        rw [List.take_of_length_le (Nat.le_refl _)] at hok hrow
        have hy : okS s l := ⟨unhide HS, hok⟩
        have HE := hide (show smE s l = 0 by unfold smE; rw [if_pos hy])
        have HSS := hide (show smS s l = strOfNums (smL s l) by unfold smS; rw [if_pos hy])
        have hlen : (smL s l).length = l.length := by simp [smL]
        have hcv := run_convert_bytes_arg (P := Tryd.prog) wr 47 5 Tryd.underlying47 Tryd.underlying5 N 0 l.length l.length (smL s l) hlen (fun i hi => by
          rw [Nat.zero_add, (own_at hrow rfl i hi).1]
          simp [hlen, hi]) 9 Tryd.underlying9
        have HLO := hide hlo
        have i1 : ¬ ((l.length : Int) < (l.length : Int)) := by omega
        clear hlo hrow hok hy hlen hlt HOW HYB
        go_wp2
        go_ret2
        exact ⟨by rw [unhide HE, unhide HSS]; rfl, unhide HLO⟩
  · have i0 : ¬ ((s.size : Int) = 256) := by omega
    have HE := hide (show smE s l = 132 by unfold smE; rw [if_neg (fun q => hs q.1)])
    have HS := hide (show smS s l = ⟨#[]⟩ by unfold smS; rw [if_neg (fun q => hs q.1)])
    clear hs h hl
    go_enter Tryd.func21, Tryd.ntmps21
    go_wp2
    go_ret2
    exact ⟨by rw [unhide HE, unhide HS]; rfl, Below.refl _ _⟩
end Go.Proofs.YtabgcgdpeikieaaDoor
namespace Go.Proofs.YtabgcgdpeikieaaDoor
open Go.RowKit Go.Conc
set_option maxRecDepth 100000
theorem nums_extract (s : ByteArray) (a b : Nat) : nums (s.extract a b) = ((nums s).take b).drop a := by
  simp [nums, ByteArray.data_extract, List.map_take, List.map_drop, List.drop_take]
theorem nums_inj {a b : ByteArray} (h : nums a = nums b) : a = b := by rw [← strOfNums_nums a, h, strOfNums_nums]
theorem smp_step (s : ByteArray) (l : List Int) (j : Nat) (hj : j < s.size) : strOfNums (smL s (l ++ [(j : Int)])) = strOfNums (smL s l) ++ s.extract j (j + 1) := by
  apply nums_inj
  rw [nums_append, nums_strOfNums _ (bytes_smL _), nums_strOfNums _ (bytes_smL _)]
  have e : nums (s.extract j (j + 1)) = [(nums s).getD j 0] := by
    have hj2 : j < (nums s).length := by rw [nums_len]; exact hj
    rw [nums_extract, List.drop_take, List.drop_eq_getElem_cons hj2, show j + 1 - j = 1 by omega, List.take_succ_cons, List.take_zero, List.getD_eq_getElem?_getD, List.getElem?_eq_getElem hj2]
    rfl
  rw [e]
  simp [smL]
set_option maxHeartbeats 1000000 in
theorem rsampleOf_any {w : World} (s : ByteArray) (l : List Int) (ao : Option Addr) (cap : Nat) (h : Ils w ao l) (hl : l.length ≤ 17592186044416) (hok : okS s l) :
    Calls Tryd.prog 42 #[.string s, .slice ao l.length cap] w fun e w' => e = .returned (.string (strOfNums (smL s l))) ∧ Below w.heap.size w w' := by
  have HH := hide h
  have HOK := hide hok
  clear h hok
  go_enter Tryd.func42, Tryd.ntmps42
  go_wp2
  go_loopw [5, 6] (fun v i wr => ∃ k : Nat, k ≤ l.length ∧ i = .int .i64 (k : Int) ∧ v = .string (strOfNums (smL s (l.take k))) ∧ Below w.heap.size w wr) (fun _ i _ => l.length - (intOf i).toNat)
  case atStart => exact ⟨0, by omega, rfl, rfl, Below.refl _ _⟩
  case round =>
    obtain ⟨k, hk, rfl, rfl, hlo⟩ := hrel
    obtain ⟨wo, rfl⟩ : ∃ wo, wo = wr := ⟨_, rfl⟩
    by_cases hlt : k < l.length
    · obtain ⟨g, o, rfl, hgw, hcw⟩ := unhide HH k hlt
      have hcr : wo.cell? ⟨g, o + k, none⟩ = some (.int .i64 (l.getD k 0)) := only_cell (P := fun _ => False) (Only.of_below hlo) (fun q => q) hcw
      have hmem : l.getD k 0 ∈ l := by
        rw [List.getD_eq_getElem?_getD, List.getElem?_eq_getElem hlt, Option.getD_some]
        exact List.getElem_mem hlt
      have htk : l.take (k + 1) = l.take k ++ [l.getD k 0] := by
        rw [List.take_add_one, List.getElem?_eq_getElem hlt]
        simp [hlt]
      have hb := (unhide HOK).2 _ hmem
      have hs := (unhide HOK).1
      obtain ⟨p, hp⟩ : ∃ p, l.getD k 0 = p := ⟨_, rfl⟩
      rw [hp] at hcr hmem htk hb
      obtain ⟨b1, b2⟩ := hb
      obtain ⟨j, hj⟩ : ∃ j : Nat, p = (j : Int) := ⟨p.toNat, by omega⟩
      subst hj
      have i1 : (k : Int) < (l.length : Int) := by omega
      have i2 : 0 ≤ (k : Int) := by omega
      have w1 : IntKind.i64.wrap ((j : Int) + 1) = (j : Int) + 1 := wrapI_eq _ (by omega) (by omega)
      have b3 : 0 ≤ (j : Int) + 1 := by omega
      have b4 : (j : Int) + 1 ≤ (s.size : Int) := by omega
      have b5 : (j : Int) ≤ (j : Int) + 1 := by omega
      have hsz : (strOfNums (smL s (l.take k))).size = k := by rw [strOfNums_size]; simp [smL]; omega
      have HLO := hide hlo
      have HTK := hide htk
      obtain ⟨t, ht⟩ : ∃ t, strOfNums (smL s (l.take k)) = t := ⟨_, rfl⟩
      rw [ht] at hsz ⊢
      have HT := hide ht
      clear hlo htk hmem hcw hgw hp ht
      go_wp2_with fail
      go_quiet (fail)
      go_wp2
      go_roundw
      case rel =>
        refine ⟨k + 1, by omega, by go_num, ?_, below_drewN (unhide HLO) _⟩
        rw [unhide HTK, smp_step s _ j (by omega), unhide HT]
      case measure => simp [intOf]; omega
    · have hk' : k = l.length := by omega
      subst hk'
      rw [List.take_of_length_le (Nat.le_refl _)]
      have i1 : ¬ ((l.length : Int) < (l.length : Int)) := by omega
      have HLO := hide hlo
      clear hlo hlt
      go_wp2
      go_ret
      exact ⟨rfl, unhide HLO⟩
set_option maxHeartbeats 1000000 in
theorem rsampled_any {w : World} (s : ByteArray) (l : List Int) (ao : Option Addr) (cap : Nat) (h : Ils w ao l) (hl : l.length ≤ 17592186044416) :
    Calls Tryd.prog 22 #[.string s, .slice ao l.length cap] w fun e w' => e = .returned (.tuple #[.string (smS s l), .int .i64 (smE s l)]) ∧ Below w.heap.size w w' := by
  by_cases hs : s.size = 256
  · have i0 : (s.size : Int) = 256 := by omega
    have HH := hide h
    have HS := hide hs
    clear h hs
    go_enter Tryd.func22, Tryd.ntmps22
    go_wp2
    go_loopw [6] (fun i wr => wr = w ∧ ∃ k : Nat, k ≤ l.length ∧ i = .int .i64 (k : Int) ∧ (∀ p, p ∈ l.take k → 0 ≤ p ∧ p < 256)) (fun i _ => l.length - (intOf i).toNat)
    case atStart => exact ⟨rfl, 0, by omega, rfl, by simp⟩
    case round =>
      obtain ⟨rfl, k, hk, rfl, hok⟩ := hrel
      by_cases hlt : k < l.length
      · obtain ⟨g, o, rfl, hgw, hcr⟩ := unhide HH k hlt
        have hmem : l.getD k 0 ∈ l := by
          rw [List.getD_eq_getElem?_getD, List.getElem?_eq_getElem hlt, Option.getD_some]
          exact List.getElem_mem hlt
        have htk : l.take (k + 1) = l.take k ++ [l.getD k 0] := by
          rw [List.take_add_one, List.getElem?_eq_getElem hlt]
          simp [hlt]
        obtain ⟨p, hp⟩ : ∃ p, l.getD k 0 = p := ⟨_, rfl⟩
        rw [hp] at hcr hmem htk
        have i1 : (k : Int) < (l.length : Int) := by omega
        have i2 : 0 ≤ (k : Int) := by omega
        have HTK := hide htk
        have HOK := hide hok
        clear htk hok hp hgw
        by_cases hb : 0 ≤ p ∧ p < 256
        · obtain ⟨b1, b2⟩ := hb
          have q2 : p ≤ 255 := by omega
          have d1 : decide (p < 0) = false := decide_eq_false (by omega)
          have d2 : decide (255 < p) = false := decide_eq_false (by omega)
          clear hmem
          go_wp2
          go_roundw
          case rel =>
            refine ⟨trivial, k + 1, by omega, by go_num, ?_⟩
            rw [unhide HTK]
            intro x hx
            rcases List.mem_append.1 hx with hx | hx
            · exact unhide HOK x hx
            · rw [List.mem_singleton] at hx
              subst hx
              exact ⟨b1, b2⟩
          case measure => simp [intOf]; omega
        · have hno : ¬ okS s l := fun q => hb (q.2 p hmem)
          have HE := hide (show smE s l = 132 by unfold smE; rw [if_neg hno])
          have HSS := hide (show smS s l = ⟨#[]⟩ by unfold smS; rw [if_neg hno])
          clear hno hmem
          by_cases q1 : p < 0
          · clear hb
            go_wp2
            go_ret2
            exact ⟨by rw [unhide HE, unhide HSS]; rfl, Below.refl _ _⟩
          · have q2 : 255 < p := by omega
            have q3 : 0 ≤ p := by omega
            clear hb q1
            go_wp2
            go_ret2
            exact ⟨by rw [unhide HE, unhide HSS]; rfl, Below.refl _ _⟩
      · have hk' : k = l.length := by omega
        subst hk'
        rw [List.take_of_length_le (Nat.le_refl _)] at hok
        have hy : okS s l := ⟨unhide HS, hok⟩
        have HE := hide (show smE s l = 0 by unfold smE; rw [if_pos hy])
        have HSS := hide (show smS s l = strOfNums (smL s l) by unfold smS; rw [if_pos hy])
        have HC := hide (rsampleOf_any s l ao cap (unhide HH) hl hy)
        have i1 : ¬ ((l.length : Int) < (l.length : Int)) := by omega
        clear hok hy hlt HH
        go_wp2_with (go_at_call 42; refine (unhide HC).mono ?_; rintro e z ⟨rfl, hz⟩; have HZ := hide hz; clear hz)
        go_ret2
        exact ⟨by rw [unhide HE, unhide HSS]; rfl, unhide HZ⟩
  · have i0 : ¬ ((s.size : Int) = 256) := by omega
    have HE := hide (show smE s l = 132 by unfold smE; rw [if_neg (fun q => hs q.1)])
    have HS := hide (show smS s l = ⟨#[]⟩ by unfold smS; rw [if_neg (fun q => hs q.1)])
    clear hs h hl
    go_enter Tryd.func22, Tryd.ntmps22
    go_wp2
    go_ret2
    exact ⟨by rw [unhide HE, unhide HS]; rfl, Below.refl _ _⟩
end Go.Proofs.YtabgcgdpeikieaaDoor
namespace Go.Proofs.YtabgcgdpeikieaaDoor
open Go.RowKit Go.Conc
set_option maxRecDepth 100000
/-- Another cell of a row of one's own. -/
theorem owns_set {w : World} {base : Nat} {e : TypeId} {k n : Nat} {v : Value} {xs : List Value} (h : w.ownsRow base e k v n xs) {g : Nat} (hv : v.ownBlock = some g) (j : Nat) (u : Value) : (w.setCell ⟨g, j, none⟩ u).ownsRow base e k v n (xs.set j u) := by
  refine ⟨by rw [List.length_set]; exact h.1, ?_⟩
  rcases h.2 with ⟨h1, h2⟩ | ⟨g', cap, cur, rfl, hb, hg, hn, hc, hs, hx⟩
  · rw [h1] at hv; cases hv
  · obtain rfl : g' = g := by simpa [Value.ownBlock] using hv
    refine .inr ⟨g', cap, cur.setIfInBounds j u, rfl, hb, Blk.set hg j u, hn, hc, by simpa using hs, ?_⟩
    rw [← hx]
    simp [List.take_set]
theorem row_form {w : World} {base n : Nat} {e : TypeId} {k : Nat} {v : Value} {xs : List Value} (h : w.ownsRow base e k v n xs) : ∃ p cap, v = .slice p n cap ∧ n ≤ cap := by
  rcases h.2 with ⟨h1, h2⟩ | ⟨g, cap, cur, h1, _, _, h3, _⟩
  · exact ⟨none, 0, by rw [h1, h2], by omega⟩
  · exact ⟨_, cap, h1, h3⟩
theorem infoI : (Tryd.prog.info? 3).map (fun i => (i.zero, i.size, i.bytes)) = some (some (.int .i64 0), 1, 8) := by kernel_rfl
def ints (l : List Int) : List Value := l.map (Value.int .i64)
/-- What a lent list holds: the numbers, and eight marks behind them. -/
def lentL (l : List Int) : List Int := l ++ List.replicate 8 (-77)
theorem lentL_lt (l : List Int) (k : Nat) (h : k < l.length) : (lentL l).getD k 0 = l.getD k 0 := by
  simp [lentL, List.getD_eq_getElem?_getD, List.getElem?_append_left h]
theorem lentL_ge (l : List Int) (k : Nat) (h : ¬ k < l.length) (h2 : k < l.length + 8) : (lentL l).getD k 0 = -77 := by
  rw [lentL, List.getD_eq_getElem?_getD, List.getElem?_append_right (by omega), List.getElem?_replicate, if_pos (by omega)]
  rfl
set_option maxRecDepth 100000 in
set_option maxHeartbeats 1000000 in
theorem asLent_any (w : World) (base g cap : Nat) (l : List Int) (p : Option Addr) (c : Nat) (hl : Ils w p l) (hll : l.length ≤ 17592186043904) (hn : p ≠ none) (hcap : l.length + 8 ≤ cap) (hg : 0 < l.length → ∀ o, p ≠ some ⟨g, o, none⟩)
    (hr : w.ownsRow base 3 1 (.slice (some ⟨g, 0, none⟩) (l.length + 8) cap) (l.length + 8) (ints (lentL l))) :
    Calls Tryd.prog 24 #[.slice (some ⟨g, 0, none⟩) l.length cap, .slice p l.length c] w fun e w' => e = .returned (.bool true) ∧ Only (fun k => k = g) w w' ∧ ∃ ys, w'.ownsRow base 3 1 (.slice (some ⟨g, 0, none⟩) (l.length + 8) cap) (l.length + 8) ys := by
  have en := fun w' => Lib.run_eql_slice_nil (P := Tryd.prog) w' 26 3 p l.length c 0 0 Tryd.underlying26
  have hpn : p.isNone = false := by cases p with
    | none => exact absurd rfl hn
    | some a => rfl
  rw [hpn] at en
  have HL := hide hl
  have HG := hide hg
  have HR := hide hr
  clear hl hn hpn hg hr
  go_enter Tryd.func24, Tryd.ntmps24
  have b1 : (l.length : Int) + 8 ≤ (cap : Int) := by omega
  have b2 : IntKind.wrap .i64 ((l.length : Int) + 8) = (l.length : Int) + 8 := wrapI_eq _ (by omega) (by omega)
  go_wp2
  clear en b1 b2
  go_loopw [6, 7] (fun i _ wr => ∃ k : Nat, k ≤ l.length + 8 ∧ i = .int .i64 (k : Int) ∧ Only (fun k => k = g) w wr ∧ ∃ ys : List Value, wr.ownsRow base 3 1 (.slice (some ⟨g, 0, none⟩) (l.length + 8) cap) (l.length + 8) ys ∧ ∀ j, k ≤ j → j < l.length + 8 → ys[j]? = some (.int .i64 ((lentL l).getD j 0))) (fun i _ _ => l.length + 8 - (intOf i).toNat)
  case atStart => exact ⟨0, by omega, rfl, Only.refl _ _, _, unhide HR, fun j _ hj => by
    rw [ints, List.getElem?_map, List.getElem?_eq_getElem (by simp [lentL]; omega), List.getD_eq_getElem?_getD, List.getElem?_eq_getElem (by simp [lentL]; omega)]
    rfl⟩
  case round =>
    obtain ⟨k, hk, rfl, hO, ys, hY, hys⟩ := hrel
    have XO := hide hO
    have XY := hide hY
    have XS := hide hys
    clear hO hY hys
    by_cases hkl : k < l.length + 8
    · have hc : wr.cell? ⟨g, k, none⟩ = some (.int .i64 ((lentL l).getD k 0)) := by rw [(own_at (unhide XY) rfl k hkl).1]; exact unhide XS k (Nat.le_refl _) hkl
      have hf : wr.frozen? ⟨g, k, none⟩ = false := (own_at (unhide XY) rfl k hkl).2
      have i0 : 0 ≤ (k : Int) := by omega
      have i1 : (k : Int) < ((l.length + 8 : Nat) : Int) := by omega
      by_cases hk2 : k < l.length
      · obtain ⟨gl, ol, rfl, hgl, hcl0⟩ := unhide HL k hk2
        have hne : gl ≠ g := fun e => unhide HG (by omega) ol (by rw [e])
        have hcl : wr.cell? ⟨gl, ol + k, none⟩ = some (.int .i64 (l.getD k 0)) := (World.cell?_of_block (a := ⟨gl, ol + k, none⟩) ((unhide XO).2 gl hgl hne)).trans hcl0
        have i2 : (k : Int) < (l.length : Int) := by omega
        rw [lentL_lt l k hk2] at hc
        clear hcl0 hne
        generalize l.getD k 0 = z at *
        go_wp2
        go_roundw
        case rel =>
          refine ⟨k + 1, by omega, by go_num, (unhide XO).setCell _ _ (fun _ => rfl), _, owns_set (unhide XY) rfl k _, fun j hj hj2 => ?_⟩
          rw [List.getElem?_set_ne (by omega)]
          exact unhide XS j (by omega) hj2
        case measure => simp [intOf]; omega
      · rw [lentL_ge l k hk2 hkl] at hc
        have i2 : (l.length : Int) ≤ (k : Int) := by omega
        go_wp2
        go_roundw
        case rel =>
          refine ⟨k + 1, by omega, by go_num, (unhide XO).setCell _ _ (fun _ => rfl), _, owns_set (unhide XY) rfl k _, fun j hj hj2 => ?_⟩
          rw [List.getElem?_set_ne (by omega)]
          exact unhide XS j (by omega) hj2
        case measure => simp [intOf]; omega
    · go_wp2
      go_ret
      exact ⟨rfl, unhide XO, _, unhide XY⟩
theorem news_arr (w : World) (T : TypeId) (xs : Array Value) (j : Nat) (u : Value) (hu : xs.toList[j]? = some u) : (w.alloc (.cells xs T)).cell? (Addr.add ⟨w.heap.size, 0, none⟩ j) = some u := by
  rw [Addr.add_mid, Nat.zero_add, (Blk.new w T xs).cell j, ← hu]
  simp
theorem ints_at (l : List Int) (j : Nat) (u : Value) (h : (ints l)[j]? = some u) : j < l.length ∧ u = .int .i64 (l.getD j 0) := by
  rw [ints, List.getElem?_map] at h
  by_cases hj : j < l.length
  · rw [List.getElem?_eq_getElem hj] at h
    refine ⟨hj, ?_⟩
    rw [List.getD_eq_getElem?_getD, List.getElem?_eq_getElem hj]
    simpa using h.symm
  · rw [List.getElem?_eq_none (by omega)] at h
    cases h
set_option maxRecDepth 100000 in
set_option maxHeartbeats 1000000 in
theorem lent_any (w : World) (l : List Int) (ad : Addr) (c : Nat) (hl : Ils w (some ad) l) (hll : l.length ≤ 17592186043904) :
    Calls Tryd.prog 23 #[.slice (some ad) l.length c] w fun e w' => ∃ g cap, e = .returned (.slice (some ⟨g, 0, none⟩) l.length cap) ∧ l.length + 8 ≤ cap ∧ w'.ownsRow w.heap.size 3 1 (.slice (some ⟨g, 0, none⟩) (l.length + 8) cap) (l.length + 8) (ints (lentL l)) ∧ Below w.heap.size w w' := by
  have en := fun w' => Lib.run_eql_slice_nil (P := Tryd.prog) w' 26 3 (some ad) l.length c 0 0 Tryd.underlying26
  have hpn : (some ad).isNone = false := rfl
  rw [hpn] at en
  have HL := hide hl
  obtain ⟨i0, hi0, hz0, hz1, hz2⟩ := info_parts infoI
  have HI := hide (And.intro hi0 (And.intro hz0 (And.intro hz1 hz2)))
  clear hl hpn hi0 hz0 hz1 hz2
  go_enter Tryd.func23, Tryd.ntmps23
  go_wp2_with (refine wpList_append_own _ rfl (.const (.slice none 0 0)) (.tmp 5) 26 rfl w.heap.size 3 i0 (.int .i64 0) 1 8 Tryd.underlying26 (unhide HI).1 (unhide HI).2.1 (unhide HI).2.2.1 (unhide HI).2.2.2 rfl (by decide) _ 0 [] rfl (World.ownsRow_nil _ _ _ _) ad l.length c (ints l) rfl (by simp [ints]) (fun j u hu => by
      obtain ⟨hj, rfl⟩ := ints_at l j u hu
      obtain ⟨g1, o1, e, _, hc⟩ := unhide HL j hj
      cases e
      rw [Addr.add_mid]
      exact hc) (by simp [ints, Value.oneCell']) (by unfold maxLen; omega) (by omega) (Nat.le_refl _) ?_)
  intro v' w1 ho hg _
  have hb1 : Below w.heap.size w w1 := (Below.refl _ w).grown hg (Nat.le_refl _) (fun q hq => by cases hq)
  have ho1 : w1.ownsRow w.heap.size 3 1 v' l.length (ints l) := by simpa using ho
  have hsz := hb1.size
  have HA := hide (owns_only ho1 (Only.of_below (P := fun _ => False) ((Below.refl _ w1).alloc (Nat.le_refl _) (.cells #[.int .i64 (-77), .int .i64 (-77), .int .i64 (-77), .int .i64 (-77), .int .i64 (-77), .int .i64 (-77), .int .i64 (-77), .int .i64 (-77)] 3))) (fun _ _ q => q))
  have HB := hide hb1
  clear ho hg ho1 hb1
  go_wp2_with (refine wpList_append_lies _ rfl (.tmp 6) (.tmp 7) 26 rfl w.heap.size 3 i0 (.int .i64 0) 1 8 Tryd.underlying26 (unhide HI).1 (unhide HI).2.1 (unhide HI).2.2.1 (unhide HI).2.2.2 rfl (by decide) _ l.length (ints l) rfl (unhide HA) ⟨w1.heap.size, 0, none⟩ 8 8 (ints (List.replicate 8 (-77))) rfl rfl (fun q u hu => news_arr w1 3 _ q u hu) (by simp [ints, Value.oneCell']) (by decide) (by unfold maxLen; omega) (by omega) (by simp; omega) _ rfl ?_)
  intro g5 cap5 w5 ho hg hor hlt
  have hc5 : l.length + 8 ≤ cap5 := by
    obtain ⟨p5, c5, e5, h5⟩ := row_form ho
    cases e5
    exact h5
  have hb5 : Below w.heap.size w w5 := ((unhide HB).alloc (unhide HB).size _).grown hg (by simp; omega) (fun q hq => ((unhide HA).lt q hq).1)
  have ho5 : w5.ownsRow w.heap.size 3 1 (.slice (some ⟨g5, 0, none⟩) (l.length + 8) cap5) (l.length + 8) (ints (lentL l)) := by
    have e : ints (lentL l) = ints l ++ ints (List.replicate 8 (-77)) := by simp [lentL, ints]
    rw [e]
    exact ho
  have X5 := hide (And.intro ho5 hb5)
  have b1 : (l.length : Int) ≤ (cap5 : Int) := by omega
  clear ho hg hor hlt hb5 ho5
  go_wp2
  go_ret
  exact ⟨g5, cap5, rfl, hc5, (unhide X5).1, (unhide X5).2⟩
/-- A list that is nil. -/
theorem lent_nil (w : World) : Calls Tryd.prog 23 #[.slice none 0 0] w fun e w' => e = .returned (.slice none 0 0) ∧ w' = w := by
  have en := fun w' => Lib.run_eql_slice_nil (P := Tryd.prog) w' 26 3 none 0 0 0 0 Tryd.underlying26
  have hpn : (none : Option Addr).isNone = true := rfl
  rw [hpn] at en
  go_enter Tryd.func23, Tryd.ntmps23
  go_wp2
  go_ret
  exact ⟨rfl, rfl⟩
theorem asLent_nil (w : World) (v : Value) : Calls Tryd.prog 24 #[v, .slice none 0 0] w fun e w' => e = .returned (.bool true) ∧ w' = w := by
  have en := fun w' => Lib.run_eql_slice_nil (P := Tryd.prog) w' 26 3 none 0 0 0 0 Tryd.underlying26
  have hpn : (none : Option Addr).isNone = true := rfl
  rw [hpn] at en
  go_enter Tryd.func24, Tryd.ntmps24
  go_wp2
  go_ret
  exact ⟨rfl, rfl⟩
end Go.Proofs.YtabgcgdpeikieaaDoor
namespace Go.Proofs.YtabgcgdpeikieaaDoor
open Go.RowKit Go.Conc
set_option maxRecDepth 100000
theorem own_base {w : World} {base base' : Nat} {e : TypeId} {k n : Nat} {v : Value} {xs : List Value} (h : w.ownsRow base e k v n xs) (hb : base' ≤ base) : w.ownsRow base' e k v n xs :=
  ⟨h.1, h.2.imp id (fun ⟨g, cap, cur, e, h1, r⟩ => ⟨g, cap, cur, e, Nat.le_trans hb h1, r⟩)⟩
/-- What the list's owner writes over it. -/
def rl (c : Int) (k : Nat) : Int := ((pickP (wrap64 (c + (k : Int))) 256 : Nat) : Int)
def rL (c : Int) (n : Nat) : List Int := (List.range n).map (rl c)
theorem rL_len (c : Int) (n : Nat) : (rL c n).length = n := by simp [rL]
theorem rL_succ (c : Int) (n : Nat) : rL c (n + 1) = rL c n ++ [rl c n] := by simp [rL, List.range_succ]
theorem rL_at (c : Int) (n j : Nat) (h : j < n) : (rL c n).getD j 0 = rl c j := by simp [rL, h]
set_option maxHeartbeats 4000000 in
theorem samples13 (s : ByteArray) (l : List Int) (ad : Addr) (cap : Nat) (c : Int) (w : World) (hK : KTab w) (hl : Ils w (some ad) l) (hll : l.length ≤ 17592186043904) :
    Calls Tryd.prog 6 #[.string s, .slice (some ad) l.length cap, .int .i64 c] w fun e w' => e = .returned (.bool true) ∧ Below w.heap.size w w' := by
  obtain ⟨N, hn⟩ : ∃ N, w.heap.size = N := ⟨_, rfl⟩
  have HKN := hide (known13_any w hK)
  rw [hn] at HKN
  have HLW := hide (show ∀ z, Below N w z → Ils z (some ad) l from fun z hz => hl.below (by rw [hn]; exact hz))
  have HBN := hide (show 0 < l.length → ad.block < N from fun h => by
    obtain ⟨g, o, e, hg, _⟩ := hl 0 h
    cases e
    rw [← hn]
    exact hg)
  clear hK hl
  rw [hn]
  go_enter Tryd.func6, Tryd.ntmps6
  go_wp2_with fail
  refine (unhide HKN).mono ?_
  rintro e z1 ⟨rfl, hb1⟩
  have HL1 := hide hb1
  have HC1 := hide (rsampled_any s l (some ad) cap (unhide HLW z1 hb1) (by omega))
  clear hb1 HKN
  go_wp2_with fail
  refine (unhide HC1).mono ?_
  rintro e z2 ⟨rfl, hb⟩
  have hL2 := (unhide HL1).trans (hb.mono (by have := (unhide HL1).size; omega))
  have HL2 := hide hL2
  have HC2 := hide (lent_any z2 l ad cap (unhide HLW z2 hL2) hll)
  clear hb hL2 HL1 HC1
  go_wp2_with fail
  refine (unhide HC2).mono ?_
  rintro e z3 ⟨g, cap2, rfl, hcap, hrow, hb⟩
  have hN2 : N ≤ z2.heap.size := by have h9 := (unhide HL2).size; rw [hn] at h9; exact h9
  have hL3 := (unhide HL2).trans (hb.mono hN2)
  have hgN : N ≤ g := by have := (hrow.lt g rfl).1; omega
  have hrow3 := own_base hrow hN2
  have hI3 : Ils z3 (some ⟨g, 0, none⟩) l := fun j hj => by
    refine ⟨g, 0, rfl, (hrow.lt g rfl).2, ?_⟩
    rw [Nat.zero_add, (own_at hrow rfl j (by omega)).1, ints, List.getElem?_map, List.getElem?_eq_getElem (by simp [lentL]; omega)]
    have := lentL_lt l j hj
    rw [List.getD_eq_getElem?_getD, List.getElem?_eq_getElem (by simp [lentL]; omega)] at this
    simp only [Option.map_some]
    rw [← this]
    rfl
  have HC3 := hide (sampleB_any s l (some ⟨g, 0, none⟩) cap2 hI3 (by omega))
  have HL3 := hide hL3
  have HR3 := hide hrow3
  have HGN := hide hgN
  clear hb hN2 hL3 hgN hrow3 hI3 hrow HL2 HC2
  go_wp2_with fail
  refine (unhide HC3).mono ?_
  rintro e z4 ⟨rfl, hb⟩
  have hN3 : N ≤ z3.heap.size := by have h9 := (unhide HL3).size; rw [hn] at h9; exact h9
  have hL4 := (unhide HL3).trans (hb.mono hN3)
  have hR4 := own_only (unhide HR3) (Only.of_below (P := fun _ => False) hb) (fun _ _ q => q)
  have HC4 := hide (asLent_any z4 N g cap2 l (some ad) cap (unhide HLW z4 hL4) hll (fun e => by cases e) hcap (fun h o e => by
    have h8 := unhide HBN h
    cases e
    have h9 : g < N := h8
    have := unhide HGN
    omega) hR4)
  have HL4 := hide hL4
  clear hb hN3 hL4 hR4 HL3 HR3 HC3
  go_wp2_with fail
  refine (unhide HC4).mono ?_
  rintro e z5 ⟨rfl, hO5, ys0, hR5⟩
  have HL5 := hide (show Below N w z5 from (unhide HL4).trans (hO5.below (by have h9 := (unhide HL4).size; rw [hn] at h9; exact h9) (fun k hk => by have := unhide HGN; omega)))
  have HR5 := hide hR5
  clear hO5 hR5 HL4 HC4
  go_wp2
  go_loopw [14, 15] (fun v i wr => ∃ k : Nat, k ≤ l.length ∧ i = .int .i64 (k : Int) ∧ (∃ ys, wr.ownsRow N 3 1 (.slice (some ⟨g, 0, none⟩) (l.length + 8) cap2) (l.length + 8) ys ∧ ∀ j, j < k → ys[j]? = some (.int .i64 (rl c j))) ∧ wr.ownsRow N 3 1 v (rL c k).length ((rL c k).map (Value.int .i64)) ∧ v.ownBlock ≠ some g ∧ Below N w wr) (fun _ i _ => l.length - (intOf i).toNat)
  case atStart => exact ⟨0, by omega, rfl, ⟨ys0, unhide HR5, fun j hj => by omega⟩, World.ownsRow_nil _ _ _ _, by simp [Value.ownBlock], unhide HL5⟩
  case round =>
    obtain ⟨k, hk, rfl, ⟨ys, hR, hys⟩, hV, hvg, hlo⟩ := hrel
    by_cases hlt : k < l.length
    · have i1 : (k : Int) < (l.length : Int) := by omega
      have i2 : 0 ≤ (k : Int) := by omega
      have hp := fun W => pick13_any (wrap64 (c + (k : Int))) 256 (by omega) (i64_wrap _) W
      simp only [Int.cast_ofNat_Int] at hp
      have HP := hide hp
      have hrk : rl c k = ((pickP (wrap64 (c + (k : Int))) 256 : Nat) : Int) := rfl
      obtain ⟨x, hx⟩ : ∃ x, ((pickP (wrap64 (c + (k : Int))) 256 : Nat) : Int) = x := ⟨_, rfl⟩
      simp only [hx] at HP
      have HX := hide (show rl c k = x from hrk.trans hx)
      obtain ⟨i0, hi, hz0, hz1, hz2⟩ := info_parts info3
      have HI := hide (And.intro hi (And.intro hz0 (And.intro hz1 hz2)))
      have c0 : ∃ v, wr.cell? ⟨g, k, none⟩ = some v := by
        rw [(own_at hR rfl k (by omega)).1]
        have hyl : ys.length = (l.length + 8) * 1 := hR.1
        exact ⟨_, List.getElem?_eq_getElem (by omega)⟩
      obtain ⟨v0, c0⟩ := c0
      have f0 := (own_at hR rfl k (by omega)).2
      have hR2 := owns_set hR rfl k (.int .i64 x)
      have ho2 : Only (fun q => q = g) wr (wr.setCell ⟨g, k, none⟩ (.int .i64 x)) := (Only.refl _ _).setCell _ _ (fun _ => rfl)
      have hV2 := own_only hV ho2 (fun q hq e => hvg (by rw [hq, e]))
      have hL2 := hlo.setCell (p := ⟨g, k, none⟩) (unhide HGN) (.int .i64 x)
      have cg : (wr.setCell ⟨g, k, none⟩ (.int .i64 x)).cell? ⟨g, k, none⟩ = some (.int .i64 x) := by
        have hyl : ys.length = (l.length + 8) * 1 := hR.1
        rw [(own_at hR2 rfl k (by omega)).1, List.getElem?_set_self (by omega)]
      have hys2 : ∀ j, j < k + 1 → (ys.set k (.int .i64 x))[j]? = some (.int .i64 (rl c j)) := fun j hj => by
        have hyl : ys.length = (l.length + 8) * 1 := hR.1
        by_cases e : j = k
        · subst e; rw [List.getElem?_set_self (by omega), unhide HX]
        · rw [List.getElem?_set_ne (by omega)]; exact hys j (by omega)
      have HS := hide (And.intro hR2 (And.intro hV2 (And.intro hL2 hys2)))
      have hgs : g < wr.heap.size := (hR.lt g rfl).2
      have HGS := hide hgs
      have HVG := hide hvg
      clear hp hrk hx hi hz0 hz1 hz2 hR hV hlo hR2 hV2 hL2 hys hys2 ho2 hvg hgs HR5 HL5
      go_wp2_with fail
      refine (unhide HP _).mono ?_
      rintro e y1 ⟨rfl, rfl⟩
      simp only []
      rename_i K8 a8 K9 a9
      have A8 := hide a8
      clear a8
      go_step
      go_wp2
      refine unhide A8 _ _ ?_
      clear A8 K8 c0 f0
      generalize y1.setCell ⟨g, k, none⟩ (.int .i64 x) = y2 at *
      have HRA := hide ((unhide HS).2.1.alloc (.cells #[.int .i64 x] 3))
      have hNy : N ≤ y2.heap.size := by have h9 := (unhide HS).2.2.1.size; rw [hn] at h9; exact h9
      have HLE := hide (show N ≤ (y2.alloc (.cells #[.int .i64 x] 3)).heap.size from by rw [World.size_alloc]; omega)
      have HLA := hide ((unhide HS).2.2.1.alloc hNy (.cells #[.int .i64 x] 3))
      have HRB := hide ((unhide HS).1.alloc (.cells #[.int .i64 x] 3))
      clear hNy
      go_wp2_with (refine wpList_append_lies _ rfl (.tmp 51) (.tmp 56) 26 rfl N 3 i0 (.int .i64 0) 1 8 Tryd.underlying26 (unhide HI).1 (unhide HI).2.1 (unhide HI).2.2.1 (unhide HI).2.2.2 rfl (by decide) _ (rL c k).length ((rL c k).map (Value.int .i64)) rfl (unhide HRA) ⟨y2.heap.size, 0, none⟩ 1 1 [.int .i64 x] rfl rfl (fun q u hu => news_one y2 3 _ q u hu) (by simp [Value.oneCell']) (by omega) (by rw [rL_len]; unfold maxLen; omega) (by rw [rL_len]; omega) (unhide HLE) _ rfl ?_)
      intro g1 cap1 y3 ho3 hg3 hor hlt3
      have HN1 := hide (show (Value.slice (some ⟨g1, 0, none⟩) ((rL c k).length + 1) cap1).ownBlock ≠ some g from fun e => by
        have e1 : g1 = g := by simpa [Value.ownBlock] using e
        rcases hor with hor | hor
        · exact unhide HVG (by rw [hor, e1])
        · have h9 := ((unhide HRB).lt g rfl).2
          rw [World.size_alloc] at h9
          omega)
      have HR3 := hide (own_only (unhide HRB) (grown_only hg3) (fun q hq e => by
        have e1 : g = q := by simpa [Value.ownBlock] using hq
        exact unhide HVG (by rw [e, e1])))
      have HL3 := hide ((unhide HLA).grown hg3 (unhide HLE) (fun q hq => ((unhide HRA).lt q hq).1))
      have HV3 := hide ho3
      clear ho3 hg3 hor hlt3 cg HRA HLE HLA HRB
      go_wp2
      go_roundw
      case rel =>
        refine ⟨k + 1, by omega, by go_num, ⟨_, unhide HR3, (unhide HS).2.2.2⟩, ?_, unhide HN1, unhide HL3⟩
        rw [rL_succ, unhide HX, List.length_append, List.length_singleton, List.map_append]
        exact unhide HV3
      case measure => simp [intOf]; omega
    · have hk' : k = l.length := by omega
      subst hk'
      have i1 : ¬ ((l.length : Int) < (l.length : Int)) := by omega
      have hIr : Ils wr (some ⟨g, 0, none⟩) (rL c l.length) := fun j hj => by
        rw [rL_len] at hj
        refine ⟨g, 0, rfl, (hR.lt g rfl).2, ?_⟩
        rw [Nat.zero_add, (own_at hR rfl j (by omega)).1, hys j hj, rL_at _ _ _ hj]
      obtain ⟨ao, cp, hv, hIn, _⟩ := own_ils hV
      subst hv
      have HS1 := hide (sampleB_any s (rL c l.length) (some ⟨g, 0, none⟩) cap2 hIr (by rw [rL_len]; omega))
      rw [rL_len] at HS1
      have HS2 := hide (fun (z : World) (hz : Below wr.heap.size wr z) => rsampled_any s (rL c l.length) ao cp (hIn.below hz) (by rw [rL_len]; omega))
      have HLO := hide hlo
      have hse1 : ((smS s l).toList == (smS s l).toList) = true := by simp
      have hse2 : ((smS s (rL c l.length)).toList == (smS s (rL c l.length)).toList) = true := by simp
      clear hR hys hV hvg hlo hIr hIn hlt HR5 HL5
      go_wp2_with fail
      refine (unhide HS1).mono ?_
      rintro e y1 ⟨rfl, hb1⟩
      have HB1 := hide hb1
      clear hb1 HS1
      go_wp2_with fail
      refine (unhide HS2 _ (unhide HB1)).mono ?_
      rintro e y2 ⟨rfl, hb2⟩
      have HB2 := hide ((unhide HLO).trans (((unhide HB1).trans (hb2.mono (unhide HB1).size)).mono (by have h9 := (unhide HLO).size; rw [hn] at h9; exact h9)))
      clear hb2 HB1 HS2 HLO
      generalize smS s (rL c l.length) = t2 at *
      generalize smE s (rL c l.length) = e2 at *
      generalize smS s l = t1 at *
      generalize smE s l = e1 at *
      go_wp2
      go_ret
      exact ⟨rfl, unhide HB2⟩
set_option maxHeartbeats 1000000 in
theorem samples13_nil (s : ByteArray) (c : Int) (w : World) (hK : KTab w) :
    Calls Tryd.prog 6 #[.string s, .slice none 0 0, .int .i64 c] w fun e w' => e = .returned (.bool true) ∧ Below w.heap.size w w' := by
  obtain ⟨N, hn⟩ : ∃ N, w.heap.size = N := ⟨_, rfl⟩
  have HKN := hide (known13_any w hK)
  rw [hn] at HKN
  have HRS := hide (fun z : World => rsampled_any (w := z) s [] none 0 (fun j hj => absurd hj (by simp)) (by simp))
  have HSS := hide (fun z : World => sampleB_any (w := z) s [] none 0 (fun j hj => absurd hj (by simp)) (by simp))
  simp only [List.length_nil] at HRS HSS
  have hse : ((smS s []).toList == (smS s []).toList) = true := by simp
  generalize smS s [] = t1 at *
  generalize smE s [] = e1 at *
  clear hK
  rw [hn]
  go_enter Tryd.func6, Tryd.ntmps6
  go_wp2_with fail
  refine (unhide HKN).mono ?_
  rintro e z1 ⟨rfl, hb1⟩
  have HL1 := hide hb1
  clear hb1 HKN
  go_wp2_with fail
  refine (unhide HRS _).mono ?_
  rintro e z2 ⟨rfl, hb⟩
  have HL2 := hide ((unhide HL1).trans (hb.mono (by have := (unhide HL1).size; omega)))
  clear hb HL1
  go_wp2_with fail
  refine (lent_nil _).mono ?_
  rintro e z3 ⟨rfl, rfl⟩
  go_wp2_with fail
  refine (unhide HSS _).mono ?_
  rintro e z4 ⟨rfl, hb⟩
  have HL4 := hide ((unhide HL2).trans (hb.mono (by have := (unhide HL2).size; omega)))
  clear hb HL2
  go_wp2_with fail
  refine (asLent_nil _ _).mono ?_
  rintro e z5 ⟨rfl, rfl⟩
  go_wp2
  go_loopw [14, 15] (fun v i wr => wr = z5 ∧ v = .slice none 0 0 ∧ i = .int .i64 0) (fun _ _ _ => 0)
  case atStart => exact ⟨rfl, rfl, rfl⟩
  case round =>
    obtain ⟨rfl, rfl, rfl⟩ := hrel
    go_wp2_with fail
    refine (unhide HSS _).mono ?_
    rintro e z6 ⟨rfl, hb⟩
    have HL6 := hide ((unhide HL4).trans (hb.mono (by have := (unhide HL4).size; omega)))
    clear hb HL4
    go_wp2_with fail
    refine (unhide HRS _).mono ?_
    rintro e z7 ⟨rfl, hb⟩
    have HL7 := hide ((unhide HL6).trans (hb.mono (by have := (unhide HL6).size; omega)))
    clear hb HL6
    go_wp2
    go_ret
    exact ⟨rfl, unhide HL7⟩
end Go.Proofs.YtabgcgdpeikieaaDoor
namespace Go.Proofs.YtabgcgdpeikieaaDoor
open Go.RowKit Go.Conc
set_option maxRecDepth 100000
theorem rderived_any (dr dg : ByteArray) (hr : dr.size = 16) (hg : dg.size = 32) (n : Nat) (hn : n ≤ 8160) (D : ByteArray) (hD : plc ++ dg = D) (w : World) :
    Calls Tryd.prog 57 #[.string dr, .string D, .int .i64 (n : Int)] w fun e w' => e = .returned (.tuple #[.string (dvS dr dg n), .int .i64 0]) ∧ Below w.heap.size w w' := by
  subst hD
  have hs : (plc ++ dg).size = 38 := by rw [ByteArray.size_append, hg]; rfl
  exact rderive_any dr (plc ++ dg) n hn (by omega) (by omega) w
attribute [local irreducible] dvM dvS outP
def ntl (S : List Nat) : List Int := S.map (fun p : Nat => (p : Int))
theorem ntl_len (S : List Nat) : (ntl S).length = S.length := by simp [ntl]
theorem ntl_mem (S : List Nat) (x : Nat) : decide ((x : Int) ∈ ntl S) = decide (x ∈ S) := by
  apply decide_eq_decide.2
  unfold ntl
  constructor
  · intro h
    obtain ⟨y, hy, e⟩ := List.mem_map.1 h
    have e9 : y = x := by omega
    rwa [← e9]
  · intro h
    exact List.mem_map.2 ⟨x, h, rfl⟩
/-- A row of numbers of one's own. -/
structure Rl (w : World) (N : Nat) (S : List Nat) (v : Value) (z : World) : Prop where
  own : z.ownsRow N 3 1 v (ntl S).length ((ntl S).map (Value.int .i64))
  lo : Below N w z
theorem Rl.snoc {w y : World} {N m x : Nat} {S : List Nat} {v : Value} (h : y.ownsRow N 3 1 v (m + 1) ((ntl S).map (Value.int .i64) ++ [.int .i64 (x : Int)])) (hm : (ntl S).length = m) (hl : Below N w y) : Rl w N (S ++ [x]) v y := by
  refine ⟨?_, hl⟩
  have e1 : (ntl (S ++ [x])).length = m + 1 := by rw [ntl_len, List.length_append, ← ntl_len, hm]; rfl
  have e2 : (ntl (S ++ [x])).map (Value.int .i64) = (ntl S).map (Value.int .i64) ++ [.int .i64 (x : Int)] := by simp [ntl]
  rw [e1, e2]
  exact h
theorem Rl.nil (w z : World) (N : Nat) (h : Below N w z) : Rl w N [] (.slice none 0 0) z := ⟨World.ownsRow_nil _ _ _ _, h⟩
theorem addP_in {S : List Nat} {p : Nat} (h : p ∈ S) : addP S p = S := by simp [addP, h]
theorem addP_out {S : List Nat} {p : Nat} (h : p ∉ S) (hl : S.length < 8) : addP S p = S ++ [p] := by
  unfold addP
  rw [if_neg]
  rintro (h9 | h9)
  · omega
  · exact h h9
theorem plF_chs (dr dg : ByteArray) : Chs (plF dr dg) := by
  refine Chs.nil.adds _ (fun p hp => ?_)
  have hM : bts (dvS dr dg 8160) = dvM dr dg := by
    rw [dvS_take _ _ _ (by omega)]
    exact List.take_of_length_le (by rw [dvM_len]; exact Nat.le_refl _)
  rw [← hM] at hp
  exact bts_lt _ _ hp
theorem addsP_done {S L : List Nat} (j : Nat) (h : L.length ≤ j ∨ (addsP S (L.take j)).length = 8) : addsP S (L.take j) = addsP S L := by
  rcases h with h | h
  · rw [List.take_of_length_le h]
  · conv => rhs; rw [← List.take_append_drop j L]
    rw [addsP_append, addsP_full _ h]
theorem range_take (q : Nat) (h : q ≤ 256) : (List.range 256).take q = List.range q := by
  rw [List.take_range]
  congr 1
  omega
def Sk (dr dg : ByteArray) : Nat → List Nat
  | 0 => []
  | 1 => addsP [] ((dvM dr dg).take 64)
  | _ => plF dr dg
theorem Sk0 (dr dg : ByteArray) : Sk dr dg 0 = [] := by rw [Sk]
theorem Sk1 (dr dg : ByteArray) : Sk dr dg 1 = addsP [] ((dvM dr dg).take 64) := by rw [Sk]
theorem Sk2 (dr dg : ByteArray) : Sk dr dg 2 = plF dr dg := by rw [Sk] <;> omega
theorem plF_eq (dr dg : ByteArray) : plF dr dg = addsP [] (dvM dr dg) := by rw [plF]
theorem dvM_all (dr dg : ByteArray) : (dvM dr dg).take 8160 = dvM dr dg := List.take_of_length_le (by rw [dvM_len]; exact Nat.le_refl _)
set_option maxHeartbeats 4000000 in
theorem rplaces_any (dr dg : ByteArray) (hr : dr.size = 16) (hg : dg.size = 32) (w : World) :
    Calls Tryd.prog 43 #[.string dr, .string dg] w fun e w' => ∃ v, e = .returned v ∧ Rl w w.heap.size (plO dr dg) v w' := by
  obtain ⟨N, hn⟩ : ∃ N, w.heap.size = N := ⟨_, rfl⟩
  rw [hn]
  have hp : plc.size = 6 := rfl
  have l2 : plc.size + dg.size ≤ 9223372036854775807 := by omega
  obtain ⟨D, hD⟩ : ∃ D, plc ++ dg = D := ⟨_, rfl⟩
  have hD' : (⟨#[112, 108, 97, 99, 101, 115]⟩ : ByteArray) ++ dg = D := hD
  have l3 : (⟨#[112, 108, 97, 99, 101, 115]⟩ : ByteArray).size + dg.size ≤ 9223372036854775807 := l2
  have HD1 := hide (fun z : World => rderived_any dr dg hr hg 64 (by omega) D hD z)
  have HD2 := hide (fun z : World => rderived_any dr dg hr hg 8160 (by omega) D hD z)
  simp only [Int.cast_ofNat_Int] at HD1 HD2
  have HO := hide (show plO dr dg = plR (addsP (plF dr dg) (List.range 256)) from by rw [plO, if_pos ⟨hr, hg⟩, plS_eq])
  clear hp l2 hD
  go_enter Tryd.func43, Tryd.ntmps43
  go_wp2
  go_loopw [5, 6] (fun u i wr => ∃ k : Nat, k ≤ 2 ∧ i = .int .i64 (k : Int) ∧ Rl w N (Sk dr dg k) u wr) (fun _ i _ => 2 - (intOf i).toNat)
  case atStart => exact ⟨0, by omega, rfl, by rw [Sk0]; exact Rl.nil w w N (Below.refl _ _)⟩
  case round =>
    obtain ⟨k, hk, rfl, hR⟩ := hrel
    obtain ⟨SS, hSS⟩ : ∃ S, Sk dr dg k = S := ⟨_, rfl⟩
    rw [hSS] at hR
    obtain ⟨ao, cp, hv, hIl, _⟩ := own_ils hR.own
    subst hv
    obtain ⟨m, hm⟩ : ∃ m, (ntl SS).length = m := ⟨_, rfl⟩
    have hms : SS.length = m := by rw [← hm, ntl_len]
    have HOW := hide hR.own
    have HLO := hide hR.lo
    rw [hm] at HOW
    rw [hm]
    have HIL := hide hIl
    have HM := hide hm
    have HMS := hide hms
    have HR0 := hide hR
    clear hR hIl hm
    have hk3 : k = 0 ∨ k = 1 ∨ k = 2 := by omega
    rcases hk3 with rfl | rfl | rfl <;> simp only [Int.cast_ofNat_Int]
    · have hm0 : m = 0 := by rw [← hms, ← hSS, Sk0]; rfl
      subst hm0
      clear HOW HIL HM HMS hSS hms HR0
      as_aux_lemma =>
        go_wp2_with fail
        refine (unhide HD1 _).mono ?_
        rintro e z ⟨rfl, hb⟩
        have HLz := hide ((unhide HLO).trans (hb.mono (by have h9 := (unhide HLO).size; rw [hn] at h9; exact h9)))
        clear hb HLO HD1 HD2
        have hsz := dvS_size dr dg 64
        have HTK := hide (dvS_take dr dg 64 (by omega))
        obtain ⟨s, hs⟩ : ∃ s, dvS dr dg 64 = s := ⟨_, rfl⟩
        rw [hs] at hsz HTK ⊢
        clear hs
        go_wp2
        go_loopw [5, 10] (fun u i wr => ∃ j : Nat, j ≤ 64 ∧ i = .int .i64 (j : Int) ∧ Rl w N (addsP [] ((bts s).take j)) u wr) (fun _ i _ => 64 - (intOf i).toNat)
        case atStart => exact ⟨0, by omega, rfl, by simpa [addsP] using Rl.nil w _ N (unhide HLz)⟩
        case round =>
          obtain ⟨j, hj, rfl, hR⟩ := hrel
          obtain ⟨SS, hSS⟩ : ∃ S, addsP [] ((bts s).take j) = S := ⟨_, rfl⟩
          rw [hSS] at hR
          have hl8 : SS.length ≤ 8 := by rw [← hSS]; exact (Chs.nil.adds _ (fun p hp => bts_lt s p (List.mem_of_mem_take hp))).len
          have HSS := hide hSS
          clear hSS HLz
          obtain ⟨ao, cp, hv, hIl, _⟩ := own_ils hR.own
          subst hv
          obtain ⟨m, hm⟩ : ∃ m, (ntl SS).length = m := ⟨_, rfl⟩
          have hms : SS.length = m := by rw [← hm, ntl_len]
          have HOW := hide hR.own
          have HLO := hide hR.lo
          rw [hm] at HOW
          rw [hm]
          have HIL := hide hIl
          have HM := hide hm
          have HMS := hide hms
          clear hR hIl hm
          have hm8 : m ≤ 8 := by omega
          by_cases hjn : j < 64
          · by_cases hm9 : m < 8
            · have i1 : (j : Int) < 64 := by omega
              have i2 : 0 ≤ (j : Int) := by omega
              have i3 : decide ((j : Int) < 64) = true := decide_eq_true (by omega)
              have i4 : (m : Int) < 8 := by omega
              have i5 : (j : Int) < (s.size : Int) := by omega
              have hix := index_str s j (by omega) wr
              rw [← bts_at s j] at hix
              have HE := hide (bts_take s j (by omega))
              have hx256 : (bts s).getD j 0 < 256 := bts_lt s _ (bts_in s j (by omega))
              obtain ⟨x, hx⟩ : ∃ x, (bts s).getD j 0 = x := ⟨_, rfl⟩
              rw [hx] at HE hix hx256
              have w1 : IntKind.i64.wrap (x : Int) = (x : Int) := wrapI_eq _ (by omega) (by omega)
              clear hx
              have hhs := rhas_any wr ao cp m (ntl SS) (x : Int) (unhide HM).symm (by omega) (unhide HIL)
              rw [ntl_mem] at hhs
              have HHS := hide hhs
              clear hhs hl8 hms
              by_cases hin : x ∈ SS
              · rw [decide_eq_true hin] at HHS
                have HIN := hide hin
                clear hin
                go_wp2_with fail
                refine (unhide HHS).mono ?_
                rintro e y1 ⟨rfl, rfl⟩
                go_wp2
                go_roundw
                case rel =>
                  refine ⟨j + 1, by omega, by go_num, ?_⟩
                  rw [unhide HE, addsP_snoc, unhide HSS, addP_in (unhide HIN)]
                  refine ⟨?_, unhide HLO⟩
                  rw [unhide HM]
                  exact unhide HOW
                case measure => simp [intOf]; omega
              · rw [decide_eq_false hin] at HHS
                have HIN := hide hin
                clear hin
                obtain ⟨i0, hi, hz0, hz1, hz2⟩ := info_parts info3
                have HI := hide (And.intro hi (And.intro hz0 (And.intro hz1 hz2)))
                have hNy : N ≤ wr.heap.size := by have h9 := (unhide HLO).size; rw [hn] at h9; exact h9
                have HRA := hide ((unhide HOW).alloc (.cells #[.int .i64 (x : Int)] 3))
                have HLE := hide (show N ≤ (wr.alloc (.cells #[.int .i64 (x : Int)] 3)).heap.size from by rw [World.size_alloc]; omega)
                have HLA := hide ((unhide HLO).alloc hNy (.cells #[.int .i64 (x : Int)] 3))
                clear hi hz0 hz1 hz2 hNy
                go_wp2_with fail
                refine (unhide HHS).mono ?_
                rintro e y1 ⟨rfl, rfl⟩
                go_wp2_with (refine wpList_append_lies _ rfl (.tmp 55) (.tmp 60) 26 rfl N 3 i0 (.int .i64 0) 1 8 Tryd.underlying26 (unhide HI).1 (unhide HI).2.1 (unhide HI).2.2.1 (unhide HI).2.2.2 rfl (by decide) _ m ((ntl SS).map (Value.int .i64)) rfl (unhide HRA) ⟨y1.heap.size, 0, none⟩ 1 1 [.int .i64 (x : Int)] rfl rfl (fun q u hu => news_one y1 3 _ q u hu) (by simp [Value.oneCell']) (by omega) (by unfold maxLen; omega) (by omega) (unhide HLE) _ rfl ?_)
                intro g1 cap1 y3 ho3 hg3 hor hlt3
                have HR3 := hide (Rl.snoc ho3 (unhide HM) ((unhide HLA).grown hg3 (unhide HLE) (fun q hq => ((unhide HRA).lt q hq).1)))
                clear ho3 hg3 hor hlt3 HRA HLE HLA HOW HLO
                go_wp2
                go_roundw
                case rel =>
                  refine ⟨j + 1, by omega, by go_num, ?_⟩
                  rw [unhide HE, addsP_snoc, unhide HSS, addP_out (unhide HIN) (by have := unhide HMS; omega)]
                  exact unhide HR3
                case measure => simp [intOf]; omega
            · have hfin := hide (show Rl w N (addsP [] (bts s)) (.slice ao m cp) wr from by
                rw [← addsP_done j (.inr (by rw [unhide HSS, unhide HMS]; omega)), unhide HSS]
                refine ⟨?_, unhide HLO⟩
                rw [unhide HM]
                exact unhide HOW)
              have i1 : (j : Int) < 64 := by omega
              have i3 : decide ((j : Int) < 64) = true := decide_eq_true (by omega)
              have i5 : (j : Int) < (s.size : Int) := by omega
              have i4 : (8 : Int) ≤ (m : Int) := by omega
              have i6 : decide ((m : Int) < 8) = false := decide_eq_false (by omega)
              clear hm9 HOW HLO
              go_wp2
              go_roundw
              case rel =>
                refine ⟨1, by omega, by first | rfl | go_num, ?_⟩
                rw [Sk1, ← unhide HTK]
                exact unhide hfin
              case measure => simp [intOf]
          · have hfin := hide (show Rl w N (addsP [] (bts s)) (.slice ao m cp) wr from by
              rw [← addsP_done j (.inl (by rw [bts_len]; omega)), unhide HSS]
              refine ⟨?_, unhide HLO⟩
              rw [unhide HM]
              exact unhide HOW)
            have i1 : (64 : Int) ≤ (j : Int) := by omega
            have i3 : decide ((j : Int) < 64) = false := decide_eq_false (by omega)
            have i5 : decide ((j : Int) < (s.size : Int)) = false := decide_eq_false (by omega)
            clear hjn HOW HLO
            go_wp2
            go_roundw
            case rel =>
              refine ⟨1, by omega, by first | rfl | go_num, ?_⟩
              rw [Sk1, ← unhide HTK]
              exact unhide hfin
            case measure => simp [intOf]
    · by_cases hm9 : m < 8
      · have i4 : (m : Int) < 8 := by omega
        have i7 : decide ((m : Int) < 8) = true := decide_eq_true (by omega)
        clear HOW HIL HM HMS hSS hms HR0
        as_aux_lemma =>
          go_wp2_with fail
          refine (unhide HD2 _).mono ?_
          rintro e z ⟨rfl, hb⟩
          have HLz := hide ((unhide HLO).trans (hb.mono (by have h9 := (unhide HLO).size; rw [hn] at h9; exact h9)))
          clear hb HLO HD1 HD2 hm9 i4 i7
          have hsz := dvS_size dr dg 8160
          have HTK := hide (dvS_take dr dg 8160 (by omega))
          obtain ⟨s, hs⟩ : ∃ s, dvS dr dg 8160 = s := ⟨_, rfl⟩
          rw [hs] at hsz HTK ⊢
          clear hs
          go_wp2
          go_loopw [5, 10] (fun u i wr => ∃ j : Nat, j ≤ 8160 ∧ i = .int .i64 (j : Int) ∧ Rl w N (addsP [] ((bts s).take j)) u wr) (fun _ i _ => 8160 - (intOf i).toNat)
          case atStart => exact ⟨0, by omega, rfl, by simpa [addsP] using Rl.nil w _ N (unhide HLz)⟩
          case round =>
            obtain ⟨j, hj, rfl, hR⟩ := hrel
            obtain ⟨SS, hSS⟩ : ∃ S, addsP [] ((bts s).take j) = S := ⟨_, rfl⟩
            rw [hSS] at hR
            have hl8 : SS.length ≤ 8 := by rw [← hSS]; exact (Chs.nil.adds _ (fun p hp => bts_lt s p (List.mem_of_mem_take hp))).len
            have HSS := hide hSS
            clear hSS HLz
            obtain ⟨ao, cp, hv, hIl, _⟩ := own_ils hR.own
            subst hv
            obtain ⟨m, hm⟩ : ∃ m, (ntl SS).length = m := ⟨_, rfl⟩
            have hms : SS.length = m := by rw [← hm, ntl_len]
            have HOW := hide hR.own
            have HLO := hide hR.lo
            rw [hm] at HOW
            rw [hm]
            have HIL := hide hIl
            have HM := hide hm
            have HMS := hide hms
            clear hR hIl hm
            have hm8 : m ≤ 8 := by omega
            by_cases hjn : j < 8160
            · by_cases hm9 : m < 8
              · have i1 : (j : Int) < 8160 := by omega
                have i2 : 0 ≤ (j : Int) := by omega
                have i3 : decide ((j : Int) < 8160) = true := decide_eq_true (by omega)
                have i4 : (m : Int) < 8 := by omega
                have i5 : (j : Int) < (s.size : Int) := by omega
                have hix := index_str s j (by omega) wr
                rw [← bts_at s j] at hix
                have HE := hide (bts_take s j (by omega))
                have hx256 : (bts s).getD j 0 < 256 := bts_lt s _ (bts_in s j (by omega))
                obtain ⟨x, hx⟩ : ∃ x, (bts s).getD j 0 = x := ⟨_, rfl⟩
                rw [hx] at HE hix hx256
                have w1 : IntKind.i64.wrap (x : Int) = (x : Int) := wrapI_eq _ (by omega) (by omega)
                clear hx
                have hhs := rhas_any wr ao cp m (ntl SS) (x : Int) (unhide HM).symm (by omega) (unhide HIL)
                rw [ntl_mem] at hhs
                have HHS := hide hhs
                clear hhs hl8 hms
                by_cases hin : x ∈ SS
                · rw [decide_eq_true hin] at HHS
                  have HIN := hide hin
                  clear hin
                  go_wp2_with fail
                  refine (unhide HHS).mono ?_
                  rintro e y1 ⟨rfl, rfl⟩
                  go_wp2
                  go_roundw
                  case rel =>
                    refine ⟨j + 1, by omega, by go_num, ?_⟩
                    rw [unhide HE, addsP_snoc, unhide HSS, addP_in (unhide HIN)]
                    refine ⟨?_, unhide HLO⟩
                    rw [unhide HM]
                    exact unhide HOW
                  case measure => simp [intOf]; omega
                · rw [decide_eq_false hin] at HHS
                  have HIN := hide hin
                  clear hin
                  obtain ⟨i0, hi, hz0, hz1, hz2⟩ := info_parts info3
                  have HI := hide (And.intro hi (And.intro hz0 (And.intro hz1 hz2)))
                  have hNy : N ≤ wr.heap.size := by have h9 := (unhide HLO).size; rw [hn] at h9; exact h9
                  have HRA := hide ((unhide HOW).alloc (.cells #[.int .i64 (x : Int)] 3))
                  have HLE := hide (show N ≤ (wr.alloc (.cells #[.int .i64 (x : Int)] 3)).heap.size from by rw [World.size_alloc]; omega)
                  have HLA := hide ((unhide HLO).alloc hNy (.cells #[.int .i64 (x : Int)] 3))
                  clear hi hz0 hz1 hz2 hNy
                  go_wp2_with fail
                  refine (unhide HHS).mono ?_
                  rintro e y1 ⟨rfl, rfl⟩
                  go_wp2_with (refine wpList_append_lies _ rfl (.tmp 55) (.tmp 60) 26 rfl N 3 i0 (.int .i64 0) 1 8 Tryd.underlying26 (unhide HI).1 (unhide HI).2.1 (unhide HI).2.2.1 (unhide HI).2.2.2 rfl (by decide) _ m ((ntl SS).map (Value.int .i64)) rfl (unhide HRA) ⟨y1.heap.size, 0, none⟩ 1 1 [.int .i64 (x : Int)] rfl rfl (fun q u hu => news_one y1 3 _ q u hu) (by simp [Value.oneCell']) (by omega) (by unfold maxLen; omega) (by omega) (unhide HLE) _ rfl ?_)
                  intro g1 cap1 y3 ho3 hg3 hor hlt3
                  have HR3 := hide (Rl.snoc ho3 (unhide HM) ((unhide HLA).grown hg3 (unhide HLE) (fun q hq => ((unhide HRA).lt q hq).1)))
                  clear ho3 hg3 hor hlt3 HRA HLE HLA HOW HLO
                  go_wp2
                  go_roundw
                  case rel =>
                    refine ⟨j + 1, by omega, by go_num, ?_⟩
                    rw [unhide HE, addsP_snoc, unhide HSS, addP_out (unhide HIN) (by have := unhide HMS; omega)]
                    exact unhide HR3
                  case measure => simp [intOf]; omega
              · have hfin := hide (show Rl w N (addsP [] (bts s)) (.slice ao m cp) wr from by
                  rw [← addsP_done j (.inr (by rw [unhide HSS, unhide HMS]; omega)), unhide HSS]
                  refine ⟨?_, unhide HLO⟩
                  rw [unhide HM]
                  exact unhide HOW)
                have i1 : (j : Int) < 8160 := by omega
                have i3 : decide ((j : Int) < 8160) = true := decide_eq_true (by omega)
                have i5 : (j : Int) < (s.size : Int) := by omega
                have i4 : (8 : Int) ≤ (m : Int) := by omega
                have i6 : decide ((m : Int) < 8) = false := decide_eq_false (by omega)
                clear hm9 HOW HLO
                go_wp2
                go_roundw
                case rel =>
                  refine ⟨2, by omega, by first | rfl | go_num, ?_⟩
                  rw [Sk2, plF_eq, ← dvM_all, ← unhide HTK]
                  exact unhide hfin
                case measure => simp [intOf]
            · have hfin := hide (show Rl w N (addsP [] (bts s)) (.slice ao m cp) wr from by
                rw [← addsP_done j (.inl (by rw [bts_len]; omega)), unhide HSS]
                refine ⟨?_, unhide HLO⟩
                rw [unhide HM]
                exact unhide HOW)
              have i1 : (8160 : Int) ≤ (j : Int) := by omega
              have i3 : decide ((j : Int) < 8160) = false := decide_eq_false (by omega)
              have i5 : decide ((j : Int) < (s.size : Int)) = false := decide_eq_false (by omega)
              clear hjn HOW HLO
              go_wp2
              go_roundw
              case rel =>
                refine ⟨2, by omega, by first | rfl | go_num, ?_⟩
                rw [Sk2, plF_eq, ← dvM_all, ← unhide HTK]
                exact unhide hfin
              case measure => simp [intOf]
      · have hm8 : m = 8 := by
          have h9 : SS.length ≤ 8 := by
            have hM : bts (dvS dr dg 64) = (dvM dr dg).take 64 := dvS_take _ _ _ (by omega)
            rw [← hSS, Sk1, ← hM]
            exact (Chs.nil.adds _ (fun p hp => bts_lt _ p hp)).len
          omega
        have HF := hide (show Rl w N (plF dr dg) (.slice ao m cp) wr from by
          have e9 : plF dr dg = SS := by
            rw [← hSS, plF_eq, Sk1]
            exact addsP_fullpre (dvM dr dg) 64 (by rw [← Sk1, hSS, hms, hm8])
          rw [e9, ← unhide HM]
          exact unhide HR0)
        have i4 : (8 : Int) ≤ (m : Int) := by omega
        have i6 : decide ((m : Int) < 8) = false := decide_eq_false (by omega)
        clear hm9 hSS hms hm8 HOW HLO HIL HM HMS HR0
        as_aux_lemma =>
          clear HD1 HD2
          go_wp2
          go_loopw [5, 12] (fun u i wr => ∃ q : Nat, q ≤ 256 ∧ i = .int .i64 (q : Int) ∧ Rl w N (addsP (plF dr dg) ((List.range 256).take q)) u wr) (fun _ i _ => 256 - (intOf i).toNat)
          case atStart => exact ⟨0, by omega, rfl, by simpa [addsP] using unhide HF⟩
          case round =>
            obtain ⟨q, hq, rfl, hR⟩ := hrel
            clear HF
            obtain ⟨SS, hSS⟩ : ∃ S, addsP (plF dr dg) ((List.range 256).take q) = S := ⟨_, rfl⟩
            rw [hSS] at hR
            have hl8 : SS.length ≤ 8 := by rw [← hSS]; exact ((plF_chs dr dg).adds _ (fun p hp => List.mem_range.1 (List.mem_of_mem_take hp))).len
            have hq8 : q = 256 → SS.length = 8 := fun e => by
              rw [← hSS, e, range_take _ (Nat.le_refl _)]
              exact adds_range (plF_chs dr dg)
            have HSS := hide hSS
            clear hSS
            obtain ⟨ao, cp, hv, hIl, _⟩ := own_ils hR.own
            subst hv
            obtain ⟨m, hm⟩ : ∃ m, (ntl SS).length = m := ⟨_, rfl⟩
            have hms : SS.length = m := by rw [← hm, ntl_len]
            have HOW := hide hR.own
            have HLO := hide hR.lo
            rw [hm] at HOW
            rw [hm]
            have HIL := hide hIl
            have HM := hide hm
            have HMS := hide hms
            clear hR hIl hm
            have hm8 : m ≤ 8 := by omega
            by_cases hm9 : m < 8
            · have hq9 : q < 256 := by
                rcases Nat.lt_or_ge q 256 with h | h
                · exact h
                · have := hq8 (by omega)
                  omega
              clear hq8
              have i4 : (m : Int) < 8 := by omega
              have hhs := rhas_any wr ao cp m (ntl SS) (q : Int) (unhide HM).symm (by omega) (unhide HIL)
              rw [ntl_mem] at hhs
              have HHS := hide hhs
              have HE := hide (show (List.range 256).take (q + 1) = (List.range 256).take q ++ [q] from by rw [range_take _ (by omega), range_take _ (by omega), List.range_succ])
              clear hhs hl8 hms
              by_cases hin : q ∈ SS
              · rw [decide_eq_true hin] at HHS
                have HIN := hide hin
                clear hin
                go_wp2_with fail
                refine (unhide HHS).mono ?_
                rintro e y1 ⟨rfl, rfl⟩
                go_wp2
                go_roundw
                case rel =>
                  refine ⟨q + 1, by omega, by go_num, ?_⟩
                  rw [unhide HE, addsP_snoc, unhide HSS, addP_in (unhide HIN)]
                  refine ⟨?_, unhide HLO⟩
                  rw [unhide HM]
                  exact unhide HOW
                case measure => simp [intOf]; omega
              · rw [decide_eq_false hin] at HHS
                have HIN := hide hin
                clear hin
                obtain ⟨i0, hi, hz0, hz1, hz2⟩ := info_parts info3
                have HI := hide (And.intro hi (And.intro hz0 (And.intro hz1 hz2)))
                have hNy : N ≤ wr.heap.size := by have h9 := (unhide HLO).size; rw [hn] at h9; exact h9
                have HRA := hide ((unhide HOW).alloc (.cells #[.int .i64 (q : Int)] 3))
                have HLE := hide (show N ≤ (wr.alloc (.cells #[.int .i64 (q : Int)] 3)).heap.size from by rw [World.size_alloc]; omega)
                have HLA := hide ((unhide HLO).alloc hNy (.cells #[.int .i64 (q : Int)] 3))
                clear hi hz0 hz1 hz2 hNy
                go_wp2_with fail
                refine (unhide HHS).mono ?_
                rintro e y1 ⟨rfl, rfl⟩
                go_wp2_with (refine wpList_append_lies _ rfl (.tmp 72) (.tmp 74) 26 rfl N 3 i0 (.int .i64 0) 1 8 Tryd.underlying26 (unhide HI).1 (unhide HI).2.1 (unhide HI).2.2.1 (unhide HI).2.2.2 rfl (by decide) _ m ((ntl SS).map (Value.int .i64)) rfl (unhide HRA) ⟨y1.heap.size, 0, none⟩ 1 1 [.int .i64 (q : Int)] rfl rfl (fun q u hu => news_one y1 3 _ q u hu) (by simp [Value.oneCell']) (by omega) (by unfold maxLen; omega) (by omega) (unhide HLE) _ rfl ?_)
                intro g1 cap1 y3 ho3 hg3 hor hlt3
                have HR3 := hide (Rl.snoc ho3 (unhide HM) ((unhide HLA).grown hg3 (unhide HLE) (fun q hq => ((unhide HRA).lt q hq).1)))
                clear ho3 hg3 hor hlt3 HRA HLE HLA HOW HLO
                go_wp2
                go_roundw
                case rel =>
                  refine ⟨q + 1, by omega, by go_num, ?_⟩
                  rw [unhide HE, addsP_snoc, unhide HSS, addP_out (unhide HIN) (by have := unhide HMS; omega)]
                  exact unhide HR3
                case measure => simp [intOf]; omega
            · have hff : SS = addsP (plF dr dg) (List.range 256) := by
                rw [← addsP_done q (.inr (by rw [unhide HSS]; omega)), unhide HSS]
              have HFF := hide hff
              have i4 : (8 : Int) ≤ (m : Int) := by omega
              have i6 : decide ((m : Int) < 8) = false := decide_eq_false (by omega)
              clear hm9 hq8 hff hl8 hms
              obtain ⟨wo, rfl⟩ : ∃ wo, wo = wr := ⟨_, rfl⟩
              obtain ⟨N2, hn2⟩ : ∃ N, wo.heap.size = N := ⟨_, rfl⟩
              have HN2 := hide (show N ≤ N2 from by have h9 := (unhide HLO).size; rw [hn, hn2] at h9; exact h9)
              clear HOW
              go_wp2
              go_loopw [14, 15] (fun u i wr => ∃ q : Nat, q ≤ 256 ∧ i = .int .i64 (q : Int) ∧ Rl wo N2 ((List.range q).filter (fun p => decide (p ∈ SS))) u wr) (fun _ i _ => 256 - (intOf i).toNat)
              case atStart => exact ⟨0, by omega, rfl, Rl.nil wo _ N2 (Below.refl _ _)⟩
              case round =>
                obtain ⟨q, hq, rfl, hR⟩ := hrel
                obtain ⟨TT, hTT⟩ : ∃ S, (List.range q).filter (fun p => decide (p ∈ SS)) = S := ⟨_, rfl⟩
                rw [hTT] at hR
                have hl9 : TT.length ≤ 256 := by
                  rw [← hTT]
                  refine Nat.le_trans (List.length_filter_le _ _) ?_
                  rw [List.length_range]
                  exact hq
                have HTT := hide hTT
                clear hTT
                obtain ⟨ao2, cp2, hv2, hIl2, _⟩ := own_ils hR.own
                subst hv2
                obtain ⟨m2, hm2⟩ : ∃ m2, (ntl TT).length = m2 := ⟨_, rfl⟩
                have hms2 : TT.length = m2 := by rw [← hm2, ntl_len]
                have HOW2 := hide hR.own
                have HLO2 := hide hR.lo
                rw [hm2] at HOW2
                rw [hm2]
                have HIL2 := hide hIl2
                have HM2 := hide hm2
                have HMS2 := hide hms2
                clear hR hIl2 hm2
                have hm28 : m2 ≤ 256 := by omega
                clear hl9 hms2
                have hIw := (unhide HIL).below (w' := wr) (by rw [hn2]; exact unhide HLO2)
                by_cases hq9 : q < 256
                · have i1 : (q : Int) < 256 := by omega
                  have hhs := rhas_any wr ao cp m (ntl SS) (q : Int) (unhide HM).symm (by omega) hIw
                  rw [ntl_mem] at hhs
                  have HHS := hide hhs
                  clear hhs hIw
                  have HE := hide (show (List.range (q + 1)).filter (fun p => decide (p ∈ SS)) = TT ++ (if q ∈ SS then [q] else []) from by
                    rw [List.range_succ, List.filter_append, unhide HTT]
                    by_cases h : q ∈ SS <;> simp [h])
                  by_cases hin : q ∈ SS
                  · rw [decide_eq_true hin] at HHS
                    rw [if_pos hin] at HE
                    clear hin
                    obtain ⟨i0, hi, hz0, hz1, hz2⟩ := info_parts info3
                    have HI := hide (And.intro hi (And.intro hz0 (And.intro hz1 hz2)))
                    have hNy : N2 ≤ wr.heap.size := by have h9 := (unhide HLO2).size; rw [hn2] at h9; exact h9
                    have HRA := hide ((unhide HOW2).alloc (.cells #[.int .i64 (q : Int)] 3))
                    have HLE := hide (show N2 ≤ (wr.alloc (.cells #[.int .i64 (q : Int)] 3)).heap.size from by rw [World.size_alloc]; omega)
                    have HLA := hide ((unhide HLO2).alloc hNy (.cells #[.int .i64 (q : Int)] 3))
                    clear hi hz0 hz1 hz2 hNy
                    go_wp2_with fail
                    refine (unhide HHS).mono ?_
                    rintro e y1 ⟨rfl, rfl⟩
                    go_wp2_with (refine wpList_append_lies _ rfl (.tmp 84) (.tmp 86) 26 rfl N2 3 i0 (.int .i64 0) 1 8 Tryd.underlying26 (unhide HI).1 (unhide HI).2.1 (unhide HI).2.2.1 (unhide HI).2.2.2 rfl (by decide) _ m2 ((ntl TT).map (Value.int .i64)) rfl (unhide HRA) ⟨y1.heap.size, 0, none⟩ 1 1 [.int .i64 (q : Int)] rfl rfl (fun q u hu => news_one y1 3 _ q u hu) (by simp [Value.oneCell']) (by omega) (by unfold maxLen; omega) (by omega) (unhide HLE) _ rfl ?_)
                    intro g1 cap1 y3 ho3 hg3 hor hlt3
                    have HR3 := hide (Rl.snoc ho3 (unhide HM2) ((unhide HLA).grown hg3 (unhide HLE) (fun q hq => ((unhide HRA).lt q hq).1)))
                    clear ho3 hg3 hor hlt3 HRA HLE HLA HOW2 HLO2
                    go_wp2
                    go_roundw
                    case rel =>
                      refine ⟨q + 1, by omega, by go_num, ?_⟩
                      rw [unhide HE]
                      exact unhide HR3
                    case measure => simp [intOf]; omega
                  · rw [decide_eq_false hin] at HHS
                    rw [if_neg hin, List.append_nil] at HE
                    clear hin
                    go_wp2_with fail
                    refine (unhide HHS).mono ?_
                    rintro e y1 ⟨rfl, rfl⟩
                    go_wp2
                    go_roundw
                    case rel =>
                      refine ⟨q + 1, by omega, by go_num, ?_⟩
                      rw [unhide HE]
                      refine ⟨?_, unhide HLO2⟩
                      rw [unhide HM2]
                      exact unhide HOW2
                    case measure => simp [intOf]; omega
                · have hqq : q = 256 := by omega
                  subst hqq
                  have HFN := hide (show Rl w N (plO dr dg) (.slice ao2 m2 cp2) wr from by
                    rw [unhide HO, ← unhide HFF, plR, unhide HTT]
                    refine ⟨?_, (unhide HLO).trans ((unhide HLO2).mono (unhide HN2))⟩
                    rw [unhide HM2]
                    exact own_base (unhide HOW2) (unhide HN2))
                  clear hq9 hIw HOW2 HLO2 HLO
                  go_wp2
                  go_ret
                  exact ⟨_, rfl, unhide HFN⟩
    · have HF := hide (show Rl w N (plF dr dg) (.slice ao m cp) wr from by
        have e9 : plF dr dg = SS := by rw [← hSS, Sk2]
        rw [e9, ← unhide HM]
        exact unhide HR0)
      by_cases hm9 : m < 8
      · have i4 : (m : Int) < 8 := by omega
        have i7 : decide ((m : Int) < 8) = true := decide_eq_true (by omega)
        clear hm9 hSS hms HOW HLO HIL HM HMS HR0
        as_aux_lemma =>
          clear HD1 HD2
          go_wp2
          go_loopw [5, 12] (fun u i wr => ∃ q : Nat, q ≤ 256 ∧ i = .int .i64 (q : Int) ∧ Rl w N (addsP (plF dr dg) ((List.range 256).take q)) u wr) (fun _ i _ => 256 - (intOf i).toNat)
          case atStart => exact ⟨0, by omega, rfl, by simpa [addsP] using unhide HF⟩
          case round =>
            obtain ⟨q, hq, rfl, hR⟩ := hrel
            clear HF
            obtain ⟨SS, hSS⟩ : ∃ S, addsP (plF dr dg) ((List.range 256).take q) = S := ⟨_, rfl⟩
            rw [hSS] at hR
            have hl8 : SS.length ≤ 8 := by rw [← hSS]; exact ((plF_chs dr dg).adds _ (fun p hp => List.mem_range.1 (List.mem_of_mem_take hp))).len
            have hq8 : q = 256 → SS.length = 8 := fun e => by
              rw [← hSS, e, range_take _ (Nat.le_refl _)]
              exact adds_range (plF_chs dr dg)
            have HSS := hide hSS
            clear hSS
            obtain ⟨ao, cp, hv, hIl, _⟩ := own_ils hR.own
            subst hv
            obtain ⟨m, hm⟩ : ∃ m, (ntl SS).length = m := ⟨_, rfl⟩
            have hms : SS.length = m := by rw [← hm, ntl_len]
            have HOW := hide hR.own
            have HLO := hide hR.lo
            rw [hm] at HOW
            rw [hm]
            have HIL := hide hIl
            have HM := hide hm
            have HMS := hide hms
            clear hR hIl hm
            have hm8 : m ≤ 8 := by omega
            by_cases hm9 : m < 8
            · have hq9 : q < 256 := by
                rcases Nat.lt_or_ge q 256 with h | h
                · exact h
                · have := hq8 (by omega)
                  omega
              clear hq8
              have i4 : (m : Int) < 8 := by omega
              have hhs := rhas_any wr ao cp m (ntl SS) (q : Int) (unhide HM).symm (by omega) (unhide HIL)
              rw [ntl_mem] at hhs
              have HHS := hide hhs
              have HE := hide (show (List.range 256).take (q + 1) = (List.range 256).take q ++ [q] from by rw [range_take _ (by omega), range_take _ (by omega), List.range_succ])
              clear hhs hl8 hms
              by_cases hin : q ∈ SS
              · rw [decide_eq_true hin] at HHS
                have HIN := hide hin
                clear hin
                go_wp2_with fail
                refine (unhide HHS).mono ?_
                rintro e y1 ⟨rfl, rfl⟩
                go_wp2
                go_roundw
                case rel =>
                  refine ⟨q + 1, by omega, by go_num, ?_⟩
                  rw [unhide HE, addsP_snoc, unhide HSS, addP_in (unhide HIN)]
                  refine ⟨?_, unhide HLO⟩
                  rw [unhide HM]
                  exact unhide HOW
                case measure => simp [intOf]; omega
              · rw [decide_eq_false hin] at HHS
                have HIN := hide hin
                clear hin
                obtain ⟨i0, hi, hz0, hz1, hz2⟩ := info_parts info3
                have HI := hide (And.intro hi (And.intro hz0 (And.intro hz1 hz2)))
                have hNy : N ≤ wr.heap.size := by have h9 := (unhide HLO).size; rw [hn] at h9; exact h9
                have HRA := hide ((unhide HOW).alloc (.cells #[.int .i64 (q : Int)] 3))
                have HLE := hide (show N ≤ (wr.alloc (.cells #[.int .i64 (q : Int)] 3)).heap.size from by rw [World.size_alloc]; omega)
                have HLA := hide ((unhide HLO).alloc hNy (.cells #[.int .i64 (q : Int)] 3))
                clear hi hz0 hz1 hz2 hNy
                go_wp2_with fail
                refine (unhide HHS).mono ?_
                rintro e y1 ⟨rfl, rfl⟩
                go_wp2_with (refine wpList_append_lies _ rfl (.tmp 72) (.tmp 74) 26 rfl N 3 i0 (.int .i64 0) 1 8 Tryd.underlying26 (unhide HI).1 (unhide HI).2.1 (unhide HI).2.2.1 (unhide HI).2.2.2 rfl (by decide) _ m ((ntl SS).map (Value.int .i64)) rfl (unhide HRA) ⟨y1.heap.size, 0, none⟩ 1 1 [.int .i64 (q : Int)] rfl rfl (fun q u hu => news_one y1 3 _ q u hu) (by simp [Value.oneCell']) (by omega) (by unfold maxLen; omega) (by omega) (unhide HLE) _ rfl ?_)
                intro g1 cap1 y3 ho3 hg3 hor hlt3
                have HR3 := hide (Rl.snoc ho3 (unhide HM) ((unhide HLA).grown hg3 (unhide HLE) (fun q hq => ((unhide HRA).lt q hq).1)))
                clear ho3 hg3 hor hlt3 HRA HLE HLA HOW HLO
                go_wp2
                go_roundw
                case rel =>
                  refine ⟨q + 1, by omega, by go_num, ?_⟩
                  rw [unhide HE, addsP_snoc, unhide HSS, addP_out (unhide HIN) (by have := unhide HMS; omega)]
                  exact unhide HR3
                case measure => simp [intOf]; omega
            · have hff : SS = addsP (plF dr dg) (List.range 256) := by
                rw [← addsP_done q (.inr (by rw [unhide HSS]; omega)), unhide HSS]
              have HFF := hide hff
              have i4 : (8 : Int) ≤ (m : Int) := by omega
              have i6 : decide ((m : Int) < 8) = false := decide_eq_false (by omega)
              clear hm9 hq8 hff hl8 hms
              obtain ⟨wo, rfl⟩ : ∃ wo, wo = wr := ⟨_, rfl⟩
              obtain ⟨N2, hn2⟩ : ∃ N, wo.heap.size = N := ⟨_, rfl⟩
              have HN2 := hide (show N ≤ N2 from by have h9 := (unhide HLO).size; rw [hn, hn2] at h9; exact h9)
              clear HOW
              go_wp2
              go_loopw [14, 15] (fun u i wr => ∃ q : Nat, q ≤ 256 ∧ i = .int .i64 (q : Int) ∧ Rl wo N2 ((List.range q).filter (fun p => decide (p ∈ SS))) u wr) (fun _ i _ => 256 - (intOf i).toNat)
              case atStart => exact ⟨0, by omega, rfl, Rl.nil wo _ N2 (Below.refl _ _)⟩
              case round =>
                obtain ⟨q, hq, rfl, hR⟩ := hrel
                obtain ⟨TT, hTT⟩ : ∃ S, (List.range q).filter (fun p => decide (p ∈ SS)) = S := ⟨_, rfl⟩
                rw [hTT] at hR
                have hl9 : TT.length ≤ 256 := by
                  rw [← hTT]
                  refine Nat.le_trans (List.length_filter_le _ _) ?_
                  rw [List.length_range]
                  exact hq
                have HTT := hide hTT
                clear hTT
                obtain ⟨ao2, cp2, hv2, hIl2, _⟩ := own_ils hR.own
                subst hv2
                obtain ⟨m2, hm2⟩ : ∃ m2, (ntl TT).length = m2 := ⟨_, rfl⟩
                have hms2 : TT.length = m2 := by rw [← hm2, ntl_len]
                have HOW2 := hide hR.own
                have HLO2 := hide hR.lo
                rw [hm2] at HOW2
                rw [hm2]
                have HIL2 := hide hIl2
                have HM2 := hide hm2
                have HMS2 := hide hms2
                clear hR hIl2 hm2
                have hm28 : m2 ≤ 256 := by omega
                clear hl9 hms2
                have hIw := (unhide HIL).below (w' := wr) (by rw [hn2]; exact unhide HLO2)
                by_cases hq9 : q < 256
                · have i1 : (q : Int) < 256 := by omega
                  have hhs := rhas_any wr ao cp m (ntl SS) (q : Int) (unhide HM).symm (by omega) hIw
                  rw [ntl_mem] at hhs
                  have HHS := hide hhs
                  clear hhs hIw
                  have HE := hide (show (List.range (q + 1)).filter (fun p => decide (p ∈ SS)) = TT ++ (if q ∈ SS then [q] else []) from by
                    rw [List.range_succ, List.filter_append, unhide HTT]
                    by_cases h : q ∈ SS <;> simp [h])
                  by_cases hin : q ∈ SS
                  · rw [decide_eq_true hin] at HHS
                    rw [if_pos hin] at HE
                    clear hin
                    obtain ⟨i0, hi, hz0, hz1, hz2⟩ := info_parts info3
                    have HI := hide (And.intro hi (And.intro hz0 (And.intro hz1 hz2)))
                    have hNy : N2 ≤ wr.heap.size := by have h9 := (unhide HLO2).size; rw [hn2] at h9; exact h9
                    have HRA := hide ((unhide HOW2).alloc (.cells #[.int .i64 (q : Int)] 3))
                    have HLE := hide (show N2 ≤ (wr.alloc (.cells #[.int .i64 (q : Int)] 3)).heap.size from by rw [World.size_alloc]; omega)
                    have HLA := hide ((unhide HLO2).alloc hNy (.cells #[.int .i64 (q : Int)] 3))
                    clear hi hz0 hz1 hz2 hNy
                    go_wp2_with fail
                    refine (unhide HHS).mono ?_
                    rintro e y1 ⟨rfl, rfl⟩
                    go_wp2_with (refine wpList_append_lies _ rfl (.tmp 84) (.tmp 86) 26 rfl N2 3 i0 (.int .i64 0) 1 8 Tryd.underlying26 (unhide HI).1 (unhide HI).2.1 (unhide HI).2.2.1 (unhide HI).2.2.2 rfl (by decide) _ m2 ((ntl TT).map (Value.int .i64)) rfl (unhide HRA) ⟨y1.heap.size, 0, none⟩ 1 1 [.int .i64 (q : Int)] rfl rfl (fun q u hu => news_one y1 3 _ q u hu) (by simp [Value.oneCell']) (by omega) (by unfold maxLen; omega) (by omega) (unhide HLE) _ rfl ?_)
                    intro g1 cap1 y3 ho3 hg3 hor hlt3
                    have HR3 := hide (Rl.snoc ho3 (unhide HM2) ((unhide HLA).grown hg3 (unhide HLE) (fun q hq => ((unhide HRA).lt q hq).1)))
                    clear ho3 hg3 hor hlt3 HRA HLE HLA HOW2 HLO2
                    go_wp2
                    go_roundw
                    case rel =>
                      refine ⟨q + 1, by omega, by go_num, ?_⟩
                      rw [unhide HE]
                      exact unhide HR3
                    case measure => simp [intOf]; omega
                  · rw [decide_eq_false hin] at HHS
                    rw [if_neg hin, List.append_nil] at HE
                    clear hin
                    go_wp2_with fail
                    refine (unhide HHS).mono ?_
                    rintro e y1 ⟨rfl, rfl⟩
                    go_wp2
                    go_roundw
                    case rel =>
                      refine ⟨q + 1, by omega, by go_num, ?_⟩
                      rw [unhide HE]
                      refine ⟨?_, unhide HLO2⟩
                      rw [unhide HM2]
                      exact unhide HOW2
                    case measure => simp [intOf]; omega
                · have hqq : q = 256 := by omega
                  subst hqq
                  have HFN := hide (show Rl w N (plO dr dg) (.slice ao2 m2 cp2) wr from by
                    rw [unhide HO, ← unhide HFF, plR, unhide HTT]
                    refine ⟨?_, (unhide HLO).trans ((unhide HLO2).mono (unhide HN2))⟩
                    rw [unhide HM2]
                    exact own_base (unhide HOW2) (unhide HN2))
                  clear hq9 hIw HOW2 HLO2 HLO
                  go_wp2
                  go_ret
                  exact ⟨_, rfl, unhide HFN⟩
      · have i4 : (8 : Int) ≤ (m : Int) := by omega
        have i6 : decide ((m : Int) < 8) = false := decide_eq_false (by omega)
        clear hm9 hSS hms HOW HLO HIL HM HMS HR0
        as_aux_lemma =>
          clear HD1 HD2
          go_wp2
          go_loopw [5, 12] (fun u i wr => ∃ q : Nat, q ≤ 256 ∧ i = .int .i64 (q : Int) ∧ Rl w N (addsP (plF dr dg) ((List.range 256).take q)) u wr) (fun _ i _ => 256 - (intOf i).toNat)
          case atStart => exact ⟨0, by omega, rfl, by simpa [addsP] using unhide HF⟩
          case round =>
            obtain ⟨q, hq, rfl, hR⟩ := hrel
            clear HF
            obtain ⟨SS, hSS⟩ : ∃ S, addsP (plF dr dg) ((List.range 256).take q) = S := ⟨_, rfl⟩
            rw [hSS] at hR
            have hl8 : SS.length ≤ 8 := by rw [← hSS]; exact ((plF_chs dr dg).adds _ (fun p hp => List.mem_range.1 (List.mem_of_mem_take hp))).len
            have hq8 : q = 256 → SS.length = 8 := fun e => by
              rw [← hSS, e, range_take _ (Nat.le_refl _)]
              exact adds_range (plF_chs dr dg)
            have HSS := hide hSS
            clear hSS
            obtain ⟨ao, cp, hv, hIl, _⟩ := own_ils hR.own
            subst hv
            obtain ⟨m, hm⟩ : ∃ m, (ntl SS).length = m := ⟨_, rfl⟩
            have hms : SS.length = m := by rw [← hm, ntl_len]
            have HOW := hide hR.own
            have HLO := hide hR.lo
            rw [hm] at HOW
            rw [hm]
            have HIL := hide hIl
            have HM := hide hm
            have HMS := hide hms
            clear hR hIl hm
            have hm8 : m ≤ 8 := by omega
            by_cases hm9 : m < 8
            · have hq9 : q < 256 := by
                rcases Nat.lt_or_ge q 256 with h | h
                · exact h
                · have := hq8 (by omega)
                  omega
              clear hq8
              have i4 : (m : Int) < 8 := by omega
              have hhs := rhas_any wr ao cp m (ntl SS) (q : Int) (unhide HM).symm (by omega) (unhide HIL)
              rw [ntl_mem] at hhs
              have HHS := hide hhs
              have HE := hide (show (List.range 256).take (q + 1) = (List.range 256).take q ++ [q] from by rw [range_take _ (by omega), range_take _ (by omega), List.range_succ])
              clear hhs hl8 hms
              by_cases hin : q ∈ SS
              · rw [decide_eq_true hin] at HHS
                have HIN := hide hin
                clear hin
                go_wp2_with fail
                refine (unhide HHS).mono ?_
                rintro e y1 ⟨rfl, rfl⟩
                go_wp2
                go_roundw
                case rel =>
                  refine ⟨q + 1, by omega, by go_num, ?_⟩
                  rw [unhide HE, addsP_snoc, unhide HSS, addP_in (unhide HIN)]
                  refine ⟨?_, unhide HLO⟩
                  rw [unhide HM]
                  exact unhide HOW
                case measure => simp [intOf]; omega
              · rw [decide_eq_false hin] at HHS
                have HIN := hide hin
                clear hin
                obtain ⟨i0, hi, hz0, hz1, hz2⟩ := info_parts info3
                have HI := hide (And.intro hi (And.intro hz0 (And.intro hz1 hz2)))
                have hNy : N ≤ wr.heap.size := by have h9 := (unhide HLO).size; rw [hn] at h9; exact h9
                have HRA := hide ((unhide HOW).alloc (.cells #[.int .i64 (q : Int)] 3))
                have HLE := hide (show N ≤ (wr.alloc (.cells #[.int .i64 (q : Int)] 3)).heap.size from by rw [World.size_alloc]; omega)
                have HLA := hide ((unhide HLO).alloc hNy (.cells #[.int .i64 (q : Int)] 3))
                clear hi hz0 hz1 hz2 hNy
                go_wp2_with fail
                refine (unhide HHS).mono ?_
                rintro e y1 ⟨rfl, rfl⟩
                go_wp2_with (refine wpList_append_lies _ rfl (.tmp 72) (.tmp 74) 26 rfl N 3 i0 (.int .i64 0) 1 8 Tryd.underlying26 (unhide HI).1 (unhide HI).2.1 (unhide HI).2.2.1 (unhide HI).2.2.2 rfl (by decide) _ m ((ntl SS).map (Value.int .i64)) rfl (unhide HRA) ⟨y1.heap.size, 0, none⟩ 1 1 [.int .i64 (q : Int)] rfl rfl (fun q u hu => news_one y1 3 _ q u hu) (by simp [Value.oneCell']) (by omega) (by unfold maxLen; omega) (by omega) (unhide HLE) _ rfl ?_)
                intro g1 cap1 y3 ho3 hg3 hor hlt3
                have HR3 := hide (Rl.snoc ho3 (unhide HM) ((unhide HLA).grown hg3 (unhide HLE) (fun q hq => ((unhide HRA).lt q hq).1)))
                clear ho3 hg3 hor hlt3 HRA HLE HLA HOW HLO
                go_wp2
                go_roundw
                case rel =>
                  refine ⟨q + 1, by omega, by go_num, ?_⟩
                  rw [unhide HE, addsP_snoc, unhide HSS, addP_out (unhide HIN) (by have := unhide HMS; omega)]
                  exact unhide HR3
                case measure => simp [intOf]; omega
            · have hff : SS = addsP (plF dr dg) (List.range 256) := by
                rw [← addsP_done q (.inr (by rw [unhide HSS]; omega)), unhide HSS]
              have HFF := hide hff
              have i4 : (8 : Int) ≤ (m : Int) := by omega
              have i6 : decide ((m : Int) < 8) = false := decide_eq_false (by omega)
              clear hm9 hq8 hff hl8 hms
              obtain ⟨wo, rfl⟩ : ∃ wo, wo = wr := ⟨_, rfl⟩
              obtain ⟨N2, hn2⟩ : ∃ N, wo.heap.size = N := ⟨_, rfl⟩
              have HN2 := hide (show N ≤ N2 from by have h9 := (unhide HLO).size; rw [hn, hn2] at h9; exact h9)
              clear HOW
              go_wp2
              go_loopw [14, 15] (fun u i wr => ∃ q : Nat, q ≤ 256 ∧ i = .int .i64 (q : Int) ∧ Rl wo N2 ((List.range q).filter (fun p => decide (p ∈ SS))) u wr) (fun _ i _ => 256 - (intOf i).toNat)
              case atStart => exact ⟨0, by omega, rfl, Rl.nil wo _ N2 (Below.refl _ _)⟩
              case round =>
                obtain ⟨q, hq, rfl, hR⟩ := hrel
                obtain ⟨TT, hTT⟩ : ∃ S, (List.range q).filter (fun p => decide (p ∈ SS)) = S := ⟨_, rfl⟩
                rw [hTT] at hR
                have hl9 : TT.length ≤ 256 := by
                  rw [← hTT]
                  refine Nat.le_trans (List.length_filter_le _ _) ?_
                  rw [List.length_range]
                  exact hq
                have HTT := hide hTT
                clear hTT
                obtain ⟨ao2, cp2, hv2, hIl2, _⟩ := own_ils hR.own
                subst hv2
                obtain ⟨m2, hm2⟩ : ∃ m2, (ntl TT).length = m2 := ⟨_, rfl⟩
                have hms2 : TT.length = m2 := by rw [← hm2, ntl_len]
                have HOW2 := hide hR.own
                have HLO2 := hide hR.lo
                rw [hm2] at HOW2
                rw [hm2]
                have HIL2 := hide hIl2
                have HM2 := hide hm2
                have HMS2 := hide hms2
                clear hR hIl2 hm2
                have hm28 : m2 ≤ 256 := by omega
                clear hl9 hms2
                have hIw := (unhide HIL).below (w' := wr) (by rw [hn2]; exact unhide HLO2)
                by_cases hq9 : q < 256
                · have i1 : (q : Int) < 256 := by omega
                  have hhs := rhas_any wr ao cp m (ntl SS) (q : Int) (unhide HM).symm (by omega) hIw
                  rw [ntl_mem] at hhs
                  have HHS := hide hhs
                  clear hhs hIw
                  have HE := hide (show (List.range (q + 1)).filter (fun p => decide (p ∈ SS)) = TT ++ (if q ∈ SS then [q] else []) from by
                    rw [List.range_succ, List.filter_append, unhide HTT]
                    by_cases h : q ∈ SS <;> simp [h])
                  by_cases hin : q ∈ SS
                  · rw [decide_eq_true hin] at HHS
                    rw [if_pos hin] at HE
                    clear hin
                    obtain ⟨i0, hi, hz0, hz1, hz2⟩ := info_parts info3
                    have HI := hide (And.intro hi (And.intro hz0 (And.intro hz1 hz2)))
                    have hNy : N2 ≤ wr.heap.size := by have h9 := (unhide HLO2).size; rw [hn2] at h9; exact h9
                    have HRA := hide ((unhide HOW2).alloc (.cells #[.int .i64 (q : Int)] 3))
                    have HLE := hide (show N2 ≤ (wr.alloc (.cells #[.int .i64 (q : Int)] 3)).heap.size from by rw [World.size_alloc]; omega)
                    have HLA := hide ((unhide HLO2).alloc hNy (.cells #[.int .i64 (q : Int)] 3))
                    clear hi hz0 hz1 hz2 hNy
                    go_wp2_with fail
                    refine (unhide HHS).mono ?_
                    rintro e y1 ⟨rfl, rfl⟩
                    go_wp2_with (refine wpList_append_lies _ rfl (.tmp 84) (.tmp 86) 26 rfl N2 3 i0 (.int .i64 0) 1 8 Tryd.underlying26 (unhide HI).1 (unhide HI).2.1 (unhide HI).2.2.1 (unhide HI).2.2.2 rfl (by decide) _ m2 ((ntl TT).map (Value.int .i64)) rfl (unhide HRA) ⟨y1.heap.size, 0, none⟩ 1 1 [.int .i64 (q : Int)] rfl rfl (fun q u hu => news_one y1 3 _ q u hu) (by simp [Value.oneCell']) (by omega) (by unfold maxLen; omega) (by omega) (unhide HLE) _ rfl ?_)
                    intro g1 cap1 y3 ho3 hg3 hor hlt3
                    have HR3 := hide (Rl.snoc ho3 (unhide HM2) ((unhide HLA).grown hg3 (unhide HLE) (fun q hq => ((unhide HRA).lt q hq).1)))
                    clear ho3 hg3 hor hlt3 HRA HLE HLA HOW2 HLO2
                    go_wp2
                    go_roundw
                    case rel =>
                      refine ⟨q + 1, by omega, by go_num, ?_⟩
                      rw [unhide HE]
                      exact unhide HR3
                    case measure => simp [intOf]; omega
                  · rw [decide_eq_false hin] at HHS
                    rw [if_neg hin, List.append_nil] at HE
                    clear hin
                    go_wp2_with fail
                    refine (unhide HHS).mono ?_
                    rintro e y1 ⟨rfl, rfl⟩
                    go_wp2
                    go_roundw
                    case rel =>
                      refine ⟨q + 1, by omega, by go_num, ?_⟩
                      rw [unhide HE]
                      refine ⟨?_, unhide HLO2⟩
                      rw [unhide HM2]
                      exact unhide HOW2
                    case measure => simp [intOf]; omega
                · have hqq : q = 256 := by omega
                  subst hqq
                  have HFN := hide (show Rl w N (plO dr dg) (.slice ao2 m2 cp2) wr from by
                    rw [unhide HO, ← unhide HFF, plR, unhide HTT]
                    refine ⟨?_, (unhide HLO).trans ((unhide HLO2).mono (unhide HN2))⟩
                    rw [unhide HM2]
                    exact own_base (unhide HOW2) (unhide HN2))
                  clear hq9 hIw HOW2 HLO2 HLO
                  go_wp2
                  go_ret
                  exact ⟨_, rfl, unhide HFN⟩
set_option maxHeartbeats 1000000 in
theorem rasked_any (dr dg : ByteArray) (w : World) (_h1 : dr.size ≤ 140737488355328) (_h2 : dg.size ≤ 140737488355328) :
    Calls Tryd.prog 25 #[.string dr, .string dg] w fun e w' => ∃ v, e = .returned (.tuple #[v, .int .i64 (plE dr dg)]) ∧ Rl w w.heap.size (plO dr dg) v w' := by
  by_cases q1 : dr.size = 16
  · by_cases q2 : dg.size = 32
    · have HP := hide (rplaces_any dr dg q1 q2 w)
      have HE := hide (show plE dr dg = 0 from by rw [plE, if_pos q1, if_pos q2])
      go_enter Tryd.func25, Tryd.ntmps25
      go_wp2_with fail
      refine (unhide HP).mono ?_
      rintro e w' ⟨v, rfl, hR⟩
      have HR := hide hR
      clear hR HP
      go_wp2
      go_ret2
      rw [unhide HE]
      exact ⟨_, rfl, unhide HR⟩
    · have HE := hide (show plE dr dg = 1 ∧ plO dr dg = [] from by rw [plE, if_pos q1, if_neg q2, plO, if_neg (fun h => q2 h.2)]; exact ⟨rfl, rfl⟩)
      have d2 : ((dg.size : Int) != 32) = true := by simp; omega
      clear q2
      go_enter Tryd.func25, Tryd.ntmps25
      go_wp2
      go_ret2
      rw [(unhide HE).1, (unhide HE).2]
      exact ⟨_, rfl, Rl.nil _ _ _ (Below.refl _ _)⟩
  · have HE := hide (show plE dr dg = 131 ∧ plO dr dg = [] from by rw [plE, if_neg q1, plO, if_neg (fun h => q1 h.1)]; exact ⟨rfl, rfl⟩)
    have d1 : ((dr.size : Int) != 16) = true := by simp; omega
    clear q1
    go_enter Tryd.func25, Tryd.ntmps25
    go_wp2
    go_ret2
    rw [(unhide HE).1, (unhide HE).2]
    exact ⟨_, rfl, Rl.nil _ _ _ (Below.refl _ _)⟩
end Go.Proofs.YtabgcgdpeikieaaDoor
namespace Go.Proofs.YtabgcgdpeikieaaDoor
open Go.RowKit Go.Conc
set_option maxRecDepth 100000
/-- A slice: where, how long, how much room. -/
structure Slc where
  p : Option Addr
  n : Nat
  c : Nat
def Slc.v (x : Slc) : Value := .slice x.p x.n x.c
/-- A row of slices in memory. -/
def Sls (w : World) (ao : Option Addr) (n : Nat) (P : Nat → Slc) : Prop := ∀ i, i < n → ∃ g o, ao = some ⟨g, o, none⟩ ∧ g < w.heap.size ∧ w.cell? ⟨g, o + i, none⟩ = some (.slice (P i).p (P i).n (P i).c)
/-- A book's lists that were taken: each is full of its mark. -/
structure Kl (w : World) (b : Nat) (ao : Option Addr) (n cap : Nat) (P : Nat → Slc) : Prop where
  cell : w.cell? ⟨b, 0, none⟩ = some (.slice ao n cap)
  rows : Sls w ao n P
  ints : ∀ i, i < n → Ils w (P i).p (List.replicate (P i).n (-1000 - ((i / 4 : Nat) : Int)))
  hn : n ≤ 1000000
  hm : ∀ i, i < n → (P i).n ≤ 1000000
set_option maxHeartbeats 2000000 in
theorem kept13_any {w : World} {b : Nat} {ao : Option Addr} {n cap : Nat} {P : Nat → Slc} (h : Kl w b ao n cap P) : Calls Tryd.prog 28 #[.pointer (some ⟨b, 0, none⟩)] w fun e w' => e = .returned (.bool true) ∧ w' = w := by
  have HH := hide h
  have c0 := h.cell
  have hn := h.hn
  clear h
  go_enter Tryd.func28, Tryd.ntmps28
  go_wp2
  go_loopw [3] (fun i wr => ∃ k : Nat, k ≤ n ∧ i = .int .i64 (k : Int) ∧ wr = w) (fun i _ => n - (intOf i).toNat)
  case atStart => exact ⟨0, by omega, rfl, rfl⟩
  case round =>
    obtain ⟨k, hk, rfl, rfl⟩ := hrel
    by_cases hkn : k < n
    · obtain ⟨g, o, rfl, hg, c1⟩ := (unhide HH).rows k hkn
      have hI := (unhide HH).ints k hkn
      have hm := (unhide HH).hm k hkn
      obtain ⟨q, hq⟩ : ∃ q, P k = q := ⟨_, rfl⟩
      rw [hq] at c1 hI hm
      clear hq
      obtain ⟨p, m, c⟩ := q
      simp only at c1 hI hm
      have HI := hide hI
      have j0 : 0 ≤ (k : Int) := by omega
      have j1 : (k : Int) < (n : Int) := by omega
      have e4 : (k : Int).tdiv 4 = ((k / 4 : Nat) : Int) := by
        rw [Int.tdiv_eq_ediv_of_nonneg (by omega)]
        omega
      obtain ⟨r, hr⟩ : ∃ r, k / 4 = r := ⟨_, rfl⟩
      have hr9 : r ≤ k := by omega
      rw [hr] at e4 HI
      have w1 : IntKind.i64.wrap (r : Int) = (r : Int) := wrapI_eq _ (by omega) (by omega)
      have w2 : IntKind.i64.wrap (-1000 - (r : Int)) = -1000 - (r : Int) := wrapI_eq _ (by omega) (by omega)
      clear hI hg hr
      go_wp2
      go_loopw [4] (fun i wr2 => ∃ j : Nat, j ≤ m ∧ i = .int .i64 (j : Int) ∧ wr2 = wr) (fun i _ => m - (intOf i).toNat)
      case atStart => exact ⟨0, by omega, rfl, rfl⟩
      case round =>
        obtain ⟨j, hj, rfl, rfl⟩ := hrel
        by_cases hjm : j < m
        · obtain ⟨g2, o2, rfl, _, c2⟩ := unhide HI j (by rw [List.length_replicate]; exact hjm)
          have e9 : (List.replicate m (-1000 - (r : Int))).getD j 0 = -1000 - (r : Int) := by
            rw [List.getD_eq_getElem?_getD, List.getElem?_replicate, if_pos hjm, Option.getD_some]
          rw [e9] at c2
          clear e9
          have j2 : 0 ≤ (j : Int) := by omega
          have j3 : (j : Int) < (m : Int) := by omega
          have hne : ((-1000 - (r : Int)) != (-1000 - (r : Int))) = false := by simp
          go_wp2
          go_roundw
          case rel => exact ⟨j + 1, by omega, by go_num, by first | rfl | trivial⟩
          case measure => simp [intOf]; omega
        · have hjj : j = m := by omega
          subst hjj
          have i1 : ¬ ((j : Int) < (j : Int)) := by omega
          clear hjm
          go_wp2
          go_roundw
          case rel => exact ⟨k + 1, by omega, by go_num, by first | rfl | trivial⟩
          case measure => simp [intOf]; omega
    · have hkk : k = n := by omega
      subst hkk
      have i1 : ¬ ((k : Int) < (k : Int)) := by omega
      clear hkn
      go_wp2
      go_ret
      exact ⟨rfl, rfl⟩
end Go.Proofs.YtabgcgdpeikieaaDoor
