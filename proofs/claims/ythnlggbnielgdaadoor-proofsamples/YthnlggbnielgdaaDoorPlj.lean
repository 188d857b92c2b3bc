import Derived.Test.YthnlggbnielgdaaDoorPlc
namespace Go.Proofs.YthnlggbnielgdaaDoor
open Go.RowKit Go.Conc
set_option maxRecDepth 100000
set_option maxHeartbeats 2000000 in
theorem sampleB_any {w : World} (s : ByteArray) (l : List Int) (ao : Option Addr) (cap : Nat) (h : Ils w ao l) (hl : l.length ≤ 17592186044416) :
    Calls Tryd.prog 21 #[.string s, .slice ao l.length cap] w fun e w' => e = .returned (.tuple #[.string (smS s l), .int .i64 (smE s l)]) ∧ Below w.heap.size w w' := by
  by_cases hs : s.size = 256
  · have i0 : (s.size : Int) = 256 := by omega
    obtain ⟨i5, hi5, hz0, hz1, hz2⟩ := info_parts info5
    have HIN := hide (And.intro hi5 (And.intro hz0 (And.intro hz1 hz2)))
    obtain ⟨N, hn⟩ : ∃ N, w.heap.size = N := ⟨_, rfl⟩
    have HH := hide h
    have HL := hide hl
    have HS := hide hs
    clear hi5 hz0 hz1 hz2 h hl hs
    rw [hn]
    go_enter Tryd.func21, Tryd.ntmps21
    go_wp2_with (refine wpList_make_own _ rfl _ _ 47 rfl N 5 i5 (.int .u8 0) 1 Tryd.underlying47 (unhide HIN).1 (unhide HIN).2.1 (unhide HIN).2.2.1 .i64 .i64 _ l.length rfl rfl rfl (by rw [(unhide HIN).2.2.2]; have := unhide HL; omega) (by unfold maxLen; have := unhide HL; omega) (by omega) ?_)
    intro y ho hg
    have hyN : Below N w y := by rw [← hn]; exact (Below.refl _ _).grown hg (Nat.le_refl _) (fun q hq => by cases hq)
    have HOW := hide ho
    have HYB := hide hyN
    clear ho hg hyN
    go_wp2
    go_loopw [6, 17] (fun v i wr => ∃ k : Nat, k ≤ l.length ∧ i = .int .i64 (k : Int) ∧ v = .slice (some ⟨N, 0, none⟩) k l.length ∧ (∀ p, p ∈ l.take k → 0 ≤ p ∧ p < 256) ∧ wr.ownsRow N 5 1 (.slice (some ⟨N, 0, none⟩) k l.length) k ((smL s (l.take k)).map (Value.int .u8)) ∧ Below N w wr) (fun _ i _ => l.length - (intOf i).toNat)
    case atStart => exact ⟨0, by omega, rfl, rfl, by simp, by simpa [smL] using unhide HOW, unhide HYB⟩
    case round =>
      obtain ⟨k, hk, rfl, rfl, hok, hrow, hlo⟩ := hrel
      by_cases hlt : k < l.length
      · obtain ⟨g, o, rfl, hgw, hcw⟩ := unhide HH k hlt
        have hcr : wr.cell? ⟨g, o + k, none⟩ = some (.int .i64 (l.getD k 0)) := only_cell (P := fun _ => False) (Only.of_below (by rw [hn]; exact hlo)) (fun q => q) hcw
        have hmem : l.getD k 0 ∈ l := by
          rw [List.getD_eq_getElem?_getD, List.getElem?_eq_getElem hlt, Option.getD_some]
          exact List.getElem_mem hlt
        have htk : l.take (k + 1) = l.take k ++ [l.getD k 0] := by
          rw [List.take_add_one, List.getElem?_eq_getElem hlt]
          simp [hlt]
        obtain ⟨p, hp⟩ : ∃ p, l.getD k 0 = p := ⟨_, rfl⟩
        rw [hp] at hcr hmem htk
        have i1 : (k : Int) < (l.length : Int) := by omega
        have i2 : 0 ≤ (k : Int) := by omega
        have hl2 := unhide HL
        have HR := hide hrow
        have HLO := hide hlo
        have HTK := hide htk
        have HOK := hide hok
        clear hrow hlo htk hok hcw hp hgw HOW HYB
        by_cases hb : 0 ≤ p ∧ p < 256
        · obtain ⟨b1, b2⟩ := hb
          have q1 : ¬ (p < 0) := by omega
          have q2 : ¬ (256 ≤ p) := by omega
          obtain ⟨j, hj⟩ : ∃ j : Nat, p = (j : Int) := ⟨p.toNat, by omega⟩
          subst hj
          have hix := index_str s j (by have := unhide HS; omega) wr
          have HW1 := hide (show Below N w (wr.alloc (.cells #[.int .u8 ((nums s).getD j 0)] 5)) from (unhide HLO).alloc (by have := (unhide HLO).size; omega) _)
          obtain ⟨x, hx⟩ : ∃ x, (nums s).getD j 0 = x := ⟨_, rfl⟩
          rw [hx] at hix HW1
          have HX := hide hx
          have HRA := hide ((unhide HR).alloc (.cells #[.int .u8 x] 5))
          have hN2 : N < wr.heap.size := by
            have hq := (unhide HR)
            exact (hq.lt N (by rfl)).2
          have HN2 := hide hN2
          clear hx hmem hN2
          go_wp2_with (refine wpList_append_fits _ rfl (.tmp 27) (.tmp 31) 47 rfl N 5 i5 1 Tryd.underlying47 (unhide HIN).1 (unhide HIN).2.2.1 N k l.length ((smL s (l.take k)).map (Value.int .u8)) rfl (unhide HRA) ⟨wr.heap.size, 0, none⟩ 1 1 [.int .u8 x] rfl rfl (fun q u hu => news_one wr 5 _ q u hu) (by simp [Value.oneCell']) (by omega) ?_)
          intro y2 ho2 hg2
          have HO2 := hide ho2
          have HL2 := hide (show Below N w y2 from (unhide HW1).grown hg2 (by have := (unhide HW1).size; omega) (fun q hq => by cases hq; exact Nat.le_refl _))
          clear ho2 hg2 hix hcr
          go_wp2
          go_roundw
          case rel =>
            refine ⟨k + 1, by omega, by go_num, rfl, ?_, ?_, unhide HL2⟩
            · rw [unhide HTK]
              intro p hp
              rcases List.mem_append.1 hp with hp | hp
              · exact unhide HOK p hp
              · rw [List.mem_singleton] at hp
                subst hp
                exact ⟨b1, b2⟩
            · have h9 := unhide HO2
              rw [unhide HTK]
              have e9 : smL s (l.take k ++ [(j : Int)]) = smL s (l.take k) ++ [x] := by
                unfold smL
                rw [List.map_append, List.map_singleton, Int.toNat_natCast, unhide HX]
              rw [e9, List.map_append]
              exact h9
          case measure => simp [intOf]; omega
        · have hno : ¬ okS s l := fun q => hb (q.2 p hmem)
          have HE := hide (show smE s l = 132 by unfold smE; rw [if_neg hno])
          have HSS := hide (show smS s l = ⟨#[]⟩ by unfold smS; rw [if_neg hno])
          clear hno hmem
          by_cases q1 : p < 0
          · go_wp2
            go_ret2
            exact ⟨by rw [unhide HE, unhide HSS]; rfl, unhide HLO⟩
          · have q2 : 256 ≤ p := by omega
            clear hb
            go_wp2
            go_ret2
            exact ⟨by rw [unhide HE, unhide HSS]; rfl, unhide HLO⟩
      · have hk' : k = l.length := by omega
        subst hk'
        rw [List.take_of_length_le (Nat.le_refl _)] at hok hrow
        have hy : okS s l := ⟨unhide HS, hok⟩
        have HE := hide (show smE s l = 0 by unfold smE; rw [if_pos hy])
        have HSS := hide (show smS s l = strOfNums (smL s l) by unfold smS; rw [if_pos hy])
        have hlen : (smL s l).length = l.length := by simp [smL]
        have hcv := run_convert_bytes_arg (P := Tryd.prog) wr 47 5 Tryd.underlying47 Tryd.underlying5 N 0 l.length l.length (smL s l) hlen (fun i hi => by
          rw [Nat.zero_add, (own_at hrow rfl i hi).1]
          simp [hlen, hi]) 9 Tryd.underlying9
        have HLO := hide hlo
        have i1 : ¬ ((l.length : Int) < (l.length : Int)) := by omega
        clear hlo hrow hok hy hlen hlt HOW HYB
        go_wp2
        go_ret2
        exact ⟨by rw [unhide HE, unhide HSS]; rfl, unhide HLO⟩
  · have i0 : ¬ ((s.size : Int) = 256) := by omega
    have HE := hide (show smE s l = 132 by unfold smE; rw [if_neg (fun q => hs q.1)])
    have HS := hide (show smS s l = ⟨#[]⟩ by unfold smS; rw [if_neg (fun q => hs q.1)])
    clear hs h hl
    go_enter Tryd.func21, Tryd.ntmps21
    go_wp2
    go_ret2
    exact ⟨by rw [unhide HE, unhide HS]; rfl, Below.refl _ _⟩
end Go.Proofs.YthnlggbnielgdaaDoor
