import Derived.Test.YtabgcgdpeikieaaDoorPlb
namespace Go.Proofs.YtabgcgdpeikieaaDoor
open Go.RowKit Go.Conc
set_option maxRecDepth 100000
theorem own_at {w : World} {base : Nat} {e : TypeId} {n : Nat} {v : Value} {xs : List Value} {g : Nat} (h : w.ownsRow base e 1 v n xs) (hv : v.ownBlock = some g) (i : Nat) (hi : i < n) : w.cell? ⟨g, i, none⟩ = xs[i]? ∧ w.frozen? ⟨g, i, none⟩ = false := by
  rcases h.2 with ⟨h1, h2⟩ | ⟨g', cap, cur, rfl, hb, hg, hn, hc, hs, hx⟩
  · omega
  · obtain rfl : g' = g := by simpa [Value.ownBlock] using hv
    have hB : Blk w g' cur e := hg
    refine ⟨?_, hB.frozen i⟩
    rw [hB.cell i, ← hx, List.getElem?_take, if_pos (by omega), Array.getElem?_toList]
theorem news_one (w : World) (T : TypeId) (x : Value) (j : Nat) (u : Value) (hu : [x][j]? = some u) : (w.alloc (.cells #[x] T)).cell? (Addr.add ⟨w.heap.size, 0, none⟩ j) = some u := by
  rw [Addr.add_mid, Nat.zero_add, (Blk.new w T #[x]).cell j]
  simpa using hu
/-- A list of ints that can be read: nil, or cells in a row. -/
def Ils (w : World) (ao : Option Addr) (l : List Int) : Prop := ∀ j, j < l.length → ∃ g o, ao = some ⟨g, o, none⟩ ∧ g < w.heap.size ∧ w.cell? ⟨g, o + j, none⟩ = some (.int .i64 (l.getD j 0))
theorem Ils.below {w w' : World} {ao : Option Addr} {l : List Int} (h : Ils w ao l) (hb : Below w.heap.size w w') : Ils w' ao l := fun j hj => by
  obtain ⟨g, o, e, hg, hc⟩ := h j hj
  have := hb.size
  exact ⟨g, o, e, by omega, only_cell (P := fun _ => False) (Only.of_below hb) (fun q => q) hc⟩
def okS (s : ByteArray) (l : List Int) : Prop := s.size = 256 ∧ ∀ p, p ∈ l → 0 ≤ p ∧ p < 256
instance (s : ByteArray) (l : List Int) : Decidable (okS s l) := by unfold okS; infer_instance
def smL (s : ByteArray) (l : List Int) : List Int := l.map (fun p => (nums s).getD p.toNat 0)
def smS (s : ByteArray) (l : List Int) : ByteArray := if okS s l then strOfNums (smL s l) else ⟨#[]⟩
def smE (s : ByteArray) (l : List Int) : Int := if okS s l then 0 else 132
set_option maxHeartbeats 2000000 in
theorem sample_any {w : World} (s : ByteArray) (l : List Int) (ao : Option Addr) (cap : Nat) (h : Ils w ao l) (hl : l.length ≤ 1099511627776) :
    Calls Tryd.prog 21 #[.string s, .slice ao l.length cap] w fun e w' => e = .returned (.tuple #[.string (smS s l), .int .i64 (smE s l)]) ∧ Below w.heap.size w w' := by
  by_cases hs : s.size = 256
  · have i0 : (s.size : Int) = 256 := by omega
    obtain ⟨i5, hi5, hz0, hz1, hz2⟩ := info_parts info5
    have HIN := hide (And.intro hi5 (And.intro hz0 (And.intro hz1 hz2)))
    obtain ⟨N, hn⟩ : ∃ N, w.heap.size = N := ⟨_, rfl⟩
    have HH := hide h
    have HL := hide hl
    have HS := hide hs
    clear hi5 hz0 hz1 hz2 h hl hs
    rw [hn]
    go_enter Tryd.func21, Tryd.ntmps21
    go_wp2_with (refine wpList_make_own _ rfl _ _ 47 rfl N 5 i5 (.int .u8 0) 1 Tryd.underlying47 (unhide HIN).1 (unhide HIN).2.1 (unhide HIN).2.2.1 .i64 .i64 _ l.length rfl rfl rfl (by rw [(unhide HIN).2.2.2]; have := unhide HL; omega) (by unfold maxLen; have := unhide HL; omega) (by omega) ?_)
    intro y ho hg
    have hyN : Below N w y := by rw [← hn]; exact (Below.refl _ _).grown hg (Nat.le_refl _) (fun q hq => by cases hq)
    have HOW := hide ho
    have HYB := hide hyN
    clear ho hg hyN
    go_wp2
    go_loopw [6, 17] (fun v i wr => ∃ k : Nat, k ≤ l.length ∧ i = .int .i64 (k : Int) ∧ v = .slice (some ⟨N, 0, none⟩) k l.length ∧ (∀ p, p ∈ l.take k → 0 ≤ p ∧ p < 256) ∧ wr.ownsRow N 5 1 (.slice (some ⟨N, 0, none⟩) k l.length) k ((smL s (l.take k)).map (Value.int .u8)) ∧ Below N w wr) (fun _ i _ => l.length - (intOf i).toNat)
    case atStart => exact ⟨0, by omega, rfl, rfl, by simp, by simpa [smL] using unhide HOW, unhide HYB⟩
    case round =>
      obtain ⟨k, hk, rfl, rfl, hok, hrow, hlo⟩ := hrel
      by_cases hlt : k < l.length
      · obtain ⟨g, o, rfl, hgw, hcw⟩ := unhide HH k hlt
        have hcr : wr.cell? ⟨g, o + k, none⟩ = some (.int .i64 (l.getD k 0)) := only_cell (P := fun _ => False) (Only.of_below (by rw [hn]; exact hlo)) (fun q => q) hcw
        have hmem : l.getD k 0 ∈ l := by
          rw [List.getD_eq_getElem?_getD, List.getElem?_eq_getElem hlt, Option.getD_some]
          exact List.getElem_mem hlt
        have htk : l.take (k + 1) = l.take k ++ [l.getD k 0] := by
          rw [List.take_add_one, List.getElem?_eq_getElem hlt]
          simp [hlt]
        obtain ⟨p, hp⟩ : ∃ p, l.getD k 0 = p := ⟨_, rfl⟩
        rw [hp] at hcr hmem htk
        have i1 : (k : Int) < (l.length : Int) := by omega
        have i2 : 0 ≤ (k : Int) := by omega
        have hl2 := unhide HL
        have HR := hide hrow
        have HLO := hide hlo
        have HTK := hide htk
        have HOK := hide hok
        clear hrow hlo htk hok hcw hp hgw HOW HYB
        by_cases hb : 0 ≤ p ∧ p < 256
        · obtain ⟨b1, b2⟩ := hb
          have q1 : ¬ (p < 0) := by omega
          have q2 : ¬ (256 ≤ p) := by omega
          obtain ⟨j, hj⟩ : ∃ j : Nat, p = (j : Int) := ⟨p.toNat, by omega⟩
          subst hj
          have hix := index_str s j (by have := unhide HS; omega) wr
          have HW1 := hide (show Below N w (wr.alloc (.cells #[.int .u8 ((nums s).getD j 0)] 5)) from (unhide HLO).alloc (by have := (unhide HLO).size; omega) _)
          obtain ⟨x, hx⟩ : ∃ x, (nums s).getD j 0 = x := ⟨_, rfl⟩
          rw [hx] at hix HW1
          have HX := hide hx
          have HRA := hide ((unhide HR).alloc (.cells #[.int .u8 x] 5))
          have hN2 : N < wr.heap.size := by
            have hq := (unhide HR)
            exact (hq.lt N (by rfl)).2
          have HN2 := hide hN2
          clear hx hmem hN2
          go_wp2_with (refine wpList_append_fits _ rfl (.tmp 27) (.tmp 31) 47 rfl N 5 i5 1 Tryd.underlying47 (unhide HIN).1 (unhide HIN).2.2.1 N k l.length ((smL s (l.take k)).map (Value.int .u8)) rfl (unhide HRA) ⟨wr.heap.size, 0, none⟩ 1 1 [.int .u8 x] rfl rfl (fun q u hu => news_one wr 5 _ q u hu) (by simp [Value.oneCell']) (by omega) ?_)
          intro y2 ho2 hg2
          have HO2 := hide ho2
          have HL2 := hide (show Below N w y2 from (unhide HW1).grown hg2 (by have := (unhide HW1).size; omega) (fun q hq => by cases hq; exact Nat.le_refl _))
          clear ho2 hg2 hix hcr
          go_wp2
          go_roundw
          case rel =>
            refine ⟨k + 1, by omega, by go_num, rfl, ?_, ?_, unhide HL2⟩
            · rw [unhide HTK]
              intro p hp
              rcases List.mem_append.1 hp with hp | hp
              · exact unhide HOK p hp
              · rw [List.mem_singleton] at hp
                subst hp
                exact ⟨b1, b2⟩
            · have h9 := unhide HO2
              rw [unhide HTK]
              have e9 : smL s (l.take k ++ [(j : Int)]) = smL s (l.take k) ++ [x] := by
                unfold smL
                rw [List.map_append, List.map_singleton, Int.toNat_natCast, unhide HX]
              rw [e9, List.map_append]
              exact h9
          case measure => simp [intOf]; omega
        · have hno : ¬ okS s l := fun q => hb (q.2 p hmem)
          have HE := hide (show smE s l = 132 by unfold smE; rw [if_neg hno])
          have HSS := hide (show smS s l = ⟨#[]⟩ by unfold smS; rw [if_neg hno])
          clear hno hmem
          by_cases q1 : p < 0
          · go_wp2
            go_ret2
            exact ⟨by rw [unhide HE, unhide HSS]; rfl, unhide HLO⟩
          · have q2 : 256 ≤ p := by omega
            clear hb
            go_wp2
            go_ret2
            exact ⟨by rw [unhide HE, unhide HSS]; rfl, unhide HLO⟩
      · have hk' : k = l.length := by omega
        subst hk'
        rw [List.take_of_length_le (Nat.le_refl _)] at hok hrow
        have hy : okS s l := ⟨unhide HS, hok⟩
        have HE := hide (show smE s l = 0 by unfold smE; rw [if_pos hy])
        have HSS := hide (show smS s l = strOfNums (smL s l) by unfold smS; rw [if_pos hy])
        have hlen : (smL s l).length = l.length := by simp [smL]
        have hcv := run_convert_bytes_arg (P := Tryd.prog) wr 47 5 Tryd.underlying47 Tryd.underlying5 N 0 l.length l.length (smL s l) hlen (fun i hi => by
          rw [Nat.zero_add, (own_at hrow rfl i hi).1]
          simp [hlen, hi]) 9 Tryd.underlying9
        have HLO := hide hlo
        have i1 : ¬ ((l.length : Int) < (l.length : Int)) := by omega
        clear hlo hrow hok hy hlen hlt HOW HYB
        go_wp2
        go_ret2
        exact ⟨by rw [unhide HE, unhide HSS]; rfl, unhide HLO⟩
  · have i0 : ¬ ((s.size : Int) = 256) := by omega
    have HE := hide (show smE s l = 132 by unfold smE; rw [if_neg (fun q => hs q.1)])
    have HS := hide (show smS s l = ⟨#[]⟩ by unfold smS; rw [if_neg (fun q => hs q.1)])
    clear hs h hl
    go_enter Tryd.func21, Tryd.ntmps21
    go_wp2
    go_ret2
    exact ⟨by rw [unhide HE, unhide HS]; rfl, Below.refl _ _⟩
/-- PlacesOf of a right draw and digest. -/
theorem places_ok (dr dg : ByteArray) (w : World) (hr : dr.size = 16) (hg : dg.size = 32) (hK : KTab w) :
    Calls Tryd.prog 19 #[.string dr, .string dg] w fun e w' => ∃ g, e = .returned (.tuple #[.slice (some ⟨g, 0, none⟩) 8 8, .int .i64 0]) ∧ w.heap.size ≤ g ∧ Blk w' g (arr8 (plO dr dg)) 78 ∧ Below w.heap.size w w' := by
  have HP := hide (placesOf_any dr dg w hK)
  have hE : plE dr dg = 0 := by simp [plE, hr, hg]
  rw [hE] at HP
  have HS := hide (arr8_size (plO dr dg))
  have H1 := hide (arr8_one (plO dr dg))
  generalize arr8 (plO dr dg) = A at *
  clear hE hr hg hK
  go_enter Tryd.func19, Tryd.ntmps19
  go_wp2_with fail
  refine (unhide HP).mono ?_
  rintro e z ⟨rfl, hb⟩
  obtain ⟨g, hgg⟩ : ∃ g, z.heap.size = g := ⟨_, rfl⟩
  obtain ⟨y, hy⟩ : ∃ Z, z.alloc (.cells #[.int .i64 0, .int .i64 0, .int .i64 0, .int .i64 0, .int .i64 0, .int .i64 0, .int .i64 0, .int .i64 0] 78) = Z := ⟨_, rfl⟩
  have hlo : Below z.heap.size z y := by rw [← hy]; exact (Below.refl _ _).alloc (Nat.le_refl _) _
  have hN : Blk y g #[.int .i64 0, .int .i64 0, .int .i64 0, .int .i64 0, .int .i64 0, .int .i64 0, .int .i64 0, .int .i64 0] 78 := by rw [← hy, ← hgg]; exact Blk.new _ _ _
  have HX := hide (And.intro hN (hb.trans (hlo.mono hb.size)))
  have HG := hide (show w.heap.size ≤ g from by rw [← hgg]; exact hb.size)
  clear hb hlo hN HP
  simp only []
  rename_i K8 a8 K9 a9
  have A8 := hide a8
  clear a8
  go_step
  go_wp2_with (refine wpList_store_mid rfl 78 (.tmp 6) (.tmp 12) rfl g 0 A rfl rfl (by rw [unhide HS]; exact blk_there (unhide HX).1 8 rfl) (by rw [sizePla, unhide HS]) (unhide H1) ?_)
  have hW : Blk (y.setCells g 0 A.toList) g A 78 := by
    have := setCells_all (unhide HX).1 A.toList (by rw [Array.length_toList, unhide HS]; rfl)
    simpa using this
  have hL : Below w.heap.size w (y.setCells g 0 A.toList) := below_setCells (unhide HG) _ _ (unhide HX).2
  generalize y.setCells g 0 A.toList = z2 at *
  have HW := hide hW
  have HL := hide hL
  clear hW hL HX hy hgg
  clear y
  refine unhide A8 _ _ ?_
  clear A8 K8
  go_wp2
  go_ret2
  exact ⟨g, rfl, unhide HG, unhide HW, unhide HL⟩
end Go.Proofs.YtabgcgdpeikieaaDoor
