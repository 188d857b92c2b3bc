import Derived.Test.YtolblldpdgfkmaaDoorGla
import Derived.Test.YtolblldpdgfkmaaDoorGly
namespace Go.Proofs.YtolblldpdgfkmaaDoor
open Go.RowKit
theorem form9 {w : World} {base : Nat} {e : TypeId} {v : Value} {n : Nat} {xs : List Value} (h : w.ownsRow base e 1 v n xs) (hn : 0 < n) : ∃ g cap, v = .slice (some ⟨g, 0, none⟩) n cap ∧ n ≤ cap := by
  rcases h.2 with ⟨_, h0⟩ | ⟨g, cap, cur, h1, hb, hg, hnc, hc, hs, hx⟩
  · omega
  · exact ⟨g, cap, h1, hnc⟩
/-- a mark of a list's own -/
def mkB (i : Nat) : ByteArray := (⟨#[109, 97, 114, 107]⟩ : ByteArray) ++ strOfNums [(i : Int)]
/-- The first rows are marked. -/
def Mk (mm : Nat) (N : Nat → Nat) (C : Nat → List Value) (i j : Nat) : Prop := ∀ k, k < mm → (C k).length = N k ∧ ∀ a, a < N k → (k < i ∨ (k = i ∧ a < j)) → (C k)[a]? = some (.string (mkB k))
theorem Mk.step {mm : Nat} {N : Nat → Nat} {C : Nat → List Value} {i j : Nat} (h : Mk mm N C i j) (hi : i < mm) (hj : j < N i) : Mk mm N (fun k => if k = i then (C i).set j (.string (mkB i)) else C k) i (j + 1) := fun k hk => by
  obtain ⟨h1, h2⟩ := h k hk
  by_cases e : k = i
  · subst e
    simp only [if_true, List.length_set]
    refine ⟨h1, fun a ha hor => ?_⟩
    rw [List.getElem?_set]
    by_cases q : j = a
    · rw [if_pos q, if_pos (by omega)]
    · rw [if_neg q]
      exact h2 a ha (.inr ⟨rfl, by omega⟩)
  · simp only [if_neg e]
    exact ⟨h1, fun a ha hor => h2 a ha (by omega)⟩
theorem Mk.next {mm : Nat} {N : Nat → Nat} {C : Nat → List Value} {i : Nat} (h : Mk mm N C i (N i)) : Mk mm N C (i + 1) 0 := fun k hk => by
  obtain ⟨h1, h2⟩ := h k hk
  refine ⟨h1, fun a ha hor => ?_⟩
  by_cases e : k = i
  · subst e
    exact h2 a ha (.inr ⟨rfl, ha⟩)
  · exact h2 a ha (by omega)
/-- The first rows are grown. -/
def Gw (mm : Nat) (N : Nat → Nat) (C : Nat → List Value) (i j : Nat) : Prop := ∀ k, k < mm → (C k).length = N k + (if k < i then 64 else if k = i then j else 0) ∧ ∀ a, a < (C k).length → (C k)[a]? = some (.string (mkB k))
theorem Gw.start {mm : Nat} {N : Nat → Nat} {C : Nat → List Value} (h : Mk mm N C mm 0) : Gw mm N C 0 0 := fun k hk => by
  obtain ⟨h1, h2⟩ := h k hk
  refine ⟨by rw [h1, if_neg (by omega)]; split <;> rfl, fun a ha => h2 a (by omega) (.inl (by omega))⟩
theorem Gw.step {mm : Nat} {N : Nat → Nat} {C : Nat → List Value} {i j : Nat} (h : Gw mm N C i j) (hi : i < mm) : Gw mm N (fun k => if k = i then C i ++ [.string (mkB i)] else C k) i (j + 1) := fun k hk => by
  obtain ⟨h1, h2⟩ := h k hk
  by_cases e : k = i
  · subst e
    rw [if_neg (by omega), if_pos rfl] at h1
    simp only [if_true, List.length_append, List.length_singleton]
    refine ⟨by rw [if_neg (by omega)]; omega, fun a ha => ?_⟩
    by_cases q : a < (C k).length
    · rw [List.getElem?_append_left q]; exact h2 a q
    · rw [List.getElem?_append_right (by omega), show a - (C k).length = 0 by omega]
      rfl
  · simp only [if_neg e]
    exact ⟨by simpa [e] using h1, h2⟩
theorem Gw.next {mm : Nat} {N : Nat → Nat} {C : Nat → List Value} {i : Nat} (h : Gw mm N C i 64) : Gw mm N C (i + 1) 0 := fun k hk => by
  obtain ⟨h1, h2⟩ := h k hk
  refine ⟨?_, h2⟩
  rw [h1]
  by_cases e : k = i
  · subst e
    rw [if_neg (by omega), if_pos rfl, if_pos (by omega)]
  · by_cases q : k < i
    · rw [if_pos q, if_pos (by omega)]
    · rw [if_neg q, if_neg e, if_neg (by omega)]
      split <;> rfl

set_option maxRecDepth 100000 in
set_option maxHeartbeats 16000000 in
theorem owned18 (w0 : World) (b0 mm gu cv : Nat) (v : Nat → Value) (C0 : Nat → List Value) (NF : Nat → Nat) (hmm : mm ≤ 200) (hb0 : b0 ≤ w0.heap.size) (hR0 : RR b0 22 9 w0 (.slice (some ⟨gu, 0, none⟩) mm cv) mm v C0) (hC0 : ∀ k, k < mm → (C0 k).length = NF k) (hNF : ∀ k, NF k ≤ 24) : Calls Tryd.prog 12 #[.slice (some ⟨gu, 0, none⟩) mm cv] w0 fun e w' => e = .returned (.bool true) ∧ Below b0 w0 w' := by
  have HNF := hide hNF
  clear hNF
  have X2 := hide (show ∃ C, RR b0 22 9 w0 (.slice (some ⟨gu, 0, none⟩) mm cv) mm v C ∧ Mk mm NF C 0 0 ∧ Below b0 w0 w0 from ⟨C0, hR0, fun k hk => ⟨hC0 k hk, fun a ha hor => absurd hor (by omega)⟩, Below.refl _ _⟩)
  clear hR0 hC0
  go_enter Tryd.func12, Tryd.ntmps12
  go_wp2
  go_loopw [3, 4] (fun i _ wr => ∃ k : Nat, k ≤ mm ∧ i = .int .i64 (k : Int) ∧ ∃ C, RR b0 22 9 wr (.slice (some ⟨gu, 0, none⟩) mm cv) mm v C ∧ Mk mm NF C k 0 ∧ Below b0 w0 wr) (fun i _ _ => mm - (intOf i).toNat)
  case atStart => exact ⟨0, by omega, rfl, unhide X2⟩
  case round =>
  obtain ⟨k, hk, rfl, hI⟩ := hrel
  obtain ⟨wo, rfl⟩ : ∃ wo, wo = wr := ⟨_, rfl⟩
  clear X2
  have X3 := hide hI
  clear hI
  by_cases hkn : k < mm
  · have hkn' : (k : Int) < (mm : Int) := by omega
    have hk0 : (0 : Int) ≤ (k : Int) := by omega
    obtain ⟨NN, hNN⟩ : ∃ r, (NF k) = r := ⟨_, rfl⟩
    have hN4 : NN ≤ 24 := by rw [← hNN]; exact unhide HNF k
    have HNN := hide hNN
    clear hNN
    go_wp2
    go_loopw [4] (fun jv wr => ∃ j : Nat, j ≤ NN ∧ jv = .int .i64 (j : Int) ∧ ∃ C, RR b0 22 9 wr (.slice (some ⟨gu, 0, none⟩) mm cv) mm v C ∧ Mk mm NF C k j ∧ Below b0 w0 wr) (fun jv _ => NN - (intOf jv).toNat)
    case atStart => exact ⟨0, by omega, rfl, unhide X3⟩
    case round =>
    obtain ⟨j, hj, rfl, C, hRR, hMk, hB⟩ := hrel
    obtain ⟨wi, rfl⟩ : ∃ wi, wi = wr := ⟨_, rfl⟩
    clear X3
    have hCk : (C k).length = NN := (hMk k hkn).1.trans (unhide HNN)
    obtain ⟨pk, c', hvk, _⟩ := gr_form (hRR.own k hkn)
    rw [hCk] at hvk
    have clk : wi.cell? ⟨gu, k, none⟩ = some (v k) := by
      rw [(own_at hRR.row rfl k hkn).1]; simp [hkn]
    rw [hvk] at clk
    by_cases hjn : j < NN
    · have hjn' : (j : Int) < (NN : Int) := by omega
      have hj0 : (0 : Int) ≤ (j : Int) := by omega
      obtain ⟨g, cap2, hv2, _⟩ := form9 (hRR.own k hkn) (by omega)
      rw [hvk] at hv2
      injection hv2 with f4 f5 f6
      subst f4 f6
      have hat := own_at (hRR.own k hkn) (show (v k).ownBlock = some g from by rw [hvk]; rfl) j (by omega)
      have fj := hat.2
      obtain ⟨cj, hcj⟩ : ∃ r, (C k)[j]? = some r := ⟨_, List.getElem?_eq_getElem (by omega)⟩
      have cjc : wi.cell? ⟨g, j, none⟩ = some cj := hat.1.trans hcj
      have hgg : gu ≠ g := fun e => own_types (hRR.own k hkn) hRR.row (by decide) g (by rw [hvk]; rfl) (by rw [← e]; rfl)
      have hu8 : IntKind.u8.wrap (k : Int) = (k : Int) := by rw [IntKind.wrap_u8]; omega
      obtain ⟨sk, hsk⟩ : ∃ r, strOfNums [(k : Int)] = r := ⟨_, rfl⟩
      have hcvt := run_convert_bytes_arg (P := Tryd.prog) (wi.alloc (.cells #[.int .u8 (k : Int)] 5)).drew 51 5 Tryd.underlying51 Tryd.underlying5 wi.heap.size 0 1 1 [(k : Int)] rfl (fun a ha => by
        have : a = 0 := by simpa using ha
        subst this
        exact (Blk.new wi 5 #[.int .u8 (k : Int)]).cell 0) 9 Tryd.underlying9
      rw [hsk] at hcvt
      have hs1 : ¬ 9223372036854775807 < 4 + sk.size := by rw [← hsk, strOfNums_size]; show ¬ 9223372036854775807 < 4 + 1; decide
      have HMK := hide (show (⟨#[109, 97, 114, 107]⟩ : ByteArray) ++ sk = mkB k from by rw [← hsk]; rfl)
      obtain ⟨mk, hmk⟩ : ∃ r, (⟨#[109, 97, 114, 107]⟩ : ByteArray) ++ sk = r := ⟨_, rfl⟩
      rw [hmk] at HMK
      clear hsk
      have hba : Below wi.heap.size wi (wi.drew.alloc (.cells #[.int .u8 (k : Int)] 5)) := ((Below.refl _ wi).drew).alloc (Nat.le_refl _) _
      have cla : (wi.drew.alloc (.cells #[.int .u8 (k : Int)] 5)).cell? ⟨gu, k, none⟩ = some (.slice (some ⟨g, 0, none⟩) NN c') := (hba.cell (p := ⟨gu, k, none⟩) (World.block_lt_of_cell? wi _ clk)).trans clk
      have cja : (wi.drew.alloc (.cells #[.int .u8 (k : Int)] 5)).cell? ⟨g, j, none⟩ = some cj := (hba.cell (p := ⟨g, j, none⟩) (World.block_lt_of_cell? wi _ cjc)).trans cjc
      have fja : (wi.drew.alloc (.cells #[.int .u8 (k : Int)] 5)).frozen? ⟨g, j, none⟩ = false := (own_at ((hRR.below hba).own k hkn) (show (v k).ownBlock = some g from by rw [hvk]; rfl) j (by omega)).2
      have cja2 : (wi.alloc (.cells #[.int .u8 (k : Int)] 5)).cell? ⟨g, j, none⟩ = some cj := cja
      have fja2 : (wi.alloc (.cells #[.int .u8 (k : Int)] 5)).frozen? ⟨g, j, none⟩ = false := fja
      have hba1 : Below wi.heap.size wi (wi.alloc (.cells #[.int .u8 (k : Int)] 5)) := (Below.refl _ wi).alloc (Nat.le_refl _) _
      have hset := (hRR.below hba1).set (by decide) k hkn g c' (by rw [hvk, hCk]) j (.string mk)
      have cls : (((wi.alloc (.cells #[.int .u8 (k : Int)] 5)).setCell ⟨g, j, none⟩ (.string mk)).drew).cell? ⟨gu, k, none⟩ = some (.slice (some ⟨g, 0, none⟩) NN c') := by
        show ((wi.alloc (.cells #[.int .u8 (k : Int)] 5)).setCell ⟨g, j, none⟩ (.string mk)).cell? ⟨gu, k, none⟩ = _
        rw [World.cell?_setCell_far _ _ _ _ (Ne.symm hgg)]
        exact cla
      have HRR := hide (show ∃ C, RR b0 22 9 (((wi.alloc (.cells #[.int .u8 (k : Int)] 5)).setCell ⟨g, j, none⟩ (.string mk)).drew) (.slice (some ⟨gu, 0, none⟩) mm cv) mm v C ∧ Mk mm NF C k (j + 1) ∧ Below b0 w0 (((wi.alloc (.cells #[.int .u8 (k : Int)] 5)).setCell ⟨g, j, none⟩ (.string mk)).drew) from ⟨_, hset.1.below ((Below.refl _ _).drew), by
        have := hMk.step hkn (by rw [unhide HNN]; exact hjn)
        rw [← unhide HMK] at this
        exact this, by
          have hb1 := (hB.alloc (Nat.le_trans hb0 hB.size) (.cells #[.int .u8 (k : Int)] 5)).grown hset.2 (by have := hB.size; simp; omega) (fun r hr => by
            injection hr with hr
            rw [← hr]
            exact ((hRR.own k hkn).lt g (by rw [hvk]; rfl)).1)
          exact hb1.drew⟩)
      clear hba1
      clear hRR hMk hB hCk hvk hat hcj hba hset f5
      go_wp2_with fail
      refine wp_region_held_drew (S := fun w' => w'.cell? ⟨gu, k, none⟩ = some (.slice (some ⟨g, 0, none⟩) NN c')) (by kernel_rfl) clk ?_
      intro hS
      refine wpAnyH_takeD 0 (some 24) (.slice (some ⟨gu, 0, none⟩) mm cv) rfl rfl (by kernel_rfl) (by kernel_rfl) (by kernel_rfl) (fun _ _ _ h => h) (Or.inl ⟨by rfl, fun w hSw => by have q1 : _ = _ := hSw; go_simp⟩) hS ?_
      simp only [Act.put, List.setIfInBounds_toArray, List.set_cons_zero, List.set_cons_succ]
      refine wpAnyH_takeD 1 (some 25) (.int .i64 (k : Int)) rfl rfl (by kernel_rfl) (by kernel_rfl) (by kernel_rfl) (fun _ _ _ h => h) (Or.inl ⟨by rfl, fun w hSw => by have q1 : _ = _ := hSw; go_simp⟩) hS ?_
      simp only [Act.put, List.setIfInBounds_toArray, List.set_cons_zero, List.set_cons_succ]
      refine wpAnyH_takeD 2 (some 26) (.pointer (some ⟨gu, k, none⟩)) rfl rfl (by kernel_rfl) (by kernel_rfl) (by kernel_rfl) (fun _ _ _ h => h) (Or.inl ⟨by rfl, fun w hSw => by have q1 : _ = _ := hSw; go_simp⟩) hS ?_
      simp only [Act.put, List.setIfInBounds_toArray, List.set_cons_zero, List.set_cons_succ]
      refine wpAnyH_takeD 3 (some 27) (.slice (some ⟨g, 0, none⟩) NN c') rfl rfl (by kernel_rfl) (by kernel_rfl) (by kernel_rfl) (fun _ _ _ h => h) (Or.inl ⟨by rfl, fun w hSw => by have q1 : _ = _ := hSw; go_simp⟩) hS ?_
      simp only [Act.put, List.setIfInBounds_toArray, List.set_cons_zero, List.set_cons_succ]
      refine wpAnyH_takeD 4 (some 28) (.int .i64 (j : Int)) rfl rfl (by kernel_rfl) (by kernel_rfl) (by kernel_rfl) (fun _ _ _ h => h) (Or.inl ⟨by rfl, fun w hSw => by have q1 : _ = _ := hSw; go_simp⟩) hS ?_
      simp only [Act.put, List.setIfInBounds_toArray, List.set_cons_zero, List.set_cons_succ]
      refine wpAnyH_takeD 5 (some 29) (.int .i64 (k : Int)) rfl rfl (by kernel_rfl) (by kernel_rfl) (by kernel_rfl) (fun _ _ _ h => h) (Or.inl ⟨by rfl, fun w hSw => by have q1 : _ = _ := hSw; go_simp⟩) hS ?_
      simp only [Act.put, List.setIfInBounds_toArray, List.set_cons_zero, List.set_cons_succ]
      refine wpAnyH_takeD 6 (some 30) (.int .u8 (k : Int)) rfl rfl (by kernel_rfl) (by kernel_rfl) (by kernel_rfl) (fun _ _ _ h => h) (Or.inl ⟨by rfl, fun w hSw => by have q1 : _ = _ := hSw; go_simp⟩) hS ?_
      simp only [Act.put, List.setIfInBounds_toArray, List.set_cons_zero, List.set_cons_succ]
      refine wpAnyH_ready (rs := [7]) (by kernel_rfl) (by simp) ?_
      refine AllReadyH.cons rfl (fun K hK => ?_) AllReadyH.nil
      simp only [List.getElem_toArray, List.getElem_cons_succ, List.getElem_cons_zero]
      go_simp
      refine hK.out _ _ cla (fun hS => ?_)
      clear hK K
      refine wpAnyH_ready (rs := [8]) (by kernel_rfl) (by simp) ?_
      refine AllReadyH.cons rfl (fun K hK => ?_) AllReadyH.nil
      simp only [List.getElem_toArray, List.getElem_cons_succ, List.getElem_cons_zero]
      go_simp
      refine hK.out _ _ cla (fun hS => ?_)
      clear hK K
      refine wpAnyH_takeD 9 (some 33) (.string mk) rfl rfl (by kernel_rfl) (by kernel_rfl) (by kernel_rfl) (fun _ _ _ h => h) (Or.inl ⟨by rfl, fun w hSw => by have q1 : _ = _ := hSw; go_simp⟩) hS ?_
      simp only [Act.put, List.setIfInBounds_toArray, List.set_cons_zero, List.set_cons_succ]
      refine wpAnyH_takeD 10 (some 34) (.pointer (some ⟨g, j, none⟩)) rfl rfl (by kernel_rfl) (by kernel_rfl) (by kernel_rfl) (fun _ _ _ h => h) (Or.inl ⟨by rfl, fun w hSw => by have q1 : _ = _ := hSw; go_simp⟩) hS ?_
      simp only [Act.put, List.setIfInBounds_toArray, List.set_cons_zero, List.set_cons_succ]
      refine wpAnyH_ready (rs := [11]) (by kernel_rfl) (by simp) ?_
      refine AllReadyH.cons rfl (fun K hK => ?_) AllReadyH.nil
      simp only [List.getElem_toArray, List.getElem_cons_succ, List.getElem_cons_zero]
      go_simp
      refine hK.out _ _ cls (fun hS => ?_)
      clear hK K
      refine wpAnyH_done (by kernel_rfl) ?_ _
      clear hS clk cla cls cja fja cja2 fja2 hcvt cjc fj
      go_wp2
      go_roundw
      case rel => exact ⟨j + 1, by omega, by go_num, unhide HRR⟩
      case measure => simp [intOf] <;> omega
    have hjn' : ¬ (j : Int) < (NN : Int) := by omega
    have HRR := hide (show ∃ C, RR b0 22 9 wi (.slice (some ⟨gu, 0, none⟩) mm cv) mm v C ∧ Mk mm NF C (k + 1) 0 ∧ Below b0 w0 wi from ⟨C, hRR, Mk.next (by show Mk mm NF C k (NF k); rw [unhide HNN, show NN = j by omega]; exact hMk), hB⟩)
    clear hRR hMk hB hCk hvk
    go_wp2
    go_roundw
    case rel => exact ⟨k + 1, by omega, by go_num, unhide HRR⟩
    case measure => simp [intOf] <;> omega
  have hkn' : ¬ (k : Int) < (mm : Int) := by omega
  have hke : k = mm := by omega
  have X4 := hide (show ∃ v C, RR b0 22 9 wo (.slice (some ⟨gu, 0, none⟩) mm cv) mm v C ∧ Gw mm NF C 0 0 ∧ Below b0 w0 wo from by
    obtain ⟨C, c1, c2, c3⟩ := unhide X3
    rw [hke] at c2
    exact ⟨v, C, c1, Gw.start c2, c3⟩)
  clear hke hkn X3
  go_wp2
  clear hkn'
  go_loopw [5, 6] (fun i _ wr => ∃ k : Nat, k ≤ mm ∧ i = .int .i64 (k : Int) ∧ ∃ v C, RR b0 22 9 wr (.slice (some ⟨gu, 0, none⟩) mm cv) mm v C ∧ Gw mm NF C k 0 ∧ Below b0 w0 wr) (fun i _ _ => mm - (intOf i).toNat)
  case atStart => exact ⟨0, by omega, rfl, unhide X4⟩
  case round =>
  obtain ⟨k, hk, rfl, hI⟩ := hrel
  obtain ⟨wo, rfl⟩ : ∃ wo, wo = wr := ⟨_, rfl⟩
  clear X4
  have X5 := hide hI
  clear hI
  by_cases hkn : k < mm
  · have hkn' : (k : Int) < (mm : Int) := by omega
    have hk0 : (0 : Int) ≤ (k : Int) := by omega
    obtain ⟨NN, hNN⟩ : ∃ r, (NF k) = r := ⟨_, rfl⟩
    have hN4 : NN ≤ 24 := by rw [← hNN]; exact unhide HNF k
    have HNN := hide hNN
    clear hNN
    go_wp2
    go_loopw [6] (fun jv wr => ∃ j : Nat, j ≤ 64 ∧ jv = .int .i64 (j : Int) ∧ ∃ v C, RR b0 22 9 wr (.slice (some ⟨gu, 0, none⟩) mm cv) mm v C ∧ Gw mm NF C k j ∧ Below b0 w0 wr) (fun jv _ => 64 - (intOf jv).toNat)
    case atStart => exact ⟨0, by omega, rfl, unhide X5⟩
    case round =>
    obtain ⟨j, hj, rfl, v', C, hRR, hGw, hB⟩ := hrel
    obtain ⟨wi, rfl⟩ : ∃ wi, wi = wr := ⟨_, rfl⟩
    clear X5
    by_cases hjn : j < 64
    · have hjn' : (j : Int) < 64 := by omega
      have hCk : (C k).length = NN + j := by
        have := (hGw k hkn).1
        rw [if_neg (by omega), if_pos rfl] at this
        rw [← unhide HNN]; exact this
      obtain ⟨pk, c', hvk, _⟩ := gr_form (hRR.own k hkn)
      have clk : wi.cell? ⟨gu, k, none⟩ = some (v' k) := by
        rw [(own_at hRR.row rfl k hkn).1]; simp [hkn]
      rw [hvk, hCk] at clk
      obtain ⟨ln, hln⟩ : ∃ r, NN + j = r := ⟨_, rfl⟩
      rw [hln] at clk hCk
      have hl100 : ln ≤ 100 := by omega
      have hu8 : IntKind.u8.wrap (k : Int) = (k : Int) := by rw [IntKind.wrap_u8]; omega
      obtain ⟨sk, hsk⟩ : ∃ r, strOfNums [(k : Int)] = r := ⟨_, rfl⟩
      have hcvt := run_convert_bytes_arg (P := Tryd.prog) (wi.alloc (.cells #[.int .u8 (k : Int)] 5)).drew 51 5 Tryd.underlying51 Tryd.underlying5 wi.heap.size 0 1 1 [(k : Int)] rfl (fun a ha => by
        have : a = 0 := by simpa using ha
        subst this
        exact (Blk.new wi 5 #[.int .u8 (k : Int)]).cell 0) 9 Tryd.underlying9
      rw [hsk] at hcvt
      have hs1 : ¬ 9223372036854775807 < 4 + sk.size := by rw [← hsk, strOfNums_size]; show ¬ 9223372036854775807 < 4 + 1; decide
      have HMK := hide (show (⟨#[109, 97, 114, 107]⟩ : ByteArray) ++ sk = mkB k from by rw [← hsk]; rfl)
      obtain ⟨mk, hmk⟩ : ∃ r, (⟨#[109, 97, 114, 107]⟩ : ByteArray) ++ sk = r := ⟨_, rfl⟩
      rw [hmk] at HMK
      clear hsk
      have HBA := hide (show Below wi.heap.size wi (((wi.alloc (.cells #[.int .u8 (k : Int)] 5)).alloc (.cells #[.string mk] 9)).drew) from ((((Below.refl _ wi).alloc (Nat.le_refl _) _).alloc (by simp) _)).drew)
      have hRR2 := hRR.below (unhide HBA)
      have hB2 := hB.trans ((unhide HBA).mono (Nat.le_trans hb0 hB.size))
      have hown := hRR2.own k hkn
      rw [hvk, hCk] at hown
      have HOW := hide hown
      have hnews : ∀ a u, [Value.string mk][a]? = some u → (((wi.alloc (.cells #[.int .u8 (k : Int)] 5)).alloc (.cells #[.string mk] 9)).drew).cell? (Addr.add ⟨wi.heap.size + 1, 0, none⟩ a) = some u := fun a u hu => by
        have := gr_new (wi.alloc (.cells #[.int .u8 (k : Int)] 5)) 9 (.string mk) a u hu
        rw [show (wi.alloc (.cells #[.int .u8 (k : Int)] 5)).heap.size = wi.heap.size + 1 from by simp] at this
        exact this
      have HNW := hide hnews
      have HGR := hide (show ∀ (g5 cap5 : Nat) (x5 : World), x5.ownsRow b0 9 1 (.slice (some ⟨g5, 0, none⟩) (ln + 1) cap5) (ln + 1) (C k ++ [.string mk]) → (((wi.alloc (.cells #[.int .u8 (k : Int)] 5)).alloc (.cells #[.string mk] 9)).drew).grownBy x5 (Value.slice pk ln c').ownBlock → ((Value.slice pk ln c').ownBlock = some g5 ∨ g5 = wi.heap.size + 2) → (∃ v C, RR b0 22 9 (x5.setCell ⟨gu, k, none⟩ (.slice (some ⟨g5, 0, none⟩) (ln + 1) cap5)) (.slice (some ⟨gu, 0, none⟩) mm cv) mm v C ∧ Gw mm NF C k (j + 1) ∧ Below b0 w0 (x5.setCell ⟨gu, k, none⟩ (.slice (some ⟨g5, 0, none⟩) (ln + 1) cap5))) ∧ x5.cell? ⟨gu, k, none⟩ = some (.slice pk ln c') ∧ x5.frozen? ⟨gu, k, none⟩ = false from by
        intro g5 cap5 x5 ho5 hg5 hgg
        have hvk' : v' k = .slice pk ln c' := by rw [hvk, hCk]
        have hbl : (v' k).ownBlock = (Value.slice pk ln c').ownBlock := by rw [hvk']
        have hDl : (C k ++ [Value.string mk]).length = ln + 1 := by rw [List.length_append, hCk]; rfl
        have hgr := hRR2.grow (by decide) k hkn gu cv rfl (C k ++ [.string mk]) g5 cap5 (by rw [hDl]; exact ho5) (by rw [hbl]; exact hg5) (by
          rw [hbl]
          rcases hgg with r | r
          · exact .inl r
          · exact .inr (by rw [r]; simp))
        rw [hDl] at hgr
        have hrow : x5.ownsRow b0 22 1 (.slice (some ⟨gu, 0, none⟩) mm cv) mm ((List.range mm).map v') := hRR2.row.kept hg5 (.inr (fun e => own_types (hRR2.own k hkn) hRR2.row (by decide) gu (by rw [hbl, ← e]; rfl) rfl))
        have hat := own_at hrow rfl k hkn
        refine ⟨⟨_, _, hgr, ?_, ?_⟩, ?_, hat.2⟩
        · have := hGw.step hkn
          rw [← unhide HMK] at this
          exact this
        · have hb5 := hB2.grown hg5 (Nat.le_trans hb0 hB2.size) (fun r hr => (hown.lt r hr).1)
          exact hb5.setCell (hRR2.row.lt gu rfl).1 _
        · rw [hat.1, ← hvk']; simp [hkn])
      have HBS := hide (Nat.le_trans hb0 hB2.size)
      have cA1 : (wi.alloc (.cells #[.int .u8 (k : Int)] 5)).cell? ⟨gu, k, none⟩ = some (.slice pk ln c') := (((Below.refl wi.heap.size wi).alloc (Nat.le_refl _) (.cells #[.int .u8 (k : Int)] 5)).cell (p := ⟨gu, k, none⟩) (World.block_lt_of_cell? wi _ clk)).trans clk
      have cA2 : ((wi.alloc (.cells #[.int .u8 (k : Int)] 5)).alloc (.cells #[.string mk] 9)).cell? ⟨gu, k, none⟩ = some (.slice pk ln c') := ((((Below.refl wi.heap.size wi).alloc (Nat.le_refl _) (.cells #[.int .u8 (k : Int)] 5)).alloc (by simp) (.cells #[.string mk] 9)).cell (p := ⟨gu, k, none⟩) (World.block_lt_of_cell? wi _ clk)).trans clk
      clear hRR hGw hB hCk hvk hRR2 hB2 hown hnews hln
      obtain ⟨j0, hji, hjz0, hjz1, hjz2⟩ := info_parts gr_str
      have HJN := hide (And.intro hji (And.intro hjz0 (And.intro hjz1 hjz2)))
      clear hji hjz0 hjz1 hjz2
      go_wp2_with fail
      refine wp_region_held_drew (S := fun _ => True) (by kernel_rfl) trivial ?_
      intro hS
      refine wpAnyH_takeD 0 (some 45) (.slice (some ⟨gu, 0, none⟩) mm cv) rfl rfl (by kernel_rfl) (by kernel_rfl) (by kernel_rfl) (fun _ _ _ h => h) (Or.inl ⟨by rfl, fun w hSw => by go_simp⟩) hS ?_
      simp only [Act.put, List.setIfInBounds_toArray, List.set_cons_zero, List.set_cons_succ]
      refine wpAnyH_takeD 1 (some 46) (.int .i64 (k : Int)) rfl rfl (by kernel_rfl) (by kernel_rfl) (by kernel_rfl) (fun _ _ _ h => h) (Or.inl ⟨by rfl, fun w hSw => by go_simp⟩) hS ?_
      simp only [Act.put, List.setIfInBounds_toArray, List.set_cons_zero, List.set_cons_succ]
      refine wpAnyH_takeD 2 (some 47) (.slice (some ⟨gu, 0, none⟩) mm cv) rfl rfl (by kernel_rfl) (by kernel_rfl) (by kernel_rfl) (fun _ _ _ h => h) (Or.inl ⟨by rfl, fun w hSw => by go_simp⟩) hS ?_
      simp only [Act.put, List.setIfInBounds_toArray, List.set_cons_zero, List.set_cons_succ]
      refine wpAnyH_takeD 3 (some 48) (.int .i64 (k : Int)) rfl rfl (by kernel_rfl) (by kernel_rfl) (by kernel_rfl) (fun _ _ _ h => h) (Or.inl ⟨by rfl, fun w hSw => by go_simp⟩) hS ?_
      simp only [Act.put, List.setIfInBounds_toArray, List.set_cons_zero, List.set_cons_succ]
      refine wpAnyH_takeD 4 (some 49) (.pointer (some ⟨gu, k, none⟩)) rfl rfl (by kernel_rfl) (by kernel_rfl) (by kernel_rfl) (fun _ _ _ h => h) (Or.inl ⟨by rfl, fun w hSw => by go_simp⟩) hS ?_
      simp only [Act.put, List.setIfInBounds_toArray, List.set_cons_zero, List.set_cons_succ]
      refine wpAnyH_takeD 6 (some 51) (.int .i64 (k : Int)) rfl rfl (by kernel_rfl) (by kernel_rfl) (by kernel_rfl) (fun _ _ _ h => h) (Or.inl ⟨by rfl, fun w hSw => by go_simp⟩) hS ?_
      simp only [Act.put, List.setIfInBounds_toArray, List.set_cons_zero, List.set_cons_succ]
      refine wpAnyH_takeD 7 (some 52) (.int .u8 (k : Int)) rfl rfl (by kernel_rfl) (by kernel_rfl) (by kernel_rfl) (fun _ _ _ h => h) (Or.inl ⟨by rfl, fun w hSw => by go_simp⟩) hS ?_
      simp only [Act.put, List.setIfInBounds_toArray, List.set_cons_zero, List.set_cons_succ]
      refine wpAnyH_ready (rs := [5, 8]) (by kernel_rfl) (by simp) ?_
      refine AllReadyH.cons rfl (fun K hK => ?_) (AllReadyH.cons rfl (fun K hK => ?_) AllReadyH.nil)
      · simp only [List.getElem_toArray, List.getElem_cons_succ, List.getElem_cons_zero]
        go_simp
        refine hK.out _ _ trivial (fun hS => ?_)
        clear hK K
        refine wpAnyH_ready (rs := [8]) (by kernel_rfl) (by simp) ?_
        refine AllReadyH.cons rfl (fun K hK => ?_) AllReadyH.nil
        simp only [List.getElem_toArray, List.getElem_cons_succ, List.getElem_cons_zero]
        go_simp
        refine hK.out _ _ trivial (fun hS => ?_)
        clear hK K
        refine wpAnyH_ready (rs := [9]) (by kernel_rfl) (by simp) ?_
        refine AllReadyH.cons rfl (fun K hK => ?_) AllReadyH.nil
        simp only [List.getElem_toArray, List.getElem_cons_succ, List.getElem_cons_zero]
        go_simp
        refine hK.out _ _ trivial (fun hS => ?_)
        clear hK K
        refine wpAnyH_takeD 10 (some 55) (.string mk) rfl rfl (by kernel_rfl) (by kernel_rfl) (by kernel_rfl) (fun _ _ _ h => h) (Or.inl ⟨by rfl, fun w hSw => by go_simp⟩) hS ?_
        simp only [Act.put, List.setIfInBounds_toArray, List.set_cons_zero, List.set_cons_succ]
        refine wpAnyH_ready (rs := [11]) (by kernel_rfl) (by simp) ?_
        refine AllReadyH.cons rfl (fun K hK => ?_) AllReadyH.nil
        simp only [List.getElem_toArray, List.getElem_cons_succ, List.getElem_cons_zero]
        go_simp
        refine hK.out _ _ trivial (fun hS => ?_)
        clear hK K
        refine wpAnyH_ready (rs := [12]) (by kernel_rfl) (by simp) ?_
        refine AllReadyH.cons rfl (fun Kk hKk => ?_) AllReadyH.nil
        simp only [List.getElem_toArray, List.getElem_cons_succ, List.getElem_cons_zero]
        rw [if_pos (by rfl)]
        refine wp_append_lies _ (.tmp 50) (.tmp 56) 22 rfl b0 9 j0 (.string ⟨#[]⟩) 1 16 Tryd.underlying22 (unhide HJN).1 (unhide HJN).2.1 (unhide HJN).2.2.1 (unhide HJN).2.2.2 rfl (by decide) _ ln (C k) rfl (unhide HOW) ⟨wi.heap.size + 1, 0, none⟩ 1 1 [.string mk] rfl rfl (unhide HNW) (by simp [Value.oneCell']) (by decide) (by unfold maxLen; omega) (by omega) (unhide HBS) (wi.heap.size + 2) (by simp) ?_
        intro g5 cap5 x5 ho5 hg5 hgg hgl5
        obtain ⟨hnew, cl5, fl5⟩ := unhide HGR g5 cap5 x5 ho5 hg5 hgg
        have HRR := hide hnew
        simp only [Act.put, List.setIfInBounds_toArray, List.set_cons_zero, List.set_cons_succ]
        refine hKk.out _ _ trivial (fun hS => ?_)
        clear hKk Kk ho5 hg5 hgg hgl5 hnew
        refine wpAnyH_takeD 13 (some 58) (.pointer (some ⟨gu, k, none⟩)) rfl rfl (by kernel_rfl) (by kernel_rfl) (by kernel_rfl) (fun _ _ _ h => h) (Or.inl ⟨by rfl, fun w hSw => by go_simp⟩) hS ?_
        simp only [Act.put, List.setIfInBounds_toArray, List.set_cons_zero, List.set_cons_succ]
        refine wpAnyH_ready (rs := [14]) (by kernel_rfl) (by simp) ?_
        refine AllReadyH.cons rfl (fun K hK => ?_) AllReadyH.nil
        simp only [List.getElem_toArray, List.getElem_cons_succ, List.getElem_cons_zero]
        go_simp
        refine hK.out _ _ trivial (fun hS => ?_)
        clear hK K
        refine wpAnyH_done (by kernel_rfl) ?_ _
        clear hS clk cl5 fl5 hcvt cA1 cA2
        go_wp2
        go_roundw
        case rel => exact ⟨j + 1, by omega, by go_num, unhide HRR⟩
        case measure => simp [intOf] <;> omega
      · simp only [List.getElem_toArray, List.getElem_cons_succ, List.getElem_cons_zero]
        go_simp
        refine hK.out _ _ trivial (fun hS => ?_)
        clear hK K
        refine wpAnyH_ready (rs := [5, 9]) (by kernel_rfl) (by simp) ?_
        refine AllReadyH.cons rfl (fun K hK => ?_) (AllReadyH.cons rfl (fun K hK => ?_) AllReadyH.nil)
        · simp only [List.getElem_toArray, List.getElem_cons_succ, List.getElem_cons_zero]
          go_simp
          refine hK.out _ _ trivial (fun hS => ?_)
          clear hK K
          refine wpAnyH_ready (rs := [9]) (by kernel_rfl) (by simp) ?_
          refine AllReadyH.cons rfl (fun K hK => ?_) AllReadyH.nil
          simp only [List.getElem_toArray, List.getElem_cons_succ, List.getElem_cons_zero]
          go_simp
          refine hK.out _ _ trivial (fun hS => ?_)
          clear hK K
          refine wpAnyH_takeD 10 (some 55) (.string mk) rfl rfl (by kernel_rfl) (by kernel_rfl) (by kernel_rfl) (fun _ _ _ h => h) (Or.inl ⟨by rfl, fun w hSw => by go_simp⟩) hS ?_
          simp only [Act.put, List.setIfInBounds_toArray, List.set_cons_zero, List.set_cons_succ]
          refine wpAnyH_ready (rs := [11]) (by kernel_rfl) (by simp) ?_
          refine AllReadyH.cons rfl (fun K hK => ?_) AllReadyH.nil
          simp only [List.getElem_toArray, List.getElem_cons_succ, List.getElem_cons_zero]
          go_simp
          refine hK.out _ _ trivial (fun hS => ?_)
          clear hK K
          refine wpAnyH_ready (rs := [12]) (by kernel_rfl) (by simp) ?_
          refine AllReadyH.cons rfl (fun Kk hKk => ?_) AllReadyH.nil
          simp only [List.getElem_toArray, List.getElem_cons_succ, List.getElem_cons_zero]
          rw [if_pos (by rfl)]
          refine wp_append_lies _ (.tmp 50) (.tmp 56) 22 rfl b0 9 j0 (.string ⟨#[]⟩) 1 16 Tryd.underlying22 (unhide HJN).1 (unhide HJN).2.1 (unhide HJN).2.2.1 (unhide HJN).2.2.2 rfl (by decide) _ ln (C k) rfl (unhide HOW) ⟨wi.heap.size + 1, 0, none⟩ 1 1 [.string mk] rfl rfl (unhide HNW) (by simp [Value.oneCell']) (by decide) (by unfold maxLen; omega) (by omega) (unhide HBS) (wi.heap.size + 2) (by simp) ?_
          intro g5 cap5 x5 ho5 hg5 hgg hgl5
          obtain ⟨hnew, cl5, fl5⟩ := unhide HGR g5 cap5 x5 ho5 hg5 hgg
          have HRR := hide hnew
          simp only [Act.put, List.setIfInBounds_toArray, List.set_cons_zero, List.set_cons_succ]
          refine hKk.out _ _ trivial (fun hS => ?_)
          clear hKk Kk ho5 hg5 hgg hgl5 hnew
          refine wpAnyH_takeD 13 (some 58) (.pointer (some ⟨gu, k, none⟩)) rfl rfl (by kernel_rfl) (by kernel_rfl) (by kernel_rfl) (fun _ _ _ h => h) (Or.inl ⟨by rfl, fun w hSw => by go_simp⟩) hS ?_
          simp only [Act.put, List.setIfInBounds_toArray, List.set_cons_zero, List.set_cons_succ]
          refine wpAnyH_ready (rs := [14]) (by kernel_rfl) (by simp) ?_
          refine AllReadyH.cons rfl (fun K hK => ?_) AllReadyH.nil
          simp only [List.getElem_toArray, List.getElem_cons_succ, List.getElem_cons_zero]
          go_simp
          refine hK.out _ _ trivial (fun hS => ?_)
          clear hK K
          refine wpAnyH_done (by kernel_rfl) ?_ _
          clear hS clk cl5 fl5 hcvt cA1 cA2
          go_wp2
          go_roundw
          case rel => exact ⟨j + 1, by omega, by go_num, unhide HRR⟩
          case measure => simp [intOf] <;> omega
        · simp only [List.getElem_toArray, List.getElem_cons_succ, List.getElem_cons_zero]
          go_simp
          refine hK.out _ _ trivial (fun hS => ?_)
          clear hK K
          refine wpAnyH_takeD 10 (some 55) (.string mk) rfl rfl (by kernel_rfl) (by kernel_rfl) (by kernel_rfl) (fun _ _ _ h => h) (Or.inl ⟨by rfl, fun w hSw => by go_simp⟩) hS ?_
          simp only [Act.put, List.setIfInBounds_toArray, List.set_cons_zero, List.set_cons_succ]
          refine wpAnyH_ready (rs := [5, 11]) (by kernel_rfl) (by simp) ?_
          refine AllReadyH.cons rfl (fun K hK => ?_) (AllReadyH.cons rfl (fun K hK => ?_) AllReadyH.nil)
          · simp only [List.getElem_toArray, List.getElem_cons_succ, List.getElem_cons_zero]
            go_simp
            refine hK.out _ _ trivial (fun hS => ?_)
            clear hK K
            refine wpAnyH_ready (rs := [11]) (by kernel_rfl) (by simp) ?_
            refine AllReadyH.cons rfl (fun K hK => ?_) AllReadyH.nil
            simp only [List.getElem_toArray, List.getElem_cons_succ, List.getElem_cons_zero]
            go_simp
            refine hK.out _ _ trivial (fun hS => ?_)
            clear hK K
            refine wpAnyH_ready (rs := [12]) (by kernel_rfl) (by simp) ?_
            refine AllReadyH.cons rfl (fun Kk hKk => ?_) AllReadyH.nil
            simp only [List.getElem_toArray, List.getElem_cons_succ, List.getElem_cons_zero]
            rw [if_pos (by rfl)]
            refine wp_append_lies _ (.tmp 50) (.tmp 56) 22 rfl b0 9 j0 (.string ⟨#[]⟩) 1 16 Tryd.underlying22 (unhide HJN).1 (unhide HJN).2.1 (unhide HJN).2.2.1 (unhide HJN).2.2.2 rfl (by decide) _ ln (C k) rfl (unhide HOW) ⟨wi.heap.size + 1, 0, none⟩ 1 1 [.string mk] rfl rfl (unhide HNW) (by simp [Value.oneCell']) (by decide) (by unfold maxLen; omega) (by omega) (unhide HBS) (wi.heap.size + 2) (by simp) ?_
            intro g5 cap5 x5 ho5 hg5 hgg hgl5
            obtain ⟨hnew, cl5, fl5⟩ := unhide HGR g5 cap5 x5 ho5 hg5 hgg
            have HRR := hide hnew
            simp only [Act.put, List.setIfInBounds_toArray, List.set_cons_zero, List.set_cons_succ]
            refine hKk.out _ _ trivial (fun hS => ?_)
            clear hKk Kk ho5 hg5 hgg hgl5 hnew
            refine wpAnyH_takeD 13 (some 58) (.pointer (some ⟨gu, k, none⟩)) rfl rfl (by kernel_rfl) (by kernel_rfl) (by kernel_rfl) (fun _ _ _ h => h) (Or.inl ⟨by rfl, fun w hSw => by go_simp⟩) hS ?_
            simp only [Act.put, List.setIfInBounds_toArray, List.set_cons_zero, List.set_cons_succ]
            refine wpAnyH_ready (rs := [14]) (by kernel_rfl) (by simp) ?_
            refine AllReadyH.cons rfl (fun K hK => ?_) AllReadyH.nil
            simp only [List.getElem_toArray, List.getElem_cons_succ, List.getElem_cons_zero]
            go_simp
            refine hK.out _ _ trivial (fun hS => ?_)
            clear hK K
            refine wpAnyH_done (by kernel_rfl) ?_ _
            clear hS clk cl5 fl5 hcvt cA1 cA2
            go_wp2
            go_roundw
            case rel => exact ⟨j + 1, by omega, by go_num, unhide HRR⟩
            case measure => simp [intOf] <;> omega
          · simp only [List.getElem_toArray, List.getElem_cons_succ, List.getElem_cons_zero]
            go_simp
            refine hK.out _ _ trivial (fun hS => ?_)
            clear hK K
            refine wpAnyH_ready (rs := [5]) (by kernel_rfl) (by simp) ?_
            refine AllReadyH.cons rfl (fun K hK => ?_) AllReadyH.nil
            simp only [List.getElem_toArray, List.getElem_cons_succ, List.getElem_cons_zero]
            go_simp
            refine hK.out _ _ trivial (fun hS => ?_)
            clear hK K
            refine wpAnyH_ready (rs := [12]) (by kernel_rfl) (by simp) ?_
            refine AllReadyH.cons rfl (fun Kk hKk => ?_) AllReadyH.nil
            simp only [List.getElem_toArray, List.getElem_cons_succ, List.getElem_cons_zero]
            rw [if_pos (by rfl)]
            refine wp_append_lies _ (.tmp 50) (.tmp 56) 22 rfl b0 9 j0 (.string ⟨#[]⟩) 1 16 Tryd.underlying22 (unhide HJN).1 (unhide HJN).2.1 (unhide HJN).2.2.1 (unhide HJN).2.2.2 rfl (by decide) _ ln (C k) rfl (unhide HOW) ⟨wi.heap.size + 1, 0, none⟩ 1 1 [.string mk] rfl rfl (unhide HNW) (by simp [Value.oneCell']) (by decide) (by unfold maxLen; omega) (by omega) (unhide HBS) (wi.heap.size + 2) (by simp) ?_
            intro g5 cap5 x5 ho5 hg5 hgg hgl5
            obtain ⟨hnew, cl5, fl5⟩ := unhide HGR g5 cap5 x5 ho5 hg5 hgg
            have HRR := hide hnew
            simp only [Act.put, List.setIfInBounds_toArray, List.set_cons_zero, List.set_cons_succ]
            refine hKk.out _ _ trivial (fun hS => ?_)
            clear hKk Kk ho5 hg5 hgg hgl5 hnew
            refine wpAnyH_takeD 13 (some 58) (.pointer (some ⟨gu, k, none⟩)) rfl rfl (by kernel_rfl) (by kernel_rfl) (by kernel_rfl) (fun _ _ _ h => h) (Or.inl ⟨by rfl, fun w hSw => by go_simp⟩) hS ?_
            simp only [Act.put, List.setIfInBounds_toArray, List.set_cons_zero, List.set_cons_succ]
            refine wpAnyH_ready (rs := [14]) (by kernel_rfl) (by simp) ?_
            refine AllReadyH.cons rfl (fun K hK => ?_) AllReadyH.nil
            simp only [List.getElem_toArray, List.getElem_cons_succ, List.getElem_cons_zero]
            go_simp
            refine hK.out _ _ trivial (fun hS => ?_)
            clear hK K
            refine wpAnyH_done (by kernel_rfl) ?_ _
            clear hS clk cl5 fl5 hcvt cA1 cA2
            go_wp2
            go_roundw
            case rel => exact ⟨j + 1, by omega, by go_num, unhide HRR⟩
            case measure => simp [intOf] <;> omega
    have hjn' : ¬ (j : Int) < 64 := by omega
    have HRR := hide (show ∃ v C, RR b0 22 9 wi (.slice (some ⟨gu, 0, none⟩) mm cv) mm v C ∧ Gw mm NF C (k + 1) 0 ∧ Below b0 w0 wi from ⟨v', C, hRR, Gw.next (by rw [show 64 = j by omega]; exact hGw), hB⟩)
    clear hRR hGw hB
    go_wp2
    go_roundw
    case rel => exact ⟨k + 1, by omega, by go_num, unhide HRR⟩
    case measure => simp [intOf] <;> omega
  have hkn' : ¬ (k : Int) < (mm : Int) := by omega
  have hke : k = mm := by omega
  have X6 := hide (show ∃ v C, RR b0 22 9 wo (.slice (some ⟨gu, 0, none⟩) mm cv) mm v C ∧ Gw mm NF C mm 0 ∧ Below b0 w0 wo from by
    obtain ⟨v, C, c1, c2, c3⟩ := unhide X5
    rw [hke] at c2
    exact ⟨v, C, c1, c2, c3⟩)
  clear hke hkn X5
  go_wp2
  clear hkn'
  obtain ⟨vv, CC, hRR0, hGw0, hB0'⟩ := unhide X6
  have HGW := hide hGw0
  have X7 := hide (show RR b0 22 9 wo (.slice (some ⟨gu, 0, none⟩) mm cv) mm vv CC ∧ Below b0 w0 wo from ⟨hRR0, hB0'⟩)
  clear hRR0 hGw0 hB0' X6
  go_loopw [7, 8] (fun i _ wr => ∃ k : Nat, k ≤ mm ∧ i = .int .i64 (k : Int) ∧ RR b0 22 9 wr (.slice (some ⟨gu, 0, none⟩) mm cv) mm vv CC ∧ Below b0 w0 wr) (fun i _ _ => mm - (intOf i).toNat)
  case atStart => exact ⟨0, by omega, rfl, unhide X7⟩
  case round =>
  obtain ⟨k, hk, rfl, hRR, hB⟩ := hrel
  obtain ⟨wo, rfl⟩ : ∃ wo, wo = wr := ⟨_, rfl⟩
  clear X7
  have X8 := hide (And.intro hRR hB)
  by_cases hkn : k < mm
  · have hkn' : (k : Int) < (mm : Int) := by omega
    have hk0 : (0 : Int) ≤ (k : Int) := by omega
    obtain ⟨ln, hln⟩ : ∃ r, (CC k).length = r := ⟨_, rfl⟩
    have hl100 : ln ≤ 1000 := by
      have h1 := (unhide HGW k hkn).1
      have h2 := unhide HNF k
      rw [if_pos hkn] at h1
      omega
    have HLN := hide hln
    clear hRR hB hln
    go_wp2
    go_loopw [8] (fun jv wr => ∃ j : Nat, j ≤ ln ∧ jv = .int .i64 (j : Int) ∧ RR b0 22 9 wr (.slice (some ⟨gu, 0, none⟩) mm cv) mm vv CC ∧ Below b0 w0 wr) (fun jv _ => ln - (intOf jv).toNat)
    case atStart => exact ⟨0, by omega, rfl, unhide X8⟩
    case round =>
    obtain ⟨j, hj, rfl, hRR, hB⟩ := hrel
    obtain ⟨wi, rfl⟩ : ∃ wi, wi = wr := ⟨_, rfl⟩
    clear X8
    obtain ⟨pk, c', hvk, _⟩ := gr_form (hRR.own k hkn)
    have clk : wi.cell? ⟨gu, k, none⟩ = some (vv k) := by
      rw [(own_at hRR.row rfl k hkn).1]; simp [hkn]
    rw [hvk, unhide HLN] at clk
    by_cases hjn : j < ln
    · have hjn' : (j : Int) < (ln : Int) := by omega
      have hj0 : (0 : Int) ≤ (j : Int) := by omega
      obtain ⟨g, cap2, hv2, _⟩ := form9 (hRR.own k hkn) (by rw [unhide HLN]; omega)
      rw [hvk] at hv2
      injection hv2 with f4 f5 f6
      subst f4 f6
      have hu8 : IntKind.u8.wrap (k : Int) = (k : Int) := by rw [IntKind.wrap_u8]; omega
      obtain ⟨sk, hsk⟩ : ∃ r, strOfNums [(k : Int)] = r := ⟨_, rfl⟩
      have hcvt := run_convert_bytes_arg (P := Tryd.prog) (wi.alloc (.cells #[.int .u8 (k : Int)] 5)).drew 51 5 Tryd.underlying51 Tryd.underlying5 wi.heap.size 0 1 1 [(k : Int)] rfl (fun a ha => by
        have : a = 0 := by simpa using ha
        subst this
        exact (Blk.new wi 5 #[.int .u8 (k : Int)]).cell 0) 9 Tryd.underlying9
      rw [hsk] at hcvt
      have hs1 : ¬ 9223372036854775807 < 4 + sk.size := by rw [← hsk, strOfNums_size]; show ¬ 9223372036854775807 < 4 + 1; decide
      have HMK := hide (show (⟨#[109, 97, 114, 107]⟩ : ByteArray) ++ sk = mkB k from by rw [← hsk]; rfl)
      obtain ⟨mk, hmk⟩ : ∃ r, (⟨#[109, 97, 114, 107]⟩ : ByteArray) ++ sk = r := ⟨_, rfl⟩
      rw [hmk] at HMK
      clear hsk
      have cjc : wi.cell? ⟨g, j, none⟩ = some (.string mk) := by
        rw [(own_at (hRR.own k hkn) (show (vv k).ownBlock = some g from by rw [hvk]; rfl) j (by rw [unhide HLN]; exact hjn)).1, (unhide HGW k hkn).2 j (by rw [unhide HLN]; exact hjn), unhide HMK]
      have hba : Below wi.heap.size wi (wi.drew.alloc (.cells #[.int .u8 (k : Int)] 5)) := ((Below.refl _ wi).drew).alloc (Nat.le_refl _) _
      have cla : (wi.drew.alloc (.cells #[.int .u8 (k : Int)] 5)).cell? ⟨gu, k, none⟩ = some (.slice (some ⟨g, 0, none⟩) ln c') ∧ (wi.drew.alloc (.cells #[.int .u8 (k : Int)] 5)).cell? ⟨g, j, none⟩ = some (.string mk) := ⟨(hba.cell (p := ⟨gu, k, none⟩) (World.block_lt_of_cell? wi _ clk)).trans clk, (hba.cell (p := ⟨g, j, none⟩) (World.block_lt_of_cell? wi _ cjc)).trans cjc⟩
      have HRR := hide (show RR b0 22 9 (wi.drew.alloc (.cells #[.int .u8 (k : Int)] 5)) (.slice (some ⟨gu, 0, none⟩) mm cv) mm vv CC ∧ Below b0 w0 (wi.drew.alloc (.cells #[.int .u8 (k : Int)] 5)) from ⟨hRR.below hba, hB.trans (hba.mono (Nat.le_trans hb0 hB.size))⟩)
      clear hRR hB hvk hba f5
      go_wp2_with fail
      refine wp_region_held_drew (S := fun w' => w'.cell? ⟨gu, k, none⟩ = some (.slice (some ⟨g, 0, none⟩) ln c') ∧ w'.cell? ⟨g, j, none⟩ = some (.string mk)) (by kernel_rfl) ⟨clk, cjc⟩ ?_
      intro hS
      refine wpAnyH_takeD 0 (some 74) (.slice (some ⟨gu, 0, none⟩) mm cv) rfl rfl (by kernel_rfl) (by kernel_rfl) (by kernel_rfl) (fun _ _ _ h => h) (Or.inl ⟨by rfl, fun w hSw => by obtain ⟨q1, q2⟩ := hSw; go_simp⟩) hS ?_
      simp only [Act.put, List.setIfInBounds_toArray, List.set_cons_zero, List.set_cons_succ]
      refine wpAnyH_takeD 1 (some 75) (.int .i64 (k : Int)) rfl rfl (by kernel_rfl) (by kernel_rfl) (by kernel_rfl) (fun _ _ _ h => h) (Or.inl ⟨by rfl, fun w hSw => by obtain ⟨q1, q2⟩ := hSw; go_simp⟩) hS ?_
      simp only [Act.put, List.setIfInBounds_toArray, List.set_cons_zero, List.set_cons_succ]
      refine wpAnyH_takeD 2 (some 76) (.pointer (some ⟨gu, k, none⟩)) rfl rfl (by kernel_rfl) (by kernel_rfl) (by kernel_rfl) (fun _ _ _ h => h) (Or.inl ⟨by rfl, fun w hSw => by obtain ⟨q1, q2⟩ := hSw; go_simp⟩) hS ?_
      simp only [Act.put, List.setIfInBounds_toArray, List.set_cons_zero, List.set_cons_succ]
      refine wpAnyH_takeD 3 (some 77) (.slice (some ⟨g, 0, none⟩) ln c') rfl rfl (by kernel_rfl) (by kernel_rfl) (by kernel_rfl) (fun _ _ _ h => h) (Or.inl ⟨by rfl, fun w hSw => by obtain ⟨q1, q2⟩ := hSw; go_simp⟩) hS ?_
      simp only [Act.put, List.setIfInBounds_toArray, List.set_cons_zero, List.set_cons_succ]
      refine wpAnyH_takeD 4 (some 78) (.int .i64 (j : Int)) rfl rfl (by kernel_rfl) (by kernel_rfl) (by kernel_rfl) (fun _ _ _ h => h) (Or.inl ⟨by rfl, fun w hSw => by obtain ⟨q1, q2⟩ := hSw; go_simp⟩) hS ?_
      simp only [Act.put, List.setIfInBounds_toArray, List.set_cons_zero, List.set_cons_succ]
      refine wpAnyH_takeD 5 (some 79) (.pointer (some ⟨g, j, none⟩)) rfl rfl (by kernel_rfl) (by kernel_rfl) (by kernel_rfl) (fun _ _ _ h => h) (Or.inl ⟨by rfl, fun w hSw => by obtain ⟨q1, q2⟩ := hSw; go_simp⟩) hS ?_
      simp only [Act.put, List.setIfInBounds_toArray, List.set_cons_zero, List.set_cons_succ]
      refine wpAnyH_takeD 6 (some 80) (.string mk) rfl rfl (by kernel_rfl) (by kernel_rfl) (by kernel_rfl) (fun _ _ _ h => h) (Or.inl ⟨by rfl, fun w hSw => by obtain ⟨q1, q2⟩ := hSw; go_simp⟩) hS ?_
      simp only [Act.put, List.setIfInBounds_toArray, List.set_cons_zero, List.set_cons_succ]
      refine wpAnyH_takeD 7 (some 81) (.int .i64 (k : Int)) rfl rfl (by kernel_rfl) (by kernel_rfl) (by kernel_rfl) (fun _ _ _ h => h) (Or.inl ⟨by rfl, fun w hSw => by obtain ⟨q1, q2⟩ := hSw; go_simp⟩) hS ?_
      simp only [Act.put, List.setIfInBounds_toArray, List.set_cons_zero, List.set_cons_succ]
      refine wpAnyH_takeD 8 (some 82) (.int .u8 (k : Int)) rfl rfl (by kernel_rfl) (by kernel_rfl) (by kernel_rfl) (fun _ _ _ h => h) (Or.inl ⟨by rfl, fun w hSw => by obtain ⟨q1, q2⟩ := hSw; go_simp⟩) hS ?_
      simp only [Act.put, List.setIfInBounds_toArray, List.set_cons_zero, List.set_cons_succ]
      refine wpAnyH_ready (rs := [9]) (by kernel_rfl) (by simp) ?_
      refine AllReadyH.cons rfl (fun K hK => ?_) AllReadyH.nil
      simp only [List.getElem_toArray, List.getElem_cons_succ, List.getElem_cons_zero]
      go_simp
      refine hK.out _ _ cla (fun hS => ?_)
      clear hK K
      refine wpAnyH_ready (rs := [10]) (by kernel_rfl) (by simp) ?_
      refine AllReadyH.cons rfl (fun K hK => ?_) AllReadyH.nil
      simp only [List.getElem_toArray, List.getElem_cons_succ, List.getElem_cons_zero]
      go_simp
      refine hK.out _ _ cla (fun hS => ?_)
      clear hK K
      refine wpAnyH_takeD 11 (some 85) (.string mk) rfl rfl (by kernel_rfl) (by kernel_rfl) (by kernel_rfl) (fun _ _ _ h => h) (Or.inl ⟨by rfl, fun w hSw => by obtain ⟨q1, q2⟩ := hSw; go_simp⟩) hS ?_
      simp only [Act.put, List.setIfInBounds_toArray, List.set_cons_zero, List.set_cons_succ]
      refine wpAnyH_takeD 12 (some 86) (.bool false) rfl rfl (by kernel_rfl) (by kernel_rfl) (by kernel_rfl) (fun _ _ _ h => h) (Or.inl ⟨by rfl, fun w hSw => by obtain ⟨q1, q2⟩ := hSw; go_simp⟩) hS ?_
      simp only [Act.put, List.setIfInBounds_toArray, List.set_cons_zero, List.set_cons_succ]
      refine wpAnyH_done (by kernel_rfl) ?_ _
      clear hS clk cla hcvt cjc
      go_wp2
      go_roundw
      case rel => exact ⟨j + 1, by omega, by go_num, (unhide HRR).1, (unhide HRR).2⟩
      case measure => simp [intOf] <;> omega
    have hjn' : ¬ (j : Int) < (ln : Int) := by omega
    have HRR := hide (And.intro hRR hB)
    clear hRR hB hvk
    go_wp2
    go_roundw
    case rel => exact ⟨k + 1, by omega, by go_num, (unhide HRR).1, (unhide HRR).2⟩
    case measure => simp [intOf] <;> omega
  have hkn' : ¬ (k : Int) < (mm : Int) := by omega
  have HF := hide (hB)
  clear hRR hB X8
  go_wp2
  go_ret
  exact ⟨rfl, unhide HF⟩
end Go.Proofs.YtolblldpdgfkmaaDoor
