import Derived.Test.YtkmgbicacbalfaaLwl
namespace Go.Proofs.Ytkmgbicacbalfaa
open Go.RowKit
theorem blk_at {w : World} {n : Nat} (h : w.heap.size = n) (T : TypeId) (cur : Array Value) : Blk (w.alloc (.cells cur T)) n cur T := h ▸ Blk.new w T cur
theorem Sw.start : Sw [] 0 ⟨#[]⟩ := ⟨fun _ => rfl, fun q => absurd rfl q⟩
theorem nilFp (b k : Nat) (h : k ≠ b) : ¬ Fp b (.slice none 0 0) k := fun q => by
  rcases q with q | q
  · exact h q
  · cases q
theorem PInv.start {w x1 x2 : World} (R1 : Wtr x1 w.heap.size w.heap.size (.slice none 0 0) [] 0) (B1 : Below w.heap.size w x1) (hz1 : x1.heap.size = w.heap.size + 1) (R2 : Wtr x2 (w.heap.size + 1) (w.heap.size + 1) (.slice none 0 0) [] 0) (B2 : Below (w.heap.size + 1) x1 x2) (hz2 : x2.heap.size = w.heap.size + 1 + 1) (x3 : World)
    (hx3 : (((((x2.alloc (Obj.cells #[.string ⟨#[]⟩, .int .i64 0] 36)).alloc (Obj.cells #[.string ⟨#[]⟩, .int .i64 0] 36)).alloc (Obj.cells #[.int .i64 5, .int .i64 0, .slice none 0 0, .string ⟨#[]⟩] 39)).alloc (Obj.cells #[.int .i64 258] 3)).alloc (Obj.cells #[.int .i64 1, .int .i64 2, .slice (some ⟨w.heap.size + 1 + 1 + 1 + 1 + 1, 0, none⟩) 1 1, .string ⟨#[]⟩] 39)) = x3) :
    PInv w (fun k => k = w.heap.size + 1 + 1 + 1 + 1 ∨ k = w.heap.size + 1 + 1 + 1 + 1 + 1) w.heap.size (w.heap.size + 1 + 1) (w.heap.size + 1) (w.heap.size + 1 + 1 + 1) (w.heap.size + 1 + 1 + 1 + 1) 0 x3 ∧ Inl x3 (some ⟨w.heap.size + 1 + 1 + 1 + 1 + 1, 0, none⟩) [258] := by
  have hs3 : x3.heap.size = w.heap.size + 1 + 1 + 1 + 1 + 1 + 1 + 1 := by rw [← hx3]; simp [hz2]
  have b2 : Below w.heap.size w x2 := B1.trans (B2.mono (by omega))
  have b23 : Below x2.heap.size x2 x3 := by
    rw [← hx3]
    exact (((((Below.refl _ x2).alloc (Nat.le_refl _) _).alloc (by simp <;> omega) _).alloc (by simp <;> omega) _).alloc (by simp <;> omega) _).alloc (by simp <;> omega) _
  have b3 : Below w.heap.size w x3 := b2.trans (b23.mono b2.size)
  have t1 : Wtr x3 w.heap.size w.heap.size (.slice none 0 0) [] 0 := (R1.only (Only.of_below (P := fun _ => False) (hz1 ▸ B2)) (fun _ _ q => q)).only (Only.of_below (P := fun _ => False) b23) (fun _ _ q => q)
  have t2 : Wtr x3 w.heap.size (w.heap.size + 1) (.slice none 0 0) [] 0 := by
    have := R2.only (Only.of_below (P := fun _ => False) b23) (fun _ _ q => q)
    exact ⟨this.1, World.ownsRow_nil _ _ _ _, by omega⟩
  have r1 : Rwt x3 (w.heap.size + 1 + 1) ⟨#[]⟩ 0 := by
    rw [← hx3]
    exact ((((blk_at hz2 _ _).alloc _).alloc _).alloc _).alloc _
  have r2 : Rwt x3 (w.heap.size + 1 + 1 + 1) ⟨#[]⟩ 0 := by
    rw [← hx3]
    exact (((blk_at (by simp [hz2]) _ _).alloc _).alloc _).alloc _
  have ol : Blk x3 (w.heap.size + 1 + 1 + 1 + 1) #[.int .i64 5, .int .i64 0, .slice none 0 0, .string ⟨#[]⟩] 39 := by
    rw [← hx3]
    exact ((blk_at (by simp [hz2]) _ _).alloc _).alloc _
  have il : Blk x3 (w.heap.size + 1 + 1 + 1 + 1 + 1) #[.int .i64 258] 3 := by
    rw [← hx3]
    exact (blk_at (by simp [hz2]) _ _).alloc _
  refine ⟨⟨.slice none 0 0, [], 0, ⟨#[]⟩, .slice none 0 0, [], 0, ⟨#[]⟩, ⟨⟨t1, r1, nilFp _ _ (by omega), by omega⟩, Sw.start, Nat.le_refl _, Nat.le_refl _⟩, ⟨⟨t2, r2, nilFp _ _ (by omega), by omega⟩, Sw.start, Nat.le_refl _, Nat.le_refl _⟩, fun k hk => nilFp _ _ (fun q => by
    rcases hk with hk | hk
    · omega
    · cases hk), nilFp _ _ (by omega), nilFp _ _ (by omega), by omega, by omega, fun k hk => ⟨by omega, nilFp _ _ (by omega), nilFp _ _ (by omega), by omega, by omega⟩, b3, .inl rfl, ol⟩, .inr ⟨_, 0, rfl, il.lt, fun j hj => ?_⟩⟩
  obtain rfl : j = 0 := by simpa using hj
  rw [Nat.zero_add, il.cell 0]
  rfl
set_option maxRecDepth 100000 in
set_option maxHeartbeats 8000000 in
theorem pwrites_walk (pa : Option Addr) (len cap : Nat) (hlen : len ≤ 1048576) (KD NN : Nat → Int) (PP : Nat → Option Addr) (LL : Nat → List Int) (CC : Nat → Nat) (TT : Nat → ByteArray) (w : World)
    (hcell : ∀ i, i < len → ∃ pb po, pa = some ⟨pb, po, none⟩ ∧ pb < w.heap.size ∧ w.cell? ⟨pb, po + i * 4, none⟩ = some (.int .i64 (KD i)) ∧ w.cell? ⟨pb, po + i * 4 + 1, none⟩ = some (.int .i64 (NN i)) ∧ w.cell? ⟨pb, po + i * 4 + 2, none⟩ = some (.slice (PP i) (LL i).length (CC i)) ∧ w.cell? ⟨pb, po + i * 4 + 3, none⟩ = some (.string (TT i)))
    (hlist : ∀ i, i < len → Inl w (PP i) (LL i) ∧ (∀ z ∈ LL i, z ≤ 9223372036854775807) ∧ (LL i).length ≤ 1048576 ∧ (TT i).size ≤ 1048576) :
    Calls Try.prog 6 #[.slice pa len cap] w fun e w' => e = .returned (.bool true) ∧ Below w.heap.size w w' := by
  have HC := hide hcell
  have HLS := hide hlist
  clear hcell hlist
  have HNW := hide (fun W => newWriter_any W)
  go_enter Try.func6, Try.ntmps6
  go_wp2_with fail
  refine (unhide HNW _).mono ?_
  rintro e x1 ⟨rfl, hR1, hB1, hz1⟩
  have R1 := hide hR1
  have B1 := hide hB1
  clear hR1 hB1
  go_wp2_with fail
  refine (unhide HNW _).mono ?_
  rintro e x2 ⟨rfl, hR2, hB2, hz2⟩
  rw [hz1] at hR2 hz2 hB2
  have R2 := hide hR2
  have B2 := hide hB2
  clear hR2 hB2 HNW
  obtain ⟨x3, hx3⟩ : ∃ x, (((((x2.alloc (Obj.cells #[.string ⟨#[]⟩, .int .i64 0] 36)).alloc (Obj.cells #[.string ⟨#[]⟩, .int .i64 0] 36)).alloc (Obj.cells #[.int .i64 5, .int .i64 0, .slice none 0 0, .string ⟨#[]⟩] 39)).alloc (Obj.cells #[.int .i64 258] 3)).alloc (Obj.cells #[.int .i64 1, .int .i64 2, .slice (some ⟨w.heap.size + 1 + 1 + 1 + 1 + 1, 0, none⟩) 1 1, .string ⟨#[]⟩] 39)) = x := ⟨_, rfl⟩
  have X3 := hide (PInv.start (unhide R1) (unhide B1) hz1 (unhide R2) (unhide B2) hz2 x3 hx3)
  replace hx3 := hide hx3
  clear R1 R2 B1 B2
  go_wp2_with fail
  rw [unhide hx3]
  refine (PInv.step (unhide X3).1 (by omega) 1 2 _ [258] 1 ⟨#[]⟩ (unhide X3).2 (by simp) (fun z hz => by simp at hz; omega) (fun _ k o q => by cases q; exact .inr (.inr rfl)) (by decide) 100 (by decide)).mono ?_
  rintro e x4 ⟨rfl, h4⟩
  have X4 := hide h4
  clear h4 X3 hx3
  go_wp2
  go_loopw [9, 10] (fun u i wr => ∃ j : Nat, j ≤ len ∧ u = .bool true ∧ i = .int .i64 (j : Int) ∧ PInv w (fun k => k = w.heap.size + 1 + 1 + 1 + 1 ∨ k = w.heap.size + 1 + 1 + 1 + 1 + 1) w.heap.size (w.heap.size + 1 + 1) (w.heap.size + 1) (w.heap.size + 1 + 1 + 1) (w.heap.size + 1 + 1 + 1 + 1) (100 + 10000000 * j) wr) (fun _ i _ => len - (intOf i).toNat)
  case atStart => exact ⟨0, by omega, rfl, rfl, unhide X4⟩
  case round =>
    obtain ⟨j, hj, rfl, rfl, hI⟩ := hrel
    obtain ⟨wo, rfl⟩ : ∃ wo, wo = wr := ⟨_, rfl⟩
    have Xwo := hide hI
    clear hI X4
    by_cases hjl : j < len
    · obtain ⟨pb, po, hpa, hpb, c0, c1, c2, c3⟩ := unhide HC j hjl
      obtain ⟨hI1, hI2, hI3, hI4⟩ := unhide HLS j hjl
      subst hpa
      rw [← (unhide Xwo).bel.cell (p := ⟨pb, po + j * 4, none⟩) hpb] at c0
      rw [← (unhide Xwo).bel.cell (p := ⟨pb, po + j * 4 + 1, none⟩) hpb] at c1
      rw [← (unhide Xwo).bel.cell (p := ⟨pb, po + j * 4 + 2, none⟩) hpb] at c2
      rw [← (unhide Xwo).bel.cell (p := ⟨pb, po + j * 4 + 3, none⟩) hpb] at c3
      have hpl : 0 < (LL j).length → ∀ k o, PP j = some ⟨k, o, none⟩ → k < w.heap.size := fun h0 k o q => by
        rcases hI1 with q' | ⟨lb, lo, e1, e2, _⟩
        · rw [q'] at h0; cases h0
        · rw [e1] at q; cases q; exact e2
      have H1 := hide ((hI1.below (unhide Xwo).bel hpl))
      have H2 := hide hI2
      have HPL := hide hpl
      clear hI1 hI2 hpl
      generalize KD j = kd at *
      generalize NN j = nn at *
      generalize PP j = pp at *
      generalize LL j = ll at *
      generalize CC j = cc at *
      generalize TT j = tt at *
      obtain ⟨n, hn⟩ : ∃ n, ll.length = n := ⟨_, rfl⟩
      have HN := hide hn
      rw [hn] at c2 hI3
      clear hn
      have hr : ((j : Int)).tmod 2 = ((j % 2 : Nat) : Int) := rfl
      by_cases hp2 : j % 2 = 0
      · rw [hp2] at hr
        clear hp2
        have HST := hide (PInv.step (unhide Xwo) (by omega) kd nn pp ll cc tt (unhide H1) (by rw [unhide HN]; omega) (unhide H2) (fun h0 k o q => .inl (unhide HPL h0 k o q)) (by omega) (100 + 10000000 * (j + 1)) (by rw [unhide HN]; omega))
        rw [unhide HN] at HST
        clear Xwo
        go_wp2_with fail
        refine (unhide HST).mono ?_
        rintro e x6 ⟨rfl, h6⟩
        have X6 := hide h6
        clear h6 c0 c1 c2 c3
        go_wp2
        go_roundw
        case rel => exact ⟨j + 1, by omega, rfl, by go_num, unhide X6⟩
        case measure => simp [intOf]; omega
      · rw [show j % 2 = 1 by omega] at hr
        clear hp2
        have HST := hide (PInv.step (unhide Xwo).swap (by omega) kd nn pp ll cc tt (unhide H1) (by rw [unhide HN]; omega) (unhide H2) (fun h0 k o q => .inl (unhide HPL h0 k o q)) (by omega) (100 + 10000000 * (j + 1)) (by rw [unhide HN]; omega))
        rw [unhide HN] at HST
        clear Xwo
        go_wp2_with fail
        refine (unhide HST).mono ?_
        rintro e x6 ⟨rfl, h6⟩
        have X6 := hide h6.swap
        clear h6 c0 c1 c2 c3
        go_wp2
        go_roundw
        case rel => exact ⟨j + 1, by omega, rfl, by go_num, unhide X6⟩
        case measure => simp [intOf]; omega
    · have hj' : j = len := by omega
      subst hj'
      have d0 : wo.cell? ⟨w.heap.size + 1 + 1 + 1 + 1, 0, none⟩ = some (.int .i64 5) := by rw [(unhide Xwo).last.cell 0]; rfl
      have d1 : wo.cell? ⟨w.heap.size + 1 + 1 + 1 + 1, 1, none⟩ = some (.int .i64 0) := by rw [(unhide Xwo).last.cell 1]; rfl
      have d2 : wo.cell? ⟨w.heap.size + 1 + 1 + 1 + 1, 2, none⟩ = some (.slice none 0 0) := by rw [(unhide Xwo).last.cell 2]; rfl
      have d3 : wo.cell? ⟨w.heap.size + 1 + 1 + 1 + 1, 3, none⟩ = some (.string ⟨#[]⟩) := by rw [(unhide Xwo).last.cell 3]; rfl
      have HSy7 := hide (PInv.step (unhide Xwo) (by omega) 5 0 none [] 0 ⟨#[]⟩ (.inl rfl) (by simp) (fun z hz => by cases hz) (fun h0 => by cases h0) (by decide) (100 + 10000000 * j + 9) (by show _ + (9 + 8 * 0 + 0) ≤ _; omega))
      rw [List.length_nil] at HSy7
      go_wp2_with fail
      refine (unhide HSy7).mono ?_
      rintro e y7 ⟨rfl, hy7⟩
      have Xy7 := hide hy7
      clear hy7 Xwo d0 d1 d2 d3 HSy7
      have f0 : y7.cell? ⟨w.heap.size + 1 + 1 + 1 + 1, 0, none⟩ = some (.int .i64 5) := by rw [(unhide Xy7).last.cell 0]; rfl
      have f1 : y7.cell? ⟨w.heap.size + 1 + 1 + 1 + 1, 1, none⟩ = some (.int .i64 0) := by rw [(unhide Xy7).last.cell 1]; rfl
      have f2 : y7.cell? ⟨w.heap.size + 1 + 1 + 1 + 1, 2, none⟩ = some (.slice none 0 0) := by rw [(unhide Xy7).last.cell 2]; rfl
      have f3 : y7.cell? ⟨w.heap.size + 1 + 1 + 1 + 1, 3, none⟩ = some (.string ⟨#[]⟩) := by rw [(unhide Xy7).last.cell 3]; rfl
      have HSy8 := hide (PInv.step (unhide Xy7).swap (by omega) 5 0 none [] 0 ⟨#[]⟩ (.inl rfl) (by simp) (fun z hz => by cases hz) (fun h0 => by cases h0) (by decide) (100 + 10000000 * j + 18) (by show _ + (9 + 8 * 0 + 0) ≤ _; omega))
      rw [List.length_nil] at HSy8
      go_wp2_with fail
      refine (unhide HSy8).mono ?_
      rintro e y8 ⟨rfl, hy8⟩
      have Xy8 := hide hy8.swap
      clear hy8 Xy7 f0 f1 f2 f3 HSy8
      have g0 : y8.cell? ⟨w.heap.size + 1 + 1 + 1 + 1, 0, none⟩ = some (.int .i64 5) := by rw [(unhide Xy8).last.cell 0]; rfl
      have g1 : y8.cell? ⟨w.heap.size + 1 + 1 + 1 + 1, 1, none⟩ = some (.int .i64 0) := by rw [(unhide Xy8).last.cell 1]; rfl
      have g2 : y8.cell? ⟨w.heap.size + 1 + 1 + 1 + 1, 2, none⟩ = some (.slice none 0 0) := by rw [(unhide Xy8).last.cell 2]; rfl
      have g3 : y8.cell? ⟨w.heap.size + 1 + 1 + 1 + 1, 3, none⟩ = some (.string ⟨#[]⟩) := by rw [(unhide Xy8).last.cell 3]; rfl
      have HSy9 := hide (PInv.step (unhide Xy8) (by omega) 5 0 none [] 0 ⟨#[]⟩ (.inl rfl) (by simp) (fun z hz => by cases hz) (fun h0 => by cases h0) (by decide) (100 + 10000000 * j + 27) (by show _ + (9 + 8 * 0 + 0) ≤ _; omega))
      rw [List.length_nil] at HSy9
      go_wp2_with fail
      refine (unhide HSy9).mono ?_
      rintro e y9 ⟨rfl, hy9⟩
      have Xy9 := hide hy9
      clear hy9 Xy8 g0 g1 g2 g3 HSy9
      go_wp2
      go_ret
      exact ⟨rfl, (unhide Xy9).bel⟩
end Go.Proofs.Ytkmgbicacbalfaa
