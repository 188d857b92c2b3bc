import Derived.Test.YtabgcgdpeikieaaDoorPdg
namespace Go.Proofs.YtabgcgdpeikieaaDoor
open Go.RowKit
set_option maxRecDepth 100000
/-- The places of a draw and a digest, and the error. -/
def plE (dr dg : ByteArray) : Int := if dr.size = 16 then (if dg.size = 32 then 0 else 1) else 131
def plO (dr dg : ByteArray) : List Nat := if dr.size = 16 ∧ dg.size = 32 then plR (plS (bts (dvS dr dg 32)) (bts (dvS dr dg 8160))) else []
theorem arr8_size (l : List Nat) : (arr8 l).size = 8 := by simp [arr8]
theorem arr8_one (l : List Nat) : (arr8 l).all (·.oneCell') = true := by simp [arr8, Value.oneCell']
theorem KTab.low {w w' : World} (h : KTab w) (hb : Below w.heap.size w w') : KTab w' := h.below hb h.1
set_option maxHeartbeats 4000000 in
theorem placesOf_any (dr dg : ByteArray) (w : World) (hK : KTab w) :
    Calls Tryd.prog 32 #[.string dr, .string dg] w fun e w' => e = .returned (.tuple #[.agg (arr8 (plO dr dg)), .int .i64 (plE dr dg)]) ∧ Below w.heap.size w w' := by
  obtain ⟨n, hn⟩ : ∃ n, w.heap.size = n := ⟨_, rfl⟩
  obtain ⟨y, hy⟩ : ∃ Z, ((w.alloc (.cells #[.string dr] 9)).alloc (.cells #[.string dg] 9)).alloc (.cells #[.int .i64 0, .int .i64 0, .int .i64 0, .int .i64 0, .int .i64 0, .int .i64 0, .int .i64 0, .int .i64 0] 78) = Z := ⟨_, rfl⟩
  have hall : Blk y n #[.string dr] 9 ∧ Blk y (n + 1) #[.string dg] 9 ∧ Blk y (n + 2) #[.int .i64 0, .int .i64 0, .int .i64 0, .int .i64 0, .int .i64 0, .int .i64 0, .int .i64 0, .int .i64 0] 78 ∧ Below n w y ∧ y.heap.size = n + 3 := by
    rw [← hy, ← hn]
    have b1 := ((Blk.new w 9 #[.string dr]).alloc (.cells #[.string dg] 9)).alloc (.cells #[.int .i64 0, .int .i64 0, .int .i64 0, .int .i64 0, .int .i64 0, .int .i64 0, .int .i64 0, .int .i64 0] 78)
    have b2 := (Blk.new (w.alloc (.cells #[.string dr] 9)) 9 #[.string dg]).alloc (.cells #[.int .i64 0, .int .i64 0, .int .i64 0, .int .i64 0, .int .i64 0, .int .i64 0, .int .i64 0, .int .i64 0] 78)
    have b3 := Blk.new ((w.alloc (.cells #[.string dr] 9)).alloc (.cells #[.string dg] 9)) 78 #[.int .i64 0, .int .i64 0, .int .i64 0, .int .i64 0, .int .i64 0, .int .i64 0, .int .i64 0, .int .i64 0]
    simp only [World.size_alloc] at b2 b3
    refine ⟨b1, b2, b3, ?_, by simp only [World.size_alloc]⟩
    exact (((Below.refl _ _).alloc (Nat.le_refl _) _).alloc (by simp only [World.size_alloc]; omega) _).alloc (by simp only [World.size_alloc]; omega) _
  obtain ⟨b1, b2, b3, lo, sz⟩ := hall
  have HKy := hide (hK.low (by rw [hn]; exact lo))
  have HB1 := hide b1
  have HB2 := hide b2
  have HB3 := hide b3
  have HLO := hide lo
  have HSZ := hide sz
  have c0 : y.cell? ⟨n, 0, none⟩ = some (.string dr) := by rw [b1.cell]; rfl
  have c1 : y.cell? ⟨n + 1, 0, none⟩ = some (.string dg) := by rw [b2.cell]; rfl
  clear b1 b2 b3 lo sz hK
  rw [hn]
  by_cases q1 : dr.size = 16
  · have i1 : (dr.size : Int) = 16 := by omega
    by_cases q2 : dg.size = 32
    · have i2 : (dg.size : Int) = 32 := by omega
      have HE := hide (show plE dr dg = 0 by simp [plE, q1, q2])
      have HO := hide (show plO dr dg = plR (plS (bts (dvS dr dg 32)) (bts (dvS dr dg 8160))) by simp [plO, q1, q2])
      have HC := hide (choose_any (unhide HB1) (unhide HB2) q1 q2 (unhide HKy))
      rw [← unhide HO] at HC
      obtain ⟨A, hA⟩ : ∃ A, arr8 (plO dr dg) = A := ⟨_, rfl⟩
      have HAS := hide (arr8_size (plO dr dg))
      have HA1 := hide (arr8_one (plO dr dg))
      rw [hA] at HC HAS HA1 ⊢
      clear q1 q2 hA HO
      go_enter Tryd.func32, Tryd.ntmps32
      go_wp2_with (first | (go_at_call 51; refine (unhide HC).mono ?_; rintro e z ⟨rfl, hb2⟩; have HZ3 := hide ((unhide HB3).below hb2 (by have := unhide HSZ; omega)); have HZL := hide ((unhide HLO).trans (hb2.mono (by have := unhide HSZ; omega))); clear hb2) | refine wpList_store_mid rfl 78 (.tmp 4) (.tmp 17) rfl (n + 2) 0 A rfl rfl (by rw [unhide HAS]; exact blk_there (unhide HZ3) 8 rfl) (by rw [sizePla, unhide HAS]) (unhide HA1) ?_)
      try simp only [Act.put]
      have hW : Blk (z.setCells (n + 2) 0 A.toList) (n + 2) A 78 := by
        have := setCells_all (unhide HZ3) A.toList (by rw [Array.length_toList, unhide HAS]; rfl)
        simpa using this
      refine bodyPost_ret (results_cell2 rfl _ _ _ ⟨n + 2, 0, none⟩ rfl _ (iload_blk _ _ hW Tryd.underlying78 rfl (by rw [sizePla, unhide HAS]))) rfl ?_
      exact ⟨by rw [unhide HE]; rfl, below_setCells (by omega) _ _ (unhide HZL)⟩
    · have i2 : ¬ ((dg.size : Int) = 32) := by omega
      have HE := hide (show plE dr dg = 1 by simp [plE, q1, q2])
      have HO := hide (show plO dr dg = [] by simp [plO, q2])
      clear q1 q2
      go_enter Tryd.func32, Tryd.ntmps32
      go_wp2_with (refine wpList_store_mid rfl 78 (.tmp 4) (.tmp 14) rfl (n + 2) 0 #[.int .i64 0, .int .i64 0, .int .i64 0, .int .i64 0, .int .i64 0, .int .i64 0, .int .i64 0, .int .i64 0] rfl rfl (blk_there (unhide HB3) 8 rfl) (by rw [sizePla]; rfl) (by simp [Value.oneCell']) ?_)
      try simp only [Act.put]
      have hW : Blk (y.setCells (n + 2) 0 (#[.int .i64 0, .int .i64 0, .int .i64 0, .int .i64 0, .int .i64 0, .int .i64 0, .int .i64 0, .int .i64 0] : Array Value).toList) (n + 2) #[.int .i64 0, .int .i64 0, .int .i64 0, .int .i64 0, .int .i64 0, .int .i64 0, .int .i64 0, .int .i64 0] 78 := by
        have := setCells_all (unhide HB3) (#[.int .i64 0, .int .i64 0, .int .i64 0, .int .i64 0, .int .i64 0, .int .i64 0, .int .i64 0, .int .i64 0] : Array Value).toList rfl
        simpa using this
      refine bodyPost_ret (results_cell2 rfl _ _ _ ⟨n + 2, 0, none⟩ rfl _ (iload_blk _ _ hW Tryd.underlying78 rfl (by rw [sizePla]; rfl))) rfl ?_
      exact ⟨by rw [unhide HE, unhide HO]; rfl, below_setCells (by omega) _ _ (unhide HLO)⟩
  · have i1 : ¬ ((dr.size : Int) = 16) := by omega
    have HE := hide (show plE dr dg = 131 by simp [plE, q1])
    have HO := hide (show plO dr dg = [] by simp [plO, q1])
    clear q1
    go_enter Tryd.func32, Tryd.ntmps32
    go_wp2_with (refine wpList_store_mid rfl 78 (.tmp 4) (.tmp 10) rfl (n + 2) 0 #[.int .i64 0, .int .i64 0, .int .i64 0, .int .i64 0, .int .i64 0, .int .i64 0, .int .i64 0, .int .i64 0] rfl rfl (blk_there (unhide HB3) 8 rfl) (by rw [sizePla]; rfl) (by simp [Value.oneCell']) ?_)
    try simp only [Act.put]
    have hW : Blk (y.setCells (n + 2) 0 (#[.int .i64 0, .int .i64 0, .int .i64 0, .int .i64 0, .int .i64 0, .int .i64 0, .int .i64 0, .int .i64 0] : Array Value).toList) (n + 2) #[.int .i64 0, .int .i64 0, .int .i64 0, .int .i64 0, .int .i64 0, .int .i64 0, .int .i64 0, .int .i64 0] 78 := by
      have := setCells_all (unhide HB3) (#[.int .i64 0, .int .i64 0, .int .i64 0, .int .i64 0, .int .i64 0, .int .i64 0, .int .i64 0, .int .i64 0] : Array Value).toList rfl
      simpa using this
    refine bodyPost_ret (results_cell2 rfl _ _ _ ⟨n + 2, 0, none⟩ rfl _ (iload_blk _ _ hW Tryd.underlying78 rfl (by rw [sizePla]; rfl))) rfl ?_
    exact ⟨by rw [unhide HE, unhide HO]; rfl, below_setCells (by omega) _ _ (unhide HLO)⟩
end Go.Proofs.YtabgcgdpeikieaaDoor
