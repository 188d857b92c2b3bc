import Derived.Test.YtnfdedolgfcmfaaGreatDoorMrc00
namespace Go.Proofs.YtnfdedolgfcmfaaGreatDoor
open Go.RowKit

/-- The table of the program: block 0. -/
def KTab (w : World) : Prop := 2 < w.heap.size ∧ ∀ j, j < 64 → w.cell? ⟨2, j, none⟩ = some (.int .u32 (kWords.getD j 0))
theorem KTab.below {w w' : World} {B : Nat} (h : KTab w) (hb : Below B w w') (hB : 2 < B) : KTab w' :=
  ⟨Nat.lt_of_lt_of_le h.1 hb.size, fun j hj => by rw [hb.cell (p := ⟨2, j, none⟩) hB]; exact h.2 j hj⟩

def MixInv (w : World) (m : Nat) (l z : List Int) (wr : World) : Prop :=
  Arr wr w.heap.size 0 .u32 l ∧ Arr wr (w.heap.size + 1 + 1) 0 .u32 (List.replicate 8 0) ∧ Arr wr m 0 .u32 z ∧ Below w.heap.size w wr ∧ w.heap.size + 1 + 1 < m ∧ m < wr.heap.size

theorem MixInv.drewN {w : World} {m : Nat} {l z : List Int} {wr : World} (h : MixInv w m l z wr) (n : Nat) : MixInv w m l z (wr.drewN n) :=
  ⟨h.1, h.2.1, h.2.2.1, below_drewN h.2.2.2.1 n, h.2.2.2.2.1, h.2.2.2.2.2⟩
theorem ktab_drewN {w : World} (h : KTab w) (n : Nat) : KTab (w.drewN n) := h
theorem max_u32 : (if IntKind.u32.signed = true then (-1 : Int) else (IntKind.u32.max : Int)) = 4294967295 := by decide
theorem MixInv.drew {w : World} {m : Nat} {l z : List Int} {wr : World} (h : MixInv w m l z wr) : MixInv w m l z wr.drew :=
  ⟨h.1, h.2.1, h.2.2.1, h.2.2.2.1.drew, h.2.2.2.2.1, h.2.2.2.2.2⟩
theorem MixInv.put {w : World} {m : Nat} {l l' z : List Int} {wr : World} (h : MixInv w m l z wr) (t : Nat) (ht : t < l.length) (v : Int) (e : l.set t v = l') : MixInv w m l' z (wr.setCell ⟨w.heap.size, t, none⟩ (.int .u32 v)) := by
  subst e
  exact ⟨h.1.set0 t ht v, h.2.1.other _ _ (.inl (by simp; omega)), h.2.2.1.other _ _ (.inl (by have := h.2.2.2.2.1; simp; omega)), h.2.2.2.1.setCell (by simp) _, h.2.2.2.2.1, by simpa using h.2.2.2.2.2⟩
theorem MixInv.next {w : World} {m : Nat} {l z : List Int} {wr : World} (h : MixInv w m l z wr) (x : H8) : MixInv w wr.heap.size l x.vals (wr.alloc (Obj.cells #[.int .u32 x.a, .int .u32 x.b, .int .u32 x.c, .int .u32 x.d, .int .u32 x.e, .int .u32 x.f, .int .u32 x.g, .int .u32 x.h] 243)) := by
  have h1 := h.2.2.2.2.1
  have h2 := h.2.2.2.2.2
  exact ⟨h.1.alloc (by omega) _, h.2.1.alloc (by omega) _, arr_new wr .u32 x.vals 243 _ rfl, h.2.2.2.1.alloc (by omega) _, by omega, by simp⟩
theorem mix_start (w w1 W2 : World) (ws p l : List Int) (c : Array Value) (B : Nat) (hc : c = ((List.replicate 8 (0 : Int)).map (Value.int .u32)).toArray) (z : Array Value) (hz : z = ((List.replicate 64 (0 : Int)).map (Value.int .u32)).toArray)
    (hl : l.length = 64) (hK : KTab w) (hB : B = w.heap.size + 1 + 1 + 1)
    (hb : Below B (((w.alloc (Obj.cells (ws.map (Value.int .u32)).toArray 243)).alloc (Obj.cells (p.map (Value.int .u8)).toArray 272)).alloc (Obj.cells c 243)) w1)
    (hW : W2 = (w1.alloc (Obj.cells z 245)).setCells w1.heap.size 0 (l.map (Value.int .u32))) : MixInv w w1.heap.size ws l W2 ∧ KTab W2 := by
  subst hW hB
  have h0 : Arr (((w.alloc (Obj.cells (ws.map (Value.int .u32)).toArray 243)).alloc (Obj.cells (p.map (Value.int .u8)).toArray 272)).alloc (Obj.cells c 243)) w.heap.size 0 .u32 ws :=
    ((arr_new w .u32 ws 243 _ rfl).alloc (by simp) _).alloc (by simp; omega) _
  have h2 : Arr (((w.alloc (Obj.cells (ws.map (Value.int .u32)).toArray 243)).alloc (Obj.cells (p.map (Value.int .u8)).toArray 272)).alloc (Obj.cells c 243)) (w.heap.size + 1 + 1) 0 .u32 (List.replicate 8 0) := by
    have := arr_new ((w.alloc (Obj.cells (ws.map (Value.int .u32)).toArray 243)).alloc (Obj.cells (p.map (Value.int .u8)).toArray 272)) .u32 (List.replicate 8 0) 243 c hc
    simpa using this
  have hs := hb.size
  simp only [World.size_alloc] at hs
  have hbw : Below w.heap.size w ((w1.alloc (Obj.cells z 245)).setCells w1.heap.size 0 (l.map (Value.int .u32))) :=
    below_setCells (by omega) _ _ ((((((Below.refl _ w).alloc (Nat.le_refl _) _).alloc (by simp) _).alloc (by simp; omega) _).trans (hb.mono (by omega))).alloc (by omega) _)
  refine ⟨⟨((h0.below hb (by omega)).alloc (by omega) _).setCells_apart _ _ _ (.inl (by omega)), ((h2.below hb (by omega)).alloc (by omega) _).setCells_apart _ _ _ (.inl (by omega)), ?_, hbw, by omega, ?_⟩, hK.below hbw hK.1⟩
  · exact (arr_new w1 .u32 (List.replicate 64 0) 245 z hz).setCells l (by simp [hl])
  · rw [size_setCells]; simp

set_option maxRecDepth 100000 in
set_option maxHeartbeats 400000 in
theorem mixed_any (s : H8) (p : List Int) (hp : p.length = 64) (hb : Bytes p) (w : World) (hK : KTab w) :
    Calls Tryz.prog 186 #[.agg (s.vals.map (Value.int .u32)).toArray, .agg (p.map (Value.int .u8)).toArray] w fun e w' => e = .returned (.agg ((comp s p).vals.map (Value.int .u32)).toArray) ∧ Below w.heap.size w w' := by
  have HK := hide hK
  clear hK
  have HR := hide (fun A C => by
    have := ((arr_new (w.alloc A) .u8 p 272 _ rfl).alloc (by simp) C).range
    simpa using this : ∀ A C, (((w.alloc A).alloc (Obj.cells (p.map (Value.int .u8)).toArray 272)).alloc C).rangeAt (w.heap.size + 1) 0 (p.map (Value.int .u8)))
  have HN := hide (fun w1 => by
    have := (arr_new w1 .u32 (List.replicate 64 0) 245 _ rfl).there
    simpa [spr_len] using this : ∀ w1 : World, (w1.alloc (Obj.cells ((List.replicate 64 (0 : Int)).map (Value.int .u32)).toArray 245)).there w1.heap.size 0 ((spr p 64).map (Value.int .u32)).toArray.size)
  have HH := hide hb
  clear hb
  go_enter Tryz.func186, Tryz.ntmps186
  go_wp2_with (first
    | (refine wpList_load_mid rfl 272 (.tmp 3) rfl (w.heap.size + 1) 0 rfl _ _ (unhide HR _ _) Tryz.underlying272 rfl (by rw [size272, List.length_map, hp]) ?_)
    | (go_at_call 191; refine (spread_any p hp (unhide HH) _).mono ?_; rintro e w1 ⟨rfl, hb1⟩)
    | (refine wpList_store_to rfl 245 (.tmp 5) (.tmp 20) rfl w1.heap.size 0 _ rfl rfl (unhide HN w1) (by rw [size245]; simp [spr_len]) (one_ints _ _) ?_; intro W2 hW2; have HW2 := hide hW2; have HB1 := hide hb1; clear hW2 hb1))
  have hm := mix_start w w1 W2 s.vals p (spr p 64) _ _ rfl _ rfl (spr_len p 64) (unhide HK) (by simp) (unhide HB1) (unhide HW2)
  clear HW2 HB1 HN HR HK HH
  obtain ⟨hM, hK⟩ := hm
  have hsz := hM.2.2.2.2.1
  generalize w1.heap.size = m at *
  have c0 : W2.cell? ⟨w.heap.size, 0, none⟩ = some (.int .u32 s.a) := hM.1.get0 0 (by simp [H8.vals])
  have c1 : W2.cell? ⟨w.heap.size, 1, none⟩ = some (.int .u32 s.b) := hM.1.get0 1 (by simp [H8.vals])
  have c2 : W2.cell? ⟨w.heap.size, 2, none⟩ = some (.int .u32 s.c) := hM.1.get0 2 (by simp [H8.vals])
  have c3 : W2.cell? ⟨w.heap.size, 3, none⟩ = some (.int .u32 s.d) := hM.1.get0 3 (by simp [H8.vals])
  have c4 : W2.cell? ⟨w.heap.size, 4, none⟩ = some (.int .u32 s.e) := hM.1.get0 4 (by simp [H8.vals])
  have c5 : W2.cell? ⟨w.heap.size, 5, none⟩ = some (.int .u32 s.f) := hM.1.get0 5 (by simp [H8.vals])
  have c6 : W2.cell? ⟨w.heap.size, 6, none⟩ = some (.int .u32 s.g) := hM.1.get0 6 (by simp [H8.vals])
  have c7 : W2.cell? ⟨w.heap.size, 7, none⟩ = some (.int .u32 s.h) := hM.1.get0 7 (by simp [H8.vals])
  have HM := hide hM
  have HK := hide hK
  clear hM hK
  go_quiet (fail)
  go_wp2
  go_quiet (fail)
  go_wp2
  clear c0 c1 c2 c3 c4 c5 c6 c7
  go_loopw [37, 6, 7, 8, 9, 10, 11, 12, 13] (fun i a b c d e f g h wr => ∃ t : Nat, t ≤ 64 ∧ i = .int .i64 t ∧ ∃ x : H8, x = rnds s kWords (spr p 64) t ∧ a = .int .u32 x.a ∧ b = .int .u32 x.b ∧ c = .int .u32 x.c ∧ d = .int .u32 x.d ∧ e = .int .u32 x.e ∧ f = .int .u32 x.f ∧ g = .int .u32 x.g ∧ h = .int .u32 x.h ∧ MixInv w m s.vals (spr p 64) wr ∧ KTab wr) (fun i _ _ _ _ _ _ _ _ _ => 64 - (intOf i).toNat)
  case atStart => exact ⟨0, by omega, rfl, s, rfl, rfl, rfl, rfl, rfl, rfl, rfl, rfl, rfl, ((unhide HM).drewN _).drewN _, ktab_drewN (ktab_drewN (unhide HK) _) _⟩
  case round =>
    clear HM HK
    obtain ⟨t, ht, rfl, x, hx, rfl, rfl, rfl, rfl, rfl, rfl, rfl, rfl, hM, hK⟩ := hrel
    by_cases htl : t < 64
    · have ck := hK.2 t htl
      have cs := hM.2.2.1.get0 t (by rw [spr_len]; exact htl)
      obtain ⟨kt, hkt⟩ : ∃ z, z = kWords.getD t 0 := ⟨_, rfl⟩
      obtain ⟨st, hst⟩ : ∃ z, z = (spr p 64).getD t 0 := ⟨_, rfl⟩
      rw [← hkt] at ck
      rw [← hst] at cs
      have hr : rnds s kWords (spr p 64) (t + 1) = rnd x kt st := by rw [rnds, ← hx, hkt, hst]
      have HR := hide hr
      have HM := hide hM
      have HK := hide hK
      clear hr hM hK hx hkt hst
      obtain ⟨xa, xb, xc, xd, xe, xf, xg, xh⟩ := x
      go_wp2
      go_quiet ((go_at_call 192; exact Calls.quiet_of_same (hturned_any _ _ _ (by decide) (by decide))))
      go_wp2_with (go_at_call 192; refine (hturned_any _ _ _ (by decide) (by decide)).mono ?_; rintro e w' ⟨rfl, rfl⟩)
      go_roundw
      case rel =>
        refine ⟨t + 1, by omega, by go_num, rnd ⟨xa, xb, xc, xd, xe, xf, xg, xh⟩ kt st, (unhide HR).symm, congrArg (Value.int .u32) ?_, rfl, rfl, rfl, congrArg (Value.int .u32) ?_, rfl, rfl, rfl, (unhide HM).drewN _, ktab_drewN (unhide HK) _⟩
        · simp only [rnd, bigS1, bigS0, chv, majv, xr, nd, ad, max_u32]; omega
        · simp only [rnd, bigS1, chv, xr, nd, ad, max_u32]; omega
      case measure => simp [intOf]; omega
    · have e64 : t = 64 := by omega
      have HM := hide hM
      have HX := hide (show x = rnds s kWords (spr p 64) 64 by rw [hx, e64])
      clear hM hx e64 hK
      go_wp2
      go_loopw [109] (fun i wq => ∃ j : Nat, j ≤ 8 ∧ i = .int .i64 j ∧ MixInv w wr.heap.size ((List.zipWith ad s.vals x.vals).take j ++ s.vals.drop j) x.vals wq) (fun i _ => 8 - (intOf i).toNat)
      case atStart => exact ⟨0, by omega, rfl, by simpa using (unhide HM).next x⟩
      case round =>
        clear HM
        obtain ⟨j, hj, rfl, hM⟩ := hrel
        by_cases hjl : j < 8
        · have hlz : (List.zipWith ad s.vals x.vals).length = 8 := by simp [H8.vals]
          have hls : s.vals.length = 8 := by simp [H8.vals]
          have hlx : x.vals.length = 8 := by simp [H8.vals]
          have hll : ((List.zipWith ad s.vals x.vals).take j ++ s.vals.drop j).length = 8 := by simp [hls, hlx]; omega
          have c1 := hM.1.get0 j (by omega)
          have f1 := hM.1.free0 j (by omega)
          have c2 := hM.2.2.1.get0 j (by omega)
          rw [getD_take_drop _ _ _ (by omega)] at c1
          have hz : (List.zipWith ad s.vals x.vals).getD j 0 = ad (s.vals.getD j 0) (x.vals.getD j 0) := by
            simp [hls, hlx, hjl]
          have HE := hide (take_set (List.zipWith ad s.vals x.vals) s.vals j _ (by omega) (by omega) rfl)
          rw [hz] at HE
          obtain ⟨y1, h1⟩ : ∃ z, z = s.vals.getD j 0 := ⟨_, rfl⟩
          obtain ⟨y2, h2⟩ : ∃ z, z = x.vals.getD j 0 := ⟨_, rfl⟩
          rw [← h1] at c1
          rw [← h2] at c2
          rw [← h1, ← h2] at HE
          have HM := hide hM
          have HL := hide hll
          clear hM hz h1 h2 hlz hls hlx hll
          go_wp2
          go_region
          go_wp2
          go_roundw
          case rel => exact ⟨j + 1, by omega, by go_num, (((unhide HM).put j (by rw [unhide HL]; exact hjl) _ (unhide HE))).drew⟩
          case measure => simp [intOf]; omega
        · have e8 : j = 8 := by omega
          rw [e8] at hM
          have hfin : (List.zipWith ad s.vals x.vals).take 8 ++ s.vals.drop 8 = (comp s p).vals := by
            rw [comp, ← unhide HX, add8_vals]; simp [H8.vals]
          rw [hfin] at hM
          clear e8 hfin
          have hr := hide hM.1.range
          have ht := hide hM.2.1.there
          have HB := hide hM.2.2.2.1
          clear hM
          go_wp2_with (first
            | (refine wpList_load_mid rfl 243 (.tmp 2) rfl w.heap.size 0 rfl _ _ (unhide hr) Tryz.underlying243 rfl (by rw [size243]; simp [H8.vals]) ?_)
            | (refine wpList_store_mid rfl 243 (.tmp 4) (.tmp 121) rfl (w.heap.size + 1 + 1) 0 _ rfl rfl (by simpa [H8.vals] using unhide ht) (by rw [size243]; simp [H8.vals]) (one_ints _ _) ?_))
          have hld := run_loadVar_mid (P := Tryz.prog) _ (w.heap.size + 1 + 1) 0 243 _ _ (World.rangeAt_setCells_same wr (w.heap.size + 1 + 1) 0 ((comp s p).vals.map (Value.int .u32)) (by simpa [H8.vals] using unhide ht)) Tryz.underlying243 rfl (by rw [size243]; simp [H8.vals])
          refine bodyPost_ret (v := .agg ((comp s p).vals.map (Value.int .u32)).toArray) ?_ rfl ⟨rfl, below_setCells (by omega) _ _ (unhide HB)⟩
          exact results_cell rfl _ _ _ ⟨w.heap.size + 1 + 1, 0, none⟩ rfl _ hld
end Go.Proofs.YtnfdedolgfcmfaaGreatDoor
