import Derived.Test.YtilhilglokblpaaDoorRpc
import Derived.Test.YtilhilglokblpaaDoorRks
import Derived.Test.YtilhilglokblpaaDoorRfl
import Derived.Test.YtilhilglokblpaaDoorKey
import Derived.Test.YtilhilglokblpaaDoorSum
namespace Go.Proofs.YtilhilglokblpaaDoor
open Go.RowKit
def SmInv (w : World) (hb kb b : Nat) (s : H8) (L : List Int) (wr : World) : Prop :=
  Arr wr hb 0 .u32 s.vals ∧ Arr wr kb 0 .u32 kWords ∧ Arr wr b 0 .u8 L ∧ Below w.heap.size w wr ∧ w.heap.size ≤ hb ∧ hb < kb ∧ kb < b ∧ b < wr.heap.size
theorem SmInv.below {w : World} {hb kb b : Nat} {s : H8} {L : List Int} {wr w' : World} (h : SmInv w hb kb b s L wr) (hx : Below wr.heap.size wr w') : SmInv w hb kb b s L w' := by
  obtain ⟨h1, h2, h3, h4, h5, h6, h7, h8⟩ := h
  exact ⟨h1.below hx (by omega), h2.below hx (by omega), h3.below hx h8, h4.trans (hx.mono h4.size), h5, h6, h7, by have := hx.size; omega⟩
theorem SmInv.drew {w : World} {hb kb b : Nat} {s : H8} {L : List Int} {wr : World} (h : SmInv w hb kb b s L wr) : SmInv w hb kb b s L wr.drew :=
  ⟨h.1, h.2.1, h.2.2.1, h.2.2.2.1.drew, h.2.2.2.2⟩
theorem SmInv.words {w : World} {hb kb b : Nat} {s : H8} {L : List Int} {wr : World} (h : SmInv w hb kb b s L wr) (s' : H8) : SmInv w hb kb b s' L (wr.setCells hb 0 (s'.vals.map (Value.int .u32))) := by
  obtain ⟨h1, h2, h3, h4, h5, h6, h7, h8⟩ := h
  exact ⟨h1.setCells _ (by simp [H8.vals]), h2.setCells_apart _ _ _ (.inl (by omega)), h3.setCells_apart _ _ _ (.inl (by omega)), below_setCells h5 _ _ h4, h5, h6, h7, by rw [size_setCells]; exact h8⟩
theorem padded_len (l : List Int) : (padded l).length % 64 = 0 := by
  rw [padded_eq]
  simp only [List.length_append, List.length_cons, List.length_nil, List.length_replicate, lenB_len]
  omega
theorem padded_bytes (l : List Int) (h : Bytes l) : Bytes (padded l) := by
  rw [padded_eq]
  exact bytes_append h (bytes_append (bytes_append (bytes_one 128 (by decide) (by decide)) (bytes_zeros _)) (lenB_bytes _))
set_option maxRecDepth 100000 in
set_option maxHeartbeats 1000000 in
theorem rsum_any (t : ByteArray) (ht : t.size + 100 ≤ 140737488355328) (w : World) :
    Calls Tryd.prog 32 #[.string t] w fun e w' => e = .returned (.string (strOfNums (sha (nums t)))) ∧ Below w.heap.size w w' := by
  have HN8 := hide (fun w1 : World => (arr_new w1 .u32 (List.replicate 8 0) 80 _ rfl))
  have HN64 := hide (fun w1 : World => (arr_new w1 .u32 (List.replicate 64 0) 82 _ rfl))
  go_enter Tryd.func32, Tryd.ntmps32
  go_wp2_with fail
  refine (starts_any w).mono ?_
  rintro e w1 ⟨rfl, hb1⟩
  have HB1 := hide hb1
  clear hb1
  go_wp2_with (refine wpList_store_to rfl 80 (.tmp 3) (.tmp 9) rfl w1.heap.size 0 (start8.vals.map (Value.int .u32)).toArray rfl rfl (unhide HN8 w1).there (by rw [size80]; simp [H8.vals]) (one_ints _ _) ?_; intro W1 hW1; have HW1 := hide hW1; clear hW1)
  obtain ⟨hA1, hbl1, hsz1⟩ : Arr W1 w1.heap.size 0 .u32 start8.vals ∧ Below w.heap.size w W1 ∧ W1.heap.size = w1.heap.size + 1 := by
    rw [unhide HW1]
    exact ⟨(unhide HN8 w1).setCells start8.vals (by simp [H8.vals]), below_setCells (unhide HB1).size _ _ ((unhide HB1).alloc (unhide HB1).size _), by rw [size_setCells]; simp⟩
  have HHB := hide (unhide HB1).size
  clear HW1 HN8 HB1
  have HA1 := hide hA1
  have HBL1 := hide hbl1
  have HSZ1 := hide hsz1
  clear hA1 hbl1 hsz1
  refine (ks_any W1).mono ?_
  rintro e w2 ⟨rfl, hb2⟩
  have HB2 := hide hb2
  clear hb2
  go_wp2_with (refine wpList_store_to rfl 82 (.tmp 4) (.tmp 10) rfl w2.heap.size 0 (kWords.map (Value.int .u32)).toArray rfl rfl (unhide HN64 w2).there (by rw [size82]; simp [klen]) (one_ints _ _) ?_; intro W2 hW2; have HW2 := hide hW2; clear hW2)
  obtain ⟨hA2, hK2, hbl2, hsz2⟩ : Arr W2 w1.heap.size 0 .u32 start8.vals ∧ Arr W2 w2.heap.size 0 .u32 kWords ∧ Below w.heap.size w W2 ∧ W2.heap.size = w2.heap.size + 1 := by
    rw [unhide HW2]
    have hs2 := (unhide HB2).size
    have hs1 := unhide HSZ1
    refine ⟨?_, (unhide HN64 w2).setCells kWords (by rw [klen]; simp), ?_, by rw [size_setCells]; simp⟩
    · exact (((unhide HA1).below (unhide HB2) (by omega)).alloc (by omega) _).setCells_apart _ _ _ (.inl (by omega))
    · have h1 := (unhide HBL1).trans ((unhide HB2).mono (unhide HBL1).size)
      exact below_setCells h1.size _ _ (h1.alloc h1.size _)
  have hhk : w1.heap.size < w2.heap.size := by have := unhide HSZ1; have := (unhide HB2).size; omega
  have HHK := hide hhk
  have HA2 := hide hA2
  have HK2 := hide hK2
  have HBL2 := hide hbl2
  have HSZ2 := hide hsz2
  clear hA2 hK2 hbl2 hsz2 HW2 HN64 HA1 HBL1 HSZ1 HB2 hhk
  refine (filled_ref t ht W2).mono ?_
  rintro e w3 ⟨b, cap, rfl, hB3, hb3⟩
  have HI0 : Hid (SmInv w w1.heap.size w2.heap.size b start8 (padded (nums t)) w3) := by
    have hs2 := unhide HSZ2
    have hk2 := unhide HHK
    have hb := hB3.1
    exact ⟨(unhide HA2).below hb3 (by omega), (unhide HK2).below hb3 (by omega), hB3.2.2.2.2.1, (unhide HBL2).trans (hb3.mono (unhide HBL2).size), unhide HHB, hk2, by omega, hB3.2.1⟩
  have hcap := hB3.2.2.1
  have hcm := hB3.2.2.2.1
  clear HA2 HK2 HBL2 HSZ2 hB3 hb3
  have hpl := padded_len (nums t)
  have HPB := hide (padded_bytes (nums t) (nums_bytes t))
  have HSHA : Hid (sha (nums t) = outBytes (comps start8 (padded (nums t)) ((padded (nums t)).length / 64))) := rfl
  generalize padded (nums t) = L at *
  generalize hbb : w1.heap.size = hb at *
  generalize hkk : w2.heap.size = kb at *
  clear hbb hkk
  generalize hnn : L.length = n at *
  have HN := hide hnn
  clear hnn
  have hnm : n ≤ maxLen := by omega
  rw [show maxLen = 9223372036854775807 from rfl] at hnm hcm
  go_wp2
  go_loopw [6] (fun i wr => ∃ c : Nat, 64 * c ≤ n ∧ i = .int .i64 (64 * (c : Int)) ∧ SmInv w hb kb b (comps start8 L c) L wr) (fun i _ => n - (intOf i).toNat)
  case atStart => exact ⟨0, by omega, rfl, unhide HI0⟩
  case round =>
    clear HI0
    obtain ⟨c, hc, rfl, hI⟩ := hrel
    by_cases hlt : 64 * c < n
    · have hI2 := hI.drew
      have r45 := hide hI2.1.range
      have hkbs : kb < wr.drew.heap.size := by have := hI2.2.2.2.2.2.2.1; have := hI2.2.2.2.2.2.2.2; omega
      have hbs : b < wr.drew.heap.size := hI2.2.2.2.2.2.2.2
      obtain ⟨p, hpp⟩ : ∃ p, p = (L.drop (64 * c)).take 64 := ⟨_, rfl⟩
      have hln := unhide HN
      have hn64 : 64 * c + 64 ≤ n := by omega
      have hp : p.length = 64 := by rw [hpp, List.length_take, List.length_drop]; omega
      have HBY : Hid (Bytes p) := by rw [hpp]; exact bytes_take (bytes_drop (unhide HPB) _) _
      have HK : Hid (∀ j, j < 64 → wr.drew.cell? ⟨kb, j, none⟩ = some (.int .u32 (kWords.getD j 0))) := fun j hj => hI2.2.1.get0 j (by rw [klen]; exact hj)
      have HPC : Hid (∀ j, j < 64 → wr.drew.cell? ⟨b, 64 * c + j, none⟩ = some (.int .u8 (p.getD j 0))) := fun j hj => by
        rw [hI2.2.2.1.get0 (64 * c + j) (by omega), hpp]
        simp only [List.getD_eq_getElem?_getD, List.getElem?_take, if_pos hj, List.getElem?_drop]
      have HCS : Hid (comps start8 L (c + 1) = comp (comps start8 L c) p) := by rw [hpp]; rfl
      have HI := hide hI2
      clear hI hI2 hpp hln
      generalize comps start8 L c = s at *
      have hsl : ∀ W : World, (Instr.sliceAt 67 (.slice (some ⟨b, 0, none⟩) n cap) (some (.int .i64 (64 * (c : Int)))) (some (.int .i64 (64 * (c : Int) + 64))) none).run Tryd.prog W = .ok (.slice (some ⟨b, 64 * c, none⟩) 64 (cap - 64 * c)) W := by
        intro W
        have e1 : (64 * (c : Int)).toNat = 64 * c := by omega
        have e2 : (64 * (c : Int) + 64).toNat = 64 * c + 64 := by omega
        have e3 : ¬ cap = 64 * c := by omega
        have e4 : 0 ≤ 64 * (c : Int) + 64 ∧ 64 * (c : Int) + 64 ≤ cap := by omega
        have e5 : 0 ≤ 64 * (c : Int) ∧ 64 * (c : Int) ≤ max (64 * (c : Int) + 64) 0 := by omega
        go_simp
        intro h
        omega
      have hwr : IntKind.i64.wrap (64 * (c : Int) + 64) = 64 * (c : Int) + 64 := by rw [IntKind.wrap_i64]; omega
      go_wp2_with fail
      refine wp_region_held_drew (S := fun _ => True) (by kernel_rfl) trivial ?_
      intro hS
      refine wpAnyH_takeD 1 (some 20) (.slice (some ⟨b, 0, none⟩) n cap) rfl rfl (by kernel_rfl) (by kernel_rfl) (by kernel_rfl) (fun _ _ _ h => h) (Or.inl ⟨by rfl, fun w hSw => by go_simp⟩) hS ?_
      simp only [Act.put, List.setIfInBounds_toArray, List.set_cons_zero, List.set_cons_succ]
      refine wpAnyH_takeD 2 (some 21) (.int .i64 (64 * (c : Int))) rfl rfl (by kernel_rfl) (by kernel_rfl) (by kernel_rfl) (fun _ _ _ h => h) (Or.inl ⟨by rfl, fun w hSw => by go_simp⟩) hS ?_
      simp only [Act.put, List.setIfInBounds_toArray, List.set_cons_zero, List.set_cons_succ]
      refine wpAnyH_takeD 3 (some 22) (.int .i64 (64 * (c : Int))) rfl rfl (by kernel_rfl) (by kernel_rfl) (by kernel_rfl) (fun _ _ _ h => h) (Or.inl ⟨by rfl, fun w hSw => by go_simp⟩) hS ?_
      simp only [Act.put, List.setIfInBounds_toArray, List.set_cons_zero, List.set_cons_succ]
      refine wpAnyH_takeD 4 (some 23) (.int .i64 (64 * (c : Int) + 64)) rfl rfl (by kernel_rfl) (by kernel_rfl) (by kernel_rfl) (fun _ _ _ h => h) (Or.inl ⟨by rfl, fun w hSw => by go_simp⟩) hS ?_
      simp only [Act.put, List.setIfInBounds_toArray, List.set_cons_zero, List.set_cons_succ]
      refine wpAnyH_takeD 5 (some 24) (.slice (some ⟨b, 64 * c, none⟩) 64 (cap - 64 * c)) rfl rfl (by kernel_rfl) (by kernel_rfl) (by kernel_rfl) (fun _ _ _ h => h) (Or.inl ⟨by rfl, fun w hSw => by go_simp⟩) hS ?_
      simp only [Act.put, List.setIfInBounds_toArray, List.set_cons_zero, List.set_cons_succ]
      refine wpAnyH_ready (rs := [0]) (by kernel_rfl) (by simp) ?_
      refine AllReadyH.cons rfl (fun K hK => ?_) AllReadyH.nil
      rw [if_pos (by rfl)]
      refine wp_load_mid 80 (.tmp 3) rfl hb 0 rfl _ _ (unhide r45) Tryd.underlying80 rfl (by rw [size80]; simp [H8.vals]) ?_
      refine hK.out (Act.put _ (some 19) _) _ hS (fun hS => ?_)
      simp only [Act.put, List.setIfInBounds_toArray, List.set_cons_zero, List.set_cons_succ]
      clear hK K
      refine wpAnyH_ready (rs := [6]) (by kernel_rfl) (by simp) ?_
      refine AllReadyH.cons rfl (fun K hK => ?_) AllReadyH.nil
      simp only [List.getElem_toArray, List.getElem_cons_succ, List.getElem_cons_zero]
      go_simp
      refine (piece_any s p hp (unhide HBY) kb b (64 * c) (cap - 64 * c) wr.drew hkbs hbs (unhide HK) (unhide HPC)).mono ?_
      rintro e w3 ⟨rfl, hb3⟩
      have hI3 := (unhide HI).below hb3
      have HI3 := hide (hI3.words (comp s p))
      have h3 := hide hI3.1.there
      refine hK.out _ _ trivial (fun hS => ?_)
      clear hK K hI3 HI hb3 r45 HK HPC
      refine wpAnyH_ready (rs := [7]) (by kernel_rfl) (by simp) ?_
      refine AllReadyH.cons rfl (fun K hK => ?_) AllReadyH.nil
      rw [if_pos (by rfl)]
      refine wp_store_mid 80 (.tmp 3) (.tmp 25) rfl hb 0 _ rfl rfl (by simpa [H8.vals] using unhide h3) (by rw [size80]; simp [H8.vals]) (one_ints _ _) ?_
      refine hK.out (Act.put _ none _) _ trivial (fun hS => ?_)
      clear hK K hS
      refine wpAnyH_done (by kernel_rfl) ?_ _
      simp only [Act.put]
      go_wp2
      go_roundw
      case rel => exact ⟨c + 1, by omega, by go_num, by rw [unhide HCS]; exact unhide HI3⟩
      case measure => simp [intOf]; omega
    · have hcc : c = n / 64 := by omega
      rw [hcc] at hI
      have hout := unhide HSHA
      generalize comps start8 L (n / 64) = s at *
      have HI := hide hI
      have hmk := fun W => run_make_u8 32 32 (by omega) (by omega) W
      simp only [Int.cast_ofNat_Int] at hmk
      clear hI hcc
      obtain ⟨wo, rfl⟩ : ∃ wo : World, wo = wr := ⟨_, rfl⟩
      go_wp2
      clear hmk
      go_loopw [8] (fun i wr => ∃ k : Nat, k ≤ 32 ∧ i = .int .i64 (k : Int) ∧ KeyInv wo ((outBytes s).take k ++ List.replicate (32 - k) 0) wr) (fun i _ => 32 - (intOf i).toNat)
      case atStart =>
        have h : KeyInv wo (List.replicate 32 0) _ := ⟨arr_new wo .u8 (List.replicate 32 0) 5 _ rfl, (Below.refl _ _).alloc (Nat.le_refl _) _, by simp⟩
        exact ⟨0, by omega, rfl, h⟩
      case round =>
        obtain ⟨k, hk, rfl, hJ⟩ := hrel
        have hbw : hb < wo.heap.size := by have := (unhide HI).2.2.2.2.2; omega
        have hlo := out_len s
        have hJl : ((outBytes s).take k ++ List.replicate (32 - k) (0 : Int)).length = 32 := by simp [hlo]; omega
        by_cases hlt2 : k < 32
        · have hcw := ((unhide HI).1.get0 (k / 4) (by simp [H8.vals]; omega))
          have hx := out_at s (k / 4) (k % 4) (by omega) (by omega)
          obtain ⟨x, hxx⟩ : ∃ x, x = s.vals.getD (k / 4) 0 := ⟨_, rfl⟩
          rw [← hxx] at hcw hx
          rw [← hJ.2.1.cell (p := ⟨hb, k / 4, none⟩) hbw] at hcw
          rw [show 4 * (k / 4) + k % 4 = k by omega] at hx
          have c1 := hJ.1.get0 k (by omega)
          have f1 := hJ.1.free0 k (by omega)
          obtain ⟨z, hz⟩ : ∃ z, z = ((outBytes s).take k ++ List.replicate (32 - k) (0 : Int)).getD k 0 := ⟨_, rfl⟩
          rw [← hz] at c1
          have hset := take_set (outBytes s) (List.replicate 32 0) k _ (by omega) (by simp; omega) rfl
          simp only [List.drop_replicate] at hset
          rw [hx] at hset
          have HJ := hide hJ
          have HJl := hide hJl
          have HSET := hide hset
          have e1 : ((k : Int) / 4).toNat = k / 4 := by omega
          have e2 : ((24 : Int) - 8 * ((k : Int) % 4)).toNat = 24 - 8 * (k % 4) := by omega
          have e3 : 0 ≤ (k : Int) / 4 ∧ (k : Int) / 4 < 8 := by omega
          clear hJ hz hset hJl hxx hx hlo hout
          go_wp2
          go_roundw
          case rel => exact ⟨k + 1, by omega, by go_num, (unhide HJ).put k (by rw [unhide HJl]; omega) _ (unhide HSET)⟩
          case measure => simp [intOf]; omega
        · have e32 : k = 32 := by omega
          rw [e32, List.take_of_length_le (by omega)] at hJ
          have hJ2 : KeyInv wo (outBytes s) wr := by simpa using hJ
          have hcv := run_convert_bytes_arg (P := Tryd.prog) wr 67 5 Tryd.underlying67 Tryd.underlying5 wo.heap.size 0 32 32 (outBytes s) hlo (fun i hi => hJ2.1.get i (by omega)) 9 Tryd.underlying9
          have HB := hide ((unhide HI).2.2.2.1.trans (hJ2.2.1.mono (unhide HI).2.2.2.1.size))
          clear hJ hJ2 hlo hJl e32
          go_wp2
          go_ret
          exact ⟨by rw [hout]; rfl, unhide HB⟩
end Go.Proofs.YtilhilglokblpaaDoor
