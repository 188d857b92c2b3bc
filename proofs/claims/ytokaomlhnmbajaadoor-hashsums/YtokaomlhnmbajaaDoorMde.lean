import Derived.Test.YtokaomlhnmbajaaDoorRot
import Derived.Test.YtokaomlhnmbajaaDoorPrm
import Derived.Test.YtokaomlhnmbajaaDoorRsu
namespace Go.Proofs.YtokaomlhnmbajaaDoor
open Go.RowKit
def pr64 : List Int := [2, 3, 5, 7, 11, 13, 17, 19, 23, 29, 31, 37, 41, 43, 47, 53, 59, 61, 67, 71, 73, 79, 83, 89, 97, 101, 103, 107, 109, 113, 127, 131, 137, 139, 149, 151, 157, 163, 167, 173, 179, 181, 191, 193, 197, 199, 211, 223, 227, 229, 233, 239, 241, 251, 257, 263, 269, 271, 277, 281, 283, 293, 307, 311]
def rc64 : List Int := [5411319704, 6194414737, 7344290767, 8215976869, 9551921755, 10098905585, 11043570340, 11460697813, 12214315672, 13195500289, 13492127166, 14311783875, 14809980276, 15046980094, 15499789991, 16133124468, 16720292289, 16907126662, 17444216262, 17784676812, 17950125167, 18429019306, 18734950876, 19175934170, 19734090066, 20001703533, 20132865992, 20390182855, 20516441075, 20764397895, 21588763473, 21813078375, 22141143685, 22248366392, 22769593852, 22871018771, 23170020180, 23461497531, 23651862830, 23931792517, 24205322401, 24295138891, 24734567280, 24820601251, 24990902297, 25075189284, 25569408389, 26045227120, 26200031510, 26276752392, 26428864332, 26653801653, 26727943347, 27092625994, 27306805839, 27517677555, 27725365998, 27793908591, 27997534228, 28131656200, 28198240250, 28526537963, 28973835255, 29099129074]
def rs8 : List Int := [6074000999, 7439101573, 9603838834, 11363415354, 14244795007, 15485724812, 17708603819, 18721328409]
theorem prs_eq : prs 312 = pr64 := by decide +kernel
theorem cu_tab : ∀ i, i < 64 → 0 ≤ rc64.getD i 0 ∧ rc64.getD i 0 * rc64.getD i 0 * rc64.getD i 0 ≤ pr64.getD i 0 * 65536 ^ 6 ∧ pr64.getD i 0 * 65536 ^ 6 < (rc64.getD i 0 + 1) * (rc64.getD i 0 + 1) * (rc64.getD i 0 + 1) ∧ rc64.getD i 0 % 4294967296 = kWords.getD i 0 ∧ 0 ≤ pr64.getD i 0 ∧ pr64.getD i 0 < 65536 := by decide +kernel
theorem sq_tab : ∀ i, i < 8 → 0 ≤ rs8.getD i 0 ∧ rs8.getD i 0 * rs8.getD i 0 ≤ pr64.getD i 0 * 65536 ^ 4 ∧ pr64.getD i 0 * 65536 ^ 4 < (rs8.getD i 0 + 1) * (rs8.getD i 0 + 1) ∧ rs8.getD i 0 % 4294967296 = start8.vals.getD i 0 := by decide +kernel
theorem cu_le (r s M : Int) (hr : r * r * r ≤ M) (hs0 : 0 ≤ s) (hs : M < (s + 1) * (s + 1) * (s + 1)) : r ≤ s := by
  rcases Int.lt_or_le s r with h | h
  · have h1 : s + 1 ≤ r := by omega
    have h2 : (s + 1) * (s + 1) ≤ r * r := Int.mul_le_mul h1 h1 (by omega) (by omega)
    have h3 : (s + 1) * (s + 1) * (s + 1) ≤ r * r * r := Int.mul_le_mul h2 h1 (by omega) (Int.mul_nonneg (by omega) (by omega))
    omega
  · exact h
theorem sq_le (r s M : Int) (hr : r * r ≤ M) (hs0 : 0 ≤ s) (hs : M < (s + 1) * (s + 1)) : r ≤ s := by
  rcases Int.lt_or_le s r with h | h
  · have h1 : s + 1 ≤ r := by omega
    have h2 : (s + 1) * (s + 1) ≤ r * r := Int.mul_le_mul h1 h1 (by omega) (by omega)
    omega
  · exact h
theorem cu_word (i : Nat) (hi : i < 64) (r : Int) (h0 : 0 ≤ r) (h1 : r * r * r ≤ pr64.getD i 0 * 65536 ^ 6) (h2 : pr64.getD i 0 * 65536 ^ 6 < (r + 1) * (r + 1) * (r + 1)) : IntKind.u32.wrap r = kWords.getD i 0 := by
  obtain ⟨a, b, c, d, _⟩ := cu_tab i hi
  have e : r = rc64.getD i 0 := Int.le_antisymm (cu_le _ _ _ h1 a c) (cu_le _ _ _ b h0 h2)
  rw [e, ← d, IntKind.wrap_u32']
theorem sq_word (i : Nat) (hi : i < 8) (r : Int) (h0 : 0 ≤ r) (h1 : r * r ≤ pr64.getD i 0 * 65536 ^ 4) (h2 : pr64.getD i 0 * 65536 ^ 4 < (r + 1) * (r + 1)) : IntKind.u32.wrap r = start8.vals.getD i 0 := by
  obtain ⟨a, b, c, d⟩ := sq_tab i hi
  have e : r = rs8.getD i 0 := Int.le_antisymm (sq_le _ _ _ h1 a c) (sq_le _ _ _ b h0 h2)
  rw [e, ← d, IntKind.wrap_u32']
def MdInv (w : World) (hb kb lb : Nat) (wr : World) : Prop :=
  Arr wr hb 0 .u32 start8.vals ∧ Arr wr kb 0 .u32 kWords ∧ Arr wr lb 0 .i64 pr64 ∧ Below w.heap.size w wr ∧ hb < wr.heap.size ∧ kb < wr.heap.size ∧ lb < wr.heap.size
theorem MdInv.kw {w : World} {hb kb lb : Nat} {wr : World} (h : MdInv w hb kb lb wr) (i : Nat) (hi : i < 64) : wr.cell? ⟨kb, i, none⟩ = some (.int .u32 (kWords.getD i 0)) := h.2.1.get0 i (by rw [klen]; exact hi)
theorem MdInv.sw {w : World} {hb kb lb : Nat} {wr : World} (h : MdInv w hb kb lb wr) (i : Nat) (hi : i < 8) : wr.cell? ⟨hb, i, none⟩ = some (.int .u32 (start8.vals.getD i 0)) := h.1.get0 i (by simpa [H8.vals] using hi)
theorem MdInv.pr {w : World} {hb kb lb : Nat} {wr : World} (h : MdInv w hb kb lb wr) (i : Nat) (hi : i < 64) : wr.cell? ⟨lb, i, none⟩ = some (.int .i64 (pr64.getD i 0)) := h.2.2.1.get0 i (by rw [show pr64.length = 64 from rfl]; exact hi)
theorem MdInv.drew {w : World} {hb kb lb : Nat} {wr : World} (h : MdInv w hb kb lb wr) : MdInv w hb kb lb wr.drew := ⟨h.1, h.2.1, h.2.2.1, h.2.2.2.1.drew, h.2.2.2.2⟩
theorem MdInv.below {w : World} {hb kb lb : Nat} {wr w' : World} (h : MdInv w hb kb lb wr) (hx : Below wr.heap.size wr w') : MdInv w hb kb lb w' := by
  obtain ⟨h1, h2, h3, h4, h5, h6, h7⟩ := h
  have := hx.size
  exact ⟨h1.below hx h5, h2.below hx h6, h3.below hx h7, h4.trans (hx.mono h4.size), by omega, by omega, by omega⟩
set_option maxRecDepth 100000 in
set_option maxHeartbeats 1000000 in
theorem made_any (w : World) : Calls Tryd.prog 20 #[] w fun e w' => e = .returned (.bool true) ∧ Below w.heap.size w w' := by
  have HN8 := hide (fun w1 : World => (arr_new w1 .u32 (List.replicate 8 0) 45 _ rfl))
  have HN64 := hide (fun w1 : World => (arr_new w1 .u32 (List.replicate 64 0) 54 _ rfl))
  go_enter Tryd.func20, Tryd.ntmps20
  go_wp2_with fail
  refine (primes_any w).mono ?_
  rintro e w0 ⟨v0, rfl, hI0, hb0⟩
  rw [prs_eq] at hI0
  obtain ⟨lb, cap, rfl, hlb, hlbs, hA0⟩ := hI0.form (by decide)
  rw [show pr64.length = 64 from rfl]
  have HA0 := hide hA0
  have HB0 := hide hb0
  clear hI0 hA0 hb0
  go_wp2_with fail
  refine (starts_any w0).mono ?_
  rintro e w1 ⟨rfl, hb1⟩
  have HB1 := hide hb1
  clear hb1
  go_wp2_with (refine wpList_store_to rfl 45 (.tmp 2) (.tmp 6) rfl w1.heap.size 0 (start8.vals.map (Value.int .u32)).toArray rfl rfl (unhide HN8 w1).there (by rw [size45]; simp [H8.vals]) (one_ints _ _) ?_; intro W1 hW1; have HW1 := hide hW1; clear hW1)
  obtain ⟨hA1, hbl1, hsz1⟩ : Arr W1 w1.heap.size 0 .u32 start8.vals ∧ Below w0.heap.size w0 W1 ∧ W1.heap.size = w1.heap.size + 1 := by
    rw [unhide HW1]
    exact ⟨(unhide HN8 w1).setCells start8.vals (by simp [H8.vals]), below_setCells (unhide HB1).size _ _ ((unhide HB1).alloc (unhide HB1).size _), by rw [size_setCells]; simp⟩
  have HHB := hide (unhide HB1).size
  clear HW1 HN8 HB1
  have HA1 := hide hA1
  have HBL1 := hide hbl1
  have HSZ1 := hide hsz1
  clear hA1 hbl1 hsz1
  refine (ks_any W1).mono ?_
  rintro e w2 ⟨rfl, hb2⟩
  have HB2 := hide hb2
  clear hb2
  go_wp2_with (refine wpList_store_to rfl 54 (.tmp 3) (.tmp 7) rfl w2.heap.size 0 (kWords.map (Value.int .u32)).toArray rfl rfl (unhide HN64 w2).there (by rw [size54]; simp [klen]) (one_ints _ _) ?_; intro W2 hW2; have HW2 := hide hW2; clear hW2)
  have HI0 : Hid (MdInv w w1.heap.size w2.heap.size lb W2) := by
    have hs2 := (unhide HB2).size
    have hs1 := unhide HSZ1
    have hs0 := unhide HHB
    have h1 := (unhide HBL1).trans ((unhide HB2).mono (unhide HBL1).size)
    have h2 : Below w0.heap.size w0 W2 := by rw [unhide HW2]; exact below_setCells h1.size _ _ (h1.alloc h1.size _)
    have hz : W2.heap.size = w2.heap.size + 1 := by rw [unhide HW2, size_setCells]; simp
    refine ⟨?_, ?_, (unhide HA0).below h2 hlbs, (unhide HB0).trans (h2.mono (unhide HB0).size), by omega, by omega, by omega⟩
    · rw [unhide HW2]; exact (((unhide HA1).below (unhide HB2) (by omega)).alloc (by omega) _).setCells_apart _ _ _ (.inl (by omega))
    · rw [unhide HW2]; exact (unhide HN64 w2).setCells kWords (by rw [klen]; simp)
  clear HA0 HB0 HA1 HBL1 HSZ1 HHB HB2 HW2 HN64 hlb hlbs
  generalize w1.heap.size = hb at *
  generalize w2.heap.size = kb at *
  go_wp2
  go_loopw [4] (fun v wr => ∃ i : Nat, i ≤ 64 ∧ v = .int .i64 (i : Int) ∧ MdInv w hb kb lb wr) (fun v _ => 64 - (intOf v).toNat)
  case atStart => exact ⟨0, by omega, rfl, unhide HI0⟩
  case round =>
    clear HI0
    obtain ⟨i, hi, rfl, hI⟩ := hrel
    have HI := hide hI
    clear hI
    by_cases hi64 : i < 64
    · obtain ⟨_, _, _, _, hp0, hp1⟩ := cu_tab i hi64
      have HCU := hide (cu_word i hi64)
      have HSQ := hide (fun h8 => sq_word i h8)
      obtain ⟨x, hx⟩ : ∃ x, x = kWords.getD i 0 := ⟨_, rfl⟩
      obtain ⟨y, hy⟩ : ∃ y, y = start8.vals.getD i 0 := ⟨_, rfl⟩
      obtain ⟨p, hp⟩ : ∃ p, p = pr64.getD i 0 := ⟨_, rfl⟩
      have HX := hide hx.symm
      have HY := hide hy.symm
      have HP := hide hp.symm
      rw [← hp] at hp0 hp1 HCU HSQ
      rw [← hx] at HCU
      rw [← hy] at HSQ
      clear hx hy hp
      by_cases hi8 : i < 8
      · have HSQ := hide (unhide HSQ hi8)
        go_wp2_with fail
        refine wp_region_held_drew (S := fun w' => MdInv w hb kb lb w') (by kernel_rfl) (unhide HI).drew ?_
        intro hS
        refine wpAnyH_takeD 0 (some 12) (.int .i64 (i : Int)) rfl rfl (by kernel_rfl) (by kernel_rfl) (by kernel_rfl) (fun _ _ _ h => h) (Or.inl ⟨by rfl, fun w hSw => by go_simp⟩) hS ?_
        simp only [Act.put, List.setIfInBounds_toArray, List.set_cons_zero, List.set_cons_succ]
        refine wpAnyH_takeD 1 (some 13) (.pointer (some ⟨kb, i, none⟩)) rfl rfl (by kernel_rfl) (by kernel_rfl) (by kernel_rfl) (fun _ _ _ h => h) (Or.inl ⟨by rfl, fun w hSw => by go_simp⟩) hS ?_
        simp only [Act.put, List.setIfInBounds_toArray, List.set_cons_zero, List.set_cons_succ]
        refine wpAnyH_takeD 2 (some 14) (.int .u32 x) rfl rfl (by kernel_rfl) (by kernel_rfl) (by kernel_rfl) (fun _ _ _ h => h) (Or.inl ⟨by rfl, fun w hSw => by have c := hSw.kw i hi64; rw [unhide HX] at c; go_simp⟩) hS ?_
        simp only [Act.put, List.setIfInBounds_toArray, List.set_cons_zero, List.set_cons_succ]
        refine wpAnyH_takeD 3 (some 15) (.slice (some ⟨lb, 0, none⟩) 64 cap) rfl rfl (by kernel_rfl) (by kernel_rfl) (by kernel_rfl) (fun _ _ _ h => h) (Or.inl ⟨by rfl, fun w hSw => by go_simp⟩) hS ?_
        simp only [Act.put, List.setIfInBounds_toArray, List.set_cons_zero, List.set_cons_succ]
        refine wpAnyH_takeD 4 (some 16) (.int .i64 (i : Int)) rfl rfl (by kernel_rfl) (by kernel_rfl) (by kernel_rfl) (fun _ _ _ h => h) (Or.inl ⟨by rfl, fun w hSw => by go_simp⟩) hS ?_
        simp only [Act.put, List.setIfInBounds_toArray, List.set_cons_zero, List.set_cons_succ]
        refine wpAnyH_takeD 5 (some 17) (.pointer (some ⟨lb, i, none⟩)) rfl rfl (by kernel_rfl) (by kernel_rfl) (by kernel_rfl) (fun _ _ _ h => h) (Or.inl ⟨by rfl, fun w hSw => by go_simp⟩) hS ?_
        simp only [Act.put, List.setIfInBounds_toArray, List.set_cons_zero, List.set_cons_succ]
        refine wpAnyH_takeD 6 (some 18) (.int .i64 p) rfl rfl (by kernel_rfl) (by kernel_rfl) (by kernel_rfl) (fun _ _ _ h => h) (Or.inl ⟨by rfl, fun w hSw => by have c := hSw.pr i hi64; rw [unhide HP] at c; go_simp⟩) hS ?_
        simp only [Act.put, List.setIfInBounds_toArray, List.set_cons_zero, List.set_cons_succ]
        refine wpAnyH_ready (rs := [7]) (by kernel_rfl) (by simp) ?_
        refine AllReadyH.cons rfl (fun K hK => ?_) AllReadyH.nil
        simp only [List.getElem_toArray, List.getElem_cons_succ, List.getElem_cons_zero]
        go_simp
        refine (root_cu p hp0 hp1 _).mono ?_
        rintro e w7 ⟨r7, rfl, hr0, hr1, hr2, hb7⟩
        rw [unhide HCU r7 hr0 hr1 hr2]
        refine hK.out _ _ (hS.below hb7) (fun hS => ?_)
        clear hK K hr0 hr1 hr2 hb7
        refine wpAnyH_takeD 8 (some 20) (.bool false) rfl rfl (by kernel_rfl) (by kernel_rfl) (by kernel_rfl) (fun _ _ _ h => h) (Or.inl ⟨by rfl, fun w hSw => by go_simp⟩) hS ?_
        simp only [Act.put, List.setIfInBounds_toArray, List.set_cons_zero, List.set_cons_succ]
        refine wpAnyH_takeD 9 (some 21) (.bool false) rfl rfl (by kernel_rfl) (by kernel_rfl) (by kernel_rfl) (fun _ _ _ h => h) (Or.inl ⟨by rfl, fun w hSw => by go_simp⟩) hS ?_
        simp only [Act.put, List.setIfInBounds_toArray, List.set_cons_zero, List.set_cons_succ]
        refine wpAnyH_takeD 10 (some 22) (.int .i64 (i : Int)) rfl rfl (by kernel_rfl) (by kernel_rfl) (by kernel_rfl) (fun _ _ _ h => h) (Or.inl ⟨by rfl, fun w hSw => by go_simp⟩) hS ?_
        simp only [Act.put, List.setIfInBounds_toArray, List.set_cons_zero, List.set_cons_succ]
        refine wpAnyH_takeD 11 (some 23) (.bool true) rfl rfl (by kernel_rfl) (by kernel_rfl) (by kernel_rfl) (fun _ _ _ h => h) (Or.inl ⟨by rfl, fun w hSw => by go_simp; omega⟩) hS ?_
        simp only [Act.put, List.setIfInBounds_toArray, List.set_cons_zero, List.set_cons_succ]
        refine wpAnyH_takeD 12 (some 24) (.bool true) rfl rfl (by kernel_rfl) (by kernel_rfl) (by kernel_rfl) (fun _ _ _ h => h) (Or.inl ⟨by rfl, fun w hSw => by go_simp⟩) hS ?_
        simp only [Act.put, List.setIfInBounds_toArray, List.set_cons_zero, List.set_cons_succ]
        refine wpAnyH_takeD 13 (some 25) (.int .i64 (i : Int)) rfl rfl (by kernel_rfl) (by kernel_rfl) (by kernel_rfl) (fun _ _ _ h => h) (Or.inl ⟨by rfl, fun w hSw => by go_simp⟩) hS ?_
        simp only [Act.put, List.setIfInBounds_toArray, List.set_cons_zero, List.set_cons_succ]
        refine wpAnyH_takeD 14 (some 26) (.pointer (some ⟨hb, i, none⟩)) rfl rfl (by kernel_rfl) (by kernel_rfl) (by kernel_rfl) (fun _ _ _ h => h) (Or.inl ⟨by rfl, fun w hSw => by go_simp; intro h; omega⟩) hS ?_
        simp only [Act.put, List.setIfInBounds_toArray, List.set_cons_zero, List.set_cons_succ]
        refine wpAnyH_takeD 15 (some 27) (.int .u32 y) rfl rfl (by kernel_rfl) (by kernel_rfl) (by kernel_rfl) (fun _ _ _ h => h) (Or.inl ⟨by rfl, fun w hSw => by have c := hSw.sw i hi8; rw [unhide HY] at c; go_simp⟩) hS ?_
        simp only [Act.put, List.setIfInBounds_toArray, List.set_cons_zero, List.set_cons_succ]
        refine wpAnyH_takeD 16 (some 28) (.slice (some ⟨lb, 0, none⟩) 64 cap) rfl rfl (by kernel_rfl) (by kernel_rfl) (by kernel_rfl) (fun _ _ _ h => h) (Or.inl ⟨by rfl, fun w hSw => by go_simp⟩) hS ?_
        simp only [Act.put, List.setIfInBounds_toArray, List.set_cons_zero, List.set_cons_succ]
        refine wpAnyH_takeD 17 (some 29) (.int .i64 (i : Int)) rfl rfl (by kernel_rfl) (by kernel_rfl) (by kernel_rfl) (fun _ _ _ h => h) (Or.inl ⟨by rfl, fun w hSw => by go_simp⟩) hS ?_
        simp only [Act.put, List.setIfInBounds_toArray, List.set_cons_zero, List.set_cons_succ]
        refine wpAnyH_takeD 18 (some 30) (.pointer (some ⟨lb, i, none⟩)) rfl rfl (by kernel_rfl) (by kernel_rfl) (by kernel_rfl) (fun _ _ _ h => h) (Or.inl ⟨by rfl, fun w hSw => by go_simp⟩) hS ?_
        simp only [Act.put, List.setIfInBounds_toArray, List.set_cons_zero, List.set_cons_succ]
        refine wpAnyH_takeD 19 (some 31) (.int .i64 p) rfl rfl (by kernel_rfl) (by kernel_rfl) (by kernel_rfl) (fun _ _ _ h => h) (Or.inl ⟨by rfl, fun w hSw => by have c := hSw.pr i hi64; rw [unhide HP] at c; go_simp⟩) hS ?_
        simp only [Act.put, List.setIfInBounds_toArray, List.set_cons_zero, List.set_cons_succ]
        refine wpAnyH_ready (rs := [20]) (by kernel_rfl) (by simp) ?_
        refine AllReadyH.cons rfl (fun K hK => ?_) AllReadyH.nil
        simp only [List.getElem_toArray, List.getElem_cons_succ, List.getElem_cons_zero]
        go_simp
        refine (root_sq p hp0 hp1 _).mono ?_
        rintro e w20 ⟨r20, rfl, hr0, hr1, hr2, hb20⟩
        rw [unhide HSQ r20 hr0 hr1 hr2]
        refine hK.out _ _ (hS.below hb20) (fun hS => ?_)
        clear hK K hr0 hr1 hr2 hb20
        refine wpAnyH_takeD 21 (some 33) (.bool false) rfl rfl (by kernel_rfl) (by kernel_rfl) (by kernel_rfl) (fun _ _ _ h => h) (Or.inl ⟨by rfl, fun w hSw => by go_simp⟩) hS ?_
        simp only [Act.put, List.setIfInBounds_toArray, List.set_cons_zero, List.set_cons_succ]
        refine wpAnyH_takeD 22 (some 34) (.bool false) rfl rfl (by kernel_rfl) (by kernel_rfl) (by kernel_rfl) (fun _ _ _ h => h) (Or.inl ⟨by rfl, fun w hSw => by go_simp⟩) hS ?_
        simp only [Act.put, List.setIfInBounds_toArray, List.set_cons_zero, List.set_cons_succ]
        refine wpAnyH_takeD 23 (some 35) (.bool false) rfl rfl (by kernel_rfl) (by kernel_rfl) (by kernel_rfl) (fun _ _ _ h => h) (Or.inl ⟨by rfl, fun w hSw => by go_simp⟩) hS ?_
        simp only [Act.put, List.setIfInBounds_toArray, List.set_cons_zero, List.set_cons_succ]
        have HI2 := hide hS
        clear hS
        refine wpAnyH_done (by kernel_rfl) ?_ _
        go_wp2
        go_roundw
        case rel => exact ⟨i + 1, by omega, by go_num, unhide HI2⟩
        case measure => simp [intOf]; omega
      · clear HSQ HY y
        go_wp2_with fail
        refine wp_region_held_drew (S := fun w' => MdInv w hb kb lb w') (by kernel_rfl) (unhide HI).drew ?_
        intro hS
        refine wpAnyH_takeD 0 (some 12) (.int .i64 (i : Int)) rfl rfl (by kernel_rfl) (by kernel_rfl) (by kernel_rfl) (fun _ _ _ h => h) (Or.inl ⟨by rfl, fun w hSw => by go_simp⟩) hS ?_
        simp only [Act.put, List.setIfInBounds_toArray, List.set_cons_zero, List.set_cons_succ]
        refine wpAnyH_takeD 1 (some 13) (.pointer (some ⟨kb, i, none⟩)) rfl rfl (by kernel_rfl) (by kernel_rfl) (by kernel_rfl) (fun _ _ _ h => h) (Or.inl ⟨by rfl, fun w hSw => by go_simp⟩) hS ?_
        simp only [Act.put, List.setIfInBounds_toArray, List.set_cons_zero, List.set_cons_succ]
        refine wpAnyH_takeD 2 (some 14) (.int .u32 x) rfl rfl (by kernel_rfl) (by kernel_rfl) (by kernel_rfl) (fun _ _ _ h => h) (Or.inl ⟨by rfl, fun w hSw => by have c := hSw.kw i hi64; rw [unhide HX] at c; go_simp⟩) hS ?_
        simp only [Act.put, List.setIfInBounds_toArray, List.set_cons_zero, List.set_cons_succ]
        refine wpAnyH_takeD 3 (some 15) (.slice (some ⟨lb, 0, none⟩) 64 cap) rfl rfl (by kernel_rfl) (by kernel_rfl) (by kernel_rfl) (fun _ _ _ h => h) (Or.inl ⟨by rfl, fun w hSw => by go_simp⟩) hS ?_
        simp only [Act.put, List.setIfInBounds_toArray, List.set_cons_zero, List.set_cons_succ]
        refine wpAnyH_takeD 4 (some 16) (.int .i64 (i : Int)) rfl rfl (by kernel_rfl) (by kernel_rfl) (by kernel_rfl) (fun _ _ _ h => h) (Or.inl ⟨by rfl, fun w hSw => by go_simp⟩) hS ?_
        simp only [Act.put, List.setIfInBounds_toArray, List.set_cons_zero, List.set_cons_succ]
        refine wpAnyH_takeD 5 (some 17) (.pointer (some ⟨lb, i, none⟩)) rfl rfl (by kernel_rfl) (by kernel_rfl) (by kernel_rfl) (fun _ _ _ h => h) (Or.inl ⟨by rfl, fun w hSw => by go_simp⟩) hS ?_
        simp only [Act.put, List.setIfInBounds_toArray, List.set_cons_zero, List.set_cons_succ]
        refine wpAnyH_takeD 6 (some 18) (.int .i64 p) rfl rfl (by kernel_rfl) (by kernel_rfl) (by kernel_rfl) (fun _ _ _ h => h) (Or.inl ⟨by rfl, fun w hSw => by have c := hSw.pr i hi64; rw [unhide HP] at c; go_simp⟩) hS ?_
        simp only [Act.put, List.setIfInBounds_toArray, List.set_cons_zero, List.set_cons_succ]
        refine wpAnyH_ready (rs := [7]) (by kernel_rfl) (by simp) ?_
        refine AllReadyH.cons rfl (fun K hK => ?_) AllReadyH.nil
        simp only [List.getElem_toArray, List.getElem_cons_succ, List.getElem_cons_zero]
        go_simp
        refine (root_cu p hp0 hp1 _).mono ?_
        rintro e w7 ⟨r7, rfl, hr0, hr1, hr2, hb7⟩
        rw [unhide HCU r7 hr0 hr1 hr2]
        refine hK.out _ _ (hS.below hb7) (fun hS => ?_)
        clear hK K hr0 hr1 hr2 hb7
        refine wpAnyH_takeD 8 (some 20) (.bool false) rfl rfl (by kernel_rfl) (by kernel_rfl) (by kernel_rfl) (fun _ _ _ h => h) (Or.inl ⟨by rfl, fun w hSw => by go_simp⟩) hS ?_
        simp only [Act.put, List.setIfInBounds_toArray, List.set_cons_zero, List.set_cons_succ]
        refine wpAnyH_takeD 9 (some 21) (.bool false) rfl rfl (by kernel_rfl) (by kernel_rfl) (by kernel_rfl) (fun _ _ _ h => h) (Or.inl ⟨by rfl, fun w hSw => by go_simp⟩) hS ?_
        simp only [Act.put, List.setIfInBounds_toArray, List.set_cons_zero, List.set_cons_succ]
        refine wpAnyH_takeD 10 (some 22) (.int .i64 (i : Int)) rfl rfl (by kernel_rfl) (by kernel_rfl) (by kernel_rfl) (fun _ _ _ h => h) (Or.inl ⟨by rfl, fun w hSw => by go_simp⟩) hS ?_
        simp only [Act.put, List.setIfInBounds_toArray, List.set_cons_zero, List.set_cons_succ]
        refine wpAnyH_takeD 11 (some 23) (.bool false) rfl rfl (by kernel_rfl) (by kernel_rfl) (by kernel_rfl) (fun _ _ _ h => h) (Or.inl ⟨by rfl, fun w hSw => by go_simp; omega⟩) hS ?_
        simp only [Act.put, List.setIfInBounds_toArray, List.set_cons_zero, List.set_cons_succ]
        refine wpAnyH_takeD 12 (some 24) (.bool false) rfl rfl (by kernel_rfl) (by kernel_rfl) (by kernel_rfl) (fun _ _ _ h => h) (Or.inl ⟨by rfl, fun w hSw => by go_simp⟩) hS ?_
        simp only [Act.put, List.setIfInBounds_toArray, List.set_cons_zero, List.set_cons_succ]
        refine wpAnyH_takeD 13 (some 25) undef rfl rfl (by kernel_rfl) (by kernel_rfl) (by kernel_rfl) (fun _ _ _ h => h) (Or.inr ⟨by rfl, rfl⟩) hS ?_
        simp only [Act.put, List.setIfInBounds_toArray, List.set_cons_zero, List.set_cons_succ]
        refine wpAnyH_takeD 14 (some 26) undef rfl rfl (by kernel_rfl) (by kernel_rfl) (by kernel_rfl) (fun _ _ _ h => h) (Or.inr ⟨by rfl, rfl⟩) hS ?_
        simp only [Act.put, List.setIfInBounds_toArray, List.set_cons_zero, List.set_cons_succ]
        refine wpAnyH_takeD 15 (some 27) undef rfl rfl (by kernel_rfl) (by kernel_rfl) (by kernel_rfl) (fun _ _ _ h => h) (Or.inr ⟨by rfl, rfl⟩) hS ?_
        simp only [Act.put, List.setIfInBounds_toArray, List.set_cons_zero, List.set_cons_succ]
        refine wpAnyH_takeD 16 (some 28) undef rfl rfl (by kernel_rfl) (by kernel_rfl) (by kernel_rfl) (fun _ _ _ h => h) (Or.inr ⟨by rfl, rfl⟩) hS ?_
        simp only [Act.put, List.setIfInBounds_toArray, List.set_cons_zero, List.set_cons_succ]
        refine wpAnyH_takeD 17 (some 29) undef rfl rfl (by kernel_rfl) (by kernel_rfl) (by kernel_rfl) (fun _ _ _ h => h) (Or.inr ⟨by rfl, rfl⟩) hS ?_
        simp only [Act.put, List.setIfInBounds_toArray, List.set_cons_zero, List.set_cons_succ]
        refine wpAnyH_takeD 18 (some 30) undef rfl rfl (by kernel_rfl) (by kernel_rfl) (by kernel_rfl) (fun _ _ _ h => h) (Or.inr ⟨by rfl, rfl⟩) hS ?_
        simp only [Act.put, List.setIfInBounds_toArray, List.set_cons_zero, List.set_cons_succ]
        refine wpAnyH_takeD 19 (some 31) undef rfl rfl (by kernel_rfl) (by kernel_rfl) (by kernel_rfl) (fun _ _ _ h => h) (Or.inr ⟨by rfl, rfl⟩) hS ?_
        simp only [Act.put, List.setIfInBounds_toArray, List.set_cons_zero, List.set_cons_succ]
        refine wpAnyH_takeD 20 (some 32) undef rfl rfl (by kernel_rfl) (by kernel_rfl) (by kernel_rfl) (fun _ _ _ h => h) (Or.inr ⟨by rfl, rfl⟩) hS ?_
        simp only [Act.put, List.setIfInBounds_toArray, List.set_cons_zero, List.set_cons_succ]
        refine wpAnyH_takeD 21 (some 33) undef rfl rfl (by kernel_rfl) (by kernel_rfl) (by kernel_rfl) (fun _ _ _ h => h) (Or.inr ⟨by rfl, rfl⟩) hS ?_
        simp only [Act.put, List.setIfInBounds_toArray, List.set_cons_zero, List.set_cons_succ]
        refine wpAnyH_takeD 22 (some 34) (.bool false) rfl rfl (by kernel_rfl) (by kernel_rfl) (by kernel_rfl) (fun _ _ _ h => h) (Or.inl ⟨by rfl, fun w hSw => by go_simp⟩) hS ?_
        simp only [Act.put, List.setIfInBounds_toArray, List.set_cons_zero, List.set_cons_succ]
        refine wpAnyH_takeD 23 (some 35) (.bool false) rfl rfl (by kernel_rfl) (by kernel_rfl) (by kernel_rfl) (fun _ _ _ h => h) (Or.inl ⟨by rfl, fun w hSw => by go_simp⟩) hS ?_
        simp only [Act.put, List.setIfInBounds_toArray, List.set_cons_zero, List.set_cons_succ]
        have HI2 := hide hS
        clear hS
        refine wpAnyH_done (by kernel_rfl) ?_ _
        go_wp2
        go_roundw
        case rel => exact ⟨i + 1, by omega, by go_num, unhide HI2⟩
        case measure => simp [intOf]; omega
    · go_wp2
      go_ret
      exact ⟨rfl, (unhide HI).2.2.2.1⟩
end Go.Proofs.YtokaomlhnmbajaaDoor
