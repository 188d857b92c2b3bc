import Derived.Test.YtkileaocgecckaaDoorQmc
namespace Go.Proofs.YtkileaocgecckaaDoor
open Go.RowKit
set_option maxRecDepth 100000
/-- what Node answers -/
def nodE (a b : ByteArray) : Int := if a.size = 32 ∧ b.size = 32 then 0 else 193
noncomputable def nodV (a b : ByteArray) : ByteArray := if a.size = 32 ∧ b.size = 32 then ndB a b else ⟨#[]⟩
set_option maxHeartbeats 2000000 in
theorem node_any (a b : ByteArray) (w : World) (hK : KTab w) : Calls Tryd.prog 11 #[.string a, .string b] w fun e w' => e = .returned (.tuple #[.string (nodV a b), .int .i64 (nodE a b)]) ∧ Below w.heap.size w w' := by
  obtain ⟨h, hh⟩ : ∃ h, w.heap.size = h := ⟨_, rfl⟩
  have HRa := hide (fun W => readDigest_any a W)
  have HRb := hide (fun W => readDigest_any b W)
  have HLa := hide (dC_len _ (rdB_size a))
  have HLb := hide (dC_len _ (rdB_size b))
  have HKa := hide (dC_all (rdB a))
  have HKb := hide (dC_all (rdB b))
  have HOV := hide (fun W (hW : Below h w W) => over_any (rdB a) (rdB b) (rdB_size a) (rdB_size b) W (hK.below hW (by rw [← hh]; exact hK.1)))
  have HTX := hide (fun W => text_any (ndB (rdB a) (rdB b)) (ndB_size _ _) W)
  have HV := hide (show a.size = 32 ∧ b.size = 32 → nodV a b = ndB (rdB a) (rdB b) ∧ nodE a b = 0 from fun q => ⟨by rw [nodV, if_pos q, rdB, rdB, if_pos q.1, if_pos q.2], if_pos q⟩)
  have HU := hide (show ¬ (a.size = 32 ∧ b.size = 32) → nodV a b = ⟨#[]⟩ ∧ nodE a b = 193 from fun q => ⟨if_neg q, if_neg q⟩)
  generalize dC (ndB (rdB a) (rdB b)) = cn at *
  generalize ndB (rdB a) (rdB b) = rn at *
  generalize dC (rdB a) = ca at *
  generalize dC (rdB b) = cb at *
  rw [hh]
  clear hK
  by_cases hab : a.size = 32 ∧ b.size = 32
  · rw [(unhide HV hab).1, (unhide HV hab).2]
    rw [decide_eq_true hab.1] at HRa
    rw [decide_eq_true hab.2] at HRb
    clear HU HV hab
    go_enter Tryd.func11, Tryd.ntmps11
    go_wp2_with fail
    refine (unhide HRa _).mono ?_
    rintro e y1 ⟨rfl, hb1⟩
    have HB1 := hide (show Below h w y1 from hb1.mono (by omega))
    clear hb1
    obtain ⟨g1, hg1⟩ : ∃ q, y1.heap.size = q := ⟨_, rfl⟩
    have hs1 : h ≤ g1 := by have := (unhide HB1).size; omega
    obtain ⟨x2, hx2⟩ : ∃ q, y1.alloc (.cells #[.int .u8 0, .int .u8 0, .int .u8 0, .int .u8 0, .int .u8 0, .int .u8 0, .int .u8 0, .int .u8 0, .int .u8 0, .int .u8 0, .int .u8 0, .int .u8 0, .int .u8 0, .int .u8 0, .int .u8 0, .int .u8 0, .int .u8 0, .int .u8 0, .int .u8 0, .int .u8 0, .int .u8 0, .int .u8 0, .int .u8 0, .int .u8 0, .int .u8 0, .int .u8 0, .int .u8 0, .int .u8 0, .int .u8 0, .int .u8 0, .int .u8 0, .int .u8 0] 52) = q := ⟨_, rfl⟩
    have HT2 := hide (show x2.there g1 0 32 from by rw [← hx2, ← hg1]; simpa using (zD_new y1).there)
    have hs2 : x2.heap.size = g1 + 1 := by rw [← hx2]; simp [hg1]
    obtain ⟨x3, hx3⟩ : ∃ q, x2.setCells g1 0 ca = q := ⟨_, rfl⟩
    have HRA3 := hide (show x3.rangeAt g1 0 ca from by rw [← hx3]; exact World.rangeAt_setCells_same x2 g1 0 ca (by rw [unhide HLa]; exact unhide HT2))
    have HB3 := hide (show Below h w x3 from by rw [← hx3, ← hx2]; exact below_setCells (by omega) _ _ ((unhide HB1).alloc (by omega) _))
    have HS3 := hide (show g1 < x3.heap.size from by have := (show Below g1 x2 x3 from by rw [← hx3]; exact below_setCells (Nat.le_refl _) _ _ (Below.refl _ _)).size; omega)
    clear hs2
    go_wp2_with (first | refine wpList_store_mid rfl 52 (.tmp 6) (.tmp 13) rfl g1 0 ca.toArray rfl rfl (by simpa [unhide HLa] using unhide HT2) (by rw [szD]; simp [unhide HLa]) (unhide HKa) ?_ | fail)
    refine (unhide HRb _).mono ?_
    rintro e y4 ⟨rfl, hb4⟩
    have HB4 := hide (show Below h w y4 from (unhide HB3).trans (hb4.mono (by have := unhide HS3; omega)))
    have HRA4 := hide (rangeAt_below (unhide HRA3) hb4 (unhide HS3))
    obtain ⟨g2, hg2⟩ : ∃ q, y4.heap.size = q := ⟨_, rfl⟩
    have hs4 : g1 < g2 := by have := hb4.size; have := unhide HS3; omega
    clear hb4
    obtain ⟨x4, hx4⟩ : ∃ q, y4.alloc (.cells #[.int .u8 0, .int .u8 0, .int .u8 0, .int .u8 0, .int .u8 0, .int .u8 0, .int .u8 0, .int .u8 0, .int .u8 0, .int .u8 0, .int .u8 0, .int .u8 0, .int .u8 0, .int .u8 0, .int .u8 0, .int .u8 0, .int .u8 0, .int .u8 0, .int .u8 0, .int .u8 0, .int .u8 0, .int .u8 0, .int .u8 0, .int .u8 0, .int .u8 0, .int .u8 0, .int .u8 0, .int .u8 0, .int .u8 0, .int .u8 0, .int .u8 0, .int .u8 0] 52) = q := ⟨_, rfl⟩
    have HT4 := hide (show x4.there g2 0 32 from by rw [← hx4, ← hg2]; simpa using (zD_new y4).there)
    obtain ⟨x5, hx5⟩ : ∃ q, x4.setCells g2 0 cb = q := ⟨_, rfl⟩
    have HRB := hide (show x5.rangeAt g2 0 cb from by rw [← hx5]; exact World.rangeAt_setCells_same x4 g2 0 cb (by rw [unhide HLb]; exact unhide HT4))
    have HRA := hide (show x5.rangeAt g1 0 ca from by
      have q1 : Below g2 y4 x5 := by rw [← hx5, ← hx4]; exact below_setCells (by omega) _ _ ((Below.refl _ _).alloc (by omega) _)
      exact rangeAt_below (unhide HRA4) q1 hs4)
    have HB5 := hide (show Below h w x5 from by rw [← hx5, ← hx4]; exact below_setCells (by omega) _ _ ((unhide HB4).alloc (by omega) _))
    go_wp2_with (first | refine wpList_store_mid rfl 52 (.tmp 8) (.tmp 18) rfl g2 0 cb.toArray rfl rfl (by simpa [unhide HLb] using unhide HT4) (by rw [szD]; simp [unhide HLb]) (unhide HKb) ?_ | refine wpList_load_mid rfl 52 (.tmp 6) rfl g1 0 rfl _ _ (unhide HRA) Tryd.underlying52 rfl (by rw [szD, unhide HLa]) ?_ | refine wpList_load_mid rfl 52 (.tmp 8) rfl g2 0 rfl _ _ (unhide HRB) Tryd.underlying52 rfl (by rw [szD, unhide HLb]) ?_)
    refine (unhide HOV _ (unhide HB5)).mono ?_
    rintro e y6 ⟨rfl, hb⟩
    have HB6 := hide ((unhide HB5).trans (hb.mono (by have := (unhide HB5).size; omega)))
    clear hb
    go_wp2_with fail
    refine (unhide HTX _).mono ?_
    rintro e y7 ⟨rfl, hb⟩
    have HB7 := hide ((unhide HB6).trans (hb.mono (by have := (unhide HB6).size; omega)))
    clear hb
    go_wp2
    go_ret2
    exact ⟨rfl, unhide HB7⟩
  · rw [(unhide HU hab).1, (unhide HU hab).2]
    by_cases h1 : a.size = 32
    · have h2 : ¬ b.size = 32 := fun q => hab ⟨h1, q⟩
      rw [decide_eq_true h1] at HRa
      rw [decide_eq_false h2] at HRb
      clear HU HV hab h1 h2
      go_enter Tryd.func11, Tryd.ntmps11
      go_wp2_with fail
      refine (unhide HRa _).mono ?_
      rintro e y1 ⟨rfl, hb1⟩
      have HB1 := hide (show Below h w y1 from hb1.mono (by omega))
      clear hb1
      obtain ⟨g1, hg1⟩ : ∃ q, y1.heap.size = q := ⟨_, rfl⟩
      have hs1 : h ≤ g1 := by have := (unhide HB1).size; omega
      obtain ⟨x2, hx2⟩ : ∃ q, y1.alloc (.cells #[.int .u8 0, .int .u8 0, .int .u8 0, .int .u8 0, .int .u8 0, .int .u8 0, .int .u8 0, .int .u8 0, .int .u8 0, .int .u8 0, .int .u8 0, .int .u8 0, .int .u8 0, .int .u8 0, .int .u8 0, .int .u8 0, .int .u8 0, .int .u8 0, .int .u8 0, .int .u8 0, .int .u8 0, .int .u8 0, .int .u8 0, .int .u8 0, .int .u8 0, .int .u8 0, .int .u8 0, .int .u8 0, .int .u8 0, .int .u8 0, .int .u8 0, .int .u8 0] 52) = q := ⟨_, rfl⟩
      have HT2 := hide (show x2.there g1 0 32 from by rw [← hx2, ← hg1]; simpa using (zD_new y1).there)
      have hs2 : x2.heap.size = g1 + 1 := by rw [← hx2]; simp [hg1]
      obtain ⟨x3, hx3⟩ : ∃ q, x2.setCells g1 0 ca = q := ⟨_, rfl⟩
      have HRA3 := hide (show x3.rangeAt g1 0 ca from by rw [← hx3]; exact World.rangeAt_setCells_same x2 g1 0 ca (by rw [unhide HLa]; exact unhide HT2))
      have HB3 := hide (show Below h w x3 from by rw [← hx3, ← hx2]; exact below_setCells (by omega) _ _ ((unhide HB1).alloc (by omega) _))
      have HS3 := hide (show g1 < x3.heap.size from by have := (show Below g1 x2 x3 from by rw [← hx3]; exact below_setCells (Nat.le_refl _) _ _ (Below.refl _ _)).size; omega)
      clear hs2
      go_wp2_with (first | refine wpList_store_mid rfl 52 (.tmp 6) (.tmp 13) rfl g1 0 ca.toArray rfl rfl (by simpa [unhide HLa] using unhide HT2) (by rw [szD]; simp [unhide HLa]) (unhide HKa) ?_ | fail)
      refine (unhide HRb _).mono ?_
      rintro e y4 ⟨rfl, hb4⟩
      have HB4 := hide (show Below h w y4 from (unhide HB3).trans (hb4.mono (by have := unhide HS3; omega)))
      have HRA4 := hide (rangeAt_below (unhide HRA3) hb4 (unhide HS3))
      obtain ⟨g2, hg2⟩ : ∃ q, y4.heap.size = q := ⟨_, rfl⟩
      have hs4 : g1 < g2 := by have := hb4.size; have := unhide HS3; omega
      clear hb4
      obtain ⟨x4, hx4⟩ : ∃ q, y4.alloc (.cells #[.int .u8 0, .int .u8 0, .int .u8 0, .int .u8 0, .int .u8 0, .int .u8 0, .int .u8 0, .int .u8 0, .int .u8 0, .int .u8 0, .int .u8 0, .int .u8 0, .int .u8 0, .int .u8 0, .int .u8 0, .int .u8 0, .int .u8 0, .int .u8 0, .int .u8 0, .int .u8 0, .int .u8 0, .int .u8 0, .int .u8 0, .int .u8 0, .int .u8 0, .int .u8 0, .int .u8 0, .int .u8 0, .int .u8 0, .int .u8 0, .int .u8 0, .int .u8 0] 52) = q := ⟨_, rfl⟩
      have HT4 := hide (show x4.there g2 0 32 from by rw [← hx4, ← hg2]; simpa using (zD_new y4).there)
      obtain ⟨x5, hx5⟩ : ∃ q, x4.setCells g2 0 cb = q := ⟨_, rfl⟩
      have HRB := hide (show x5.rangeAt g2 0 cb from by rw [← hx5]; exact World.rangeAt_setCells_same x4 g2 0 cb (by rw [unhide HLb]; exact unhide HT4))
      have HRA := hide (show x5.rangeAt g1 0 ca from by
        have q1 : Below g2 y4 x5 := by rw [← hx5, ← hx4]; exact below_setCells (by omega) _ _ ((Below.refl _ _).alloc (by omega) _)
        exact rangeAt_below (unhide HRA4) q1 hs4)
      have HB5 := hide (show Below h w x5 from by rw [← hx5, ← hx4]; exact below_setCells (by omega) _ _ ((unhide HB4).alloc (by omega) _))
      go_wp2_with (refine wpList_store_mid rfl 52 (.tmp 8) (.tmp 18) rfl g2 0 cb.toArray rfl rfl (by simpa [unhide HLb] using unhide HT4) (by rw [szD]; simp [unhide HLb]) (unhide HKb) ?_)
      go_ret2
      exact ⟨rfl, unhide HB5⟩
    · rw [decide_eq_false h1] at HRa
      generalize decide (b.size = 32) = bz at *
      clear HU HV hab h1
      go_enter Tryd.func11, Tryd.ntmps11
      go_wp2_with fail
      refine (unhide HRa _).mono ?_
      rintro e y1 ⟨rfl, hb1⟩
      have HB1 := hide (show Below h w y1 from hb1.mono (by omega))
      clear hb1
      obtain ⟨g1, hg1⟩ : ∃ q, y1.heap.size = q := ⟨_, rfl⟩
      have hs1 : h ≤ g1 := by have := (unhide HB1).size; omega
      obtain ⟨x2, hx2⟩ : ∃ q, y1.alloc (.cells #[.int .u8 0, .int .u8 0, .int .u8 0, .int .u8 0, .int .u8 0, .int .u8 0, .int .u8 0, .int .u8 0, .int .u8 0, .int .u8 0, .int .u8 0, .int .u8 0, .int .u8 0, .int .u8 0, .int .u8 0, .int .u8 0, .int .u8 0, .int .u8 0, .int .u8 0, .int .u8 0, .int .u8 0, .int .u8 0, .int .u8 0, .int .u8 0, .int .u8 0, .int .u8 0, .int .u8 0, .int .u8 0, .int .u8 0, .int .u8 0, .int .u8 0, .int .u8 0] 52) = q := ⟨_, rfl⟩
      have HT2 := hide (show x2.there g1 0 32 from by rw [← hx2, ← hg1]; simpa using (zD_new y1).there)
      have hs2 : x2.heap.size = g1 + 1 := by rw [← hx2]; simp [hg1]
      obtain ⟨x3, hx3⟩ : ∃ q, x2.setCells g1 0 ca = q := ⟨_, rfl⟩
      have HRA3 := hide (show x3.rangeAt g1 0 ca from by rw [← hx3]; exact World.rangeAt_setCells_same x2 g1 0 ca (by rw [unhide HLa]; exact unhide HT2))
      have HB3 := hide (show Below h w x3 from by rw [← hx3, ← hx2]; exact below_setCells (by omega) _ _ ((unhide HB1).alloc (by omega) _))
      have HS3 := hide (show g1 < x3.heap.size from by have := (show Below g1 x2 x3 from by rw [← hx3]; exact below_setCells (Nat.le_refl _) _ _ (Below.refl _ _)).size; omega)
      clear hs2
      go_wp2_with (first | refine wpList_store_mid rfl 52 (.tmp 6) (.tmp 13) rfl g1 0 ca.toArray rfl rfl (by simpa [unhide HLa] using unhide HT2) (by rw [szD]; simp [unhide HLa]) (unhide HKa) ?_ | fail)
      refine (unhide HRb _).mono ?_
      rintro e y4 ⟨rfl, hb4⟩
      have HB4 := hide (show Below h w y4 from (unhide HB3).trans (hb4.mono (by have := unhide HS3; omega)))
      have HRA4 := hide (rangeAt_below (unhide HRA3) hb4 (unhide HS3))
      obtain ⟨g2, hg2⟩ : ∃ q, y4.heap.size = q := ⟨_, rfl⟩
      have hs4 : g1 < g2 := by have := hb4.size; have := unhide HS3; omega
      clear hb4
      obtain ⟨x4, hx4⟩ : ∃ q, y4.alloc (.cells #[.int .u8 0, .int .u8 0, .int .u8 0, .int .u8 0, .int .u8 0, .int .u8 0, .int .u8 0, .int .u8 0, .int .u8 0, .int .u8 0, .int .u8 0, .int .u8 0, .int .u8 0, .int .u8 0, .int .u8 0, .int .u8 0, .int .u8 0, .int .u8 0, .int .u8 0, .int .u8 0, .int .u8 0, .int .u8 0, .int .u8 0, .int .u8 0, .int .u8 0, .int .u8 0, .int .u8 0, .int .u8 0, .int .u8 0, .int .u8 0, .int .u8 0, .int .u8 0] 52) = q := ⟨_, rfl⟩
      have HT4 := hide (show x4.there g2 0 32 from by rw [← hx4, ← hg2]; simpa using (zD_new y4).there)
      obtain ⟨x5, hx5⟩ : ∃ q, x4.setCells g2 0 cb = q := ⟨_, rfl⟩
      have HRB := hide (show x5.rangeAt g2 0 cb from by rw [← hx5]; exact World.rangeAt_setCells_same x4 g2 0 cb (by rw [unhide HLb]; exact unhide HT4))
      have HRA := hide (show x5.rangeAt g1 0 ca from by
        have q1 : Below g2 y4 x5 := by rw [← hx5, ← hx4]; exact below_setCells (by omega) _ _ ((Below.refl _ _).alloc (by omega) _)
        exact rangeAt_below (unhide HRA4) q1 hs4)
      have HB5 := hide (show Below h w x5 from by rw [← hx5, ← hx4]; exact below_setCells (by omega) _ _ ((unhide HB4).alloc (by omega) _))
      go_wp2_with (refine wpList_store_mid rfl 52 (.tmp 8) (.tmp 18) rfl g2 0 cb.toArray rfl rfl (by simpa [unhide HLb] using unhide HT4) (by rw [szD]; simp [unhide HLb]) (unhide HKb) ?_)
      go_ret2
      exact ⟨rfl, unhide HB5⟩
end Go.Proofs.YtkileaocgecckaaDoor
