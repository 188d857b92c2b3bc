import Derived.Test.YtilhilglokblpaaDoorQmk
namespace Go.Proofs.YtilhilglokblpaaDoor
open Go.RowKit
set_option maxRecDepth 100000
/-- what CheckGrown answers -/
noncomputable def cgE (o : ByteArray) (m : Int) (r : ByteArray) (n : Int) (P : List ByteArray) : Int :=
  if o.size = 32 ∧ r.size = 32 then (if 0 ≤ n ∧ n ≤ 4096 ∧ 0 ≤ m ∧ m ≤ n then (if hgB o r m.toNat n.toNat P = true then 0 else 192) else 191) else 193
set_option maxHeartbeats 4000000 in
theorem checkGrown_any (a : ByteArray) (m : Int) (b : ByteArray) (n : Int) (P : List ByteArray) (q : Nat) (hq : P.length = q) (w : World) (B c : Nat) (p : Option Addr) (hS : SB w B p P) (hB : B ≤ w.heap.size) (hK : KTab w) (hqc : q ≤ c) (hc9 : c ≤ 9223372036854775807) : Calls Tryd.prog 14 #[.string a, .int .i64 m, .string b, .int .i64 n, .slice p q c] w fun e w' => e = .returned (.int .i64 (cgE a m b n P)) ∧ Below w.heap.size w w' := by
  obtain ⟨h, hh⟩ : ∃ h, w.heap.size = h := ⟨_, rfl⟩
  have HRa := hide (fun W => readDigest_any a W)
  have HRb := hide (fun W => readDigest_any b W)
  have HLa := hide (dC_len _ (rdB_size a))
  have HLb := hide (dC_len _ (rdB_size b))
  have HKa := hide (dC_all (rdB a))
  have HKb := hide (dC_all (rdB b))
  rw [hh]
  by_cases hab : a.size = 32 ∧ b.size = 32
  · by_cases hin : 0 ≤ n ∧ n ≤ 4096 ∧ 0 ≤ m ∧ m ≤ n
    · rw [cgE, if_pos hab, if_pos hin]
      obtain ⟨g0, g9, g3, g4⟩ := hin
      obtain ⟨n', rfl⟩ : ∃ k : Nat, n = (k : Int) := ⟨n.toNat, by omega⟩
      obtain ⟨m', rfl⟩ : ∃ k : Nat, m = (k : Int) := ⟨m.toNat, by omega⟩
      rw [Int.toNat_natCast, Int.toNat_natCast]
      have HG := hide (fun W (hW : Below h w W) => hasGrown_any a b hab.1 hab.2 m' n' (by omega) (by omega) P q hq W B c p (hS.below (hW.mono (by omega))) (by have := hW.size; omega) (hK.below hW (by rw [← hh]; exact hK.1)) hqc hc9)
      obtain ⟨bg, hbg⟩ : ∃ z, hgB a b m' n' P = z := ⟨_, rfl⟩
      rw [hbg] at HG ⊢
      rw [show rdB a = a from if_pos hab.1] at HRa HLa HKa
      rw [show rdB b = b from if_pos hab.2] at HRb HLb HKb
      rw [decide_eq_true hab.1] at HRa
      rw [decide_eq_true hab.2] at HRb
      have a1 : ¬ (n' : Int) < 0 := by omega
      have a2 : ¬ 4096 < (n' : Int) := by omega
      have a3 : ¬ (m' : Int) < 0 := by omega
      have a4 : ¬ (n' : Int) < (m' : Int) := by omega
      clear hS hK hq hbg hab
      generalize dC a = ca at *
      generalize dC b = cb at *
      go_enter Tryd.func14, Tryd.ntmps14
      go_wp2_with fail
      refine (unhide HRa _).mono ?_
      rintro e y1 ⟨rfl, hb1⟩
      have HB1 := hide (show Below h w y1 from hb1.mono (by omega))
      clear hb1
      obtain ⟨g1, hg1⟩ : ∃ q, y1.heap.size = q := ⟨_, rfl⟩
      have hs1 : h ≤ g1 := by have := (unhide HB1).size; omega
      obtain ⟨x2, hx2⟩ : ∃ q, y1.alloc (.cells #[.int .u8 0, .int .u8 0, .int .u8 0, .int .u8 0, .int .u8 0, .int .u8 0, .int .u8 0, .int .u8 0, .int .u8 0, .int .u8 0, .int .u8 0, .int .u8 0, .int .u8 0, .int .u8 0, .int .u8 0, .int .u8 0, .int .u8 0, .int .u8 0, .int .u8 0, .int .u8 0, .int .u8 0, .int .u8 0, .int .u8 0, .int .u8 0, .int .u8 0, .int .u8 0, .int .u8 0, .int .u8 0, .int .u8 0, .int .u8 0, .int .u8 0, .int .u8 0] 46) = q := ⟨_, rfl⟩
      have HT2 := hide (show x2.there g1 0 32 from by rw [← hx2, ← hg1]; simpa using (zD_new y1).there)
      have hs2 : x2.heap.size = g1 + 1 := by rw [← hx2]; simp [hg1]
      obtain ⟨x3, hx3⟩ : ∃ q, x2.setCells g1 0 ca = q := ⟨_, rfl⟩
      have HRA3 := hide (show x3.rangeAt g1 0 ca from by rw [← hx3]; exact World.rangeAt_setCells_same x2 g1 0 ca (by rw [unhide HLa]; exact unhide HT2))
      have HB3 := hide (show Below h w x3 from by rw [← hx3, ← hx2]; exact below_setCells (by omega) _ _ ((unhide HB1).alloc (by omega) _))
      have HS3 := hide (show g1 < x3.heap.size from by have := (show Below g1 x2 x3 from by rw [← hx3]; exact below_setCells (Nat.le_refl _) _ _ (Below.refl _ _)).size; omega)
      clear hs2
      go_wp2_with (first | refine wpList_store_mid rfl 46 (.tmp 11) (.tmp 18) rfl g1 0 ca.toArray rfl rfl (by simpa [unhide HLa] using unhide HT2) (by rw [szD]; simp [unhide HLa]) (unhide HKa) ?_ | fail)
      refine (unhide HRb _).mono ?_
      rintro e y4 ⟨rfl, hb4⟩
      have HB4 := hide (show Below h w y4 from (unhide HB3).trans (hb4.mono (by have := unhide HS3; omega)))
      have HRA4 := hide (rangeAt_below (unhide HRA3) hb4 (unhide HS3))
      obtain ⟨g2, hg2⟩ : ∃ q, y4.heap.size = q := ⟨_, rfl⟩
      have hs4 : g1 < g2 := by have := hb4.size; have := unhide HS3; omega
      clear hb4
      obtain ⟨x4, hx4⟩ : ∃ q, y4.alloc (.cells #[.int .u8 0, .int .u8 0, .int .u8 0, .int .u8 0, .int .u8 0, .int .u8 0, .int .u8 0, .int .u8 0, .int .u8 0, .int .u8 0, .int .u8 0, .int .u8 0, .int .u8 0, .int .u8 0, .int .u8 0, .int .u8 0, .int .u8 0, .int .u8 0, .int .u8 0, .int .u8 0, .int .u8 0, .int .u8 0, .int .u8 0, .int .u8 0, .int .u8 0, .int .u8 0, .int .u8 0, .int .u8 0, .int .u8 0, .int .u8 0, .int .u8 0, .int .u8 0] 46) = q := ⟨_, rfl⟩
      have HT4 := hide (show x4.there g2 0 32 from by rw [← hx4, ← hg2]; simpa using (zD_new y4).there)
      obtain ⟨x5, hx5⟩ : ∃ q, x4.setCells g2 0 cb = q := ⟨_, rfl⟩
      have HRB := hide (show x5.rangeAt g2 0 cb from by rw [← hx5]; exact World.rangeAt_setCells_same x4 g2 0 cb (by rw [unhide HLb]; exact unhide HT4))
      have HRA := hide (show x5.rangeAt g1 0 ca from by
        have q1 : Below g2 y4 x5 := by rw [← hx5, ← hx4]; exact below_setCells (by omega) _ _ ((Below.refl _ _).alloc (by omega) _)
        exact rangeAt_below (unhide HRA4) q1 hs4)
      have HB5 := hide (show Below h w x5 from by rw [← hx5, ← hx4]; exact below_setCells (by omega) _ _ ((unhide HB4).alloc (by omega) _))
      go_wp2_with (first | refine wpList_store_mid rfl 46 (.tmp 13) (.tmp 23) rfl g2 0 cb.toArray rfl rfl (by simpa [unhide HLb] using unhide HT4) (by rw [szD]; simp [unhide HLb]) (unhide HKb) ?_ | refine wpList_load_mid rfl 46 (.tmp 11) rfl g1 0 rfl _ _ (unhide HRA) Tryd.underlying46 rfl (by rw [szD, unhide HLa]) ?_ | refine wpList_load_mid rfl 46 (.tmp 13) rfl g2 0 rfl _ _ (unhide HRB) Tryd.underlying46 rfl (by rw [szD, unhide HLb]) ?_)
      refine (unhide HG _ (unhide HB5)).mono ?_
      rintro e y6 ⟨rfl, hb⟩
      have HB6 := hide ((unhide HB5).trans (hb.mono (by have := (unhide HB5).size; omega)))
      clear hb
      cases bg with
      | true =>
        go_wp2
        go_ret
        exact ⟨rfl, unhide HB6⟩
      | false =>
        go_wp2
        go_ret
        exact ⟨rfl, unhide HB6⟩
    · rw [cgE, if_pos hab, if_neg hin]
      rw [decide_eq_true hab.1] at HRa
      rw [decide_eq_true hab.2] at HRb
      generalize dC (rdB a) = ca at *
      generalize dC (rdB b) = cb at *
      clear hS hK hq hab
      by_cases a1 : n < 0
      case' pos => skip
      case' neg =>
        by_cases a2 : 4096 < n
        case' pos => skip
        case' neg =>
          by_cases a3 : m < 0
          case' pos => skip
          case' neg =>
            have a4 : n < m := by omega
      all_goals (
        clear hin
        go_enter Tryd.func14, Tryd.ntmps14
        go_wp2_with fail
        refine (unhide HRa _).mono ?_
        rintro e y1 ⟨rfl, hb1⟩
        have HB1 := hide (show Below h w y1 from hb1.mono (by omega))
        clear hb1
        obtain ⟨g1, hg1⟩ : ∃ q, y1.heap.size = q := ⟨_, rfl⟩
        have hs1 : h ≤ g1 := by have := (unhide HB1).size; omega
        obtain ⟨x2, hx2⟩ : ∃ q, y1.alloc (.cells #[.int .u8 0, .int .u8 0, .int .u8 0, .int .u8 0, .int .u8 0, .int .u8 0, .int .u8 0, .int .u8 0, .int .u8 0, .int .u8 0, .int .u8 0, .int .u8 0, .int .u8 0, .int .u8 0, .int .u8 0, .int .u8 0, .int .u8 0, .int .u8 0, .int .u8 0, .int .u8 0, .int .u8 0, .int .u8 0, .int .u8 0, .int .u8 0, .int .u8 0, .int .u8 0, .int .u8 0, .int .u8 0, .int .u8 0, .int .u8 0, .int .u8 0, .int .u8 0] 46) = q := ⟨_, rfl⟩
        have HT2 := hide (show x2.there g1 0 32 from by rw [← hx2, ← hg1]; simpa using (zD_new y1).there)
        have hs2 : x2.heap.size = g1 + 1 := by rw [← hx2]; simp [hg1]
        obtain ⟨x3, hx3⟩ : ∃ q, x2.setCells g1 0 ca = q := ⟨_, rfl⟩
        have HRA3 := hide (show x3.rangeAt g1 0 ca from by rw [← hx3]; exact World.rangeAt_setCells_same x2 g1 0 ca (by rw [unhide HLa]; exact unhide HT2))
        have HB3 := hide (show Below h w x3 from by rw [← hx3, ← hx2]; exact below_setCells (by omega) _ _ ((unhide HB1).alloc (by omega) _))
        have HS3 := hide (show g1 < x3.heap.size from by have := (show Below g1 x2 x3 from by rw [← hx3]; exact below_setCells (Nat.le_refl _) _ _ (Below.refl _ _)).size; omega)
        clear hs2
        go_wp2_with (first | refine wpList_store_mid rfl 46 (.tmp 11) (.tmp 18) rfl g1 0 ca.toArray rfl rfl (by simpa [unhide HLa] using unhide HT2) (by rw [szD]; simp [unhide HLa]) (unhide HKa) ?_ | fail)
        refine (unhide HRb _).mono ?_
        rintro e y4 ⟨rfl, hb4⟩
        have HB4 := hide (show Below h w y4 from (unhide HB3).trans (hb4.mono (by have := unhide HS3; omega)))
        have HRA4 := hide (rangeAt_below (unhide HRA3) hb4 (unhide HS3))
        obtain ⟨g2, hg2⟩ : ∃ q, y4.heap.size = q := ⟨_, rfl⟩
        have hs4 : g1 < g2 := by have := hb4.size; have := unhide HS3; omega
        clear hb4
        obtain ⟨x4, hx4⟩ : ∃ q, y4.alloc (.cells #[.int .u8 0, .int .u8 0, .int .u8 0, .int .u8 0, .int .u8 0, .int .u8 0, .int .u8 0, .int .u8 0, .int .u8 0, .int .u8 0, .int .u8 0, .int .u8 0, .int .u8 0, .int .u8 0, .int .u8 0, .int .u8 0, .int .u8 0, .int .u8 0, .int .u8 0, .int .u8 0, .int .u8 0, .int .u8 0, .int .u8 0, .int .u8 0, .int .u8 0, .int .u8 0, .int .u8 0, .int .u8 0, .int .u8 0, .int .u8 0, .int .u8 0, .int .u8 0] 46) = q := ⟨_, rfl⟩
        have HT4 := hide (show x4.there g2 0 32 from by rw [← hx4, ← hg2]; simpa using (zD_new y4).there)
        obtain ⟨x5, hx5⟩ : ∃ q, x4.setCells g2 0 cb = q := ⟨_, rfl⟩
        have HRB := hide (show x5.rangeAt g2 0 cb from by rw [← hx5]; exact World.rangeAt_setCells_same x4 g2 0 cb (by rw [unhide HLb]; exact unhide HT4))
        have HRA := hide (show x5.rangeAt g1 0 ca from by
          have q1 : Below g2 y4 x5 := by rw [← hx5, ← hx4]; exact below_setCells (by omega) _ _ ((Below.refl _ _).alloc (by omega) _)
          exact rangeAt_below (unhide HRA4) q1 hs4)
        have HB5 := hide (show Below h w x5 from by rw [← hx5, ← hx4]; exact below_setCells (by omega) _ _ ((unhide HB4).alloc (by omega) _))
        go_wp2_with (refine wpList_store_mid rfl 46 (.tmp 13) (.tmp 23) rfl g2 0 cb.toArray rfl rfl (by simpa [unhide HLb] using unhide HT4) (by rw [szD]; simp [unhide HLb]) (unhide HKb) ?_)
        go_ret
        exact ⟨rfl, unhide HB5⟩)
  · rw [cgE, if_neg hab]
    generalize dC (rdB a) = ca at *
    generalize dC (rdB b) = cb at *
    clear hS hK hq
    by_cases h1 : a.size = 32
    · have h2 : ¬ b.size = 32 := fun q => hab ⟨h1, q⟩
      rw [decide_eq_true h1] at HRa
      rw [decide_eq_false h2] at HRb
      clear hab h1 h2
      go_enter Tryd.func14, Tryd.ntmps14
      go_wp2_with fail
      refine (unhide HRa _).mono ?_
      rintro e y1 ⟨rfl, hb1⟩
      have HB1 := hide (show Below h w y1 from hb1.mono (by omega))
      clear hb1
      obtain ⟨g1, hg1⟩ : ∃ q, y1.heap.size = q := ⟨_, rfl⟩
      have hs1 : h ≤ g1 := by have := (unhide HB1).size; omega
      obtain ⟨x2, hx2⟩ : ∃ q, y1.alloc (.cells #[.int .u8 0, .int .u8 0, .int .u8 0, .int .u8 0, .int .u8 0, .int .u8 0, .int .u8 0, .int .u8 0, .int .u8 0, .int .u8 0, .int .u8 0, .int .u8 0, .int .u8 0, .int .u8 0, .int .u8 0, .int .u8 0, .int .u8 0, .int .u8 0, .int .u8 0, .int .u8 0, .int .u8 0, .int .u8 0, .int .u8 0, .int .u8 0, .int .u8 0, .int .u8 0, .int .u8 0, .int .u8 0, .int .u8 0, .int .u8 0, .int .u8 0, .int .u8 0] 46) = q := ⟨_, rfl⟩
      have HT2 := hide (show x2.there g1 0 32 from by rw [← hx2, ← hg1]; simpa using (zD_new y1).there)
      have hs2 : x2.heap.size = g1 + 1 := by rw [← hx2]; simp [hg1]
      obtain ⟨x3, hx3⟩ : ∃ q, x2.setCells g1 0 ca = q := ⟨_, rfl⟩
      have HRA3 := hide (show x3.rangeAt g1 0 ca from by rw [← hx3]; exact World.rangeAt_setCells_same x2 g1 0 ca (by rw [unhide HLa]; exact unhide HT2))
      have HB3 := hide (show Below h w x3 from by rw [← hx3, ← hx2]; exact below_setCells (by omega) _ _ ((unhide HB1).alloc (by omega) _))
      have HS3 := hide (show g1 < x3.heap.size from by have := (show Below g1 x2 x3 from by rw [← hx3]; exact below_setCells (Nat.le_refl _) _ _ (Below.refl _ _)).size; omega)
      clear hs2
      go_wp2_with (first | refine wpList_store_mid rfl 46 (.tmp 11) (.tmp 18) rfl g1 0 ca.toArray rfl rfl (by simpa [unhide HLa] using unhide HT2) (by rw [szD]; simp [unhide HLa]) (unhide HKa) ?_ | fail)
      refine (unhide HRb _).mono ?_
      rintro e y4 ⟨rfl, hb4⟩
      have HB4 := hide (show Below h w y4 from (unhide HB3).trans (hb4.mono (by have := unhide HS3; omega)))
      have HRA4 := hide (rangeAt_below (unhide HRA3) hb4 (unhide HS3))
      obtain ⟨g2, hg2⟩ : ∃ q, y4.heap.size = q := ⟨_, rfl⟩
      have hs4 : g1 < g2 := by have := hb4.size; have := unhide HS3; omega
      clear hb4
      obtain ⟨x4, hx4⟩ : ∃ q, y4.alloc (.cells #[.int .u8 0, .int .u8 0, .int .u8 0, .int .u8 0, .int .u8 0, .int .u8 0, .int .u8 0, .int .u8 0, .int .u8 0, .int .u8 0, .int .u8 0, .int .u8 0, .int .u8 0, .int .u8 0, .int .u8 0, .int .u8 0, .int .u8 0, .int .u8 0, .int .u8 0, .int .u8 0, .int .u8 0, .int .u8 0, .int .u8 0, .int .u8 0, .int .u8 0, .int .u8 0, .int .u8 0, .int .u8 0, .int .u8 0, .int .u8 0, .int .u8 0, .int .u8 0] 46) = q := ⟨_, rfl⟩
      have HT4 := hide (show x4.there g2 0 32 from by rw [← hx4, ← hg2]; simpa using (zD_new y4).there)
      obtain ⟨x5, hx5⟩ : ∃ q, x4.setCells g2 0 cb = q := ⟨_, rfl⟩
      have HRB := hide (show x5.rangeAt g2 0 cb from by rw [← hx5]; exact World.rangeAt_setCells_same x4 g2 0 cb (by rw [unhide HLb]; exact unhide HT4))
      have HRA := hide (show x5.rangeAt g1 0 ca from by
        have q1 : Below g2 y4 x5 := by rw [← hx5, ← hx4]; exact below_setCells (by omega) _ _ ((Below.refl _ _).alloc (by omega) _)
        exact rangeAt_below (unhide HRA4) q1 hs4)
      have HB5 := hide (show Below h w x5 from by rw [← hx5, ← hx4]; exact below_setCells (by omega) _ _ ((unhide HB4).alloc (by omega) _))
      go_wp2_with (refine wpList_store_mid rfl 46 (.tmp 13) (.tmp 23) rfl g2 0 cb.toArray rfl rfl (by simpa [unhide HLb] using unhide HT4) (by rw [szD]; simp [unhide HLb]) (unhide HKb) ?_)
      go_ret
      exact ⟨rfl, unhide HB5⟩
    · rw [decide_eq_false h1] at HRa
      generalize decide (b.size = 32) = bz at *
      clear hab h1
      go_enter Tryd.func14, Tryd.ntmps14
      go_wp2_with fail
      refine (unhide HRa _).mono ?_
      rintro e y1 ⟨rfl, hb1⟩
      have HB1 := hide (show Below h w y1 from hb1.mono (by omega))
      clear hb1
      obtain ⟨g1, hg1⟩ : ∃ q, y1.heap.size = q := ⟨_, rfl⟩
      have hs1 : h ≤ g1 := by have := (unhide HB1).size; omega
      obtain ⟨x2, hx2⟩ : ∃ q, y1.alloc (.cells #[.int .u8 0, .int .u8 0, .int .u8 0, .int .u8 0, .int .u8 0, .int .u8 0, .int .u8 0, .int .u8 0, .int .u8 0, .int .u8 0, .int .u8 0, .int .u8 0, .int .u8 0, .int .u8 0, .int .u8 0, .int .u8 0, .int .u8 0, .int .u8 0, .int .u8 0, .int .u8 0, .int .u8 0, .int .u8 0, .int .u8 0, .int .u8 0, .int .u8 0, .int .u8 0, .int .u8 0, .int .u8 0, .int .u8 0, .int .u8 0, .int .u8 0, .int .u8 0] 46) = q := ⟨_, rfl⟩
      have HT2 := hide (show x2.there g1 0 32 from by rw [← hx2, ← hg1]; simpa using (zD_new y1).there)
      have hs2 : x2.heap.size = g1 + 1 := by rw [← hx2]; simp [hg1]
      obtain ⟨x3, hx3⟩ : ∃ q, x2.setCells g1 0 ca = q := ⟨_, rfl⟩
      have HRA3 := hide (show x3.rangeAt g1 0 ca from by rw [← hx3]; exact World.rangeAt_setCells_same x2 g1 0 ca (by rw [unhide HLa]; exact unhide HT2))
      have HB3 := hide (show Below h w x3 from by rw [← hx3, ← hx2]; exact below_setCells (by omega) _ _ ((unhide HB1).alloc (by omega) _))
      have HS3 := hide (show g1 < x3.heap.size from by have := (show Below g1 x2 x3 from by rw [← hx3]; exact below_setCells (Nat.le_refl _) _ _ (Below.refl _ _)).size; omega)
      clear hs2
      go_wp2_with (first | refine wpList_store_mid rfl 46 (.tmp 11) (.tmp 18) rfl g1 0 ca.toArray rfl rfl (by simpa [unhide HLa] using unhide HT2) (by rw [szD]; simp [unhide HLa]) (unhide HKa) ?_ | fail)
      refine (unhide HRb _).mono ?_
      rintro e y4 ⟨rfl, hb4⟩
      have HB4 := hide (show Below h w y4 from (unhide HB3).trans (hb4.mono (by have := unhide HS3; omega)))
      have HRA4 := hide (rangeAt_below (unhide HRA3) hb4 (unhide HS3))
      obtain ⟨g2, hg2⟩ : ∃ q, y4.heap.size = q := ⟨_, rfl⟩
      have hs4 : g1 < g2 := by have := hb4.size; have := unhide HS3; omega
      clear hb4
      obtain ⟨x4, hx4⟩ : ∃ q, y4.alloc (.cells #[.int .u8 0, .int .u8 0, .int .u8 0, .int .u8 0, .int .u8 0, .int .u8 0, .int .u8 0, .int .u8 0, .int .u8 0, .int .u8 0, .int .u8 0, .int .u8 0, .int .u8 0, .int .u8 0, .int .u8 0, .int .u8 0, .int .u8 0, .int .u8 0, .int .u8 0, .int .u8 0, .int .u8 0, .int .u8 0, .int .u8 0, .int .u8 0, .int .u8 0, .int .u8 0, .int .u8 0, .int .u8 0, .int .u8 0, .int .u8 0, .int .u8 0, .int .u8 0] 46) = q := ⟨_, rfl⟩
      have HT4 := hide (show x4.there g2 0 32 from by rw [← hx4, ← hg2]; simpa using (zD_new y4).there)
      obtain ⟨x5, hx5⟩ : ∃ q, x4.setCells g2 0 cb = q := ⟨_, rfl⟩
      have HRB := hide (show x5.rangeAt g2 0 cb from by rw [← hx5]; exact World.rangeAt_setCells_same x4 g2 0 cb (by rw [unhide HLb]; exact unhide HT4))
      have HRA := hide (show x5.rangeAt g1 0 ca from by
        have q1 : Below g2 y4 x5 := by rw [← hx5, ← hx4]; exact below_setCells (by omega) _ _ ((Below.refl _ _).alloc (by omega) _)
        exact rangeAt_below (unhide HRA4) q1 hs4)
      have HB5 := hide (show Below h w x5 from by rw [← hx5, ← hx4]; exact below_setCells (by omega) _ _ ((unhide HB4).alloc (by omega) _))
      go_wp2_with (refine wpList_store_mid rfl 46 (.tmp 13) (.tmp 23) rfl g2 0 cb.toArray rfl rfl (by simpa [unhide HLb] using unhide HT4) (by rw [szD]; simp [unhide HLb]) (unhide HKb) ?_)
      go_ret
      exact ⟨rfl, unhide HB5⟩
end Go.Proofs.YtilhilglokblpaaDoor
