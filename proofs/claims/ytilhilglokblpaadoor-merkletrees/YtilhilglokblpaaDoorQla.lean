import Derived.Test.YtilhilglokblpaaDoorQlp
namespace Go.Proofs.YtilhilglokblpaaDoor
open Go.RowKit
set_option maxRecDepth 100000
set_option maxHeartbeats 2000000 in
theorem awake19 (w : World) (hK : KTab w) : Calls Tryd.prog 5 #[] w fun e w' => e = .returned (.bool true) ∧ Below w.heap.size w w' := by
  obtain ⟨h, hh⟩ : ∃ h, w.heap.size = h := ⟨_, rfl⟩
  obtain ⟨x1, hx1⟩ : ∃ q, w.alloc (.cells #[.string ⟨#[97]⟩, .string ⟨#[98]⟩, .string ⟨#[99]⟩] 9) = q := ⟨_, rfl⟩
  have HE1 := hide (show x1.heap.size = h + 1 from by rw [← hx1]; simp [hh])
  have HB0 := hide (show Below h w x1 from by rw [← hx1, ← hh]; exact (Below.refl _ w).alloc (Nat.le_refl _) _)
  have HKB := hide (show ∀ W, Below (h + 1) x1 W → KTab W from fun W hW => (hK.below (unhide HB0) (by rw [← hh]; exact hK.1)).below hW (by have := hK.1; omega))
  have HSB := hide (show ∀ W, Below (h + 1) x1 W → SB W (h + 1) (some ⟨h, 0, none⟩) [aB, bB, cB3] from fun W hW => SB.below (fun j hj => by
    refine ⟨h, 0, rfl, by omega, ?_⟩
    rw [Nat.zero_add, ← hx1, ← hh, (Blk.new w 9 _).cell j]
    match j, hj with
    | 0, _ => rfl
    | 1, _ => rfl
    | 2, _ => rfl) hW)
  have hSh : Sht [aB, bB, cB3] := fun j hj => by
    match j, hj with
    | 0, _ => decide
    | 1, _ => decide
    | 2, _ => decide
  have HP := hide (show ∀ W, Below (h + 1) x1 W → Calls Tryd.prog 15 #[.slice (some ⟨h, 0, none⟩) 3 3, .int .i64 1] W (LQ2 W (pt [aB, bB, cB3] 1) 0) from fun W hW => by
    have := path_any [aB, bB, cB3] 3 rfl 1 W (h + 1) 3 _ (unhide HSB W hW) (by have := hW.size; have := unhide HE1; omega) (unhide HKB W hW) hSh (by decide) (by decide) (by decide)
    rw [awk_pa, awk_pe] at this
    exact this)
  have HR := hide (show ∀ W, Below (h + 1) x1 W → Calls Tryd.prog 11 #[.slice (some ⟨h, 0, none⟩) 3 3] W fun e w' => e = .returned (.string (rt [aB, bB, cB3])) ∧ Below W.heap.size W w' from fun W hW => root_any [aB, bB, cB3] 3 rfl W (h + 1) 3 _ (unhide HSB W hW) (by have := hW.size; have := unhide HE1; omega) (unhide HKB W hW) hSh (by decide) (by decide) (by decide))
  have HCb := hide (fun W B c p (hS : SB W B p (pt [aB, bB, cB3] 1)) (hB : B ≤ W.heap.size) (hW : Below (h + 1) x1 W) (h2 : 2 ≤ c) (h3 : c ≤ 9223372036854775807) => check_any (rt [aB, bB, cB3]) 3 1 bB (by decide) (pt [aB, bB, cB3] 1) 2 awk_len W B c p hS hB (unhide HKB W hW) h2 h3)
  have HCx := hide (fun W B c p (hS : SB W B p (pt [aB, bB, cB3] 1)) (hB : B ≤ W.heap.size) (hW : Below (h + 1) x1 W) (h2 : 2 ≤ c) (h3 : c ≤ 9223372036854775807) => check_any (rt [aB, bB, cB3]) 3 1 xB3 (by decide) (pt [aB, bB, cB3] 1) 2 awk_len W B c p hS hB (unhide HKB W hW) h2 h3)
  rw [awk_b] at HCb
  rw [awk_x] at HCx
  have HL := hide awk_len
  generalize rt [aB, bB, cB3] = r at *
  generalize pt [aB, bB, cB3] 1 = PL at *
  rw [show bB = ⟨#[98]⟩ from rfl] at HCb
  rw [show xB3 = ⟨#[120]⟩ from rfl] at HCx
  rw [hh]
  clear hK hSh
  go_enter Tryd.func5, Tryd.ntmps5
  go_wp2_with fail
  refine (unhide HP _ (Below.refl _ _)).mono ?_
  rintro e y1 ⟨v, rfl, ho, hb⟩
  rw [unhide HL] at ho
  obtain ⟨gv, cv, rfl, hgv, _⟩ := ho.form (by omega)
  have hcv : 2 ≤ cv ∧ cv ≤ 9223372036854775807 := by
    rcases ho.2 with ⟨_, q⟩ | ⟨g, cap, cur, q, _, _, q1, q2, _⟩
    · omega
    · injection q with _ _ q3
      subst q3
      exact ⟨q1, q2⟩
  have HB1 := hide (show Below (h + 1) x1 y1 from hb.mono (by rw [unhide HE1]; exact Nat.le_refl _))
  have HSP := hide (own_SB (unhide HL) ho)
  clear ho hb HP
  go_wp2_with fail
  refine (unhide HR _ (unhide HB1)).mono ?_
  rintro e y2 ⟨rfl, hb⟩
  have HB2 := hide (show Below (h + 1) x1 y2 from (unhide HB1).trans (hb.mono (by have := (unhide HB1).size; have := unhide HE1; omega)))
  have HSP2 := hide ((unhide HSP).below hb)
  have hs2 := hb.size
  clear hb HR HSP
  go_wp2_with fail
  refine (unhide HCb _ _ cv _ (unhide HSP2) hs2 (unhide HB2) hcv.1 hcv.2).mono ?_
  rintro e y3 ⟨rfl, hb⟩
  have HB3 := hide (show Below (h + 1) x1 y3 from (unhide HB2).trans (hb.mono (by have := (unhide HB2).size; have := unhide HE1; omega)))
  have HSP3 := hide ((unhide HSP2).below (hb.mono hs2))
  have hs3 := hb.size
  clear hb HCb HSP2
  go_wp2_with fail
  refine (unhide HCx _ _ cv _ (unhide HSP3) (Nat.le_trans hs2 hs3) (unhide HB3) hcv.1 hcv.2).mono ?_
  rintro e y4 ⟨rfl, hb⟩
  have HB4 := hide (show Below h w y4 from (unhide HB0).trans (((unhide HB3).trans (hb.mono (by have := (unhide HB3).size; have := unhide HE1; omega))).mono (by omega)))
  clear hb HCx HSP3 hs2 hs3
  go_wp2
  go_ret
  exact ⟨rfl, unhide HB4⟩
end Go.Proofs.YtilhilglokblpaaDoor
