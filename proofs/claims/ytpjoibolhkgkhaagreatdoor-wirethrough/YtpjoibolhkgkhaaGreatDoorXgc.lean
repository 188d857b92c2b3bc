import Derived.Test.YtpjoibolhkgkhaaGreatDoorXfj
import Derived.Test.YtpjoibolhkgkhaaGreatDoorTkd
namespace Go.Proofs.YtpjoibolhkgkhaaGreatDoor
open Go.RowKit
set_option maxRecDepth 100000
/-- is the check at the frame's end that of what is ahead of it? -/
def ckB (ah s : ByteArray) : Bool := ((strOfNums (le4 (chkN (nums (ah ++ s.extract 0 (s.size - 4)))))).toList == (s.extract (s.size - 4) s.size).toList)
def frB (s : ByteArray) (fs : List Fld) (ah : ByteArray) : Bool := if s.size = 5 + szF fs then ckB ah s else false
set_option maxHeartbeats 4000000 in
theorem isFrame_any (s : ByteArray) (hs : s.size ≤ 150000000000000) (fs : List Fld) (hF : ∀ f ∈ fs, IsF f) (hl : fs.length ≤ 4) (ah : ByteArray) (hah : ah.size ≤ 10) (v : Value) (w : World) (hR : FR w v fs) : Calls Tryz.prog 40 #[.string s, v, .string ah] w fun e w' => e = .returned (.bool (frB s fs ah)) ∧ Below w.heap.size w w' := by
  have HFS := hide (frameSize_any fs hF hl v w hR)
  have hsz := szF_le fs hF
  obtain ⟨g, hg⟩ : ∃ g, w.heap.size = g := ⟨_, rfl⟩
  by_cases hq : s.size = 5 + szF fs
  · rw [frB, if_pos hq]
    have hne : ((s.size : Int) != ((5 + szF fs : Nat) : Int)) = false := by simp; omega
    obtain ⟨E, hE⟩ : ∃ E, s.size = E + 4 := ⟨1 + szF fs, by omega⟩
    have hw : wrap64 ((s.size : Int) - 4) = (E : Int) := by rw [wrap64_eq _ (by omega) (by omega)]; omega
    have hE4 : s.size - 4 = E := by omega
    have hEs : E ≤ s.size := by omega
    rw [ckB, hE4]
    have hx : (ah ++ s.extract 0 E).size ≤ 100000 := by simp; omega
    have hadd : ¬ 9223372036854775807 < ah.size + (s.extract 0 E).size := by simp; omega
    have HC := hide (fun W => checkOf_any (ah ++ s.extract 0 E) hx W)
    obtain ⟨A1, hA1⟩ : ∃ Z, s.extract 0 E = Z := ⟨_, rfl⟩
    obtain ⟨A3, hA3⟩ : ∃ Z, s.extract E s.size = Z := ⟨_, rfl⟩
    rw [hA1] at HC hadd ⊢
    rw [hA3]
    rw [hE] at hA3
    have hle : (E : Int) ≤ (E : Int) + 4 := by omega
    obtain ⟨A2, hA2⟩ : ∃ Z, ah ++ A1 = Z := ⟨_, rfl⟩
    rw [hA2] at HC ⊢
    generalize strOfNums (le4 (chkN (nums A2))) = K4 at *
    obtain ⟨D, hD⟩ : ∃ Z, (K4.toList == A3.toList) = Z := ⟨_, rfl⟩
    rw [hD]
    clear hq hx hsz hE4 hF hR hah
    generalize (5 + szF fs : Nat) = M at *
    go_enter Tryz.func40, Tryz.ntmps40
    go_wp2_with (go_at_call 45; refine (unhide HFS).mono ?_; rintro e x ⟨rfl, hx⟩; have HX := hide hx; clear hx)
    have HBX := hide (show Below g w x by rw [← hg]; exact unhide HX)
    have HGX := hide (show g ≤ x.heap.size by rw [← hg]; exact (unhide HX).size)
    refine wp_region_held_drew (S := fun _ => True) (by kernel_rfl) trivial ?_
    intro hS
    refine wpAnyH_takeD 0 (some 16) (.string ah) rfl rfl (by kernel_rfl) (by kernel_rfl) (by kernel_rfl) (fun _ _ _ h => h) (Or.inl ⟨by rfl, fun w hSw => by clear hSw; go_simp; try omega⟩) hS ?_
    simp only [Act.put, List.setIfInBounds_toArray, List.set_cons_zero, List.set_cons_succ]
    refine wpAnyH_takeD 1 (some 17) (.string s) rfl rfl (by kernel_rfl) (by kernel_rfl) (by kernel_rfl) (fun _ _ _ h => h) (Or.inl ⟨by rfl, fun w hSw => by clear hSw; go_simp; try omega⟩) hS ?_
    simp only [Act.put, List.setIfInBounds_toArray, List.set_cons_zero, List.set_cons_succ]
    refine wpAnyH_takeD 2 (some 18) (.int .i64 (E : Int)) rfl rfl (by kernel_rfl) (by kernel_rfl) (by kernel_rfl) (fun _ _ _ h => h) (Or.inl ⟨by rfl, fun w hSw => by clear hSw; go_simp; try omega⟩) hS ?_
    simp only [Act.put, List.setIfInBounds_toArray, List.set_cons_zero, List.set_cons_succ]
    refine wpAnyH_takeD 3 (some 19) (.string A1) rfl rfl (by kernel_rfl) (by kernel_rfl) (by kernel_rfl) (fun _ _ _ h => h) (Or.inl ⟨by rfl, fun w hSw => by clear hSw; go_simp; try omega⟩) hS ?_
    simp only [Act.put, List.setIfInBounds_toArray, List.set_cons_zero, List.set_cons_succ]
    refine wpAnyH_takeD 4 (some 20) (.string A2) rfl rfl (by kernel_rfl) (by kernel_rfl) (by kernel_rfl) (fun _ _ _ h => h) (Or.inl ⟨by rfl, fun w hSw => by clear hSw; go_simp; try omega⟩) hS ?_
    simp only [Act.put, List.setIfInBounds_toArray, List.set_cons_zero, List.set_cons_succ]
    refine wpAnyH_takeD 6 (some 22) (.string s) rfl rfl (by kernel_rfl) (by kernel_rfl) (by kernel_rfl) (fun _ _ _ h => h) (Or.inl ⟨by rfl, fun w hSw => by clear hSw; go_simp; try omega⟩) hS ?_
    simp only [Act.put, List.setIfInBounds_toArray, List.set_cons_zero, List.set_cons_succ]
    refine wpAnyH_takeD 7 (some 23) (.int .i64 (E : Int)) rfl rfl (by kernel_rfl) (by kernel_rfl) (by kernel_rfl) (fun _ _ _ h => h) (Or.inl ⟨by rfl, fun w hSw => by clear hSw; go_simp; try omega⟩) hS ?_
    simp only [Act.put, List.setIfInBounds_toArray, List.set_cons_zero, List.set_cons_succ]
    refine wpAnyH_takeD 8 (some 24) (.string A3) rfl rfl (by kernel_rfl) (by kernel_rfl) (by kernel_rfl) (fun _ _ _ h => h) (Or.inl ⟨by rfl, fun w hSw => by clear hSw; go_simp; try omega⟩) hS ?_
    simp only [Act.put, List.setIfInBounds_toArray, List.set_cons_zero, List.set_cons_succ]
    refine wpAnyH_ready (rs := [5]) (by kernel_rfl) (by simp) ?_
    refine AllReadyH.cons rfl (fun K hK => ?_) AllReadyH.nil
    simp only [List.getElem_toArray, List.getElem_cons_succ, List.getElem_cons_zero]
    go_simp
    refine (unhide HC _).mono ?_
    rintro e x4 ⟨rfl, hb4⟩
    have HB4 := hide (show Below g w x4 from (unhide HBX).trans ((((Below.refl _ x).drew).trans hb4).mono (unhide HGX)))
    clear hb4
    refine hK.out _ _ trivial (fun hS => ?_)
    clear hK K
    refine wpAnyH_takeD 9 (some 25) (.bool D) rfl rfl (by kernel_rfl) (by kernel_rfl) (by kernel_rfl) (fun _ _ _ h => h) (Or.inl ⟨by rfl, fun w hSw => by clear hSw; go_simp; try omega⟩) hS ?_
    simp only [Act.put, List.setIfInBounds_toArray, List.set_cons_zero, List.set_cons_succ]
    refine wpAnyH_takeD 10 (some 6) (.bool D) rfl rfl (by kernel_rfl) (by kernel_rfl) (by kernel_rfl) (fun _ _ _ h => h) (Or.inl ⟨by rfl, fun w hSw => by clear hSw; go_simp; try omega⟩) hS ?_
    simp only [Act.put, List.setIfInBounds_toArray, List.set_cons_zero, List.set_cons_succ]
    refine wpAnyH_done (by kernel_rfl) ?_ _
    go_wp2
    go_ret
    exact ⟨rfl, by rw [hg]; exact unhide HB4⟩
  · rw [frB, if_neg hq]
    have hne : ((s.size : Int) != ((5 + szF fs : Nat) : Int)) = true := by simp; omega
    clear hq hF hR hsz
    generalize (5 + szF fs : Nat) = M at *
    go_enter Tryz.func40, Tryz.ntmps40
    go_wp2_with (go_at_call 45; refine (unhide HFS).mono ?_; rintro e x ⟨rfl, hx⟩; have HX := hide hx; clear hx)
    go_ret
    exact ⟨rfl, unhide HX⟩
end Go.Proofs.YtpjoibolhkgkhaaGreatDoor
