import Derived.Test.YtiokejnlioghiaaGreatDoorMv29
import Derived.Test.YtiokejnlioghiaaGreatDoorMv28
import Derived.Test.YtiokejnlioghiaaGreatDoorMv26
import Derived.BigQuiet
namespace Go.Proofs.YtiokejnlioghiaaGreatDoor
open Go.RowKit Go.Maps Go.Sort Go.Shelf
set_option maxRecDepth 100000
/-- both disks as they are in the end -/
def EQ6 (w0 : World) (b br xb : Nat) (s : DSt) (w : World) : Prop := ∃ v vr p y, Dk w w0.heap.size b v s ∧ Rk w w0.heap.size br vr s ∧ Blk w xb #[.pointer (some ⟨b, 0, none⟩), .pointer p, .pointer (some ⟨br, 0, none⟩), .pointer y, .slice none 0 0, .slice none 0 0, .slice none 0 0, .slice none 0 0] 54 ∧ Below w0.heap.size w0 w
set_option maxHeartbeats 4000000 in
theorem stepR6 {w0 w : World} {b br xb keep nx : Nat} {s : DSt} (h : YQ w0 b br xb keep nx s w) (hC : Coh s) (hz : Sz3 s) (hp : s.pend.length ≤ 1000000) (hl : 19 < s.last.length) (hl2 : s.last.length ≤ 1024) :
    Calls Tryz.prog 22 #[.pointer (some ⟨xb, 0, none⟩), .agg #[.int .i64 2, .int .i64 19, .string ⟨#[]⟩, .slice none 0 0]] w fun e w' => e = .returned (.bool true) ∧ EQ6 w0 b br xb s w' := by
  obtain ⟨pb, jb, qb, vr, jp, X, a1, a2, a3, a4, a5, a6, a7, a8⟩ := h
  obtain ⟨go, hgo⟩ : ∃ z, w.heap.size = z := ⟨_, rfl⟩
  obtain ⟨x0, hx0⟩ : ∃ z, w.alloc (.cells #[.int .i64 2, .int .i64 19, .string ⟨#[]⟩, .slice none 0 0] 58) = z := ⟨_, rfl⟩
  have B0 : Blk x0 go #[.int .i64 2, .int .i64 19, .string ⟨#[]⟩, .slice none 0 0] 58 := by rw [← hx0, ← hgo]; exact Blk.new w _ _
  have hb0 : Below w.heap.size w x0 := by rw [← hx0]; exact (Below.refl _ _).alloc (Nat.le_refl _) _
  have K0 := a4.more (Y := fun k => (Fr4 br vr k ∨ X k ∨ k = qb) ∨ k = go) hb0 (fun k q => q.imp_right (fun e => by rw [e]; exact ⟨by omega, B0.lt⟩))
  have X0 := a1.below hb0 a1.lt
  have Q0 := a2.below hb0 a2.lt
  have R0 := a3.below hb0
  have hgq : go ≠ qb := fun e => by have := a2.lt; omega
  have k0 : x0.cell? ⟨go, 0, none⟩ = some (.int .i64 2) := B0.cell 0
  have cp : x0.cell? ⟨xb, 1, none⟩ = some (.pointer (some ⟨pb, 0, none⟩)) := X0.cell 1
  -- what is read
  obtain ⟨t0, z0, S1, hRP, hS1, hdoc⟩ : ∃ t0 z0 S1, readP { s := s, nx := nx, jl := false, op := false, tx := [], keep := keep, h := [], hits := 0, mis := 0, lost := false } 19 = (t0, z0, S1) ∧ S1.s = s ∧ ∀ W, Rk W w0.heap.size br vr s → Blk W qb #[.pointer (some ⟨br, 0, none⟩), .pointer jp, .int .i64 (keep : Int), .slice none 0 0, .slice none 0 0, .bool false, .bool false, .int .i64 0, .int .i64 0] 166 → Calls Tryz.prog 66 #[.pointer (some ⟨qb, 0, none⟩), .int .i64 19] W fun e w' => e = .returned (.tuple #[.string t0, .int .i64 z0]) ∧ Only (fun x => x = qb) W w' := by
    have hh : hasB s 19 = true := by simp [hasB]; omega
    by_cases he : readE s ((19 : Nat) : Int) = 0
    · refine ⟨readT s 19, 0, missS { s := s, nx := nx, jl := false, op := false, tx := [], keep := keep, h := [], hits := 0, mis := 0, lost := false } 19, ?_, rfl, fun W hW hQ => rpread_ok hW hC hp hQ 19 hl he⟩
      have he' : readE s 19 = 0 := he
      simp [readP, hh, txAt, he']
    · refine ⟨⟨#[]⟩, 2, lostS { s := s, nx := nx, jl := false, op := false, tx := [], keep := keep, h := [], hits := 0, mis := 0, lost := false }, ?_, rfl, fun W hW hQ => rpread_no hW hC hp hQ 19 hl he⟩
      have he' : readE s 19 ≠ 0 := he
      have e2 : readE s 19 = 2 := by
        unfold readE at he' ⊢
        split at he'
        · split at he'
          · rename_i h1 h2; rw [if_pos h1, if_pos h2]
          · exact absurd rfl he'
        · rename_i h1; exact absurd ⟨by omega, by omega⟩ h1
      simp [readP, hh, txAt, e2]
  have HRD := hide (pread_any (K0.below (Below.refl _ x0).drew) 19 (by have := hz.read 19; show (readT s 19).size ≤ maxLen; unfold maxLen; omega))
  rw [hRP] at HRD
  have HBX := hide (X0.below (Below.refl _ x0).drew X0.lt)
  have HBG := hide (B0.below (Below.refl _ x0).drew B0.lt)
  have HR0 := hide (And.intro (R0.below (Below.refl _ x0).drew) (And.intro (Q0.below (Below.refl _ x0).drew Q0.lt) hS1))
  have HXX := hide (show X xb ∧ w0.heap.size ≤ xb ∧ qb ≠ xb from ⟨a5, a6, a7⟩)
  have HGQ := hide hgq
  have HQL := hide a8
  clear a8
  have HDOC := hide hdoc
  have c1 : x0.drew.cell? ⟨xb, 1, none⟩ = some (.pointer (some ⟨pb, 0, none⟩)) := (unhide HBX).cell 1
  have o1 : x0.drew.cell? ⟨go, 1, none⟩ = some (.int .i64 19) := (unhide HBG).cell 1
  have tt : (t0.toList == t0.toList) = true := by simp
  have zz : (z0 == z0) = true := by simp
  clear a1 a2 a3 a4 a5 a6 a7 B0 hb0 K0 X0 Q0 R0 hgq hRP hS1 hdoc hC hz hp hl hl2
  go_enter Tryz.func22, Tryz.ntmps22
  go_wp2_with fail
  clear hx0 k0 cp hgo
  as_aux_lemma =>
    refine wp_region_held_drew (S := fun W => W.cell? ⟨xb, 1, none⟩ = some (.pointer (some ⟨pb, 0, none⟩)) ∧ W.cell? ⟨go, 1, none⟩ = some (.int .i64 19)) (by kernel_rfl) ⟨c1, o1⟩ ?_
    intro hS
    refine wpAnyH_takeD 0 (some 61) (.pointer (some ⟨xb, 0, none⟩)) rfl rfl (by kernel_rfl) (by kernel_rfl) (by kernel_rfl) (fun _ _ _ h => h) (Or.inl ⟨by rfl, fun w hSw => by obtain ⟨q0, q1⟩ := hSw; go_simp⟩) hS ?_
    simp only [Act.put, List.setIfInBounds_toArray, List.set_cons_zero, List.set_cons_succ]
    refine wpAnyH_takeD 1 (some 62) (.pointer (some ⟨xb, 0, none⟩)) rfl rfl (by kernel_rfl) (by kernel_rfl) (by kernel_rfl) (fun _ _ _ h => h) (Or.inl ⟨by rfl, fun w hSw => by obtain ⟨q0, q1⟩ := hSw; go_simp⟩) hS ?_
    simp only [Act.put, List.setIfInBounds_toArray, List.set_cons_zero, List.set_cons_succ]
    refine wpAnyH_takeD 2 (some 63) (.pointer (some ⟨xb, 1, none⟩)) rfl rfl (by kernel_rfl) (by kernel_rfl) (by kernel_rfl) (fun _ _ _ h => h) (Or.inl ⟨by rfl, fun w hSw => by obtain ⟨q0, q1⟩ := hSw; go_simp⟩) hS ?_
    simp only [Act.put, List.setIfInBounds_toArray, List.set_cons_zero, List.set_cons_succ]
    refine wpAnyH_takeD 3 (some 64) (.pointer (some ⟨pb, 0, none⟩)) rfl rfl (by kernel_rfl) (by kernel_rfl) (by kernel_rfl) (fun _ _ _ h => h) (Or.inl ⟨by rfl, fun w hSw => by obtain ⟨q0, q1⟩ := hSw; go_simp⟩) hS ?_
    simp only [Act.put, List.setIfInBounds_toArray, List.set_cons_zero, List.set_cons_succ]
    refine wpAnyH_takeD 4 (some 65) (.pointer (some ⟨go, 1, none⟩)) rfl rfl (by kernel_rfl) (by kernel_rfl) (by kernel_rfl) (fun _ _ _ h => h) (Or.inl ⟨by rfl, fun w hSw => by obtain ⟨q0, q1⟩ := hSw; go_simp⟩) hS ?_
    simp only [Act.put, List.setIfInBounds_toArray, List.set_cons_zero, List.set_cons_succ]
    refine wpAnyH_takeD 5 (some 66) (.int .i64 19) rfl rfl (by kernel_rfl) (by kernel_rfl) (by kernel_rfl) (fun _ _ _ h => h) (Or.inl ⟨by rfl, fun w hSw => by obtain ⟨q0, q1⟩ := hSw; go_simp⟩) hS ?_
    simp only [Act.put, List.setIfInBounds_toArray, List.set_cons_zero, List.set_cons_succ]
    refine wpAnyH_ready (rs := [6]) (by kernel_rfl) (by simp) ?_
    refine AllReadyH.cons rfl (fun K hK => ?_) AllReadyH.nil
    simp only [List.getElem_toArray, List.getElem_cons_succ, List.getElem_cons_zero]
    go_simp
    refine (unhide HRD).mono ?_
    rintro e y1 ⟨rfl, hK1, hO1⟩
    have BX1 := (unhide HBX).only hO1 (fun q => q (.inl (.inr (.inl (unhide HXX).1))))
    have BG1 := (unhide HBG).only hO1 (fun q => q (.inr rfl))
    have d1 : y1.cell? ⟨xb, 1, none⟩ = some (.pointer (some ⟨pb, 0, none⟩)) := BX1.cell 1
    have d2 : y1.cell? ⟨go, 1, none⟩ = some (.int .i64 19) := BG1.cell 1
    have HY := hide (And.intro hK1 (And.intro hO1 (And.intro BX1 BG1)))
    clear hK1 hO1 BX1 BG1
    refine hK.out _ _ ⟨d1, d2⟩ (fun hS => ?_)
    clear hK K
    refine wpAnyH_takeD 7 (some 60) (.tuple #[.string t0, .int .i64 z0]) rfl rfl (by kernel_rfl) (by kernel_rfl) (by kernel_rfl) (fun _ _ _ h => h) (Or.inl ⟨by rfl, fun w hSw => by obtain ⟨q0, q1⟩ := hSw; go_simp⟩) hS ?_
    simp only [Act.put, List.setIfInBounds_toArray, List.set_cons_zero, List.set_cons_succ]
    refine wpAnyH_takeD 8 (some 68) (.string t0) rfl rfl (by kernel_rfl) (by kernel_rfl) (by kernel_rfl) (fun _ _ _ h => h) (Or.inl ⟨by rfl, fun w hSw => by obtain ⟨q0, q1⟩ := hSw; go_simp⟩) hS ?_
    simp only [Act.put, List.setIfInBounds_toArray, List.set_cons_zero, List.set_cons_succ]
    refine wpAnyH_takeD 9 (some 69) (.int .i64 z0) rfl rfl (by kernel_rfl) (by kernel_rfl) (by kernel_rfl) (fun _ _ _ h => h) (Or.inl ⟨by rfl, fun w hSw => by obtain ⟨q0, q1⟩ := hSw; go_simp⟩) hS ?_
    simp only [Act.put, List.setIfInBounds_toArray, List.set_cons_zero, List.set_cons_succ]
    refine wpAnyH_takeD 10 (some 5) (.string t0) rfl rfl (by kernel_rfl) (by kernel_rfl) (by kernel_rfl) (fun _ _ _ h => h) (Or.inl ⟨by rfl, fun w hSw => by obtain ⟨q0, q1⟩ := hSw; go_simp⟩) hS ?_
    simp only [Act.put, List.setIfInBounds_toArray, List.set_cons_zero, List.set_cons_succ]
    refine wpAnyH_takeD 11 (some 6) (.int .i64 z0) rfl rfl (by kernel_rfl) (by kernel_rfl) (by kernel_rfl) (fun _ _ _ h => h) (Or.inl ⟨by rfl, fun w hSw => by obtain ⟨q0, q1⟩ := hSw; go_simp⟩) hS ?_
    simp only [Act.put, List.setIfInBounds_toArray, List.set_cons_zero, List.set_cons_succ]
    refine wpAnyH_done (by kernel_rfl) ?_ _
    clear hS d1 d2 c1 o1 HRD
    obtain ⟨y1, rfl⟩ : ∃ W, W = y1 := ⟨_, rfl⟩
    have bd : Below y1.heap.size y1 y1.drew := (Below.refl _ _).drew
    have hR1 := ((unhide HR0).1.only (unhide HY).2.1 (fun k hk q => q (.inl (.inl hk)))).below bd
    have hQ1 := Blk.below ((unhide HR0).2.1.only (unhide HY).2.1 (fun q => q (.inl (.inr (.inr rfl))))) bd ((unhide HR0).2.1.only (unhide HY).2.1 (fun q => q (.inl (.inr (.inr rfl))))).lt
    have HRQ := hide (unhide HDOC y1.drew hR1 hQ1)
    clear HBX HBG
    have HBX := hide ((unhide HY).2.2.1.below bd (unhide HY).2.2.1.lt)
    have HBG := hide ((unhide HY).2.2.2.below bd (unhide HY).2.2.2.lt)
    have HR1 := hide hR1
    have c1 : y1.drew.cell? ⟨xb, 3, none⟩ = some (.pointer (some ⟨qb, 0, none⟩)) := (unhide HBX).cell 3
    have o1 : y1.drew.cell? ⟨go, 1, none⟩ = some (.int .i64 19) := (unhide HBG).cell 1
    clear bd hR1 hQ1
    go_wp2_with fail
    refine wp_region_held_drew (S := fun W => W.cell? ⟨xb, 3, none⟩ = some (.pointer (some ⟨qb, 0, none⟩)) ∧ W.cell? ⟨go, 1, none⟩ = some (.int .i64 19)) (by kernel_rfl) ⟨c1, o1⟩ ?_
    intro hS
    refine wpAnyH_takeD 0 (some 71) (.pointer (some ⟨xb, 0, none⟩)) rfl rfl (by kernel_rfl) (by kernel_rfl) (by kernel_rfl) (fun _ _ _ h => h) (Or.inl ⟨by rfl, fun w hSw => by obtain ⟨q0, q1⟩ := hSw; go_simp⟩) hS ?_
    simp only [Act.put, List.setIfInBounds_toArray, List.set_cons_zero, List.set_cons_succ]
    refine wpAnyH_takeD 1 (some 72) (.pointer (some ⟨xb, 0, none⟩)) rfl rfl (by kernel_rfl) (by kernel_rfl) (by kernel_rfl) (fun _ _ _ h => h) (Or.inl ⟨by rfl, fun w hSw => by obtain ⟨q0, q1⟩ := hSw; go_simp⟩) hS ?_
    simp only [Act.put, List.setIfInBounds_toArray, List.set_cons_zero, List.set_cons_succ]
    refine wpAnyH_takeD 2 (some 73) (.pointer (some ⟨xb, 3, none⟩)) rfl rfl (by kernel_rfl) (by kernel_rfl) (by kernel_rfl) (fun _ _ _ h => h) (Or.inl ⟨by rfl, fun w hSw => by obtain ⟨q0, q1⟩ := hSw; go_simp⟩) hS ?_
    simp only [Act.put, List.setIfInBounds_toArray, List.set_cons_zero, List.set_cons_succ]
    refine wpAnyH_takeD 3 (some 74) (.pointer (some ⟨qb, 0, none⟩)) rfl rfl (by kernel_rfl) (by kernel_rfl) (by kernel_rfl) (fun _ _ _ h => h) (Or.inl ⟨by rfl, fun w hSw => by obtain ⟨q0, q1⟩ := hSw; go_simp⟩) hS ?_
    simp only [Act.put, List.setIfInBounds_toArray, List.set_cons_zero, List.set_cons_succ]
    refine wpAnyH_takeD 4 (some 75) (.pointer (some ⟨go, 1, none⟩)) rfl rfl (by kernel_rfl) (by kernel_rfl) (by kernel_rfl) (fun _ _ _ h => h) (Or.inl ⟨by rfl, fun w hSw => by obtain ⟨q0, q1⟩ := hSw; go_simp⟩) hS ?_
    simp only [Act.put, List.setIfInBounds_toArray, List.set_cons_zero, List.set_cons_succ]
    refine wpAnyH_takeD 5 (some 76) (.int .i64 19) rfl rfl (by kernel_rfl) (by kernel_rfl) (by kernel_rfl) (fun _ _ _ h => h) (Or.inl ⟨by rfl, fun w hSw => by obtain ⟨q0, q1⟩ := hSw; go_simp⟩) hS ?_
    simp only [Act.put, List.setIfInBounds_toArray, List.set_cons_zero, List.set_cons_succ]
    refine wpAnyH_ready (rs := [6]) (by kernel_rfl) (by simp) ?_
    refine AllReadyH.cons rfl (fun K hK => ?_) AllReadyH.nil
    simp only [List.getElem_toArray, List.getElem_cons_succ, List.getElem_cons_zero]
    go_simp
    refine (unhide HRQ).mono ?_
    rintro e y2 ⟨rfl, hO2⟩
    have BX2 := (unhide HBX).only hO2 (fun q => (unhide HXX).2.2 q.symm)
    have BG2 := (unhide HBG).only hO2 (fun q => (unhide HGQ) q)
    have d1 : y2.cell? ⟨xb, 3, none⟩ = some (.pointer (some ⟨qb, 0, none⟩)) := BX2.cell 3
    have d2 : y2.cell? ⟨go, 1, none⟩ = some (.int .i64 19) := BG2.cell 1
    have HZ := hide (And.intro hO2 BX2)
    clear hO2 BX2 BG2
    refine hK.out _ _ ⟨d1, d2⟩ (fun hS => ?_)
    clear hK K
    refine wpAnyH_takeD 7 (some 70) (.tuple #[.string t0, .int .i64 z0]) rfl rfl (by kernel_rfl) (by kernel_rfl) (by kernel_rfl) (fun _ _ _ h => h) (Or.inl ⟨by rfl, fun w hSw => by obtain ⟨q0, q1⟩ := hSw; go_simp⟩) hS ?_
    simp only [Act.put, List.setIfInBounds_toArray, List.set_cons_zero, List.set_cons_succ]
    refine wpAnyH_takeD 8 (some 78) (.string t0) rfl rfl (by kernel_rfl) (by kernel_rfl) (by kernel_rfl) (fun _ _ _ h => h) (Or.inl ⟨by rfl, fun w hSw => by obtain ⟨q0, q1⟩ := hSw; go_simp⟩) hS ?_
    simp only [Act.put, List.setIfInBounds_toArray, List.set_cons_zero, List.set_cons_succ]
    refine wpAnyH_takeD 9 (some 79) (.int .i64 z0) rfl rfl (by kernel_rfl) (by kernel_rfl) (by kernel_rfl) (fun _ _ _ h => h) (Or.inl ⟨by rfl, fun w hSw => by obtain ⟨q0, q1⟩ := hSw; go_simp⟩) hS ?_
    simp only [Act.put, List.setIfInBounds_toArray, List.set_cons_zero, List.set_cons_succ]
    refine wpAnyH_takeD 10 (some 7) (.string t0) rfl rfl (by kernel_rfl) (by kernel_rfl) (by kernel_rfl) (fun _ _ _ h => h) (Or.inl ⟨by rfl, fun w hSw => by obtain ⟨q0, q1⟩ := hSw; go_simp⟩) hS ?_
    simp only [Act.put, List.setIfInBounds_toArray, List.set_cons_zero, List.set_cons_succ]
    refine wpAnyH_takeD 11 (some 8) (.int .i64 z0) rfl rfl (by kernel_rfl) (by kernel_rfl) (by kernel_rfl) (fun _ _ _ h => h) (Or.inl ⟨by rfl, fun w hSw => by obtain ⟨q0, q1⟩ := hSw; go_simp⟩) hS ?_
    simp only [Act.put, List.setIfInBounds_toArray, List.set_cons_zero, List.set_cons_succ]
    refine wpAnyH_done (by kernel_rfl) ?_ _
    have HF := hide (show EQ6 w0 b br xb s y2 from by
      obtain ⟨bw, bv, ov, K⟩ := (unhide HY).1
      obtain ⟨v, d1, d2, d3, d4, d5, d6, d7⟩ := K.jk
      have eS : S1.s = s := (unhide HR0).2.2
      rw [eS] at d1
      have bd : Below y1.heap.size y1 y1.drew := (Below.refl _ _).drew
      have oQ := (unhide HZ).1
      have nQ : ¬ Fd b v qb := (d7 qb (.inl (.inl (.inr (.inr rfl))))).1
      have rQ : ¬ Fr4 br vr qb := (unhide HR1).noty (Blk.below ((unhide HR0).2.1.only (unhide HY).2.1 (fun q => q (.inl (.inr (.inr rfl))))) bd ((unhide HR0).2.1.only (unhide HY).2.1 (fun q => q (.inl (.inr (.inr rfl))))).lt) (by unfold FT; decide)
      have lq : w0.heap.size ≤ qb := unhide HQL
      refine ⟨v, vr, _, _, (d1.below bd).only oQ (fun k hk e => nQ (by rw [← e]; exact hk)), (unhide HR1).only oQ (fun k hk e => rQ (by rw [← e]; exact hk)), (unhide HZ).2, ?_⟩
      exact d5.trans (((bd.mono d5.size).trans (oQ.below (Nat.le_trans d5.size bd.size) (fun k hk e => by omega))))
      )
    clear hS d1 d2 c1 o1 HRQ HY HZ HBX HBG HR1 HR0 HDOC
    go_wp2
    go_ret
    exact ⟨rfl, unhide HF⟩
end Go.Proofs.YtiokejnlioghiaaGreatDoor

namespace Go.Proofs.YtiokejnlioghiaaGreatDoor
open Go.RowKit
set_option maxRecDepth 100000
/-- what ended asks of the world -/
structure AlC (w : World) (xb b br : Nat) (pa pp pz : Option Addr) (al ca pl cp n cl : Nat) : Prop where
  c0 : w.cell? ⟨xb, 0, none⟩ = some (.pointer (some ⟨b, 0, none⟩))
  c1 : w.cell? ⟨xb, 2, none⟩ = some (.pointer (some ⟨br, 0, none⟩))
  c4 : w.cell? ⟨br, 4, none⟩ = some (.slice pa al ca)
  c2 : w.cell? ⟨br, 1, none⟩ = some (.slice pp pl cp)
  cz : w.cell? ⟨br, 0, none⟩ = some (.slice pz n cl)
theorem AlC.below {w w' : World} {xb b br : Nat} {pa pp pz : Option Addr} {al ca pl cp n cl : Nat} (h : AlC w xb b br pa pp pz al ca pl cp n cl) (hb : Below w.heap.size w w') : AlC w' xb b br pa pp pz al ca pl cp n cl := by
  have k1 : xb < w.heap.size := World.block_lt_of_cell? w _ h.c0
  have k2 : br < w.heap.size := World.block_lt_of_cell? w _ h.c4
  exact ⟨(hb.cell (p := ⟨xb, 0, none⟩) k1).trans h.c0, (hb.cell (p := ⟨xb, 2, none⟩) k1).trans h.c1, (hb.cell (p := ⟨br, 4, none⟩) k2).trans h.c4, (hb.cell (p := ⟨br, 1, none⟩) k2).trans h.c2, (hb.cell (p := ⟨br, 0, none⟩) k2).trans h.cz⟩
theorem Acts.blk {w : World} {g : Nat} {A : List (Nat × Nat)} {T : TypeId} (h : Blk w g (tels A).toArray T) : Acts w (some ⟨g, 0, none⟩) (A.map telN) := fun j hj => by
  rw [List.length_map] at hj
  obtain ⟨q1, q2⟩ := tels_nat A j hj
  refine ⟨g, 0, rfl, h.lt, ?_, ?_⟩
  · rw [Nat.zero_add, h.cell]; simpa using q1
  · rw [Nat.zero_add, h.cell]; simpa using q2
set_option maxHeartbeats 4000000 in
theorem ended_any {w : World} {base xb b br : Nat} {v : DV} {vr : RV} {s : DSt} {p1 p2 : Option Addr} {q1 q2 q3 q4 : Value} (hD : Dk w base b v s) (hR : Rk w base br vr s) (hX : Blk w xb #[.pointer (some ⟨b, 0, none⟩), .pointer p1, .pointer (some ⟨br, 0, none⟩), .pointer p2, q1, q2, q3, q4] 54) (ha : s.acts.length ≤ 1000000) (hA : ∀ p ∈ s.acts, p.2 < 1024) (hl : 0 < s.last.length) (hl2 : s.last.length ≤ 1024) :
    Calls Tryz.prog 23 #[.pointer (some ⟨xb, 0, none⟩)] w fun e w' => e = .returned (.bool true) ∧ Below w.heap.size w w' := by
  obtain ⟨pa, ca, ea, hAc⟩ := Acts.own hR.ra
  obtain ⟨pp, cp, ep, -⟩ := row_form hR.rp
  obtain ⟨pz, cl, el, hZ⟩ := Strs.own hR.rl
  have HC := hide (show AlC w xb b br pa pp pz s.acts.length ca s.pend.length cp s.last.length cl from ⟨hX.cell 0, hX.cell 2, by rw [hR.blk.cell 4, ← ea]; rfl, by rw [hR.blk.cell 1, ← ep]; rfl, by rw [hR.blk.cell 0, ← el]; rfl⟩)
  have HDK := hide hD
  have HTR := hide (fun (W : World) (hb : Below w.heap.size w W) => trace_any W base b v s ((unhide HDK).below hb) (by omega) hA)
  have HPP := hide (fun (W : World) (hb : Below w.heap.size w W) => pending_any W base b v s ((unhide HDK).below hb))
  have HIM := hide (image_any w base b v s hD hl hl2)
  have hAt : (s.acts.map telN).length = s.acts.length := List.length_map ..
  obtain ⟨A, eA⟩ : ∃ z, s.acts.map telN = z := ⟨_, rfl⟩
  obtain ⟨TA, eT⟩ : ∃ z, tels s.acts = z := ⟨_, rfl⟩
  obtain ⟨L, eL⟩ : ∃ z, s.last = z := ⟨_, rfl⟩
  have HTA := hide (fun (W : World) (g : Nat) (hb : Blk W g (tels s.acts).toArray 117) => Acts.blk hb)
  rw [eA] at hAc hAt HTA
  rw [eT] at HTA HTR
  rw [eL] at hZ HIM hl2 HC
  obtain ⟨al, eal⟩ : ∃ z, s.acts.length = z := ⟨_, rfl⟩
  obtain ⟨pl, epl⟩ : ∃ z, s.pend.length = z := ⟨_, rfl⟩
  obtain ⟨n, en⟩ : ∃ z, L.length = z := ⟨_, rfl⟩
  rw [eal] at hAt HTR HC ha
  rw [epl] at HC HPP
  rw [en] at HC HIM hl2
  have HAc := hide (And.intro hAc hAt)
  have HZ := hide (And.intro hZ en)
  obtain ⟨g0, hg0⟩ : ∃ z, w.heap.size = z := ⟨_, rfl⟩
  have HG := hide hg0
  rw [hg0] at HTR HPP HIM ⊢
  have c0 := (unhide HC).c0
  clear hD hR hX hA hl ea hAc ep el hZ eA eT eL eal epl en hg0 hAt
  go_enter Tryz.func23, Tryz.ntmps23
  go_wp2_with fail
  refine (unhide HIM).mono ?_
  rintro e x1 ⟨vi, rfl, hrow, hb1⟩
  obtain ⟨pi, ci, rfl, hZi⟩ : ∃ p c, vi = .slice p n c ∧ Strs x1 p L := by
    have hr : x1.ownsRow g0 9 1 vi L.length (strs L) := by rw [(unhide HZ).2]; exact hrow
    obtain ⟨p, c, q1, q2⟩ := Strs.own hr
    exact ⟨p, c, by rw [q1, (unhide HZ).2], q2⟩
  have hb1w : Below w.heap.size w x1 := by rw [unhide HG]; exact hb1
  have HZi := hide hZi
  have HZ2 := hide ((unhide HZ).1.below hb1w)
  have HA2 := hide ((unhide HAc).1.below hb1w)
  have HC1 := hide ((unhide HC).below hb1w)
  have HB1 := hide hb1
  have HLZ := hide (unhide HZ).2
  have HLN := hide (unhide HAc).2
  obtain ⟨-, c1, -, -, cz⟩ := unhide HC1
  have nz : ((n : Int) != (n : Int)) = false := by simp
  clear c0 hrow hZi hb1 hb1w HZ HAc HIM HC
  go_wp2_with fail
  go_loopw [4] (fun i wr => ∃ k : Nat, k ≤ n ∧ i = .int .i64 (k : Int) ∧ Below x1.heap.size x1 wr) (fun i _ => n - (intOf i).toNat)
  case atStart => exact ⟨0, by omega, rfl, Below.refl _ _⟩
  case round =>
    obtain ⟨k, hk, rfl, hb⟩ := hrel
    obtain ⟨wo, rfl⟩ : ∃ wo, wo = wr := ⟨_, rfl⟩
    have XB := hide hb
    clear c1 cz
    obtain ⟨c0, c1, -, -, cz⟩ := (unhide HC1).below hb
    clear hb
    by_cases hkl : k < n
    · as_aux_lemma =>
        obtain ⟨g1, o1, rfl, hg1, hc1⟩ := unhide HZi k (by rw [unhide HLZ]; exact hkl)
        obtain ⟨g2, o2, rfl, hg2, hc2⟩ := unhide HZ2 k (by rw [unhide HLZ]; exact hkl)
        have d1 := ((unhide XB).cell (p := ⟨g1, o1 + k, none⟩) hg1).trans hc1
        have d2 := ((unhide XB).cell (p := ⟨g2, o2 + k, none⟩) hg2).trans hc2
        generalize L.getD k ByteArray.empty = t1 at *
        clear hc1 hc2 c0
        have i0 : 0 ≤ (k : Int) := by omega
        have i1 : (k : Int) < (n : Int) := by omega
        go_wp2_with fail
        go_quiet (fail)
        go_wp2
        go_roundw
        case rel => exact ⟨k + 1, by omega, by go_num, below_drewN (unhide XB) _⟩
        case measure => simp [intOf]; omega
    · as_aux_lemma =>
        have hbo : Below g0 w wo := (unhide HB1).trans ((unhide XB).mono (by have := (unhide HB1).size; rw [unhide HG] at this; exact this))
        have HT := hide (unhide HTR wo hbo)
        have HBO := hide hbo
        clear c1 cz hbo
        go_wp2_with fail
        refine (unhide HT).mono ?_
        rintro e x2 ⟨rfl, hBt, hb2⟩
        obtain ⟨g9, hg9⟩ : ∃ z, wo.heap.size = z := ⟨_, rfl⟩
        rw [hg9] at hBt ⊢
        have HA1 := hide (unhide HTA x2 g9 hBt)
        have hb12 : Below x1.heap.size x1 x2 := (unhide XB).trans (hb2.mono (unhide XB).size)
        have HA3 := hide ((unhide HA2).below hb12)
        have HC2 := hide ((unhide HC1).below hb12)
        have HB2 := hide (show Below g0 w x2 from (unhide HB1).trans (hb12.mono (by have := (unhide HB1).size; rw [unhide HG] at this; exact this)))
        obtain ⟨-, c1, c4, -, -⟩ := unhide HC2
        have na : ((al : Int) != (al : Int)) = false := by simp
        clear c0 hBt hb2 hb12 hg9 HT HZi HZ2 HC1 HA2 XB HB1 HBO
        go_wp2_with fail
        go_loopw [6] (fun i wr => ∃ k : Nat, k ≤ al ∧ i = .int .i64 (k : Int) ∧ Below x2.heap.size x2 wr) (fun i _ => al - (intOf i).toNat)
        case atStart => exact ⟨0, by omega, rfl, Below.refl _ _⟩
        case round =>
          obtain ⟨m, hm, rfl, hb⟩ := hrel
          obtain ⟨wp, rfl⟩ : ∃ wo, wo = wr := ⟨_, rfl⟩
          have XB := hide hb
          clear c1 c4
          obtain ⟨c0, c1, c4, c2, -⟩ := (unhide HC2).below hb
          clear hb
          by_cases hma : m < al
          · as_aux_lemma =>
              obtain ⟨g1, o1, e1, hg1, hc1, he1⟩ := unhide HA1 m (by rw [unhide HLN]; exact hma)
              obtain ⟨g2, o2, rfl, hg2, hc2, he2⟩ := unhide HA3 m (by rw [unhide HLN]; exact hma)
              obtain ⟨rfl, rfl⟩ : g9 = g1 ∧ 0 = o1 := by injection e1 with e1; injection e1 with q1 q2; exact ⟨q1, q2⟩
              rw [Nat.zero_add] at hc1 he1
              have d1 : wp.cell? ⟨g9, m * 2, none⟩ = some (.int .i64 (A.getD m (0, 0)).1) := by rw [(unhide XB).cell (p := ⟨g9, m * 2, none⟩) hg1]; exact hc1
              have d2 : wp.cell? ⟨g2, o2 + m * 2, none⟩ = some (.int .i64 (A.getD m (0, 0)).1) := by rw [(unhide XB).cell (p := ⟨g2, o2 + m * 2, none⟩) hg2]; exact hc2
              have d3 : wp.cell? ⟨g9, m * 2 + 1, none⟩ = some (.int .i64 (A.getD m (0, 0)).2) := by rw [(unhide XB).cell (p := ⟨g9, m * 2 + 1, none⟩) hg1]; exact he1
              have d4 : wp.cell? ⟨g2, o2 + m * 2 + 1, none⟩ = some (.int .i64 (A.getD m (0, 0)).2) := by rw [(unhide XB).cell (p := ⟨g2, o2 + m * 2 + 1, none⟩) hg2]; exact he2
              generalize (A.getD m (0, 0)).1 = s1 at *
              generalize (A.getD m (0, 0)).2 = t1 at *
              clear hc1 hc2 he1 he2 c0 c2 e1
              have i0 : 0 ≤ (m : Int) := by omega
              have i1 : (m : Int) < (al : Int) := by omega
              go_wp2_with fail
              go_quiet (fail)
              go_wp2
              go_roundw
              case rel => exact ⟨m + 1, by omega, by go_num, below_drewN (unhide XB) _⟩
              case measure => simp [intOf]; omega
          · as_aux_lemma =>
                have hbe : Below g0 w wp.drew := ((unhide HB2).trans ((unhide XB).mono (by have := (unhide HB2).size; rw [unhide HG] at this; exact this))).drew
                have HPN := hide (unhide HPP wp.drew hbe)
                have HE := hide hbe
                have ep : ((pl : Int) == (pl : Int)) = true := by simp
                have bd : Below wp.heap.size wp wp.drew := (Below.refl _ _).drew
                clear c0 c1 c2 c4
                obtain ⟨c0, c1, -, c2, -⟩ := ((unhide HC2).below (unhide XB)).below bd
                clear hbe bd
                go_wp2_with fail
                refine wp_region_held_drew (S := fun W => W.cell? ⟨xb, 0, none⟩ = some (.pointer (some ⟨b, 0, none⟩)) ∧ W.cell? ⟨xb, 2, none⟩ = some (.pointer (some ⟨br, 0, none⟩)) ∧ W.cell? ⟨br, 1, none⟩ = some (.slice pp pl cp)) (by kernel_rfl) ⟨c0, c1, c2⟩ ?_
                intro hS
                refine wpAnyH_takeD 0 (some 83) (.pointer (some ⟨xb, 0, none⟩)) rfl rfl (by kernel_rfl) (by kernel_rfl) (by kernel_rfl) (fun _ _ _ h => h) (Or.inl ⟨by rfl, fun w hSw => by obtain ⟨q0, q1, q2⟩ := hSw; go_simp⟩) hS ?_
                simp only [Act.put, List.setIfInBounds_toArray, List.set_cons_zero, List.set_cons_succ]
                refine wpAnyH_takeD 1 (some 84) (.pointer (some ⟨xb, 0, none⟩)) rfl rfl (by kernel_rfl) (by kernel_rfl) (by kernel_rfl) (fun _ _ _ h => h) (Or.inl ⟨by rfl, fun w hSw => by obtain ⟨q0, q1, q2⟩ := hSw; go_simp⟩) hS ?_
                simp only [Act.put, List.setIfInBounds_toArray, List.set_cons_zero, List.set_cons_succ]
                refine wpAnyH_takeD 2 (some 85) (.pointer (some ⟨xb, 0, none⟩)) rfl rfl (by kernel_rfl) (by kernel_rfl) (by kernel_rfl) (fun _ _ _ h => h) (Or.inl ⟨by rfl, fun w hSw => by obtain ⟨q0, q1, q2⟩ := hSw; go_simp⟩) hS ?_
                simp only [Act.put, List.setIfInBounds_toArray, List.set_cons_zero, List.set_cons_succ]
                refine wpAnyH_takeD 3 (some 86) (.pointer (some ⟨b, 0, none⟩)) rfl rfl (by kernel_rfl) (by kernel_rfl) (by kernel_rfl) (fun _ _ _ h => h) (Or.inl ⟨by rfl, fun w hSw => by obtain ⟨q0, q1, q2⟩ := hSw; go_simp⟩) hS ?_
                simp only [Act.put, List.setIfInBounds_toArray, List.set_cons_zero, List.set_cons_succ]
                refine wpAnyH_takeD 4 (some 87) (.pointer (some ⟨b, 0, none⟩)) rfl rfl (by kernel_rfl) (by kernel_rfl) (by kernel_rfl) (fun _ _ _ h => h) (Or.inl ⟨by rfl, fun w hSw => by obtain ⟨q0, q1, q2⟩ := hSw; go_simp⟩) hS ?_
                simp only [Act.put, List.setIfInBounds_toArray, List.set_cons_zero, List.set_cons_succ]
                refine wpAnyH_takeD 5 (some 88) (.pointer (some ⟨b, 0, none⟩)) rfl rfl (by kernel_rfl) (by kernel_rfl) (by kernel_rfl) (fun _ _ _ h => h) (Or.inl ⟨by rfl, fun w hSw => by obtain ⟨q0, q1, q2⟩ := hSw; go_simp⟩) hS ?_
                simp only [Act.put, List.setIfInBounds_toArray, List.set_cons_zero, List.set_cons_succ]
                refine wpAnyH_takeD 7 (some 90) (.pointer (some ⟨xb, 0, none⟩)) rfl rfl (by kernel_rfl) (by kernel_rfl) (by kernel_rfl) (fun _ _ _ h => h) (Or.inl ⟨by rfl, fun w hSw => by obtain ⟨q0, q1, q2⟩ := hSw; go_simp⟩) hS ?_
                simp only [Act.put, List.setIfInBounds_toArray, List.set_cons_zero, List.set_cons_succ]
                refine wpAnyH_takeD 8 (some 91) (.pointer (some ⟨xb, 0, none⟩)) rfl rfl (by kernel_rfl) (by kernel_rfl) (by kernel_rfl) (fun _ _ _ h => h) (Or.inl ⟨by rfl, fun w hSw => by obtain ⟨q0, q1, q2⟩ := hSw; go_simp⟩) hS ?_
                simp only [Act.put, List.setIfInBounds_toArray, List.set_cons_zero, List.set_cons_succ]
                refine wpAnyH_takeD 9 (some 92) (.pointer (some ⟨xb, 2, none⟩)) rfl rfl (by kernel_rfl) (by kernel_rfl) (by kernel_rfl) (fun _ _ _ h => h) (Or.inl ⟨by rfl, fun w hSw => by obtain ⟨q0, q1, q2⟩ := hSw; go_simp⟩) hS ?_
                simp only [Act.put, List.setIfInBounds_toArray, List.set_cons_zero, List.set_cons_succ]
                refine wpAnyH_takeD 10 (some 93) (.pointer (some ⟨br, 0, none⟩)) rfl rfl (by kernel_rfl) (by kernel_rfl) (by kernel_rfl) (fun _ _ _ h => h) (Or.inl ⟨by rfl, fun w hSw => by obtain ⟨q0, q1, q2⟩ := hSw; go_simp⟩) hS ?_
                simp only [Act.put, List.setIfInBounds_toArray, List.set_cons_zero, List.set_cons_succ]
                refine wpAnyH_takeD 11 (some 94) (.pointer (some ⟨br, 0, none⟩)) rfl rfl (by kernel_rfl) (by kernel_rfl) (by kernel_rfl) (fun _ _ _ h => h) (Or.inl ⟨by rfl, fun w hSw => by obtain ⟨q0, q1, q2⟩ := hSw; go_simp⟩) hS ?_
                simp only [Act.put, List.setIfInBounds_toArray, List.set_cons_zero, List.set_cons_succ]
                refine wpAnyH_takeD 12 (some 95) (.pointer (some ⟨br, 1, none⟩)) rfl rfl (by kernel_rfl) (by kernel_rfl) (by kernel_rfl) (fun _ _ _ h => h) (Or.inl ⟨by rfl, fun w hSw => by obtain ⟨q0, q1, q2⟩ := hSw; go_simp⟩) hS ?_
                simp only [Act.put, List.setIfInBounds_toArray, List.set_cons_zero, List.set_cons_succ]
                refine wpAnyH_takeD 13 (some 96) (.slice pp pl cp) rfl rfl (by kernel_rfl) (by kernel_rfl) (by kernel_rfl) (fun _ _ _ h => h) (Or.inl ⟨by rfl, fun w hSw => by obtain ⟨q0, q1, q2⟩ := hSw; go_simp⟩) hS ?_
                simp only [Act.put, List.setIfInBounds_toArray, List.set_cons_zero, List.set_cons_succ]
                refine wpAnyH_takeD 14 (some 97) (.int .i64 (pl : Int)) rfl rfl (by kernel_rfl) (by kernel_rfl) (by kernel_rfl) (fun _ _ _ h => h) (Or.inl ⟨by rfl, fun w hSw => by obtain ⟨q0, q1, q2⟩ := hSw; go_simp⟩) hS ?_
                simp only [Act.put, List.setIfInBounds_toArray, List.set_cons_zero, List.set_cons_succ]
                refine wpAnyH_ready (rs := [6]) (by kernel_rfl) (by simp) ?_
                refine AllReadyH.cons rfl (fun K hK => ?_) AllReadyH.nil
                simp only [List.getElem_toArray, List.getElem_cons_succ, List.getElem_cons_zero]
                go_simp
                refine (unhide HPN).mono ?_
                rintro e y1 ⟨rfl, hy⟩
                subst y1
                refine hK.out _ _ ⟨c0, c1, c2⟩ (fun hS => ?_)
                clear hK K
                refine wpAnyH_takeD 15 (some 98) (.bool true) rfl rfl (by kernel_rfl) (by kernel_rfl) (by kernel_rfl) (fun _ _ _ h => h) (Or.inl ⟨by rfl, fun w hSw => by obtain ⟨q0, q1, q2⟩ := hSw; go_simp⟩) hS ?_
                simp only [Act.put, List.setIfInBounds_toArray, List.set_cons_zero, List.set_cons_succ]
                refine wpAnyH_takeD 16 (some 2) (.bool true) rfl rfl (by kernel_rfl) (by kernel_rfl) (by kernel_rfl) (fun _ _ _ h => h) (Or.inl ⟨by rfl, fun w hSw => by obtain ⟨q0, q1, q2⟩ := hSw; go_simp⟩) hS ?_
                simp only [Act.put, List.setIfInBounds_toArray, List.set_cons_zero, List.set_cons_succ]
                refine wpAnyH_done (by kernel_rfl) ?_ _
                clear hS c0 c1 c2 HPN
                go_wp2
                go_ret
                exact ⟨rfl, unhide HE⟩
end Go.Proofs.YtiokejnlioghiaaGreatDoor
