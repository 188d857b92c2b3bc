import Derived.Test.YtnfcnpolflfpfaaGreatDoorMr39
import Derived.Test.YtnfcnpolflfpfaaGreatDoorMr40
namespace Go.Proofs.YtnfcnpolflfpfaaGreatDoor
open Go.RowKit Go.Maps Go.Sort Go.Shelf
set_option maxRecDepth 100000 in
set_option maxHeartbeats 2000000 in
theorem iclear_ok {w0 w : World} {b jb pb xb eb bm : Nat} {Y : Nat → Prop} {a n : Nat} {S : PS} {L : List ByteArray} {A : List (Nat × Nat)} {hn : Nat} {Mw Mn : List ByteArray} {T : Nat → En} (h : IG w0 w b jb pb xb eb bm Y a n S L A hn Mw Mn T T) (ho : S.op = true) (i : Nat) (hi : i < n) (d0 : ByteArray) (c0 : Nat) (hT : T i = some (d0, c0)) (hr : roomB S ((a + i / 6 : Nat) : Int) = true) :
    Calls Tryz.prog 43 #[.pointer (some ⟨xb, 0, none⟩), .int .i64 (i : Int)] w fun e w' => e = .returned (.int .i64 0) ∧ IChg w0 w b jb pb xb eb bm Y a n S L A hn Mw (upd T i none) i w' := by
  have hn96 := h.n2
  have hok := h.ok.ok i
  rw [hT] at hok
  have HHA := hide (ihas_any h.im.mm (i : Int))
  rw [decide_eq_true (show (0 : Int) ≤ (i : Int) by omega), decide_eq_true (show (i : Int) < (n : Int) by omega)] at HHA
  have HCH := hide h.changeable
  rw [ho] at HCH
  have HWL := hide (enC_len (some (d0, c0)) hok)
  have HNO := hide (fun W => isNone_any (enD (some (d0, c0))) (enD_size _ hok) (enT (some (d0, c0)) : Int) W)
  rw [show (((enT (some (d0, c0)) : Nat) : Int) == 0) = false by have := (hok d0 c0 rfl).2.1; simp [enT]; omega] at HNO
  have HW := hide (And.intro h (And.intro ho (And.intro hi hT)))
  have HR := hide hr
  have i0 : (0 : Int) ≤ (i : Int) := by omega
  have i1 : (i : Int) < (n : Int) := by omega
  clear h ho hi hT hok hr
  go_enter Tryz.func43, Tryz.ntmps43
  go_wp2_with (go_at_call 86; refine (unhide HHA).mono ?_; rintro e w' ⟨rfl, hw'⟩; subst w')
  refine (unhide HCH).mono ?_
  rintro e y1 ⟨rfl, G1, hO1⟩
  have c2 := G1.im.mm.c0
  have HRG := hide (G1.im.mm.er.range i (unhide HW).2.2.1)
  rw [(unhide HW).2.2.2] at HRG
  have X1 := hide (And.intro G1 hO1)
  clear G1 hO1 HCH HHA
  go_wp2_with (refine wpList_load_mid rfl 157 (.tmp 20) rfl eb (i * 33) (by rfl) _ _ (unhide HRG) Tryz.underlying157 rfl (by rw [sizeEnt]; exact congrArg some (unhide HWL).symm) ?_)
  refine (unhide HNO _).mono ?_
  rintro e y2 ⟨rfl, hb2⟩
  have G2 := (unhide X1).1.below hb2
  have hO2 : Only (fun x => ¬ Xf Y xb eb bm x) w y2 := (unhide X1).2.trans (Only.of_below (P := fun x => ¬ Xf Y xb eb bm x) hb2) (fun _ _ q => q)
  have X2 := hide (And.intro G2 hO2)
  clear hb2 hO2 HNO HRG X1 c2
  have HIC := hide (ichg_any G2 (unhide HW).2.1 i (unhide HW).2.2.1 none (fun _ _ h => by cases h) (fun _ _ h => by cases h) (unhide HR))
  rw [enC_none] at HIC
  clear G2
  go_wp2_with fail
  refine (unhide HIC).mono ?_
  rintro e y3 ⟨rfl, S6, Mn6, k1, k2, k3, k4⟩
  have Y6 := hide (show IChg w0 w b jb pb xb eb bm Y a n S L A hn Mw (upd T i none) i y3 from ⟨S6, Mn6, k1, k2, k3, ((unhide X2).2.mono (fun x _ q r => q (.inl r))).trans k4 (fun _ _ q => q)⟩)
  clear k1 k2 k3 k4 HIC
  go_wp2
  go_ret
  exact ⟨rfl, unhide Y6⟩
set_option maxRecDepth 100000 in
set_option maxHeartbeats 2000000 in
theorem iclear_none {w0 w : World} {b jb pb xb eb bm : Nat} {Y : Nat → Prop} {a n : Nat} {S : PS} {L : List ByteArray} {A : List (Nat × Nat)} {hn : Nat} {Mw Mn : List ByteArray} {T : Nat → En} (h : IG w0 w b jb pb xb eb bm Y a n S L A hn Mw Mn T T) (ho : S.op = true) (i : Nat) (hi : i < n) (vv : En) (hV : vv = none) (hT : T i = vv) :
    Calls Tryz.prog 43 #[.pointer (some ⟨xb, 0, none⟩), .int .i64 (i : Int)] w fun e w' => e = .returned (.int .i64 80) ∧ IKept w0 w b jb pb xb eb bm Y a n S L A hn Mw Mn T T w' := by
  have hn96 := h.n2
  have hok := h.ok.ok i
  rw [hT] at hok
  have HHA := hide (ihas_any h.im.mm (i : Int))
  rw [decide_eq_true (show (0 : Int) ≤ (i : Int) by omega), decide_eq_true (show (i : Int) < (n : Int) by omega)] at HHA
  have HCH := hide h.changeable
  rw [ho] at HCH
  have HWL := hide (enC_len (vv) hok)
  have HNO := hide (fun W => isNone_any (enD (vv)) (enD_size _ hok) (enT (vv) : Int) W)
  rw [show (((enT (vv) : Nat) : Int) == 0) = true by rw [hV]; rfl] at HNO
  have HW := hide (And.intro h (And.intro ho (And.intro hi hT)))
  
  have i0 : (0 : Int) ≤ (i : Int) := by omega
  have i1 : (i : Int) < (n : Int) := by omega
  clear h ho hi hT hok hV
  go_enter Tryz.func43, Tryz.ntmps43
  go_wp2_with (go_at_call 86; refine (unhide HHA).mono ?_; rintro e w' ⟨rfl, hw'⟩; subst w')
  refine (unhide HCH).mono ?_
  rintro e y1 ⟨rfl, G1, hO1⟩
  have c2 := G1.im.mm.c0
  have HRG := hide (G1.im.mm.er.range i (unhide HW).2.2.1)
  rw [(unhide HW).2.2.2] at HRG
  have X1 := hide (And.intro G1 hO1)
  clear G1 hO1 HCH HHA
  go_wp2_with (refine wpList_load_mid rfl 157 (.tmp 20) rfl eb (i * 33) (by rfl) _ _ (unhide HRG) Tryz.underlying157 rfl (by rw [sizeEnt]; exact congrArg some (unhide HWL).symm) ?_)
  refine (unhide HNO _).mono ?_
  rintro e y2 ⟨rfl, hb2⟩
  have G2 := (unhide X1).1.below hb2
  have hO2 : Only (fun x => ¬ Xf Y xb eb bm x) w y2 := (unhide X1).2.trans (Only.of_below (P := fun x => ¬ Xf Y xb eb bm x) hb2) (fun _ _ q => q)
  have X2 := hide (And.intro G2 hO2)
  clear hb2 hO2 HNO HRG X1 c2
  clear G2
  go_wp2
  go_ret
  exact ⟨rfl, S, (unhide X2).1, rfl, ⟨rfl, rfl⟩, (unhide X2).2⟩
set_option maxRecDepth 100000 in
set_option maxHeartbeats 2000000 in
theorem iget_some {w0 w : World} {xb pb a eb bm n : Nat} {T : Nat → En} (h : IM w0 w xb pb a eb bm n T) (hTO : TOk n T) (hn : n ≤ 1024) (i : Nat) (hi : i < n) (d : ByteArray) (c : Nat) (hT : T i = some (d, c)) :
    Calls Tryz.prog 42 #[.pointer (some ⟨xb, 0, none⟩), .int .i64 (i : Int)] w fun e w' => e = .returned (.tuple #[.agg #[.int .i64 (i : Int), .string d, .int .i64 (c : Int)], .int .i64 0]) ∧ Below w.heap.size w w' := by
  have hok := hTO.ok i
  rw [hT] at hok
  obtain ⟨g, hg⟩ : ∃ q, w.heap.size = q := ⟨_, rfl⟩
  obtain ⟨x1, hx1⟩ : ∃ q, w.alloc (.cells #[.int .i64 0, .string ⟨#[]⟩, .int .i64 0] 46) = q := ⟨_, rfl⟩
  have hb1 : Below g w x1 := by rw [← hx1, ← hg]; exact (Below.refl _ w).alloc (Nat.le_refl _) _
  have B1 : Blk x1 g #[.int .i64 0, .string ⟨#[]⟩, .int .i64 0] 46 := by rw [← hx1, ← hg]; exact Blk.new w _ _
  have M1 := h.below (by rw [hg]; exact hb1)
  have HHA := hide (ihas_any M1.mm (i : Int))
  rw [decide_eq_true (show (0 : Int) ≤ (i : Int) by omega), decide_eq_true (show (i : Int) < (n : Int) by omega)] at HHA
  have HWL := hide (enC_len (some (d, c)) hok)
  have HNO := hide (fun W => isNone_any (enD (some (d, c))) (enD_size _ hok) (enT (some (d, c)) : Int) W)
  rw [show (((enT (some (d, c)) : Nat) : Int) == 0) = false by have := (hok d c rfl).2.1; simp [enT]; omega] at HNO
  have c2 := M1.mm.c0
  have HRG := hide (M1.mm.er.range i hi)
  rw [hT] at HRG
  have HW := hide (And.intro hTO (And.intro hn (And.intro hi (And.intro hT (And.intro hb1 (And.intro B1 M1))))))
  have i0 : (0 : Int) ≤ (i : Int) := by omega
  have i1 : (i : Int) < (n : Int) := by omega
  clear h hTO hi hT hok hb1 B1 M1 
  rw [hg]
  go_enter Tryz.func42, Tryz.ntmps42
  go_wp2_with (first | (go_at_call 86; refine (unhide HHA).mono ?_; rintro e w' ⟨rfl, hw'⟩; subst w') | refine wpList_load_mid rfl 157 (.tmp 19) rfl eb (i * 33) (by rfl) _ _ (unhide HRG) Tryz.underlying157 rfl (by rw [sizeEnt]; exact congrArg some (unhide HWL).symm) ?_)
  refine (unhide HNO _).mono ?_
  rintro e y2 ⟨rfl, hb2⟩
  obtain ⟨hTO, hn', hi, hT, hb1, B1, M1⟩ := unhide HW
  have B2 := B1.below hb2 B1.lt
  have hb12 : Below g w y2 := hb1.trans (hb2.mono (by rw [← hg]; exact hb1.size))
  have q0 : y2.cell? ⟨g, 0, none⟩ = some (.int .i64 0) := B2.cell 0
  have q1 : y2.cell? ⟨g, 1, none⟩ = some (.string ⟨#[]⟩) := B2.cell 1
  have q2 : y2.cell? ⟨g, 2, none⟩ = some (.int .i64 0) := B2.cell 2
  have p0 := B2.frozen 0
  have p1 := B2.frozen 1
  have p2 := B2.frozen 2
  have M2 := M1.below hb2
  have HTE := hide (itell_any M2.mm hTO i hi hn' d c hT)
  have X2 := hide (And.intro B2 hb12)
  clear hTO hn' hi hT hb1 B1 M1 B2 hb2 hb12 M2 HNO HRG HHA q0 q1 q2 p0 p1 p2
  go_wp2_with fail
  refine (unhide HTE).mono ?_
  rintro e y3 ⟨rfl, hb3⟩
  have B3 := (unhide X2).1.below hb3 (unhide X2).1.lt
  have hb13 : Below g w y3 := (unhide X2).2.trans (hb3.mono (by rw [← hg]; exact (unhide X2).2.size))
  have q0 : y3.cell? ⟨g, 0, none⟩ = some (.int .i64 0) := B3.cell 0
  have q1 : y3.cell? ⟨g, 1, none⟩ = some (.string ⟨#[]⟩) := B3.cell 1
  have q2 : y3.cell? ⟨g, 2, none⟩ = some (.int .i64 0) := B3.cell 2
  have p0 := B3.frozen 0
  have p1 := B3.frozen 1
  have p2 := B3.frozen 2
  have X3 := hide (And.intro B3 hb13)
  clear hb3 B3 hb13 HTE
  go_wp2
  have B4 := (((unhide X3).1.set 0 (.int .i64 (i : Int))).set 1 (.string d)).set 2 (.int .i64 (c : Int))
  have hld := iload_blk 46 _ B4 Tryz.underlying46 rfl (by kernel_rfl)
  refine bodyPost_ret (v := .tuple #[.agg #[.int .i64 (i : Int), .string d, .int .i64 (c : Int)], .int .i64 0]) (results_cell2 (p := 4) (q := 5) (ty := 46) rfl _ _ _ ⟨g, 0, none⟩ rfl _ hld) rfl ⟨rfl, (((unhide X3).2.setCell (p := ⟨g, 0, none⟩) (Nat.le_refl _) _).setCell (p := ⟨g, 1, none⟩) (Nat.le_refl _) _).setCell (p := ⟨g, 2, none⟩) (Nat.le_refl _) _⟩
set_option maxRecDepth 100000 in
set_option maxHeartbeats 2000000 in
theorem iget_none {w0 w : World} {xb pb a eb bm n : Nat} {T : Nat → En} (h : IM w0 w xb pb a eb bm n T) (hTO : TOk n T) (hn : n ≤ 1024) (i : Nat) (hi : i < n) (vv : En) (hV : vv = none) (hT : T i = vv) :
    Calls Tryz.prog 42 #[.pointer (some ⟨xb, 0, none⟩), .int .i64 (i : Int)] w fun e w' => e = .returned (.tuple #[.agg #[.int .i64 0, .string ⟨#[]⟩, .int .i64 0], .int .i64 80]) ∧ Below w.heap.size w w' := by
  have hok := hTO.ok i
  rw [hT] at hok
  obtain ⟨g, hg⟩ : ∃ q, w.heap.size = q := ⟨_, rfl⟩
  obtain ⟨x1, hx1⟩ : ∃ q, w.alloc (.cells #[.int .i64 0, .string ⟨#[]⟩, .int .i64 0] 46) = q := ⟨_, rfl⟩
  have hb1 : Below g w x1 := by rw [← hx1, ← hg]; exact (Below.refl _ w).alloc (Nat.le_refl _) _
  have B1 : Blk x1 g #[.int .i64 0, .string ⟨#[]⟩, .int .i64 0] 46 := by rw [← hx1, ← hg]; exact Blk.new w _ _
  have M1 := h.below (by rw [hg]; exact hb1)
  have HHA := hide (ihas_any M1.mm (i : Int))
  rw [decide_eq_true (show (0 : Int) ≤ (i : Int) by omega), decide_eq_true (show (i : Int) < (n : Int) by omega)] at HHA
  have HWL := hide (enC_len (vv) hok)
  have HNO := hide (fun W => isNone_any (enD (vv)) (enD_size _ hok) (enT (vv) : Int) W)
  rw [show (((enT (vv) : Nat) : Int) == 0) = true by rw [hV]; rfl] at HNO
  have c2 := M1.mm.c0
  have HRG := hide (M1.mm.er.range i hi)
  rw [hT] at HRG
  have HW := hide (And.intro hTO (And.intro hn (And.intro hi (And.intro hT (And.intro hb1 (And.intro B1 M1))))))
  have i0 : (0 : Int) ≤ (i : Int) := by omega
  have i1 : (i : Int) < (n : Int) := by omega
  clear h hTO hi hT hok hb1 B1 M1 hV
  rw [hg]
  go_enter Tryz.func42, Tryz.ntmps42
  go_wp2_with (first | (go_at_call 86; refine (unhide HHA).mono ?_; rintro e w' ⟨rfl, hw'⟩; subst w') | refine wpList_load_mid rfl 157 (.tmp 19) rfl eb (i * 33) (by rfl) _ _ (unhide HRG) Tryz.underlying157 rfl (by rw [sizeEnt]; exact congrArg some (unhide HWL).symm) ?_)
  refine (unhide HNO _).mono ?_
  rintro e y2 ⟨rfl, hb2⟩
  obtain ⟨hTO, hn', hi, hT, hb1, B1, M1⟩ := unhide HW
  have B2 := B1.below hb2 B1.lt
  have hb12 : Below g w y2 := hb1.trans (hb2.mono (by rw [← hg]; exact hb1.size))
  have q0 : y2.cell? ⟨g, 0, none⟩ = some (.int .i64 0) := B2.cell 0
  have q1 : y2.cell? ⟨g, 1, none⟩ = some (.string ⟨#[]⟩) := B2.cell 1
  have q2 : y2.cell? ⟨g, 2, none⟩ = some (.int .i64 0) := B2.cell 2
  have p0 := B2.frozen 0
  have p1 := B2.frozen 1
  have p2 := B2.frozen 2
  have X2 := hide (And.intro B2 hb12)
  clear hTO hn' hi hT hb1 B1 M1 B2 hb2 hb12 HNO HRG HHA
  go_wp2
  have B4 := (((unhide X2).1.set 0 (.int .i64 0)).set 1 (.string ⟨#[]⟩)).set 2 (.int .i64 0)
  have hld := iload_blk 46 _ B4 Tryz.underlying46 rfl (by kernel_rfl)
  refine bodyPost_ret (v := .tuple #[.agg #[.int .i64 0, .string ⟨#[]⟩, .int .i64 0], .int .i64 80]) (results_cell2 (p := 4) (q := 5) (ty := 46) rfl _ _ _ ⟨g, 0, none⟩ rfl _ hld) rfl ⟨rfl, (((unhide X2).2.setCell (p := ⟨g, 0, none⟩) (Nat.le_refl _) _).setCell (p := ⟨g, 1, none⟩) (Nat.le_refl _) _).setCell (p := ⟨g, 2, none⟩) (Nat.le_refl _) _⟩
set_option maxRecDepth 100000 in
set_option maxHeartbeats 2000000 in
theorem ifindx_gen {w0 w : World} {xb pb a eb bm n : Nat} {T : Nat → En} (h : IM w0 w xb pb a eb bm n T) (d : ByteArray) (hd : d.size = 32) (i : Int) (is : Bool)
    (hl : ∀ W, PM W bm n T → (Instr.lookup 124 (.map (some bm)) (.agg (kC d).toArray) true).run Tryz.prog W = .ok (.tuple #[.int .i64 i, .bool is]) W) :
    Calls Tryz.prog 41 #[.pointer (some ⟨xb, 0, none⟩), .string d] w fun e w' => e = .returned (.tuple #[.int .i64 i, .bool is]) ∧ Below w.heap.size w w' := by
  have HDG := hide (fun W => iisDigest_any d W)
  rw [show ((d.size : Int) == 32) = true by rw [hd]; rfl] at HDG
  have HKO := hide (fun W => keyOf_any d hd W)
  have HH := hide (And.intro h (And.intro hd hl))
  clear h hd hl
  go_enter Tryz.func41, Tryz.ntmps41
  go_wp2_with (go_at_call 87; refine (unhide HDG _).mono ?_; rintro e w' ⟨rfl, hw'⟩; subst w')
  refine wp_region_held_drew (S := fun _ => True) (by kernel_rfl) trivial ?_
  intro hS
  refine wpAnyH_takeD 0 (some 9) (.pointer (some ⟨xb, 0, none⟩)) rfl rfl (by kernel_rfl) (by kernel_rfl) (by kernel_rfl) (fun _ _ _ h => h) (Or.inl ⟨by rfl, fun w hSw => by go_simp⟩) hS ?_
  simp only [Act.put, List.setIfInBounds_toArray, List.set_cons_zero, List.set_cons_succ]
  refine wpAnyH_takeD 1 (some 10) (.pointer (some ⟨xb, 0, none⟩)) rfl rfl (by kernel_rfl) (by kernel_rfl) (by kernel_rfl) (fun _ _ _ h => h) (Or.inl ⟨by rfl, fun w hSw => by go_simp⟩) hS ?_
  simp only [Act.put, List.setIfInBounds_toArray, List.set_cons_zero, List.set_cons_succ]
  refine wpAnyH_takeD 2 (some 11) (.pointer (some ⟨xb, 2, none⟩)) rfl rfl (by kernel_rfl) (by kernel_rfl) (by kernel_rfl) (fun _ _ _ h => h) (Or.inl ⟨by rfl, fun w hSw => by go_simp⟩) hS ?_
  simp only [Act.put, List.setIfInBounds_toArray, List.set_cons_zero, List.set_cons_succ]
  refine wpAnyH_takeD 3 (some 12) (.string d) rfl rfl (by kernel_rfl) (by kernel_rfl) (by kernel_rfl) (fun _ _ _ h => h) (Or.inl ⟨by rfl, fun w hSw => by go_simp⟩) hS ?_
  simp only [Act.put, List.setIfInBounds_toArray, List.set_cons_zero, List.set_cons_succ]
  refine wpAnyH_ready (rs := [4]) (by kernel_rfl) (by simp) ?_
  refine AllReadyH.cons rfl (fun K hK => ?_) AllReadyH.nil
  simp only [List.getElem_toArray, List.getElem_cons_succ, List.getElem_cons_zero]
  go_simp
  refine (unhide HKO _).mono ?_
  rintro e y1 ⟨rfl, hb1⟩
  have hb1' : Below w.heap.size w y1 := ((Below.refl _ w).drew).trans hb1
  have HFI := hide (ifind_gen ((unhide HH).1.below hb1').mm d (unhide HH).2.1 i is (unhide HH).2.2)
  have X1 := hide hb1'
  clear hb1 hb1'
  refine hK.out _ _ trivial (fun hS => ?_)
  clear hK K
  refine wpAnyH_ready (rs := [5]) (by kernel_rfl) (by simp) ?_
  refine AllReadyH.cons rfl (fun K hK => ?_) AllReadyH.nil
  simp only [List.getElem_toArray, List.getElem_cons_succ, List.getElem_cons_zero]
  go_simp
  refine (unhide HFI).mono ?_
  rintro e y2 ⟨rfl, hb2⟩
  have X2 := hide ((unhide X1).trans (hb2.mono (unhide X1).size))
  clear hb2 HFI
  refine hK.out _ _ trivial (fun hS => ?_)
  clear hK K
  refine wpAnyH_takeD 6 (some 15) (.int .i64 i) rfl rfl (by kernel_rfl) (by kernel_rfl) (by kernel_rfl) (fun _ _ _ h => h) (Or.inl ⟨by rfl, fun w hSw => by go_simp⟩) hS ?_
  simp only [Act.put, List.setIfInBounds_toArray, List.set_cons_zero, List.set_cons_succ]
  refine wpAnyH_takeD 7 (some 16) (.bool is) rfl rfl (by kernel_rfl) (by kernel_rfl) (by kernel_rfl) (fun _ _ _ h => h) (Or.inl ⟨by rfl, fun w hSw => by go_simp⟩) hS ?_
  simp only [Act.put, List.setIfInBounds_toArray, List.set_cons_zero, List.set_cons_succ]
  refine wpAnyH_takeD 8 (some 4) (.int .i64 i) rfl rfl (by kernel_rfl) (by kernel_rfl) (by kernel_rfl) (fun _ _ _ h => h) (Or.inl ⟨by rfl, fun w hSw => by go_simp⟩) hS ?_
  simp only [Act.put, List.setIfInBounds_toArray, List.set_cons_zero, List.set_cons_succ]
  refine wpAnyH_takeD 9 (some 5) (.bool is) rfl rfl (by kernel_rfl) (by kernel_rfl) (by kernel_rfl) (fun _ _ _ h => h) (Or.inl ⟨by rfl, fun w hSw => by go_simp⟩) hS ?_
  simp only [Act.put, List.setIfInBounds_toArray, List.set_cons_zero, List.set_cons_succ]
  refine wpAnyH_done (by kernel_rfl) ?_ _
  clear hS
  go_wp2
  go_ret2
  exact ⟨rfl, unhide X2⟩
end Go.Proofs.YtnfcnpolflfpfaaGreatDoor

namespace Go.Proofs.YtnfcnpolflfpfaaGreatDoor
open Go.RowKit Go.Maps Go.Sort Go.Shelf
set_option maxHeartbeats 400000 in
theorem pick8_any (c : Int) (n : Nat) (hn : 0 < n) (hc : I64 c) (N : Int) (hN : N = (n : Int)) (w : World) :
    Calls Tryz.prog 28 #[.int .i64 c, .int .i64 N] w fun e w' => e = .returned (.int .i64 (pickP c n : Int)) ∧ w' = w := by
  subst hN
  obtain ⟨hc1, hc2⟩ := hc
  have hz : ((n : Int) == 0) = false := by simp; omega
  by_cases h : c < 0
  · have e1 : (-(c + 1)).tmod (n : Int) = (-(c + 1)) % (n : Int) := Int.tmod_eq_emod_of_nonneg (by omega)
    have hp : 0 ≤ (-(c + 1)) % (n : Int) := Int.emod_nonneg _ (by omega)
    have hl : (-(c + 1)) % (n : Int) < (n : Int) := Int.emod_lt_of_pos _ (by omega)
    have HP := hide (show (pickP c n : Int) = (-(c + 1)) % (n : Int) by rw [pickP, if_pos h]; omega)
    go_enter Tryz.func28, Tryz.ntmps28
    go_wp2
    go_ret
    exact ⟨by rw [unhide HP]; rfl, rfl⟩
  · have e1 : c.tmod (n : Int) = c % (n : Int) := Int.tmod_eq_emod_of_nonneg (by omega)
    have hp : 0 ≤ c % (n : Int) := Int.emod_nonneg _ (by omega)
    have hl : c % (n : Int) < (n : Int) := Int.emod_lt_of_pos _ (by omega)
    have HP := hide (show (pickP c n : Int) = c % (n : Int) by rw [pickP, if_neg h]; omega)
    go_enter Tryz.func28, Tryz.ntmps28
    go_wp2
    go_ret
    exact ⟨by rw [unhide HP]; rfl, rfl⟩
def digK (c : Int) (k : Nat) : List Int := (List.range 32).map (fun j : Nat => if j < k then (c / 2 ^ (8 * j)) % 256 else 0)
def digL (c : Int) : List Int := digK c 8
def digB (c : Int) : ByteArray := strOfNums (digL c)
theorem digK_len (c : Int) (k : Nat) : (digK c k).length = 32 := by simp [digK]
theorem digB_size (c : Int) : (digB c).size = 32 := by rw [digB, strOfNums_size, digL, digK_len]
theorem digK_step (c : Int) (k : Nat) : (digK c k).set k ((c / 2 ^ (8 * k)) % 256) = digK c (k + 1) := by
  apply List.ext_getElem
  · simp [digK]
  · intro j h1 h2
    simp only [digK, List.getElem_set, List.getElem_map, List.getElem_range]
    by_cases e : k = j
    · subst e; simp
    · rw [if_neg e]
      by_cases h : j < k
      · rw [if_pos h, if_pos (by omega)]
      · rw [if_neg h, if_neg (by omega)]
theorem digK_zero (c : Int) : digK c 0 = List.replicate 32 0 := by
  refine List.eq_replicate_iff.2 ⟨digK_len c 0, fun x hx => ?_⟩
  obtain ⟨j, _, rfl⟩ := List.mem_map.1 hx
  rw [if_neg (Nat.not_lt_zero j)]
set_option maxRecDepth 100000 in
set_option maxHeartbeats 2000000 in
theorem digest8_any (c : Int) (w : World) :
    Calls Tryz.prog 39 #[.int .i64 c] w fun e w' => e = .returned (.string (digB c)) ∧ Below w.heap.size w w' := by
  have hmk := run_make_u8 32 32 (by omega) (by omega) w
  have X0 := hide (show KeyInv w (digK c 0) (w.alloc (.cells ((List.replicate 32 (0 : Int)).map (Value.int .u8)).toArray 5)) from ⟨by rw [digK_zero]; exact arr_new w .u8 _ 5 _ rfl, (Below.refl _ _).alloc (Nat.le_refl _) _, by simp⟩)
  generalize hx : w.alloc (.cells ((List.replicate 32 (0 : Int)).map (Value.int .u8)).toArray 5) = x2 at *
  clear hx
  simp only [Int.cast_ofNat_Int] at hmk
  go_enter Tryz.func39, Tryz.ntmps39
  go_wp2
  clear hmk
  go_loopw [4] (fun i wr => ∃ k : Nat, k ≤ 8 ∧ i = .int .i64 (k : Int) ∧ KeyInv w (digK c k) wr) (fun i _ => 8 - (intOf i).toNat)
  case atStart => exact ⟨0, by omega, rfl, unhide X0⟩
  case round =>
    obtain ⟨k, hk, rfl, hI⟩ := hrel
    clear X0
    by_cases hk8 : k < 8
    · have zz := hI.1.get0 k (by rw [digK_len]; omega)
      have ff := hI.1.free0 k (by rw [digK_len]; omega)
      have HI := hide (hI.put k (by rw [digK_len]; omega) _ (digK_step c k))
      generalize (digK c k).getD k 0 = old at *
      clear hI
      go_wp2
      go_roundw
      case rel => exact ⟨k + 1, by omega, by go_num, unhide HI⟩
      case measure => simp [intOf]; omega
    · have hk' : k = 8 := by omega
      subst hk'
      have hcv := run_convert_bytes_arg (P := Tryz.prog) wr 49 5 Tryz.underlying49 Tryz.underlying5 w.heap.size 0 32 32 (digL c) (digK_len c 8) (fun i hi => hI.1.get i (by rw [digK_len]; omega)) 9 Tryz.underlying9
      have HI := hide hI
      clear hI hk8
      go_wp2
      go_ret
      exact ⟨rfl, (unhide HI).2.1⟩

def ib0 : ByteArray := strOfNums (List.replicate 222 0)
theorem ib0_size : ib0.size = 222 := by rw [ib0, strOfNums_size, List.length_replicate]
theorem ib0_ibd (k : Nat) : ibd (fun _ => none) k = ib0 := by
  refine (cat_one _ 6 ib0 ib0_size (fun i hi => ?_)).symm
  apply nums_inj
  rw [nums_extract, ib0, nums_strOfNums _ (zeros_byte 222), slB_nums]
  show _ = List.replicate 37 0
  rw [List.take_replicate, List.drop_replicate]
  congr 1
  omega
def pgZI (m : Nat) : List ByteArray := (List.range m).map fun k => pgI k ib0
theorem pgZI_len (m : Nat) : (pgZI m).length = m := by simp [pgZI]
theorem pgZI_succ (m : Nat) : strs (pgZI (m + 1)) = strs (pgZI m) ++ [.string (pgI m ib0)] := by simp [pgZI, strs, List.range_succ]
theorem pgZI_at (m k : Nat) (h : k < m) : (pgZI m).getD k ByteArray.empty = pgI k ib0 := by simp [pgZI, List.getD_eq_getElem?_getD, h]
def InII (w : World) (m : Nat) (u : Value) (wr : World) : Prop := wr.ownsRow w.heap.size 9 1 u m (strs (pgZI m)) ∧ Below w.heap.size w wr
set_option maxRecDepth 100000 in
set_option maxHeartbeats 2000000 in
theorem iinitial_any (n : Nat) (hn1 : 1 ≤ n) (hn2 : n ≤ 1024) (w : World) : Calls Tryz.prog 19 #[.int .i64 (n : Int)] w fun e w' => ∃ v, e = .returned (.tuple #[v, .int .i64 0]) ∧ InII w (ipgs n) v w' := by
  obtain ⟨i0, hi, hz0, hz1, hz2⟩ := info_parts infoS
  have HI := hide (And.intro hi (And.intro hz0 (And.intro hz1 hz2)))
  clear hi hz0 hz1 hz2
  have HCN := hide (fun W => iisCount_any (n : Int) W)
  rw [decide_eq_true (show (1 : Int) ≤ (n : Int) by omega), decide_eq_true (show (n : Int) ≤ 1024 by omega)] at HCN
  have HPO := hide (fun W => ipagesOf_any n hn2 W)
  have h4 := ipgs_le hn2
  have HRP := hide (fun W => rep_ok 222 W (by decide))
  have HZB := hide (show strOfNums (List.replicate 222 0) = ib0 from rfl)
  obtain ⟨Z, hZ⟩ : ∃ Z, strOfNums (List.replicate 222 0) = Z := ⟨_, rfl⟩
  rw [hZ] at HRP HZB
  clear hZ
  simp only [Int.cast_ofNat_Int] at HRP
  generalize ipgs n = P0 at *
  go_enter Tryz.func19, Tryz.ntmps19
  go_wp2_with (first | (go_at_call 56; refine (unhide HCN _).mono ?_; rintro e w' ⟨rfl, hw'⟩; subst w') | (go_at_call 57; refine (unhide HPO _).mono ?_; rintro e w' ⟨rfl, hw'⟩; subst w'))
  go_loopw [4, 11] (fun u i wr => ∃ k : Nat, k ≤ P0 ∧ i = .int .i64 (k : Int) ∧ InII w k u wr) (fun _ i _ => P0 - (intOf i).toNat)
  case atStart => exact ⟨0, by omega, rfl, World.ownsRow_nil _ _ _ _, Below.refl _ _⟩
  case round =>
    obtain ⟨k, hk, rfl, hR, hB⟩ := hrel
    obtain ⟨wo, rfl⟩ : ∃ wo, wo = wr := ⟨_, rfl⟩
    obtain ⟨pv, cv, rfl, hcv⟩ := row_form hR
    by_cases hkn : k < P0
    · have hkn' : (k : Int) < (P0 : Int) := by omega
      have HR := hide hR
      have HB := hide hB
      clear hR hB hcv
      go_wp2_with fail
      refine (unhide HRP _).mono ?_
      rintro e y1 ⟨rfl, hb1⟩
      have HSE := hide (isectorOf_any k Z y1)
      have HB1 := hide hb1
      obtain ⟨t, ht⟩ : ∃ t, pgI k Z = t := ⟨_, rfl⟩
      rw [ht] at HSE
      have HT := hide (show pgI k ib0 = t from by rw [← ht, unhide HZB])
      clear hb1 ht
      go_wp2_with fail
      refine (unhide HSE).mono ?_
      rintro e y2 ⟨rfl, hb2⟩
      have hB2 : Below wo.heap.size wo y2 := (unhide HB1).trans (hb2.mono (unhide HB1).size)
      have HRA := hide (show (y2.alloc (.cells #[.string t] 9)).ownsRow w.heap.size 9 1 (.slice pv k cv) k (strs (pgZI k)) from (owns_only (unhide HR) (Only.of_below (P := fun _ => False) hB2) (fun _ _ q => q)).alloc _)
      have HXB := hide ((unhide HB).trans ((hB2.alloc hB2.size (.cells #[.string t] 9)).mono (unhide HB).size))
      clear hb2 hB2 HSE HB1
      go_wp2_with (refine wpList_append_own _ rfl (.tmp 14) (.tmp 18) 35 rfl w.heap.size 9 i0 (.string ⟨#[]⟩) 1 16 Tryz.underlying35 (unhide HI).1 (unhide HI).2.1 (unhide HI).2.2.1 (unhide HI).2.2.2 rfl (by decide) _ k (strs (pgZI k)) rfl (unhide HRA) ⟨y2.heap.size, 0, none⟩ 1 1 [.string t] rfl rfl (fun q u hu => news_one y2 9 _ q u hu) (by simp [Value.oneCell']) (by unfold maxLen; omega) (by omega) (unhide HXB).size ?_)
      intro v5 x5 ho5 hg5 _
      have HRR := hide (show InII w (k + 1) v5 x5 from ⟨by rw [pgZI_succ, unhide HT]; exact ho5, (unhide HXB).grown hg5 (unhide HXB).size (fun q hq => ((unhide HRA).lt q hq).1)⟩)
      clear ho5 hg5 HRA HXB HT
      go_wp2
      go_roundw
      case rel => exact ⟨k + 1, by omega, by go_num, unhide HRR⟩
      case measure => simp [intOf]; omega
    · have hke : k = P0 := by omega
      have hkn' : ¬ (k : Int) < (P0 : Int) := by omega
      subst hke
      have HF := hide (show InII w k (.slice pv k cv) wo from ⟨hR, hB⟩)
      clear hR hB hcv
      go_wp2
      go_ret2
      exact ⟨_, rfl, unhide HF⟩
/-- What is laid down, from sector a on: the first m of l. -/
def prN (a : Nat) (l : List ByteArray) (m : Nat) : List (Nat × ByteArray) := (List.range m).map fun i => (a + i, l.getD i ByteArray.empty)
theorem prN_succ (a : Nat) (l : List ByteArray) (m : Nat) : prN a l (m + 1) = prN a l m ++ [(a + m, l.getD m ByteArray.empty)] := by simp [prN, List.range_succ]
theorem prN_len (a : Nat) (l : List ByteArray) (m : Nat) : (prN a l m).length = m := by simp [prN]
def prA (a m : Nat) : List (Nat × Nat) := (List.range m).map fun i => (0, a + i)
theorem prA_len (a m : Nat) : (prA a m).length = m := by simp [prA]
theorem prA_succ (a m : Nat) : prA a (m + 1) = prA a m ++ [(0, a + m)] := by simp [prA, List.range_succ]
def layS (a : Nat) (l : List ByteArray) (m : Nat) : DSt := ⟨L0, layP L0 (prN a l m), prN a l m, A0 ++ prA a m, 0, false⟩
/-- The disk behind laid. -/
def ldL (a : Nat) (l : List ByteArray) : List ByteArray := layP L0 (prN a l l.length)
def ldA (a : Nat) (l : List ByteArray) : List (Nat × Nat) := A0 ++ prA a l.length ++ [(1, 0)]
theorem layS_write (a : Nat) (l : List ByteArray) (m : Nat) (h : a + m < 128) (ht : (l.getD m ByteArray.empty).size = 256) : writeE (layS a l m) ((a + m : Nat) : Int) (l.getD m ByteArray.empty) = 0 ∧ writeS (layS a l m) ((a + m : Nat) : Int) (l.getD m ByteArray.empty) = layS a l (m + 1) := by
  obtain ⟨h1, h2⟩ := writeA (s := layS a l m) ⟨rfl, rfl⟩ (a + m) (by show a + m < L0.length; rw [L0_len]; exact h) _ ht
  refine ⟨h1, ?_⟩
  rw [h2]
  unfold layS
  simp only
  rw [prN_succ, prA_succ, layP_app, List.append_assoc]
  rfl
theorem layS_flush (a : Nat) (l : List ByteArray) : flushE (layS a l l.length) = 0 ∧ flushS (layS a l l.length) = rs (ldL a l) (ldA a l) := by
  obtain ⟨h1, h2⟩ := flushA (s := layS a l l.length) ⟨rfl, rfl⟩
  exact ⟨h1, by rw [h2]; rfl⟩

set_option maxRecDepth 100000 in
set_option maxHeartbeats 2000000 in
theorem ilaid_any (p : Option Addr) (c : Nat) (l : List ByteArray) (a m : Nat) (hm : m = l.length) (hz : ∀ i, i < l.length → (l.getD i ByteArray.empty).size = 256) (h19 : 19 ≤ a) (h128 : a + l.length ≤ 128) (w : World) (hS : Strs w p l) : Calls Tryz.prog 31 #[.int .i64 128, .int .i64 (a : Int), .slice p m c] w fun e w' => ∃ b, e = .returned (.pointer (some ⟨b, 0, none⟩)) ∧ DI w w' b (rs (ldL a l) (ldA a l)) := by
  have HNW := hide (new128 w)
  have HL := hide (And.intro hz hS)
  have hm128 : a + m ≤ 128 := by omega
  have HM := hide hm
  clear hz hS hm h128
  go_enter Tryz.func31, Tryz.ntmps31
  go_wp2_with fail
  refine (unhide HNW).mono ?_
  rintro e x1 ⟨b, rfl, v, h1, h5, h6⟩
  have HF := hide (format_any x1 w.heap.size b v _ h1 h5.size h6 (Nat.zero_le _) (Nat.zero_le _))
  rw [format_rs] at HF
  have H1 := hide (And.intro h1 (And.intro h5 h6))
  clear h1 h5 h6 HNW
  go_wp2_with fail
  refine (unhide HF).mono ?_
  rintro e x2 ⟨rfl, v2, k1, k2, k3⟩
  have hb2 := DI.only (unhide H1).1 (unhide H1).2.1 k2
  have hS2 : Sane (rs L0 A0) := by
    have := layR_sane [(1, headB 0 [])] _ (unhide H1).2.2
    rw [format_rs] at this
    exact this
  have X0 := hide (show DI w x2 b (layS a l 0) from ⟨v2, k1, hb2, hS2⟩)
  clear k1 k2 k3 hb2 hS2 H1 HF
  go_wp2
  go_loopw [10] (fun i wr => ∃ k : Nat, k ≤ m ∧ i = .int .i64 (k : Int) ∧ DI w wr b (layS a l k)) (fun i _ => m - (intOf i).toNat)
  case atStart => exact ⟨0, by omega, rfl, unhide X0⟩
  case round =>
    obtain ⟨k, hk, rfl, hD⟩ := hrel
    obtain ⟨wo, rfl⟩ : ∃ wo, wo = wr := ⟨_, rfl⟩
    clear X0
    by_cases hkn : k < m
    · have hkn' : (k : Int) < (m : Int) := by omega
      have hk0 : (0 : Int) ≤ (k : Int) := by omega
      have hkl : k < l.length := by have := unhide HM; omega
      obtain ⟨g, oo, rfl, hgl, cg⟩ := (unhide HL).2 k hkl
      have cg' : wo.cell? ⟨g, oo + k, none⟩ = some (.string (l.getD k ByteArray.empty)) := by rw [hD.bel.cell hgl]; exact cg
      have HWR := hide (writeD hD (by show (prN a l k).length ≤ _; rw [prN_len]; omega) (by show (A0 ++ prA a k).length ≤ _; rw [List.length_append, prA_len]; have : A0.length = 2 := rfl; omega) ((a + k : Nat) : Int) (l.getD k ByteArray.empty))
      obtain ⟨w1, w2⟩ := layS_write a l k (by omega) ((unhide HL).1 k hkl)
      rw [w1, w2] at HWR
      have e1 : (a : Int) + (k : Int) = ((a + k : Nat) : Int) := by omega
      have hq : a + k ≤ 1000 := by omega
      clear hD w1 w2 cg
      generalize a + k = ak at *
      generalize l.getD k ByteArray.empty = t at *
      go_wp2_with (go_at_call 75; refine (unhide HWR).mono ?_; rintro e y1 ⟨rfl, hD1⟩)
      go_roundw
      case rel => exact ⟨k + 1, by omega, by go_num, hD1⟩
      case measure => simp [intOf]; omega
    · have hke : k = m := by omega
      have hkn' : ¬ (k : Int) < (m : Int) := by omega
      have hkl : k = l.length := by have := unhide HM; omega
      rw [hkl] at hD
      have HFL := hide (flushD hD (by show (prN a l l.length).length ≤ _; rw [prN_len]; omega) (by show (A0 ++ prA a l.length).length ≤ _; rw [List.length_append, prA_len]; have : A0.length = 2 := rfl; omega))
      rw [(layS_flush a l).1, (layS_flush a l).2] at HFL
      clear hD hkl
      go_wp2_with (go_at_call 76; refine (unhide HFL).mono ?_; rintro e y1 ⟨rfl, hD1⟩)
      go_ret
      exact ⟨b, rfl, hD1⟩
end Go.Proofs.YtnfcnpolflfpfaaGreatDoor
