import Derived.Test.YtnfcnpolflfpfaaGreatDoorMr42
namespace Go.Proofs.YtnfcnpolflfpfaaGreatDoor
open Go.RowKit Go.Maps Go.Sort Go.Shelf
/-- The cells of a slot, as the law keeps it. -/
def slC (i : Nat) : En → List Value
  | none => [.int .i64 0, .string ⟨#[]⟩, .int .i64 0]
  | some (d, c) => [.int .i64 (i : Int), .string d, .int .i64 (c : Int)]
theorem slC_len (i : Nat) (e : En) : (slC i e).length = 3 := by cases e <;> rfl
/-- A row of slots that tells T. -/
def WR (w : World) (wb n : Nat) (T : Nat → En) : Prop := ∃ cs : List Value, Blk w wb cs.toArray 46 ∧ cs.length = 3 * n ∧ ∀ i, i < n → (cs.drop (i * 3)).take 3 = slC i (T i)
theorem WR.lt {w : World} {wb n : Nat} {T : Nat → En} (h : WR w wb n T) : wb < w.heap.size := by
  obtain ⟨cs, h1, _⟩ := h
  exact h1.lt
theorem WR.only {w w' : World} {wb n : Nat} {T : Nat → En} {P : Nat → Prop} (h : WR w wb n T) (ho : Only P w w') (hp : ¬ P wb) : WR w' wb n T := by
  obtain ⟨cs, h1, h2⟩ := h
  exact ⟨cs, h1.only ho hp, h2⟩
theorem WR.below {w w' : World} {wb n : Nat} {T : Nat → En} (h : WR w wb n T) (hb : Below w.heap.size w w') : WR w' wb n T := h.only (Only.of_below (P := fun _ => False) hb) (fun q => q)
theorem WR.at {w : World} {wb n : Nat} {T : Nat → En} (h : WR w wb n T) (i : Nat) (hi : i < n) (j : Nat) (hj : j < 3) : w.cell? ⟨wb, i * 3 + j, none⟩ = (slC i (T i))[j]? ∧ w.frozen? ⟨wb, i * 3 + j, none⟩ = false := by
  obtain ⟨cs, h1, h2, h3⟩ := h
  refine ⟨?_, h1.frozen _⟩
  rw [h1.cell, ← h3 i hi, List.getElem?_take, if_pos hj, List.getElem?_drop]
  simp
theorem WR.set {w : World} {wb n : Nat} {T : Nat → En} (h : WR w wb n T) (p : Nat) (hp : p < n) (e : En) : WR (w.setCells wb (p * 3) (slC p e)) wb n (upd T p e) := by
  obtain ⟨cs, h1, h2, h3⟩ := h
  have hle := slC_len p e
  have hpl : (cs.take (p * 3)).length = p * 3 := by rw [List.length_take]; omega
  have hb := setCells_blk (slC p e) (cs.take (p * 3)) (cs.drop (p * 3 + 3)) h1 ((cs.drop (p * 3)).take 3) (by rw [hle, List.length_take, List.length_drop]; omega) (by
    congr 1
    rw [List.append_assoc, ← List.drop_drop (i := 3) (j := p * 3), List.take_append_drop, List.take_append_drop])
  rw [hpl] at hb
  refine ⟨_, hb, ?_, fun i hi => ?_⟩
  · rw [List.length_append, List.length_append, hpl, hle, List.length_drop]
    omega
  · by_cases e1 : i = p
    · subst e1
      rw [List.append_assoc, List.drop_append_of_le_length (by omega), List.drop_of_length_le (by omega), List.nil_append, List.take_append_of_le_length (by omega), List.take_of_length_le (by omega)]
      unfold upd
      rw [if_pos rfl]
    · unfold upd
      rw [if_neg e1, ← h3 i hi]
      by_cases e2 : i < p
      · rw [List.append_assoc, List.drop_append_of_le_length (by omega), List.take_append_of_le_length (by rw [List.length_drop]; omega), List.drop_take, List.take_take]
        congr 1
        omega
      · rw [List.drop_append, List.drop_of_length_le (by rw [List.length_append, hpl, hle]; omega), List.nil_append, List.length_append, hpl, hle, List.drop_drop]
        congr 2
        omega
theorem WR.sets {w : World} {wb n : Nat} {T : Nat → En} (h : WR w wb n T) (p : Nat) (hp : p < n) (e : En) (v0 v1 v2 : Value) (he : slC p e = [v0, v1, v2]) : WR (((w.setCell ⟨wb, p * 3, none⟩ v0).setCell ⟨wb, p * 3 + 1, none⟩ v1).setCell ⟨wb, p * 3 + 2, none⟩ v2) wb n (upd T p e) := by
  have := h.set p hp e
  rw [he] at this
  exact this
/-- What a change leaves. -/
def Chg (w0 w : World) (b jb pb xb : Nat) (Y : Nat → Prop) (a n kp : Nat) (L : List ByteArray) (A : List (Nat × Nat)) (hn : Nat) (Tw : Nat → En) (wb : Nat) (w' : World) : Prop :=
  ∃ T, ISt w0 w' b jb pb xb Y a n kp true L A hn Tw T T ∧ WR w' wb n T ∧ Only (fun x => ¬ Y x ∨ x = wb) w w'
set_option maxRecDepth 100000 in
set_option maxHeartbeats 2000000 in
theorem change_clear {w0 w : World} {b jb pb xb : Nat} {Y : Nat → Prop} {a n kp : Nat} {L : List ByteArray} {A : List (Nat × Nat)} {hn : Nat} {Tw T : Nat → En} {wb : Nat} (h : ISt w0 w b jb pb xb Y a n kp true L A hn Tw T T) (hn1 : 0 < n) (hn24 : n ≤ 24) (hY : Y wb) (hlo : w0.heap.size ≤ wb) (hW : WR w wb n T) (pl dg ct : Int) (hpl : I64 pl) (d : ByteArray) (c : Nat) (hTi : T (pickP pl n) = some (d, c)) :
    Calls Tryz.prog 11 #[.pointer (some ⟨xb, 0, none⟩), .slice (some ⟨wb, 0, none⟩) n n, .agg #[.int .i64 0, .int .i64 pl, .int .i64 dg, .int .i64 ct]] w fun e w' => e = .returned (.bool true) ∧ Chg w0 w b jb pb xb Y a n kp L A hn Tw wb w' := by
  obtain ⟨i, hi⟩ : ∃ q, pickP pl n = q := ⟨_, rfl⟩
  have hin : i < n := by rw [← hi]; exact pickP_lt pl n hn1
  rw [hi] at hTi
  have HPK := hide (fun W => pick8_any pl n hn1 hpl (n : Int) rfl W)
  rw [hi] at HPK
  obtain ⟨x1, hx1⟩ : ∃ q, w.alloc (.cells #[.int .i64 0, .int .i64 pl, .int .i64 dg, .int .i64 ct] 34) = q := ⟨_, rfl⟩
  have hb1 : Below w.heap.size w x1 := by rw [← hx1]; exact (Below.refl _ w).alloc (Nat.le_refl _) _
  have B1 : Blk x1 w.heap.size #[.int .i64 0, .int .i64 pl, .int .i64 dg, .int .i64 ct] 34 := by rw [← hx1]; exact Blk.new w _ _
  have HCL := hide ((h.below hb1).clear hn24 i hin d c hTi)
  have HH := hide (And.intro h (And.intro hY (And.intro hlo (And.intro hW (And.intro hTi (And.intro hin hb1))))))
  have b0 : x1.cell? ⟨w.heap.size, 0, none⟩ = some (.int .i64 0) := B1.cell 0
  have b1 : x1.cell? ⟨w.heap.size, 1, none⟩ = some (.int .i64 pl) := B1.cell 1
  have i0 : (0 : Int) ≤ (i : Int) := by omega
  have i1 : (i : Int) < (n : Int) := by omega
  have HX := hide hx1
  clear h hY hlo hW hTi hi hb1 B1 hin hx1
  go_enter Tryz.func11, Tryz.ntmps11
  go_wp2_with (go_at_call 28; refine (unhide HPK _).mono ?_; rintro e w' ⟨rfl, hw'⟩; subst w')
  rw [unhide HX]
  refine (unhide HCL).mono ?_
  rintro e x2 ⟨rfl, hS2, hO2⟩
  obtain ⟨h, hY, hlo, hW, hTi, hin, hb1⟩ := unhide HH
  have hO12 : Only (fun x => ¬ Y x) w x2 := (Only.of_below (P := fun x => ¬ Y x) hb1).trans hO2 (fun _ _ q => q)
  have hW2 := hW.only hO12 (fun q => q hY)
  obtain ⟨a0, f0⟩ := hW2.at i hin 0 (by decide)
  obtain ⟨a1, f1⟩ := hW2.at i hin 1 (by decide)
  obtain ⟨a2, f2⟩ := hW2.at i hin 2 (by decide)
  rw [hTi, Nat.add_zero] at a0
  rw [hTi] at a1 a2
  rw [Nat.add_zero] at f0
  simp only [slC, List.getElem?_cons_zero, List.getElem?_cons_succ] at a0 a1 a2
  have hw3 := hW2.sets i hin none (.int .i64 0) (.string ⟨#[]⟩) (.int .i64 0) rfl
  have hO3 : Only (fun x => x = wb) x2 (((x2.setCell ⟨wb, i * 3, none⟩ (.int .i64 0)).setCell ⟨wb, i * 3 + 1, none⟩ (.string ⟨#[]⟩)).setCell ⟨wb, i * 3 + 2, none⟩ (.int .i64 0)) := (((Only.refl (fun x => x = wb) x2).setCell ⟨wb, i * 3, none⟩ _ (fun _ => rfl)).setCell ⟨wb, i * 3 + 1, none⟩ _ (fun _ => rfl)).setCell ⟨wb, i * 3 + 2, none⟩ _ (fun _ => rfl)
  have hwb : ∀ x, Y x → Y x ∨ (x2.heap.size ≤ x ∧ x < (((x2.setCell ⟨wb, i * 3, none⟩ (.int .i64 0)).setCell ⟨wb, i * 3 + 1, none⟩ (.string ⟨#[]⟩)).setCell ⟨wb, i * 3 + 2, none⟩ (.int .i64 0)).heap.size) := fun x q => .inl q
  have Y3 := hide (show Chg w0 w b jb pb xb Y a n kp L A hn Tw wb (((x2.setCell ⟨wb, i * 3, none⟩ (.int .i64 0)).setCell ⟨wb, i * 3 + 1, none⟩ (.string ⟨#[]⟩)).setCell ⟨wb, i * 3 + 2, none⟩ (.int .i64 0)) from
    ⟨upd T i none, hS2 |> fun q => ISt.poke q hO3 (fun x r _ => by rw [r]; exact hY) (fun x r => by rw [r]; exact hlo) hwb, hw3, (hO12.mono (fun x _ q => .inl q)).trans hO3 (fun x _ q => .inr q)⟩)
  have hcc : ((c : Int) > 0) := by have := (h.ok.1.ok i d c hTi).2.1; omega
  have hcd : decide ((0 : Int) < (c : Int)) = true := decide_eq_true hcc
  have hcn : 0 < c := by omega
  clear hS2 hO2 h hY hlo hW hTi hin hb1 hO12 hW2 hw3 hO3 hwb HCL HH HX b0 b1
  go_wp2
  go_ret
  exact ⟨rfl, unhide Y3⟩
set_option maxRecDepth 100000 in
set_option maxHeartbeats 2000000 in
theorem change_cnone {w0 w : World} {b jb pb xb : Nat} {Y : Nat → Prop} {a n kp : Nat} {L : List ByteArray} {A : List (Nat × Nat)} {hn : Nat} {Tw T : Nat → En} {wb : Nat} (h : ISt w0 w b jb pb xb Y a n kp true L A hn Tw T T) (hn1 : 0 < n) (_hn24 : n ≤ 24) (hY : Y wb) (hlo : w0.heap.size ≤ wb) (hW : WR w wb n T) (pl dg ct : Int) (hpl : I64 pl) (hTi : T (pickP pl n) = none) :
    Calls Tryz.prog 11 #[.pointer (some ⟨xb, 0, none⟩), .slice (some ⟨wb, 0, none⟩) n n, .agg #[.int .i64 0, .int .i64 pl, .int .i64 dg, .int .i64 ct]] w fun e w' => e = .returned (.bool true) ∧ Chg w0 w b jb pb xb Y a n kp L A hn Tw wb w' := by
  obtain ⟨i, hi⟩ : ∃ q, pickP pl n = q := ⟨_, rfl⟩
  have hin : i < n := by rw [← hi]; exact pickP_lt pl n hn1
  rw [hi] at hTi
  have HPK := hide (fun W => pick8_any pl n hn1 hpl (n : Int) rfl W)
  rw [hi] at HPK
  obtain ⟨x1, hx1⟩ : ∃ q, w.alloc (.cells #[.int .i64 0, .int .i64 pl, .int .i64 dg, .int .i64 ct] 34) = q := ⟨_, rfl⟩
  have hb1 : Below w.heap.size w x1 := by rw [← hx1]; exact (Below.refl _ w).alloc (Nat.le_refl _) _
  have B1 : Blk x1 w.heap.size #[.int .i64 0, .int .i64 pl, .int .i64 dg, .int .i64 ct] 34 := by rw [← hx1]; exact Blk.new w _ _
  have HCL := hide ((h.below hb1).clear_none i hin hTi)
  have HH := hide (And.intro h (And.intro hY (And.intro hlo (And.intro hW (And.intro hTi (And.intro hin hb1))))))
  have b0 : x1.cell? ⟨w.heap.size, 0, none⟩ = some (.int .i64 0) := B1.cell 0
  have b1 : x1.cell? ⟨w.heap.size, 1, none⟩ = some (.int .i64 pl) := B1.cell 1
  have i0 : (0 : Int) ≤ (i : Int) := by omega
  have i1 : (i : Int) < (n : Int) := by omega
  have HX := hide hx1
  clear h hY hlo hW hTi hi hb1 B1 hin hx1
  go_enter Tryz.func11, Tryz.ntmps11
  go_wp2_with (go_at_call 28; refine (unhide HPK _).mono ?_; rintro e w' ⟨rfl, hw'⟩; subst w')
  rw [unhide HX]
  refine (unhide HCL).mono ?_
  rintro e x2 ⟨rfl, hS2, hO2⟩
  obtain ⟨h, hY, hlo, hW, hTi, hin, hb1⟩ := unhide HH
  have hO12 : Only (fun x => ¬ Y x) w x2 := (Only.of_below (P := fun x => ¬ Y x) hb1).trans hO2 (fun _ _ q => q)
  have hW2 := hW.only hO12 (fun q => q hY)
  obtain ⟨a0, f0⟩ := hW2.at i hin 0 (by decide)
  obtain ⟨a1, f1⟩ := hW2.at i hin 1 (by decide)
  obtain ⟨a2, f2⟩ := hW2.at i hin 2 (by decide)
  rw [hTi, Nat.add_zero] at a0
  rw [hTi] at a1 a2
  rw [Nat.add_zero] at f0
  simp only [slC, List.getElem?_cons_zero, List.getElem?_cons_succ] at a0 a1 a2
  have hw3 := hW2.sets i hin none (.int .i64 0) (.string ⟨#[]⟩) (.int .i64 0) rfl
  have hO3 : Only (fun x => x = wb) x2 (((x2.setCell ⟨wb, i * 3, none⟩ (.int .i64 0)).setCell ⟨wb, i * 3 + 1, none⟩ (.string ⟨#[]⟩)).setCell ⟨wb, i * 3 + 2, none⟩ (.int .i64 0)) := (((Only.refl (fun x => x = wb) x2).setCell ⟨wb, i * 3, none⟩ _ (fun _ => rfl)).setCell ⟨wb, i * 3 + 1, none⟩ _ (fun _ => rfl)).setCell ⟨wb, i * 3 + 2, none⟩ _ (fun _ => rfl)
  have hwb : ∀ x, Y x → Y x ∨ (x2.heap.size ≤ x ∧ x < (((x2.setCell ⟨wb, i * 3, none⟩ (.int .i64 0)).setCell ⟨wb, i * 3 + 1, none⟩ (.string ⟨#[]⟩)).setCell ⟨wb, i * 3 + 2, none⟩ (.int .i64 0)).heap.size) := fun x q => .inl q
  have Y3 := hide (show Chg w0 w b jb pb xb Y a n kp L A hn Tw wb (((x2.setCell ⟨wb, i * 3, none⟩ (.int .i64 0)).setCell ⟨wb, i * 3 + 1, none⟩ (.string ⟨#[]⟩)).setCell ⟨wb, i * 3 + 2, none⟩ (.int .i64 0)) from
    ⟨upd T i none, (by rw [upd_self T i none hTi]; exact hS2) |> fun q => ISt.poke q hO3 (fun x r _ => by rw [r]; exact hY) (fun x r => by rw [r]; exact hlo) hwb, hw3, (hO12.mono (fun x _ q => .inl q)).trans hO3 (fun x _ q => .inr q)⟩)
  
  
  
  clear hS2 hO2 h hY hlo hW hTi hin hb1 hO12 hW2 hw3 hO3 hwb HCL HH HX b0 b1
  go_wp2
  go_ret
  exact ⟨rfl, unhide Y3⟩
set_option maxRecDepth 100000 in
set_option maxHeartbeats 2000000 in
theorem change_put {w0 w : World} {b jb pb xb : Nat} {Y : Nat → Prop} {a n kp : Nat} {L : List ByteArray} {A : List (Nat × Nat)} {hn : Nat} {Tw T : Nat → En} {wb : Nat} (h : ISt w0 w b jb pb xb Y a n kp true L A hn Tw T T) (hn1 : 0 < n) (hn24 : n ≤ 24) (hY : Y wb) (hlo : w0.heap.size ≤ wb) (hW : WR w wb n T) (kd pl dg ct : Int) (hkd : kd ≠ 0) (hpl : I64 pl) (hdg : I64 dg) (hct : I64 ct) (hf : ∀ j c', T j = some (digB (pickP dg 9 : Int), c') → j = pickP pl n) :
    Calls Tryz.prog 11 #[.pointer (some ⟨xb, 0, none⟩), .slice (some ⟨wb, 0, none⟩) n n, .agg #[.int .i64 kd, .int .i64 pl, .int .i64 dg, .int .i64 ct]] w fun e w' => e = .returned (.bool true) ∧ Chg w0 w b jb pb xb Y a n kp L A hn Tw wb w' := by
  have hk0 : (kd == 0) = false := by simpa using hkd
  obtain ⟨i, hi⟩ : ∃ q, pickP pl n = q := ⟨_, rfl⟩
  have hin : i < n := by rw [← hi]; exact pickP_lt pl n hn1
  have HPK := hide (fun W => pick8_any pl n hn1 hpl (n : Int) rfl W)
  rw [hi] at HPK
  obtain ⟨v1, hv1⟩ : ∃ q, pickP dg 9 = q := ⟨_, rfl⟩
  obtain ⟨v2, hv2⟩ : ∃ q, pickP ct 65535 = q := ⟨_, rfl⟩
  have HP1 := hide (fun W => pick8_any dg 9 (by decide) hdg 9 rfl W)
  have HP2 := hide (fun W => pick8_any ct 65535 (by decide) hct 65535 rfl W)
  have hv2l : v2 < 65535 := by rw [← hv2]; exact pickP_lt ct 65535 (by decide)
  rw [hv1] at HP1
  rw [hv2] at HP2
  have HDG := hide (fun W => digest8_any (v1 : Int) W)
  have hdz := digB_size (v1 : Int)
  have HHY := hide (hf)
  rw [hv1, hi] at HHY
  obtain ⟨dd, hdd⟩ : ∃ q, digB (v1 : Int) = q := ⟨_, rfl⟩
  rw [hdd] at HDG hdz HHY
  obtain ⟨g, hg⟩ : ∃ q, w.heap.size = q := ⟨_, rfl⟩
  obtain ⟨x1, hx1⟩ : ∃ q, w.alloc (.cells #[.int .i64 kd, .int .i64 pl, .int .i64 dg, .int .i64 ct] 34) = q := ⟨_, rfl⟩
  have hb1 : Below w.heap.size w x1 := by rw [← hx1]; exact (Below.refl _ w).alloc (Nat.le_refl _) _
  have B1 : Blk x1 g #[.int .i64 kd, .int .i64 pl, .int .i64 dg, .int .i64 ct] 34 := by rw [← hx1, ← hg]; exact Blk.new w _ _
  have b0 : x1.cell? ⟨g, 0, none⟩ = some (.int .i64 kd) := B1.cell 0
  have b1 : x1.cell? ⟨g, 1, none⟩ = some (.int .i64 pl) := B1.cell 1
  have b2 : x1.cell? ⟨g, 2, none⟩ = some (.int .i64 dg) := B1.cell 2
  have b3 : x1.cell? ⟨g, 3, none⟩ = some (.int .i64 ct) := B1.cell 3
  have i0 : (0 : Int) ≤ (i : Int) := by omega
  have i1 : (i : Int) < (n : Int) := by omega
  have HH := hide (And.intro h (And.intro hY (And.intro hlo (And.intro hW (And.intro hin (And.intro hb1 (And.intro hdz (And.intro hn24 hg))))))))
  have HX1 := hide hx1
  have ev : (1 : Int) + (v2 : Int) = ((v2 + 1 : Nat) : Int) := by omega
  have evw : IntKind.i64.wrap ((v2 + 1 : Nat) : Int) = ((v2 + 1 : Nat) : Int) := wrapI_eq _ (by omega) (by omega)
  obtain ⟨cc, hcc⟩ : ∃ q, v2 + 1 = q := ⟨_, rfl⟩
  have hcr : 1 ≤ cc ∧ cc ≤ 65535 := by omega
  rw [hcc] at ev evw
  clear h hY hlo hW hi hb1 B1 hin hdz hv1 hv2 hdd hkd hpl hdg hct hf hcc
  go_enter Tryz.func11, Tryz.ntmps11
  go_wp2_with (go_at_call 28; refine (unhide HPK _).mono ?_; rintro e w' ⟨rfl, hw'⟩; subst w')
  rename_i K aK
  have hKK : ∀ g2 z, Below x1.heap.size x1 z → Blk z g2 #[.int .i64 (i : Int), .string dd, .int .i64 (cc : Int)] 46 → x1.heap.size ≤ g2 → K ⟨#[.pointer (some ⟨xb, 0, none⟩), .slice (some ⟨wb, 0, none⟩) n n, .agg #[.int .i64 kd, .int .i64 pl, .int .i64 dg, .int .i64 ct], undef, undef, .pointer (some ⟨g, 0, none⟩), .bool false, .int .i64 (i : Int), undef, .pointer (some ⟨g2, 0, none⟩), undef, undef, undef, .pointer (some ⟨g, 1, none⟩), .int .i64 pl, .slice (some ⟨wb, 0, none⟩) n n, .int .i64 (n : Int), .int .i64 (i : Int), .pointer (some ⟨g, 0, none⟩), .int .i64 kd, .bool false, undef, undef, undef, undef, undef, undef, undef, undef, undef, undef, undef, undef, undef, undef, undef, undef, undef, undef, undef, undef, undef, undef, undef, undef, .int .i64 (i : Int), .pointer (some ⟨g, 2, none⟩), .int .i64 dg, .int .i64 (v1 : Int), .string dd, .pointer (some ⟨g, 3, none⟩), .int .i64 ct, .int .i64 (v2 : Int), .int .i64 (cc : Int), .agg #[.int .i64 (i : Int), .string dd, .int .i64 (cc : Int)], undef, undef, undef, undef, undef, undef, undef, undef, undef, undef, undef, undef, undef, undef, undef, undef, undef, undef, undef, undef, undef, undef, undef, undef, undef, undef, undef, undef, undef, undef, undef, undef, undef, undef, undef, undef, undef, undef, undef, undef, undef, undef], []⟩ z := by
    intro g2 z hbz B2 hg2
    refine aK _ _ ?_
    clear aK b0 b1 b2 b3 HP1 HP2 HDG HPK
    obtain ⟨h, hY, hlo, hW, hin, hb1, hdz, _, hgw⟩ := unhide HH
    have hbwz : Below w.heap.size w z := hb1.trans (hbz.mono hb1.size)
    have hWz := hW.below hbwz
    have hSz := h.below hbwz
    have s1 : z.cell? ⟨g2, 1, none⟩ = some (.string dd) := B2.cell 1
    have s0 : z.cell? ⟨g2, 0, none⟩ = some (.int .i64 (i : Int)) := B2.cell 0
    have s2 : z.cell? ⟨g2, 2, none⟩ = some (.int .i64 (cc : Int)) := B2.cell 2
    have HZ := hide (And.intro hbwz (And.intro hWz (And.intro hSz (And.intro B2 hg2))))
    clear h hY hlo hW hin hb1 hdz hgw hbwz hWz hSz B2 hg2 hbz
    go_wp2
    go_loopw [10, 11] (fun tb i' wr => ∃ k : Nat, k ≤ n ∧ tb = .bool (false) ∧ i' = .int .i64 (k : Int) ∧ Below z.heap.size z wr) (fun _ i' _ => n - (intOf i').toNat)
    case atStart => exact ⟨0, by omega, by simp, rfl, Below.refl _ _⟩
    case round =>
      obtain ⟨k, hk, rfl, rfl, hbk⟩ := hrel
      obtain ⟨wo, rfl⟩ : ∃ wo, wo = wr := ⟨_, rfl⟩
      have hB2 := (unhide HZ).2.2.2.1
      have t1 : wo.cell? ⟨g2, 1, none⟩ = some (.string dd) := by rw [hbk.cell (p := ⟨g2, 1, none⟩) hB2.lt]; exact s1
      by_cases hkn : k < n
      · have hkn' : (k : Int) < (n : Int) := by omega
        have k0 : (0 : Int) ≤ (k : Int) := by omega
        have hWk := (unhide HZ).2.1.below hbk
        obtain ⟨a1, f1⟩ := hWk.at k hkn 1 (by decide)
        obtain ⟨a2, f2⟩ := hWk.at k hkn 2 (by decide)
        have HBK := hide hbk
        have hTO := (unhide HZ).2.2.1.ok.1
        clear hWk f1 f2 hbk hB2
        by_cases hki : k = i
        · have hne : ((k : Int) != (i : Int)) = false := by rw [hki]; simp
          clear a1 a2 hTO
          go_wp2
          go_quiet (fail)
          go_wp2
          go_roundw
          case rel => exact ⟨k + 1, by omega, rfl, by go_num, (below_drewN (unhide HBK) _)⟩
          case measure => simp [intOf]; omega
        · have hne : ((k : Int) != (i : Int)) = true := by simp; omega
          cases hTk : T k with
          | none =>
            rw [hTk] at a1 a2
            simp only [slC, List.getElem?_cons_zero, List.getElem?_cons_succ] at a1 a2
            clear hTO hTk hki
            go_wp2
            go_quiet (fail)
            go_wp2
            go_roundw
            case rel => exact ⟨k + 1, by omega, rfl, by go_num, (below_drewN (unhide HBK) _)⟩
            case measure => simp [intOf]; omega
          | some q =>
            obtain ⟨d, c⟩ := q
            rw [hTk] at a1 a2
            simp only [slC, List.getElem?_cons_zero, List.getElem?_cons_succ] at a1 a2
            have hdd : ¬ d = dd := fun q => by
              subst q
              exact hki (unhide HHY k c hTk)
            have hse := str_ne hdd
            have hcn : 0 < c := (hTO.ok k d c hTk).2.1
            have hcd : decide ((0 : Int) < (c : Int)) = true := decide_eq_true (by omega)
            clear hTO hTk hki hdd
            go_wp2
            go_quiet (fail)
            go_wp2
            go_roundw
            case rel => exact ⟨k + 1, by omega, rfl, by go_num, (below_drewN (unhide HBK) _)⟩
            case measure => simp [intOf]; omega
      · have hke : k = n := by omega
        have hkn' : ¬ (k : Int) < (n : Int) := by omega
        have u0 : wo.cell? ⟨g2, 0, none⟩ = some (.int .i64 (i : Int)) := by rw [hbk.cell (p := ⟨g2, 0, none⟩) hB2.lt]; exact s0
        have u2 : wo.cell? ⟨g2, 2, none⟩ = some (.int .i64 (cc : Int)) := by rw [hbk.cell (p := ⟨g2, 2, none⟩) hB2.lt]; exact s2
        obtain ⟨h, hY, hlo, hW, hin, hb1, hdz, _, hgw⟩ := unhide HH
        obtain ⟨hbwz, hWz, hSz, _, hg2⟩ := unhide HZ
        have hbwo : Below w.heap.size w wo := hbwz.trans (hbk.mono hbwz.size)
        have hSo := h.below hbwo
        have hgx : w.heap.size ≤ x1.heap.size := hb1.size
        have hBo := hB2.below hbk hB2.lt
        have hlb := hBo.lt
        have hSm : ISt w0 wo b jb pb xb (fun x => Y x ∨ x = g2) a n kp true L A hn Tw T T := h.more hbwo (fun x hx => by
          rcases hx with q | q
          · exact .inl q
          · rw [q]; exact .inr ⟨by omega, hlb⟩)
        have HPT := hide (hSm.put hn24 i hin dd hdz cc hcr.1 hcr.2 (unhide HHY))
        have HW0 := hide (And.intro hbwo (And.intro hW (And.intro hBo hg2)))
        have s0' : wo.cell? ⟨g2, 0, none⟩ = some (.int .i64 (i : Int)) := u0
        clear h hlo hin hb1 hdz hgw hbwz hWz hSz hg2 hbwo hSo hgx hBo hlb hB2 hbk hY hW hke hSm
        go_wp2_with fail
        refine (unhide HPT).mono ?_
        rintro e y1 ⟨rfl, hS1, hO1⟩
        obtain ⟨h, hY, hlo, hW, hin, hb1, hdz, _, hgw⟩ := unhide HH
        obtain ⟨hbwo, _, hBo, hg2⟩ := unhide HW0
        have hB1 := hBo.only hO1 (fun q => q (.inr rfl))
        have m0 : y1.cell? ⟨g2, 0, none⟩ = some (.int .i64 (i : Int)) := hB1.cell 0
        have m1 : y1.cell? ⟨g2, 1, none⟩ = some (.string dd) := hB1.cell 1
        have m2 : y1.cell? ⟨g2, 2, none⟩ = some (.int .i64 (cc : Int)) := hB1.cell 2
        have hOw : Only (fun x => ¬ Y x) w y1 := (Only.of_below (P := fun x => ¬ Y x) hbwo).trans hO1 (fun x _ q r => q (.inl r))
        have hW1 := hW.only hOw (fun q => q hY)
        obtain ⟨a0, f0⟩ := hW1.at i hin 0 (by decide)
        obtain ⟨a1, f1⟩ := hW1.at i hin 1 (by decide)
        obtain ⟨a2, f2⟩ := hW1.at i hin 2 (by decide)
        rw [Nat.add_zero] at a0 f0
        obtain ⟨o0, o1, o2, hol⟩ : ∃ o0 o1 o2, slC i (T i) = [o0, o1, o2] := by
          cases T i with
          | none => exact ⟨_, _, _, rfl⟩
          | some q => exact ⟨_, _, _, rfl⟩
        rw [hol] at a0 a1 a2
        simp only [List.getElem?_cons_zero, List.getElem?_cons_succ] at a0 a1 a2
        have hw3 := hW1.sets i hin (some (dd, cc)) (.int .i64 (i : Int)) (.string dd) (.int .i64 (cc : Int)) rfl
        have hO3 : Only (fun x => x = wb) y1 (((y1.setCell ⟨wb, i * 3, none⟩ (.int .i64 (i : Int))).setCell ⟨wb, i * 3 + 1, none⟩ (.string dd)).setCell ⟨wb, i * 3 + 2, none⟩ (.int .i64 (cc : Int))) := (((Only.refl (fun x => x = wb) y1).setCell ⟨wb, i * 3, none⟩ _ (fun _ => rfl)).setCell ⟨wb, i * 3 + 1, none⟩ _ (fun _ => rfl)).setCell ⟨wb, i * 3 + 2, none⟩ _ (fun _ => rfl)
        have Y3 := hide (show Chg w0 w b jb pb xb Y a n kp L A hn Tw wb (((y1.setCell ⟨wb, i * 3, none⟩ (.int .i64 (i : Int))).setCell ⟨wb, i * 3 + 1, none⟩ (.string dd)).setCell ⟨wb, i * 3 + 2, none⟩ (.int .i64 (cc : Int))) from
          ⟨upd T i (some (dd, cc)), ISt.poke hS1 hO3 (fun x r _ => by rw [r]; exact .inl hY) (fun x r => by rw [r]; exact hlo) (fun x q => .inl (.inl q)), hw3, (hOw.mono (fun x _ q => .inl q)).trans hO3 (fun x _ q => .inr q)⟩)
        clear hS1 hO1 h hY hlo hW hin hb1 hdz hgw hbwo hBo hg2 hB1 hOw hW1 hol hw3 hO3 HPT
        go_wp2
        go_ret
        exact ⟨rfl, unhide Y3⟩
  clear aK
  have N0 := hide (show Blk x1 g #[.int .i64 kd, .int .i64 pl, .int .i64 dg, .int .i64 ct] 34 ∧ Below x1.heap.size x1 x1 from ⟨by obtain ⟨_, _, _, _, _, _, _, _, hgw⟩ := unhide HH; rw [← unhide HX1, ← hgw]; exact Blk.new w _ _, Below.refl _ _⟩)
  refine wp_region_held_drew (S := fun w' => w'.cell? ⟨g, 2, none⟩ = some (.int .i64 dg) ∧ w'.cell? ⟨g, 3, none⟩ = some (.int .i64 ct)) (by kernel_rfl) ⟨b2, b3⟩ ?_
  intro hS
  refine wpAnyH_takeD 0 (some 45) (.int .i64 (i : Int)) rfl rfl (by kernel_rfl) (by kernel_rfl) (by kernel_rfl) (fun _ _ _ h => h) (Or.inl ⟨by rfl, fun w hSw => by obtain ⟨q1, q2⟩ := hSw; go_simp⟩) hS ?_
  simp only [Act.put, List.setIfInBounds_toArray, List.set_cons_zero, List.set_cons_succ]
  refine wpAnyH_takeD 1 (some 46) (.pointer (some ⟨g, 2, none⟩)) rfl rfl (by kernel_rfl) (by kernel_rfl) (by kernel_rfl) (fun _ _ _ h => h) (Or.inl ⟨by rfl, fun w hSw => by obtain ⟨q1, q2⟩ := hSw; go_simp⟩) hS ?_
  simp only [Act.put, List.setIfInBounds_toArray, List.set_cons_zero, List.set_cons_succ]
  refine wpAnyH_takeD 2 (some 47) (.int .i64 dg) rfl rfl (by kernel_rfl) (by kernel_rfl) (by kernel_rfl) (fun _ _ _ h => h) (Or.inl ⟨by rfl, fun w hSw => by obtain ⟨q1, q2⟩ := hSw; go_simp⟩) hS ?_
  simp only [Act.put, List.setIfInBounds_toArray, List.set_cons_zero, List.set_cons_succ]
  refine wpAnyH_takeD 5 (some 50) (.pointer (some ⟨g, 3, none⟩)) rfl rfl (by kernel_rfl) (by kernel_rfl) (by kernel_rfl) (fun _ _ _ h => h) (Or.inl ⟨by rfl, fun w hSw => by obtain ⟨q1, q2⟩ := hSw; go_simp⟩) hS ?_
  simp only [Act.put, List.setIfInBounds_toArray, List.set_cons_zero, List.set_cons_succ]
  refine wpAnyH_takeD 6 (some 51) (.int .i64 ct) rfl rfl (by kernel_rfl) (by kernel_rfl) (by kernel_rfl) (fun _ _ _ h => h) (Or.inl ⟨by rfl, fun w hSw => by obtain ⟨q1, q2⟩ := hSw; go_simp⟩) hS ?_
  simp only [Act.put, List.setIfInBounds_toArray, List.set_cons_zero, List.set_cons_succ]
  refine wpAnyH_ready (rs := [3, 10]) (by kernel_rfl) (by simp) ?_
  refine AllReadyH.cons rfl (fun K hK => ?_) (AllReadyH.cons rfl (fun K hK => ?_) AllReadyH.nil)
  · simp only [List.getElem_toArray, List.getElem_cons_succ, List.getElem_cons_zero]
    go_simp
    refine (unhide HP1 _).mono ?_
    rintro e w' ⟨rfl, hw'⟩
    subst w'
    refine hK.out _ _ ⟨(unhide N0).1.cell 2, (unhide N0).1.cell 3⟩ (fun hS => ?_)
    clear hK K
    refine wpAnyH_ready (rs := [4, 10]) (by kernel_rfl) (by simp) ?_
    refine AllReadyH.cons rfl (fun K hK => ?_) (AllReadyH.cons rfl (fun K hK => ?_) AllReadyH.nil)
    · simp only [List.getElem_toArray, List.getElem_cons_succ, List.getElem_cons_zero]
      go_simp
      refine (unhide HDG _).mono ?_
      rintro e y2 ⟨rfl, hbd⟩
      have hbd' : Below x1.heap.size x1 y2 := ((Below.refl _ x1).drew).trans hbd
      have N3 := hide (And.intro ((unhide N0).1.below hbd' (unhide N0).1.lt) ((unhide N0).2.trans (hbd'.mono (unhide N0).2.size)))
      clear hbd hbd'
      refine hK.out _ _ ⟨(unhide N3).1.cell 2, (unhide N3).1.cell 3⟩ (fun hS => ?_)
      clear hK K
      refine wpAnyH_ready (rs := [7, 10]) (by kernel_rfl) (by simp) ?_
      refine AllReadyH.cons rfl (fun K hK => ?_) (AllReadyH.cons rfl (fun K hK => ?_) AllReadyH.nil)
      · simp only [List.getElem_toArray, List.getElem_cons_succ, List.getElem_cons_zero]
        go_simp
        refine (unhide HP2 _).mono ?_
        rintro e w' ⟨rfl, hw'⟩
        subst w'
        refine hK.out _ _ ⟨(unhide N3).1.cell 2, (unhide N3).1.cell 3⟩ (fun hS => ?_)
        clear hK K
        refine wpAnyH_takeD 8 (some 53) (.int .i64 (cc : Int)) rfl rfl (by kernel_rfl) (by kernel_rfl) (by kernel_rfl) (fun _ _ _ h => h) (Or.inl ⟨by rfl, fun w hSw => by clear hSw; go_simp⟩) hS ?_
        simp only [Act.put, List.setIfInBounds_toArray, List.set_cons_zero, List.set_cons_succ]
        refine wpAnyH_takeD 9 (some 54) (.agg #[.int .i64 (i : Int), .string dd, .int .i64 (cc : Int)]) rfl rfl (by kernel_rfl) (by kernel_rfl) (by kernel_rfl) (fun _ _ _ h => h) (Or.inl ⟨by rfl, fun w hSw => by clear hSw; go_simp⟩) hS ?_
        simp only [Act.put, List.setIfInBounds_toArray, List.set_cons_zero, List.set_cons_succ]
        refine wpAnyH_ready (rs := [10]) (by kernel_rfl) (by simp) ?_
        refine AllReadyH.cons rfl (fun K hK => ?_) AllReadyH.nil
        simp only [List.getElem_toArray, List.getElem_cons_succ, List.getElem_cons_zero]
        go_simp
        obtain ⟨g2, hg2⟩ : ∃ q, y2.heap.size = q := ⟨_, rfl⟩
        obtain ⟨y5, hy⟩ : ∃ q, y2.alloc (.cells #[.int .i64 0, .string ⟨#[]⟩, .int .i64 0] 46) = q := ⟨_, rfl⟩
        have hba : Below y2.heap.size y2 y5 := by rw [← hy]; exact (Below.refl _ _).alloc (Nat.le_refl _) _
        have N6 := hide (And.intro ((unhide N3).1.below hba (unhide N3).1.lt) (And.intro ((unhide N3).2.trans (hba.mono (unhide N3).2.size)) (And.intro (show Blk y5 g2 #[.int .i64 0, .string ⟨#[]⟩, .int .i64 0] 46 from by rw [← hy, ← hg2]; exact Blk.new _ _ _) (show x1.heap.size ≤ g2 from by rw [← hg2]; exact (unhide N3).2.size))))
        rw [hg2, hy]
        clear hba hy hg2
        refine hK.out _ _ ⟨(unhide N6).1.cell 2, (unhide N6).1.cell 3⟩ (fun hS => ?_)
        clear hK K
        obtain ⟨nb, nl, ng, ne⟩ := unhide N6
        have q0 : y5.cell? ⟨g2, 0, none⟩ = some (.int .i64 0) := ng.cell 0
        have q1 : y5.cell? ⟨g2, 1, none⟩ = some (.string ⟨#[]⟩) := ng.cell 1
        have q2 : y5.cell? ⟨g2, 2, none⟩ = some (.int .i64 0) := ng.cell 2
        have p0 := ng.frozen 0
        have p1 := ng.frozen 1
        have p2 := ng.frozen 2
        have hgl := (unhide N0).1.lt
        have gb := ((ng.set 0 (.int .i64 (i : Int))).set 1 (.string dd)).set 2 (.int .i64 (cc : Int))
        have gl := ((nl.setCell (p := ⟨g2, 0, none⟩) ne (.int .i64 (i : Int))).setCell (p := ⟨g2, 1, none⟩) ne (.string dd)).setCell (p := ⟨g2, 2, none⟩) ne (.int .i64 (cc : Int))
        have gr := ((nb.other ⟨g2, 0, none⟩ (.int .i64 (i : Int)) (by show g2 ≠ g; omega)).other ⟨g2, 1, none⟩ (.string dd) (by show g2 ≠ g; omega)).other ⟨g2, 2, none⟩ (.int .i64 (cc : Int)) (by show g2 ≠ g; omega)
        have NF := hide (And.intro gb (And.intro gl gr))
        have HNE := hide ne
        clear nb nl ng ne gb gl gr hgl
        refine wpAnyH_ready (rs := [11]) (by kernel_rfl) (by simp) ?_
        refine AllReadyH.cons rfl (fun K hK => ?_) AllReadyH.nil
        simp only [List.getElem_toArray, List.getElem_cons_succ, List.getElem_cons_zero]
        go_simp
        refine hK.out _ _ ⟨(unhide NF).2.2.cell 2, (unhide NF).2.2.cell 3⟩ (fun hS => ?_)
        clear hK K
        refine wpAnyH_done (by kernel_rfl) ?_ _
        exact hKK _ _ (unhide NF).2.1 (unhide NF).1 (unhide HNE)
      · simp only [List.getElem_toArray, List.getElem_cons_succ, List.getElem_cons_zero]
        go_simp
        obtain ⟨g2, hg2⟩ : ∃ q, y2.heap.size = q := ⟨_, rfl⟩
        obtain ⟨y4, hy⟩ : ∃ q, y2.alloc (.cells #[.int .i64 0, .string ⟨#[]⟩, .int .i64 0] 46) = q := ⟨_, rfl⟩
        have hba : Below y2.heap.size y2 y4 := by rw [← hy]; exact (Below.refl _ _).alloc (Nat.le_refl _) _
        have N5 := hide (And.intro ((unhide N3).1.below hba (unhide N3).1.lt) (And.intro ((unhide N3).2.trans (hba.mono (unhide N3).2.size)) (And.intro (show Blk y4 g2 #[.int .i64 0, .string ⟨#[]⟩, .int .i64 0] 46 from by rw [← hy, ← hg2]; exact Blk.new _ _ _) (show x1.heap.size ≤ g2 from by rw [← hg2]; exact (unhide N3).2.size))))
        rw [hg2, hy]
        clear hba hy hg2
        refine hK.out _ _ ⟨(unhide N5).1.cell 2, (unhide N5).1.cell 3⟩ (fun hS => ?_)
        clear hK K
        refine wpAnyH_ready (rs := [7]) (by kernel_rfl) (by simp) ?_
        refine AllReadyH.cons rfl (fun K hK => ?_) AllReadyH.nil
        simp only [List.getElem_toArray, List.getElem_cons_succ, List.getElem_cons_zero]
        go_simp
        refine (unhide HP2 _).mono ?_
        rintro e w' ⟨rfl, hw'⟩
        subst w'
        refine hK.out _ _ ⟨(unhide N5).1.cell 2, (unhide N5).1.cell 3⟩ (fun hS => ?_)
        clear hK K
        refine wpAnyH_takeD 8 (some 53) (.int .i64 (cc : Int)) rfl rfl (by kernel_rfl) (by kernel_rfl) (by kernel_rfl) (fun _ _ _ h => h) (Or.inl ⟨by rfl, fun w hSw => by clear hSw; go_simp⟩) hS ?_
        simp only [Act.put, List.setIfInBounds_toArray, List.set_cons_zero, List.set_cons_succ]
        refine wpAnyH_takeD 9 (some 54) (.agg #[.int .i64 (i : Int), .string dd, .int .i64 (cc : Int)]) rfl rfl (by kernel_rfl) (by kernel_rfl) (by kernel_rfl) (fun _ _ _ h => h) (Or.inl ⟨by rfl, fun w hSw => by clear hSw; go_simp⟩) hS ?_
        simp only [Act.put, List.setIfInBounds_toArray, List.set_cons_zero, List.set_cons_succ]
        obtain ⟨nb, nl, ng, ne⟩ := unhide N5
        have q0 : y4.cell? ⟨g2, 0, none⟩ = some (.int .i64 0) := ng.cell 0
        have q1 : y4.cell? ⟨g2, 1, none⟩ = some (.string ⟨#[]⟩) := ng.cell 1
        have q2 : y4.cell? ⟨g2, 2, none⟩ = some (.int .i64 0) := ng.cell 2
        have p0 := ng.frozen 0
        have p1 := ng.frozen 1
        have p2 := ng.frozen 2
        have hgl := (unhide N0).1.lt
        have gb := ((ng.set 0 (.int .i64 (i : Int))).set 1 (.string dd)).set 2 (.int .i64 (cc : Int))
        have gl := ((nl.setCell (p := ⟨g2, 0, none⟩) ne (.int .i64 (i : Int))).setCell (p := ⟨g2, 1, none⟩) ne (.string dd)).setCell (p := ⟨g2, 2, none⟩) ne (.int .i64 (cc : Int))
        have gr := ((nb.other ⟨g2, 0, none⟩ (.int .i64 (i : Int)) (by show g2 ≠ g; omega)).other ⟨g2, 1, none⟩ (.string dd) (by show g2 ≠ g; omega)).other ⟨g2, 2, none⟩ (.int .i64 (cc : Int)) (by show g2 ≠ g; omega)
        have NF := hide (And.intro gb (And.intro gl gr))
        have HNE := hide ne
        clear nb nl ng ne gb gl gr hgl
        refine wpAnyH_ready (rs := [11]) (by kernel_rfl) (by simp) ?_
        refine AllReadyH.cons rfl (fun K hK => ?_) AllReadyH.nil
        simp only [List.getElem_toArray, List.getElem_cons_succ, List.getElem_cons_zero]
        go_simp
        refine hK.out _ _ ⟨(unhide NF).2.2.cell 2, (unhide NF).2.2.cell 3⟩ (fun hS => ?_)
        clear hK K
        refine wpAnyH_done (by kernel_rfl) ?_ _
        exact hKK _ _ (unhide NF).2.1 (unhide NF).1 (unhide HNE)
    · simp only [List.getElem_toArray, List.getElem_cons_succ, List.getElem_cons_zero]
      go_simp
      obtain ⟨g2, hg2⟩ : ∃ q, x1.heap.size = q := ⟨_, rfl⟩
      obtain ⟨y2, hy⟩ : ∃ q, x1.alloc (.cells #[.int .i64 0, .string ⟨#[]⟩, .int .i64 0] 46) = q := ⟨_, rfl⟩
      have hba : Below x1.heap.size x1 y2 := by rw [← hy]; exact (Below.refl _ _).alloc (Nat.le_refl _) _
      have N3 := hide (And.intro ((unhide N0).1.below hba (unhide N0).1.lt) (And.intro ((unhide N0).2.trans (hba.mono (unhide N0).2.size)) (And.intro (show Blk y2 g2 #[.int .i64 0, .string ⟨#[]⟩, .int .i64 0] 46 from by rw [← hy, ← hg2]; exact Blk.new _ _ _) (show x1.heap.size ≤ g2 from by rw [← hg2]; exact (unhide N0).2.size))))
      rw [hg2, hy]
      clear hba hy hg2
      refine hK.out _ _ ⟨(unhide N3).1.cell 2, (unhide N3).1.cell 3⟩ (fun hS => ?_)
      clear hK K
      refine wpAnyH_ready (rs := [4]) (by kernel_rfl) (by simp) ?_
      refine AllReadyH.cons rfl (fun K hK => ?_) AllReadyH.nil
      simp only [List.getElem_toArray, List.getElem_cons_succ, List.getElem_cons_zero]
      go_simp
      refine (unhide HDG _).mono ?_
      rintro e y4 ⟨rfl, hbd⟩
      have hbd' : Below y2.heap.size y2 y4 := ((Below.refl _ y2).drew).trans hbd
      have N5 := hide (And.intro ((unhide N3).1.below hbd' (unhide N3).1.lt) (And.intro ((unhide N3).2.1.trans (hbd'.mono (unhide N3).2.1.size)) (And.intro ((unhide N3).2.2.1.below hbd' (unhide N3).2.2.1.lt) (unhide N3).2.2.2)))
      clear hbd hbd'
      refine hK.out _ _ ⟨(unhide N5).1.cell 2, (unhide N5).1.cell 3⟩ (fun hS => ?_)
      clear hK K
      refine wpAnyH_ready (rs := [7]) (by kernel_rfl) (by simp) ?_
      refine AllReadyH.cons rfl (fun K hK => ?_) AllReadyH.nil
      simp only [List.getElem_toArray, List.getElem_cons_succ, List.getElem_cons_zero]
      go_simp
      refine (unhide HP2 _).mono ?_
      rintro e w' ⟨rfl, hw'⟩
      subst w'
      refine hK.out _ _ ⟨(unhide N5).1.cell 2, (unhide N5).1.cell 3⟩ (fun hS => ?_)
      clear hK K
      refine wpAnyH_takeD 8 (some 53) (.int .i64 (cc : Int)) rfl rfl (by kernel_rfl) (by kernel_rfl) (by kernel_rfl) (fun _ _ _ h => h) (Or.inl ⟨by rfl, fun w hSw => by clear hSw; go_simp⟩) hS ?_
      simp only [Act.put, List.setIfInBounds_toArray, List.set_cons_zero, List.set_cons_succ]
      refine wpAnyH_takeD 9 (some 54) (.agg #[.int .i64 (i : Int), .string dd, .int .i64 (cc : Int)]) rfl rfl (by kernel_rfl) (by kernel_rfl) (by kernel_rfl) (fun _ _ _ h => h) (Or.inl ⟨by rfl, fun w hSw => by clear hSw; go_simp⟩) hS ?_
      simp only [Act.put, List.setIfInBounds_toArray, List.set_cons_zero, List.set_cons_succ]
      obtain ⟨nb, nl, ng, ne⟩ := unhide N5
      have q0 : y4.cell? ⟨g2, 0, none⟩ = some (.int .i64 0) := ng.cell 0
      have q1 : y4.cell? ⟨g2, 1, none⟩ = some (.string ⟨#[]⟩) := ng.cell 1
      have q2 : y4.cell? ⟨g2, 2, none⟩ = some (.int .i64 0) := ng.cell 2
      have p0 := ng.frozen 0
      have p1 := ng.frozen 1
      have p2 := ng.frozen 2
      have hgl := (unhide N0).1.lt
      have gb := ((ng.set 0 (.int .i64 (i : Int))).set 1 (.string dd)).set 2 (.int .i64 (cc : Int))
      have gl := ((nl.setCell (p := ⟨g2, 0, none⟩) ne (.int .i64 (i : Int))).setCell (p := ⟨g2, 1, none⟩) ne (.string dd)).setCell (p := ⟨g2, 2, none⟩) ne (.int .i64 (cc : Int))
      have gr := ((nb.other ⟨g2, 0, none⟩ (.int .i64 (i : Int)) (by show g2 ≠ g; omega)).other ⟨g2, 1, none⟩ (.string dd) (by show g2 ≠ g; omega)).other ⟨g2, 2, none⟩ (.int .i64 (cc : Int)) (by show g2 ≠ g; omega)
      have NF := hide (And.intro gb (And.intro gl gr))
      have HNE := hide ne
      clear nb nl ng ne gb gl gr hgl
      refine wpAnyH_ready (rs := [11]) (by kernel_rfl) (by simp) ?_
      refine AllReadyH.cons rfl (fun K hK => ?_) AllReadyH.nil
      simp only [List.getElem_toArray, List.getElem_cons_succ, List.getElem_cons_zero]
      go_simp
      refine hK.out _ _ ⟨(unhide NF).2.2.cell 2, (unhide NF).2.2.cell 3⟩ (fun hS => ?_)
      clear hK K
      refine wpAnyH_done (by kernel_rfl) ?_ _
      exact hKK _ _ (unhide NF).2.1 (unhide NF).1 (unhide HNE)
  · simp only [List.getElem_toArray, List.getElem_cons_succ, List.getElem_cons_zero]
    go_simp
    obtain ⟨g2, hg2⟩ : ∃ q, x1.heap.size = q := ⟨_, rfl⟩
    obtain ⟨y1, hy⟩ : ∃ q, x1.alloc (.cells #[.int .i64 0, .string ⟨#[]⟩, .int .i64 0] 46) = q := ⟨_, rfl⟩
    have hba : Below x1.heap.size x1 y1 := by rw [← hy]; exact (Below.refl _ _).alloc (Nat.le_refl _) _
    have N2 := hide (And.intro ((unhide N0).1.below hba (unhide N0).1.lt) (And.intro ((unhide N0).2.trans (hba.mono (unhide N0).2.size)) (And.intro (show Blk y1 g2 #[.int .i64 0, .string ⟨#[]⟩, .int .i64 0] 46 from by rw [← hy, ← hg2]; exact Blk.new _ _ _) (show x1.heap.size ≤ g2 from by rw [← hg2]; exact (unhide N0).2.size))))
    rw [hg2, hy]
    clear hba hy hg2
    refine hK.out _ _ ⟨(unhide N2).1.cell 2, (unhide N2).1.cell 3⟩ (fun hS => ?_)
    clear hK K
    refine wpAnyH_ready (rs := [3]) (by kernel_rfl) (by simp) ?_
    refine AllReadyH.cons rfl (fun K hK => ?_) AllReadyH.nil
    simp only [List.getElem_toArray, List.getElem_cons_succ, List.getElem_cons_zero]
    go_simp
    refine (unhide HP1 _).mono ?_
    rintro e w' ⟨rfl, hw'⟩
    subst w'
    refine hK.out _ _ ⟨(unhide N2).1.cell 2, (unhide N2).1.cell 3⟩ (fun hS => ?_)
    clear hK K
    refine wpAnyH_ready (rs := [4]) (by kernel_rfl) (by simp) ?_
    refine AllReadyH.cons rfl (fun K hK => ?_) AllReadyH.nil
    simp only [List.getElem_toArray, List.getElem_cons_succ, List.getElem_cons_zero]
    go_simp
    refine (unhide HDG _).mono ?_
    rintro e y4 ⟨rfl, hbd⟩
    have hbd' : Below y1.heap.size y1 y4 := ((Below.refl _ y1).drew).trans hbd
    have N5 := hide (And.intro ((unhide N2).1.below hbd' (unhide N2).1.lt) (And.intro ((unhide N2).2.1.trans (hbd'.mono (unhide N2).2.1.size)) (And.intro ((unhide N2).2.2.1.below hbd' (unhide N2).2.2.1.lt) (unhide N2).2.2.2)))
    clear hbd hbd'
    refine hK.out _ _ ⟨(unhide N5).1.cell 2, (unhide N5).1.cell 3⟩ (fun hS => ?_)
    clear hK K
    refine wpAnyH_ready (rs := [7]) (by kernel_rfl) (by simp) ?_
    refine AllReadyH.cons rfl (fun K hK => ?_) AllReadyH.nil
    simp only [List.getElem_toArray, List.getElem_cons_succ, List.getElem_cons_zero]
    go_simp
    refine (unhide HP2 _).mono ?_
    rintro e w' ⟨rfl, hw'⟩
    subst w'
    refine hK.out _ _ ⟨(unhide N5).1.cell 2, (unhide N5).1.cell 3⟩ (fun hS => ?_)
    clear hK K
    refine wpAnyH_takeD 8 (some 53) (.int .i64 (cc : Int)) rfl rfl (by kernel_rfl) (by kernel_rfl) (by kernel_rfl) (fun _ _ _ h => h) (Or.inl ⟨by rfl, fun w hSw => by clear hSw; go_simp⟩) hS ?_
    simp only [Act.put, List.setIfInBounds_toArray, List.set_cons_zero, List.set_cons_succ]
    refine wpAnyH_takeD 9 (some 54) (.agg #[.int .i64 (i : Int), .string dd, .int .i64 (cc : Int)]) rfl rfl (by kernel_rfl) (by kernel_rfl) (by kernel_rfl) (fun _ _ _ h => h) (Or.inl ⟨by rfl, fun w hSw => by clear hSw; go_simp⟩) hS ?_
    simp only [Act.put, List.setIfInBounds_toArray, List.set_cons_zero, List.set_cons_succ]
    obtain ⟨nb, nl, ng, ne⟩ := unhide N5
    have q0 : y4.cell? ⟨g2, 0, none⟩ = some (.int .i64 0) := ng.cell 0
    have q1 : y4.cell? ⟨g2, 1, none⟩ = some (.string ⟨#[]⟩) := ng.cell 1
    have q2 : y4.cell? ⟨g2, 2, none⟩ = some (.int .i64 0) := ng.cell 2
    have p0 := ng.frozen 0
    have p1 := ng.frozen 1
    have p2 := ng.frozen 2
    have hgl := (unhide N0).1.lt
    have gb := ((ng.set 0 (.int .i64 (i : Int))).set 1 (.string dd)).set 2 (.int .i64 (cc : Int))
    have gl := ((nl.setCell (p := ⟨g2, 0, none⟩) ne (.int .i64 (i : Int))).setCell (p := ⟨g2, 1, none⟩) ne (.string dd)).setCell (p := ⟨g2, 2, none⟩) ne (.int .i64 (cc : Int))
    have gr := ((nb.other ⟨g2, 0, none⟩ (.int .i64 (i : Int)) (by show g2 ≠ g; omega)).other ⟨g2, 1, none⟩ (.string dd) (by show g2 ≠ g; omega)).other ⟨g2, 2, none⟩ (.int .i64 (cc : Int)) (by show g2 ≠ g; omega)
    have NF := hide (And.intro gb (And.intro gl gr))
    have HNE := hide ne
    clear nb nl ng ne gb gl gr hgl
    refine wpAnyH_ready (rs := [11]) (by kernel_rfl) (by simp) ?_
    refine AllReadyH.cons rfl (fun K hK => ?_) AllReadyH.nil
    simp only [List.getElem_toArray, List.getElem_cons_succ, List.getElem_cons_zero]
    go_simp
    refine hK.out _ _ ⟨(unhide NF).2.2.cell 2, (unhide NF).2.2.cell 3⟩ (fun hS => ?_)
    clear hK K
    refine wpAnyH_done (by kernel_rfl) ?_ _
    exact hKK _ _ (unhide NF).2.1 (unhide NF).1 (unhide HNE)
set_option maxRecDepth 100000 in
set_option maxHeartbeats 2000000 in
theorem change_twice {w0 w : World} {b jb pb xb : Nat} {Y : Nat → Prop} {a n kp : Nat} {L : List ByteArray} {A : List (Nat × Nat)} {hn : Nat} {Tw T : Nat → En} {wb : Nat} (h : ISt w0 w b jb pb xb Y a n kp true L A hn Tw T T) (hn1 : 0 < n) (hn24 : n ≤ 24) (hY : Y wb) (hlo : w0.heap.size ≤ wb) (hW : WR w wb n T) (kd pl dg ct : Int) (hkd : kd ≠ 0) (hpl : I64 pl) (hdg : I64 dg) (hct : I64 ct) (j c' : Nat) (hj : T j = some (digB (pickP dg 9 : Int), c')) (hji : j ≠ pickP pl n) :
    Calls Tryz.prog 11 #[.pointer (some ⟨xb, 0, none⟩), .slice (some ⟨wb, 0, none⟩) n n, .agg #[.int .i64 kd, .int .i64 pl, .int .i64 dg, .int .i64 ct]] w fun e w' => e = .returned (.bool true) ∧ Chg w0 w b jb pb xb Y a n kp L A hn Tw wb w' := by
  have hk0 : (kd == 0) = false := by simpa using hkd
  obtain ⟨i, hi⟩ : ∃ q, pickP pl n = q := ⟨_, rfl⟩
  have hin : i < n := by rw [← hi]; exact pickP_lt pl n hn1
  have HPK := hide (fun W => pick8_any pl n hn1 hpl (n : Int) rfl W)
  rw [hi] at HPK
  obtain ⟨v1, hv1⟩ : ∃ q, pickP dg 9 = q := ⟨_, rfl⟩
  obtain ⟨v2, hv2⟩ : ∃ q, pickP ct 65535 = q := ⟨_, rfl⟩
  have HP1 := hide (fun W => pick8_any dg 9 (by decide) hdg 9 rfl W)
  have HP2 := hide (fun W => pick8_any ct 65535 (by decide) hct 65535 rfl W)
  have hv2l : v2 < 65535 := by rw [← hv2]; exact pickP_lt ct 65535 (by decide)
  rw [hv1] at HP1
  rw [hv2] at HP2
  have HDG := hide (fun W => digest8_any (v1 : Int) W)
  have hdz := digB_size (v1 : Int)
  have HHY := hide (And.intro hj hji)
  rw [hv1, hi] at HHY
  obtain ⟨dd, hdd⟩ : ∃ q, digB (v1 : Int) = q := ⟨_, rfl⟩
  rw [hdd] at HDG hdz HHY
  obtain ⟨g, hg⟩ : ∃ q, w.heap.size = q := ⟨_, rfl⟩
  obtain ⟨x1, hx1⟩ : ∃ q, w.alloc (.cells #[.int .i64 kd, .int .i64 pl, .int .i64 dg, .int .i64 ct] 34) = q := ⟨_, rfl⟩
  have hb1 : Below w.heap.size w x1 := by rw [← hx1]; exact (Below.refl _ w).alloc (Nat.le_refl _) _
  have B1 : Blk x1 g #[.int .i64 kd, .int .i64 pl, .int .i64 dg, .int .i64 ct] 34 := by rw [← hx1, ← hg]; exact Blk.new w _ _
  have b0 : x1.cell? ⟨g, 0, none⟩ = some (.int .i64 kd) := B1.cell 0
  have b1 : x1.cell? ⟨g, 1, none⟩ = some (.int .i64 pl) := B1.cell 1
  have b2 : x1.cell? ⟨g, 2, none⟩ = some (.int .i64 dg) := B1.cell 2
  have b3 : x1.cell? ⟨g, 3, none⟩ = some (.int .i64 ct) := B1.cell 3
  have i0 : (0 : Int) ≤ (i : Int) := by omega
  have i1 : (i : Int) < (n : Int) := by omega
  have HH := hide (And.intro h (And.intro hY (And.intro hlo (And.intro hW (And.intro hin (And.intro hb1 (And.intro hdz (And.intro hn24 hg))))))))
  have HX1 := hide hx1
  have ev : (1 : Int) + (v2 : Int) = ((v2 + 1 : Nat) : Int) := by omega
  have evw : IntKind.i64.wrap ((v2 + 1 : Nat) : Int) = ((v2 + 1 : Nat) : Int) := wrapI_eq _ (by omega) (by omega)
  obtain ⟨cc, hcc⟩ : ∃ q, v2 + 1 = q := ⟨_, rfl⟩
  have hcr : 1 ≤ cc ∧ cc ≤ 65535 := by omega
  rw [hcc] at ev evw
  clear h hY hlo hW hi hb1 B1 hin hdz hv1 hv2 hdd hkd hpl hdg hct hj hji hcc
  go_enter Tryz.func11, Tryz.ntmps11
  go_wp2_with (go_at_call 28; refine (unhide HPK _).mono ?_; rintro e w' ⟨rfl, hw'⟩; subst w')
  rename_i K aK
  have hKK : ∀ g2 z, Below x1.heap.size x1 z → Blk z g2 #[.int .i64 (i : Int), .string dd, .int .i64 (cc : Int)] 46 → x1.heap.size ≤ g2 → K ⟨#[.pointer (some ⟨xb, 0, none⟩), .slice (some ⟨wb, 0, none⟩) n n, .agg #[.int .i64 kd, .int .i64 pl, .int .i64 dg, .int .i64 ct], undef, undef, .pointer (some ⟨g, 0, none⟩), .bool false, .int .i64 (i : Int), undef, .pointer (some ⟨g2, 0, none⟩), undef, undef, undef, .pointer (some ⟨g, 1, none⟩), .int .i64 pl, .slice (some ⟨wb, 0, none⟩) n n, .int .i64 (n : Int), .int .i64 (i : Int), .pointer (some ⟨g, 0, none⟩), .int .i64 kd, .bool false, undef, undef, undef, undef, undef, undef, undef, undef, undef, undef, undef, undef, undef, undef, undef, undef, undef, undef, undef, undef, undef, undef, undef, undef, .int .i64 (i : Int), .pointer (some ⟨g, 2, none⟩), .int .i64 dg, .int .i64 (v1 : Int), .string dd, .pointer (some ⟨g, 3, none⟩), .int .i64 ct, .int .i64 (v2 : Int), .int .i64 (cc : Int), .agg #[.int .i64 (i : Int), .string dd, .int .i64 (cc : Int)], undef, undef, undef, undef, undef, undef, undef, undef, undef, undef, undef, undef, undef, undef, undef, undef, undef, undef, undef, undef, undef, undef, undef, undef, undef, undef, undef, undef, undef, undef, undef, undef, undef, undef, undef, undef, undef, undef, undef, undef, undef, undef], []⟩ z := by
    intro g2 z hbz B2 hg2
    refine aK _ _ ?_
    clear aK b0 b1 b2 b3 HP1 HP2 HDG HPK
    obtain ⟨h, hY, hlo, hW, hin, hb1, hdz, _, hgw⟩ := unhide HH
    have hbwz : Below w.heap.size w z := hb1.trans (hbz.mono hb1.size)
    have hWz := hW.below hbwz
    have hSz := h.below hbwz
    have s1 : z.cell? ⟨g2, 1, none⟩ = some (.string dd) := B2.cell 1
    have s0 : z.cell? ⟨g2, 0, none⟩ = some (.int .i64 (i : Int)) := B2.cell 0
    have s2 : z.cell? ⟨g2, 2, none⟩ = some (.int .i64 (cc : Int)) := B2.cell 2
    have HZ := hide (And.intro hbwz (And.intro hWz (And.intro hSz (And.intro B2 hg2))))
    clear h hY hlo hW hin hb1 hdz hgw hbwz hWz hSz B2 hg2 hbz
    go_wp2
    go_loopw [10, 11] (fun tb i' wr => ∃ k : Nat, k ≤ n ∧ tb = .bool (decide (j < k)) ∧ i' = .int .i64 (k : Int) ∧ Below z.heap.size z wr) (fun _ i' _ => n - (intOf i').toNat)
    case atStart => exact ⟨0, by omega, by simp, rfl, Below.refl _ _⟩
    case round =>
      obtain ⟨k, hk, rfl, rfl, hbk⟩ := hrel
      obtain ⟨wo, rfl⟩ : ∃ wo, wo = wr := ⟨_, rfl⟩
      have hB2 := (unhide HZ).2.2.2.1
      have t1 : wo.cell? ⟨g2, 1, none⟩ = some (.string dd) := by rw [hbk.cell (p := ⟨g2, 1, none⟩) hB2.lt]; exact s1
      by_cases hkn : k < n
      · have hkn' : (k : Int) < (n : Int) := by omega
        have k0 : (0 : Int) ≤ (k : Int) := by omega
        have hWk := (unhide HZ).2.1.below hbk
        obtain ⟨a1, f1⟩ := hWk.at k hkn 1 (by decide)
        obtain ⟨a2, f2⟩ := hWk.at k hkn 2 (by decide)
        have HBK := hide hbk
        have hTO := (unhide HZ).2.2.1.ok.1
        clear hWk f1 f2 hbk hB2
        by_cases hjk : j < k
        · have hd1 : decide (j < k) = true := decide_eq_true hjk
          have HD2 := hide (show decide (j < k + 1) = true from decide_eq_true (by omega))
          rw [hd1]
          clear a1 a2 hTO hd1
          go_wp2
          go_quiet (fail)
          go_wp2
          go_roundw
          case rel => exact ⟨k + 1, by omega, by rw [unhide HD2], by go_num, (below_drewN (unhide HBK) _)⟩
          case measure => simp [intOf]; omega
        · have hd1 : decide (j < k) = false := decide_eq_false hjk
          rw [hd1]
          clear hd1
          by_cases hki : k = i
          · have hne : ((k : Int) != (i : Int)) = false := by rw [hki]; simp
            have HD2 := hide (show decide (j < k + 1) = false from decide_eq_false (by have := (unhide HHY).2; omega))
            clear a1 a2 hTO
            go_wp2
            go_quiet (fail)
            go_wp2
            go_roundw
            case rel => exact ⟨k + 1, by omega, by rw [unhide HD2], by go_num, (below_drewN (unhide HBK) _)⟩
            case measure => simp [intOf]; omega
          · have hne : ((k : Int) != (i : Int)) = true := by simp; omega
            cases hTk : T k with
            | none =>
              rw [hTk] at a1 a2
              simp only [slC, List.getElem?_cons_zero, List.getElem?_cons_succ] at a1 a2
              have HD2 := hide (show decide (j < k + 1) = false from decide_eq_false (fun q => by
                have : j = k := by omega
                rw [← this, (unhide HHY).1] at hTk
                cases hTk))
              clear hTO hTk hki
              go_wp2
              go_quiet (fail)
              go_wp2
              go_roundw
              case rel => exact ⟨k + 1, by omega, by rw [unhide HD2], by go_num, (below_drewN (unhide HBK) _)⟩
              case measure => simp [intOf]; omega
            | some q =>
              obtain ⟨d, c⟩ := q
              rw [hTk] at a1 a2
              simp only [slC, List.getElem?_cons_zero, List.getElem?_cons_succ] at a1 a2
              have hcn : 0 < c := (hTO.ok k d c hTk).2.1
              have hcd : decide ((0 : Int) < (c : Int)) = true := decide_eq_true (by omega)
              by_cases hdd : d = dd
              · subst hdd
                have hse : (d.toList == d.toList) = true := by simp
                have HD2 := hide (show decide (j < k + 1) = true from decide_eq_true (by have := hTO.one k j d c c' hTk (unhide HHY).1; omega))
                clear hTO hTk hki
                go_wp2
                go_quiet (fail)
                go_wp2
                go_roundw
                case rel => exact ⟨k + 1, by omega, by rw [unhide HD2], by go_num, (below_drewN (unhide HBK) _)⟩
                case measure => simp [intOf]; omega
              · have hse := str_ne hdd
                have HD2 := hide (show decide (j < k + 1) = false from decide_eq_false (fun q => by
                  have : j = k := by omega
                  rw [← this, (unhide HHY).1] at hTk
                  exact hdd (by simpa using congrArg (fun q : En => (q.getD (d, 0)).1) hTk.symm)))
                clear hTO hTk hki hdd
                go_wp2
                go_quiet (fail)
                go_wp2
                go_roundw
                case rel => exact ⟨k + 1, by omega, by rw [unhide HD2], by go_num, (below_drewN (unhide HBK) _)⟩
                case measure => simp [intOf]; omega
      · have hke : k = n := by omega
        have hkn' : ¬ (k : Int) < (n : Int) := by omega
        have u0 : wo.cell? ⟨g2, 0, none⟩ = some (.int .i64 (i : Int)) := by rw [hbk.cell (p := ⟨g2, 0, none⟩) hB2.lt]; exact s0
        have u2 : wo.cell? ⟨g2, 2, none⟩ = some (.int .i64 (cc : Int)) := by rw [hbk.cell (p := ⟨g2, 2, none⟩) hB2.lt]; exact s2
        obtain ⟨h, hY, hlo, hW, hin, hb1, hdz, _, hgw⟩ := unhide HH
        obtain ⟨hbwz, hWz, hSz, _, hg2⟩ := unhide HZ
        have hbwo : Below w.heap.size w wo := hbwz.trans (hbk.mono hbwz.size)
        have hSo := h.below hbwo
        have hgx : w.heap.size ≤ x1.heap.size := hb1.size
        have hBo := hB2.below hbk hB2.lt
        have hlb := hBo.lt
        have HPT := hide (hSo.twice i hin dd hdz cc hcr.1 hcr.2 j c' (unhide HHY).1 (unhide HHY).2)
        have hjn : j < n := h.ok.1.lt (unhide HHY).1
        have hdk : decide (j < k) = true := decide_eq_true (by omega)
        rw [hdk]
        have HW0 := hide (And.intro hbwo hW)
        clear h hlo hin hb1 hdz hgw hbwz hWz hSz hg2 hbwo hSo hgx hBo hlb hB2 hbk hY hW hjn hdk hke
        go_wp2_with fail
        refine (unhide HPT).mono ?_
        rintro e y1 ⟨rfl, hS1, hO1⟩
        have hOw : Only (fun x => ¬ Y x) w y1 := (Only.of_below (P := fun x => ¬ Y x) (unhide HW0).1).trans hO1 (fun _ _ q => q)
        have Y1 := hide (show Chg w0 w b jb pb xb Y a n kp L A hn Tw wb y1 from ⟨T, hS1, (unhide HW0).2.only hOw (fun q => q (unhide HH).2.1), hOw.mono (fun x _ q => .inl q)⟩)
        clear hS1 hO1 hOw HPT
        go_wp2
        go_ret
        exact ⟨rfl, unhide Y1⟩
  clear aK
  have N0 := hide (show Blk x1 g #[.int .i64 kd, .int .i64 pl, .int .i64 dg, .int .i64 ct] 34 ∧ Below x1.heap.size x1 x1 from ⟨by obtain ⟨_, _, _, _, _, _, _, _, hgw⟩ := unhide HH; rw [← unhide HX1, ← hgw]; exact Blk.new w _ _, Below.refl _ _⟩)
  refine wp_region_held_drew (S := fun w' => w'.cell? ⟨g, 2, none⟩ = some (.int .i64 dg) ∧ w'.cell? ⟨g, 3, none⟩ = some (.int .i64 ct)) (by kernel_rfl) ⟨b2, b3⟩ ?_
  intro hS
  refine wpAnyH_takeD 0 (some 45) (.int .i64 (i : Int)) rfl rfl (by kernel_rfl) (by kernel_rfl) (by kernel_rfl) (fun _ _ _ h => h) (Or.inl ⟨by rfl, fun w hSw => by obtain ⟨q1, q2⟩ := hSw; go_simp⟩) hS ?_
  simp only [Act.put, List.setIfInBounds_toArray, List.set_cons_zero, List.set_cons_succ]
  refine wpAnyH_takeD 1 (some 46) (.pointer (some ⟨g, 2, none⟩)) rfl rfl (by kernel_rfl) (by kernel_rfl) (by kernel_rfl) (fun _ _ _ h => h) (Or.inl ⟨by rfl, fun w hSw => by obtain ⟨q1, q2⟩ := hSw; go_simp⟩) hS ?_
  simp only [Act.put, List.setIfInBounds_toArray, List.set_cons_zero, List.set_cons_succ]
  refine wpAnyH_takeD 2 (some 47) (.int .i64 dg) rfl rfl (by kernel_rfl) (by kernel_rfl) (by kernel_rfl) (fun _ _ _ h => h) (Or.inl ⟨by rfl, fun w hSw => by obtain ⟨q1, q2⟩ := hSw; go_simp⟩) hS ?_
  simp only [Act.put, List.setIfInBounds_toArray, List.set_cons_zero, List.set_cons_succ]
  refine wpAnyH_takeD 5 (some 50) (.pointer (some ⟨g, 3, none⟩)) rfl rfl (by kernel_rfl) (by kernel_rfl) (by kernel_rfl) (fun _ _ _ h => h) (Or.inl ⟨by rfl, fun w hSw => by obtain ⟨q1, q2⟩ := hSw; go_simp⟩) hS ?_
  simp only [Act.put, List.setIfInBounds_toArray, List.set_cons_zero, List.set_cons_succ]
  refine wpAnyH_takeD 6 (some 51) (.int .i64 ct) rfl rfl (by kernel_rfl) (by kernel_rfl) (by kernel_rfl) (fun _ _ _ h => h) (Or.inl ⟨by rfl, fun w hSw => by obtain ⟨q1, q2⟩ := hSw; go_simp⟩) hS ?_
  simp only [Act.put, List.setIfInBounds_toArray, List.set_cons_zero, List.set_cons_succ]
  refine wpAnyH_ready (rs := [3, 10]) (by kernel_rfl) (by simp) ?_
  refine AllReadyH.cons rfl (fun K hK => ?_) (AllReadyH.cons rfl (fun K hK => ?_) AllReadyH.nil)
  · simp only [List.getElem_toArray, List.getElem_cons_succ, List.getElem_cons_zero]
    go_simp
    refine (unhide HP1 _).mono ?_
    rintro e w' ⟨rfl, hw'⟩
    subst w'
    refine hK.out _ _ ⟨(unhide N0).1.cell 2, (unhide N0).1.cell 3⟩ (fun hS => ?_)
    clear hK K
    refine wpAnyH_ready (rs := [4, 10]) (by kernel_rfl) (by simp) ?_
    refine AllReadyH.cons rfl (fun K hK => ?_) (AllReadyH.cons rfl (fun K hK => ?_) AllReadyH.nil)
    · simp only [List.getElem_toArray, List.getElem_cons_succ, List.getElem_cons_zero]
      go_simp
      refine (unhide HDG _).mono ?_
      rintro e y2 ⟨rfl, hbd⟩
      have hbd' : Below x1.heap.size x1 y2 := ((Below.refl _ x1).drew).trans hbd
      have N3 := hide (And.intro ((unhide N0).1.below hbd' (unhide N0).1.lt) ((unhide N0).2.trans (hbd'.mono (unhide N0).2.size)))
      clear hbd hbd'
      refine hK.out _ _ ⟨(unhide N3).1.cell 2, (unhide N3).1.cell 3⟩ (fun hS => ?_)
      clear hK K
      refine wpAnyH_ready (rs := [7, 10]) (by kernel_rfl) (by simp) ?_
      refine AllReadyH.cons rfl (fun K hK => ?_) (AllReadyH.cons rfl (fun K hK => ?_) AllReadyH.nil)
      · simp only [List.getElem_toArray, List.getElem_cons_succ, List.getElem_cons_zero]
        go_simp
        refine (unhide HP2 _).mono ?_
        rintro e w' ⟨rfl, hw'⟩
        subst w'
        refine hK.out _ _ ⟨(unhide N3).1.cell 2, (unhide N3).1.cell 3⟩ (fun hS => ?_)
        clear hK K
        refine wpAnyH_takeD 8 (some 53) (.int .i64 (cc : Int)) rfl rfl (by kernel_rfl) (by kernel_rfl) (by kernel_rfl) (fun _ _ _ h => h) (Or.inl ⟨by rfl, fun w hSw => by clear hSw; go_simp⟩) hS ?_
        simp only [Act.put, List.setIfInBounds_toArray, List.set_cons_zero, List.set_cons_succ]
        refine wpAnyH_takeD 9 (some 54) (.agg #[.int .i64 (i : Int), .string dd, .int .i64 (cc : Int)]) rfl rfl (by kernel_rfl) (by kernel_rfl) (by kernel_rfl) (fun _ _ _ h => h) (Or.inl ⟨by rfl, fun w hSw => by clear hSw; go_simp⟩) hS ?_
        simp only [Act.put, List.setIfInBounds_toArray, List.set_cons_zero, List.set_cons_succ]
        refine wpAnyH_ready (rs := [10]) (by kernel_rfl) (by simp) ?_
        refine AllReadyH.cons rfl (fun K hK => ?_) AllReadyH.nil
        simp only [List.getElem_toArray, List.getElem_cons_succ, List.getElem_cons_zero]
        go_simp
        obtain ⟨g2, hg2⟩ : ∃ q, y2.heap.size = q := ⟨_, rfl⟩
        obtain ⟨y5, hy⟩ : ∃ q, y2.alloc (.cells #[.int .i64 0, .string ⟨#[]⟩, .int .i64 0] 46) = q := ⟨_, rfl⟩
        have hba : Below y2.heap.size y2 y5 := by rw [← hy]; exact (Below.refl _ _).alloc (Nat.le_refl _) _
        have N6 := hide (And.intro ((unhide N3).1.below hba (unhide N3).1.lt) (And.intro ((unhide N3).2.trans (hba.mono (unhide N3).2.size)) (And.intro (show Blk y5 g2 #[.int .i64 0, .string ⟨#[]⟩, .int .i64 0] 46 from by rw [← hy, ← hg2]; exact Blk.new _ _ _) (show x1.heap.size ≤ g2 from by rw [← hg2]; exact (unhide N3).2.size))))
        rw [hg2, hy]
        clear hba hy hg2
        refine hK.out _ _ ⟨(unhide N6).1.cell 2, (unhide N6).1.cell 3⟩ (fun hS => ?_)
        clear hK K
        obtain ⟨nb, nl, ng, ne⟩ := unhide N6
        have q0 : y5.cell? ⟨g2, 0, none⟩ = some (.int .i64 0) := ng.cell 0
        have q1 : y5.cell? ⟨g2, 1, none⟩ = some (.string ⟨#[]⟩) := ng.cell 1
        have q2 : y5.cell? ⟨g2, 2, none⟩ = some (.int .i64 0) := ng.cell 2
        have p0 := ng.frozen 0
        have p1 := ng.frozen 1
        have p2 := ng.frozen 2
        have hgl := (unhide N0).1.lt
        have gb := ((ng.set 0 (.int .i64 (i : Int))).set 1 (.string dd)).set 2 (.int .i64 (cc : Int))
        have gl := ((nl.setCell (p := ⟨g2, 0, none⟩) ne (.int .i64 (i : Int))).setCell (p := ⟨g2, 1, none⟩) ne (.string dd)).setCell (p := ⟨g2, 2, none⟩) ne (.int .i64 (cc : Int))
        have gr := ((nb.other ⟨g2, 0, none⟩ (.int .i64 (i : Int)) (by show g2 ≠ g; omega)).other ⟨g2, 1, none⟩ (.string dd) (by show g2 ≠ g; omega)).other ⟨g2, 2, none⟩ (.int .i64 (cc : Int)) (by show g2 ≠ g; omega)
        have NF := hide (And.intro gb (And.intro gl gr))
        have HNE := hide ne
        clear nb nl ng ne gb gl gr hgl
        refine wpAnyH_ready (rs := [11]) (by kernel_rfl) (by simp) ?_
        refine AllReadyH.cons rfl (fun K hK => ?_) AllReadyH.nil
        simp only [List.getElem_toArray, List.getElem_cons_succ, List.getElem_cons_zero]
        go_simp
        refine hK.out _ _ ⟨(unhide NF).2.2.cell 2, (unhide NF).2.2.cell 3⟩ (fun hS => ?_)
        clear hK K
        refine wpAnyH_done (by kernel_rfl) ?_ _
        exact hKK _ _ (unhide NF).2.1 (unhide NF).1 (unhide HNE)
      · simp only [List.getElem_toArray, List.getElem_cons_succ, List.getElem_cons_zero]
        go_simp
        obtain ⟨g2, hg2⟩ : ∃ q, y2.heap.size = q := ⟨_, rfl⟩
        obtain ⟨y4, hy⟩ : ∃ q, y2.alloc (.cells #[.int .i64 0, .string ⟨#[]⟩, .int .i64 0] 46) = q := ⟨_, rfl⟩
        have hba : Below y2.heap.size y2 y4 := by rw [← hy]; exact (Below.refl _ _).alloc (Nat.le_refl _) _
        have N5 := hide (And.intro ((unhide N3).1.below hba (unhide N3).1.lt) (And.intro ((unhide N3).2.trans (hba.mono (unhide N3).2.size)) (And.intro (show Blk y4 g2 #[.int .i64 0, .string ⟨#[]⟩, .int .i64 0] 46 from by rw [← hy, ← hg2]; exact Blk.new _ _ _) (show x1.heap.size ≤ g2 from by rw [← hg2]; exact (unhide N3).2.size))))
        rw [hg2, hy]
        clear hba hy hg2
        refine hK.out _ _ ⟨(unhide N5).1.cell 2, (unhide N5).1.cell 3⟩ (fun hS => ?_)
        clear hK K
        refine wpAnyH_ready (rs := [7]) (by kernel_rfl) (by simp) ?_
        refine AllReadyH.cons rfl (fun K hK => ?_) AllReadyH.nil
        simp only [List.getElem_toArray, List.getElem_cons_succ, List.getElem_cons_zero]
        go_simp
        refine (unhide HP2 _).mono ?_
        rintro e w' ⟨rfl, hw'⟩
        subst w'
        refine hK.out _ _ ⟨(unhide N5).1.cell 2, (unhide N5).1.cell 3⟩ (fun hS => ?_)
        clear hK K
        refine wpAnyH_takeD 8 (some 53) (.int .i64 (cc : Int)) rfl rfl (by kernel_rfl) (by kernel_rfl) (by kernel_rfl) (fun _ _ _ h => h) (Or.inl ⟨by rfl, fun w hSw => by clear hSw; go_simp⟩) hS ?_
        simp only [Act.put, List.setIfInBounds_toArray, List.set_cons_zero, List.set_cons_succ]
        refine wpAnyH_takeD 9 (some 54) (.agg #[.int .i64 (i : Int), .string dd, .int .i64 (cc : Int)]) rfl rfl (by kernel_rfl) (by kernel_rfl) (by kernel_rfl) (fun _ _ _ h => h) (Or.inl ⟨by rfl, fun w hSw => by clear hSw; go_simp⟩) hS ?_
        simp only [Act.put, List.setIfInBounds_toArray, List.set_cons_zero, List.set_cons_succ]
        obtain ⟨nb, nl, ng, ne⟩ := unhide N5
        have q0 : y4.cell? ⟨g2, 0, none⟩ = some (.int .i64 0) := ng.cell 0
        have q1 : y4.cell? ⟨g2, 1, none⟩ = some (.string ⟨#[]⟩) := ng.cell 1
        have q2 : y4.cell? ⟨g2, 2, none⟩ = some (.int .i64 0) := ng.cell 2
        have p0 := ng.frozen 0
        have p1 := ng.frozen 1
        have p2 := ng.frozen 2
        have hgl := (unhide N0).1.lt
        have gb := ((ng.set 0 (.int .i64 (i : Int))).set 1 (.string dd)).set 2 (.int .i64 (cc : Int))
        have gl := ((nl.setCell (p := ⟨g2, 0, none⟩) ne (.int .i64 (i : Int))).setCell (p := ⟨g2, 1, none⟩) ne (.string dd)).setCell (p := ⟨g2, 2, none⟩) ne (.int .i64 (cc : Int))
        have gr := ((nb.other ⟨g2, 0, none⟩ (.int .i64 (i : Int)) (by show g2 ≠ g; omega)).other ⟨g2, 1, none⟩ (.string dd) (by show g2 ≠ g; omega)).other ⟨g2, 2, none⟩ (.int .i64 (cc : Int)) (by show g2 ≠ g; omega)
        have NF := hide (And.intro gb (And.intro gl gr))
        have HNE := hide ne
        clear nb nl ng ne gb gl gr hgl
        refine wpAnyH_ready (rs := [11]) (by kernel_rfl) (by simp) ?_
        refine AllReadyH.cons rfl (fun K hK => ?_) AllReadyH.nil
        simp only [List.getElem_toArray, List.getElem_cons_succ, List.getElem_cons_zero]
        go_simp
        refine hK.out _ _ ⟨(unhide NF).2.2.cell 2, (unhide NF).2.2.cell 3⟩ (fun hS => ?_)
        clear hK K
        refine wpAnyH_done (by kernel_rfl) ?_ _
        exact hKK _ _ (unhide NF).2.1 (unhide NF).1 (unhide HNE)
    · simp only [List.getElem_toArray, List.getElem_cons_succ, List.getElem_cons_zero]
      go_simp
      obtain ⟨g2, hg2⟩ : ∃ q, x1.heap.size = q := ⟨_, rfl⟩
      obtain ⟨y2, hy⟩ : ∃ q, x1.alloc (.cells #[.int .i64 0, .string ⟨#[]⟩, .int .i64 0] 46) = q := ⟨_, rfl⟩
      have hba : Below x1.heap.size x1 y2 := by rw [← hy]; exact (Below.refl _ _).alloc (Nat.le_refl _) _
      have N3 := hide (And.intro ((unhide N0).1.below hba (unhide N0).1.lt) (And.intro ((unhide N0).2.trans (hba.mono (unhide N0).2.size)) (And.intro (show Blk y2 g2 #[.int .i64 0, .string ⟨#[]⟩, .int .i64 0] 46 from by rw [← hy, ← hg2]; exact Blk.new _ _ _) (show x1.heap.size ≤ g2 from by rw [← hg2]; exact (unhide N0).2.size))))
      rw [hg2, hy]
      clear hba hy hg2
      refine hK.out _ _ ⟨(unhide N3).1.cell 2, (unhide N3).1.cell 3⟩ (fun hS => ?_)
      clear hK K
      refine wpAnyH_ready (rs := [4]) (by kernel_rfl) (by simp) ?_
      refine AllReadyH.cons rfl (fun K hK => ?_) AllReadyH.nil
      simp only [List.getElem_toArray, List.getElem_cons_succ, List.getElem_cons_zero]
      go_simp
      refine (unhide HDG _).mono ?_
      rintro e y4 ⟨rfl, hbd⟩
      have hbd' : Below y2.heap.size y2 y4 := ((Below.refl _ y2).drew).trans hbd
      have N5 := hide (And.intro ((unhide N3).1.below hbd' (unhide N3).1.lt) (And.intro ((unhide N3).2.1.trans (hbd'.mono (unhide N3).2.1.size)) (And.intro ((unhide N3).2.2.1.below hbd' (unhide N3).2.2.1.lt) (unhide N3).2.2.2)))
      clear hbd hbd'
      refine hK.out _ _ ⟨(unhide N5).1.cell 2, (unhide N5).1.cell 3⟩ (fun hS => ?_)
      clear hK K
      refine wpAnyH_ready (rs := [7]) (by kernel_rfl) (by simp) ?_
      refine AllReadyH.cons rfl (fun K hK => ?_) AllReadyH.nil
      simp only [List.getElem_toArray, List.getElem_cons_succ, List.getElem_cons_zero]
      go_simp
      refine (unhide HP2 _).mono ?_
      rintro e w' ⟨rfl, hw'⟩
      subst w'
      refine hK.out _ _ ⟨(unhide N5).1.cell 2, (unhide N5).1.cell 3⟩ (fun hS => ?_)
      clear hK K
      refine wpAnyH_takeD 8 (some 53) (.int .i64 (cc : Int)) rfl rfl (by kernel_rfl) (by kernel_rfl) (by kernel_rfl) (fun _ _ _ h => h) (Or.inl ⟨by rfl, fun w hSw => by clear hSw; go_simp⟩) hS ?_
      simp only [Act.put, List.setIfInBounds_toArray, List.set_cons_zero, List.set_cons_succ]
      refine wpAnyH_takeD 9 (some 54) (.agg #[.int .i64 (i : Int), .string dd, .int .i64 (cc : Int)]) rfl rfl (by kernel_rfl) (by kernel_rfl) (by kernel_rfl) (fun _ _ _ h => h) (Or.inl ⟨by rfl, fun w hSw => by clear hSw; go_simp⟩) hS ?_
      simp only [Act.put, List.setIfInBounds_toArray, List.set_cons_zero, List.set_cons_succ]
      obtain ⟨nb, nl, ng, ne⟩ := unhide N5
      have q0 : y4.cell? ⟨g2, 0, none⟩ = some (.int .i64 0) := ng.cell 0
      have q1 : y4.cell? ⟨g2, 1, none⟩ = some (.string ⟨#[]⟩) := ng.cell 1
      have q2 : y4.cell? ⟨g2, 2, none⟩ = some (.int .i64 0) := ng.cell 2
      have p0 := ng.frozen 0
      have p1 := ng.frozen 1
      have p2 := ng.frozen 2
      have hgl := (unhide N0).1.lt
      have gb := ((ng.set 0 (.int .i64 (i : Int))).set 1 (.string dd)).set 2 (.int .i64 (cc : Int))
      have gl := ((nl.setCell (p := ⟨g2, 0, none⟩) ne (.int .i64 (i : Int))).setCell (p := ⟨g2, 1, none⟩) ne (.string dd)).setCell (p := ⟨g2, 2, none⟩) ne (.int .i64 (cc : Int))
      have gr := ((nb.other ⟨g2, 0, none⟩ (.int .i64 (i : Int)) (by show g2 ≠ g; omega)).other ⟨g2, 1, none⟩ (.string dd) (by show g2 ≠ g; omega)).other ⟨g2, 2, none⟩ (.int .i64 (cc : Int)) (by show g2 ≠ g; omega)
      have NF := hide (And.intro gb (And.intro gl gr))
      have HNE := hide ne
      clear nb nl ng ne gb gl gr hgl
      refine wpAnyH_ready (rs := [11]) (by kernel_rfl) (by simp) ?_
      refine AllReadyH.cons rfl (fun K hK => ?_) AllReadyH.nil
      simp only [List.getElem_toArray, List.getElem_cons_succ, List.getElem_cons_zero]
      go_simp
      refine hK.out _ _ ⟨(unhide NF).2.2.cell 2, (unhide NF).2.2.cell 3⟩ (fun hS => ?_)
      clear hK K
      refine wpAnyH_done (by kernel_rfl) ?_ _
      exact hKK _ _ (unhide NF).2.1 (unhide NF).1 (unhide HNE)
  · simp only [List.getElem_toArray, List.getElem_cons_succ, List.getElem_cons_zero]
    go_simp
    obtain ⟨g2, hg2⟩ : ∃ q, x1.heap.size = q := ⟨_, rfl⟩
    obtain ⟨y1, hy⟩ : ∃ q, x1.alloc (.cells #[.int .i64 0, .string ⟨#[]⟩, .int .i64 0] 46) = q := ⟨_, rfl⟩
    have hba : Below x1.heap.size x1 y1 := by rw [← hy]; exact (Below.refl _ _).alloc (Nat.le_refl _) _
    have N2 := hide (And.intro ((unhide N0).1.below hba (unhide N0).1.lt) (And.intro ((unhide N0).2.trans (hba.mono (unhide N0).2.size)) (And.intro (show Blk y1 g2 #[.int .i64 0, .string ⟨#[]⟩, .int .i64 0] 46 from by rw [← hy, ← hg2]; exact Blk.new _ _ _) (show x1.heap.size ≤ g2 from by rw [← hg2]; exact (unhide N0).2.size))))
    rw [hg2, hy]
    clear hba hy hg2
    refine hK.out _ _ ⟨(unhide N2).1.cell 2, (unhide N2).1.cell 3⟩ (fun hS => ?_)
    clear hK K
    refine wpAnyH_ready (rs := [3]) (by kernel_rfl) (by simp) ?_
    refine AllReadyH.cons rfl (fun K hK => ?_) AllReadyH.nil
    simp only [List.getElem_toArray, List.getElem_cons_succ, List.getElem_cons_zero]
    go_simp
    refine (unhide HP1 _).mono ?_
    rintro e w' ⟨rfl, hw'⟩
    subst w'
    refine hK.out _ _ ⟨(unhide N2).1.cell 2, (unhide N2).1.cell 3⟩ (fun hS => ?_)
    clear hK K
    refine wpAnyH_ready (rs := [4]) (by kernel_rfl) (by simp) ?_
    refine AllReadyH.cons rfl (fun K hK => ?_) AllReadyH.nil
    simp only [List.getElem_toArray, List.getElem_cons_succ, List.getElem_cons_zero]
    go_simp
    refine (unhide HDG _).mono ?_
    rintro e y4 ⟨rfl, hbd⟩
    have hbd' : Below y1.heap.size y1 y4 := ((Below.refl _ y1).drew).trans hbd
    have N5 := hide (And.intro ((unhide N2).1.below hbd' (unhide N2).1.lt) (And.intro ((unhide N2).2.1.trans (hbd'.mono (unhide N2).2.1.size)) (And.intro ((unhide N2).2.2.1.below hbd' (unhide N2).2.2.1.lt) (unhide N2).2.2.2)))
    clear hbd hbd'
    refine hK.out _ _ ⟨(unhide N5).1.cell 2, (unhide N5).1.cell 3⟩ (fun hS => ?_)
    clear hK K
    refine wpAnyH_ready (rs := [7]) (by kernel_rfl) (by simp) ?_
    refine AllReadyH.cons rfl (fun K hK => ?_) AllReadyH.nil
    simp only [List.getElem_toArray, List.getElem_cons_succ, List.getElem_cons_zero]
    go_simp
    refine (unhide HP2 _).mono ?_
    rintro e w' ⟨rfl, hw'⟩
    subst w'
    refine hK.out _ _ ⟨(unhide N5).1.cell 2, (unhide N5).1.cell 3⟩ (fun hS => ?_)
    clear hK K
    refine wpAnyH_takeD 8 (some 53) (.int .i64 (cc : Int)) rfl rfl (by kernel_rfl) (by kernel_rfl) (by kernel_rfl) (fun _ _ _ h => h) (Or.inl ⟨by rfl, fun w hSw => by clear hSw; go_simp⟩) hS ?_
    simp only [Act.put, List.setIfInBounds_toArray, List.set_cons_zero, List.set_cons_succ]
    refine wpAnyH_takeD 9 (some 54) (.agg #[.int .i64 (i : Int), .string dd, .int .i64 (cc : Int)]) rfl rfl (by kernel_rfl) (by kernel_rfl) (by kernel_rfl) (fun _ _ _ h => h) (Or.inl ⟨by rfl, fun w hSw => by clear hSw; go_simp⟩) hS ?_
    simp only [Act.put, List.setIfInBounds_toArray, List.set_cons_zero, List.set_cons_succ]
    obtain ⟨nb, nl, ng, ne⟩ := unhide N5
    have q0 : y4.cell? ⟨g2, 0, none⟩ = some (.int .i64 0) := ng.cell 0
    have q1 : y4.cell? ⟨g2, 1, none⟩ = some (.string ⟨#[]⟩) := ng.cell 1
    have q2 : y4.cell? ⟨g2, 2, none⟩ = some (.int .i64 0) := ng.cell 2
    have p0 := ng.frozen 0
    have p1 := ng.frozen 1
    have p2 := ng.frozen 2
    have hgl := (unhide N0).1.lt
    have gb := ((ng.set 0 (.int .i64 (i : Int))).set 1 (.string dd)).set 2 (.int .i64 (cc : Int))
    have gl := ((nl.setCell (p := ⟨g2, 0, none⟩) ne (.int .i64 (i : Int))).setCell (p := ⟨g2, 1, none⟩) ne (.string dd)).setCell (p := ⟨g2, 2, none⟩) ne (.int .i64 (cc : Int))
    have gr := ((nb.other ⟨g2, 0, none⟩ (.int .i64 (i : Int)) (by show g2 ≠ g; omega)).other ⟨g2, 1, none⟩ (.string dd) (by show g2 ≠ g; omega)).other ⟨g2, 2, none⟩ (.int .i64 (cc : Int)) (by show g2 ≠ g; omega)
    have NF := hide (And.intro gb (And.intro gl gr))
    have HNE := hide ne
    clear nb nl ng ne gb gl gr hgl
    refine wpAnyH_ready (rs := [11]) (by kernel_rfl) (by simp) ?_
    refine AllReadyH.cons rfl (fun K hK => ?_) AllReadyH.nil
    simp only [List.getElem_toArray, List.getElem_cons_succ, List.getElem_cons_zero]
    go_simp
    refine hK.out _ _ ⟨(unhide NF).2.2.cell 2, (unhide NF).2.2.cell 3⟩ (fun hS => ?_)
    clear hK K
    refine wpAnyH_done (by kernel_rfl) ?_ _
    exact hKK _ _ (unhide NF).2.1 (unhide NF).1 (unhide HNE)
theorem change_any {w0 w : World} {b jb pb xb : Nat} {Y : Nat → Prop} {a n kp : Nat} {L : List ByteArray} {A : List (Nat × Nat)} {hn : Nat} {Tw T : Nat → En} {wb : Nat} (h : ISt w0 w b jb pb xb Y a n kp true L A hn Tw T T) (hn1 : 0 < n) (hn24 : n ≤ 24) (hY : Y wb) (hlo : w0.heap.size ≤ wb) (hW : WR w wb n T) (kd pl dg ct : Int) (hpl : I64 pl) (hdg : I64 dg) (hct : I64 ct) :
    Calls Tryz.prog 11 #[.pointer (some ⟨xb, 0, none⟩), .slice (some ⟨wb, 0, none⟩) n n, .agg #[.int .i64 kd, .int .i64 pl, .int .i64 dg, .int .i64 ct]] w fun e w' => e = .returned (.bool true) ∧ Chg w0 w b jb pb xb Y a n kp L A hn Tw wb w' := by
  by_cases hk : kd = 0
  · subst hk
    cases hTi : T (pickP pl n) with
    | none => exact change_cnone h hn1 hn24 hY hlo hW pl dg ct hpl hTi
    | some q => exact change_clear h hn1 hn24 hY hlo hW pl dg ct hpl q.1 q.2 hTi
  · by_cases q : ∃ j c', T j = some (digB (pickP dg 9 : Int), c') ∧ j ≠ pickP pl n
    · obtain ⟨j, c', hj, hji⟩ := q
      exact change_twice h hn1 hn24 hY hlo hW kd pl dg ct hk hpl hdg hct j c' hj hji
    · exact change_put h hn1 hn24 hY hlo hW kd pl dg ct hk hpl hdg hct (fun j c' hj => by
        by_cases e : j = pickP pl n
        · exact e
        · exact absurd ⟨j, c', hj, e⟩ q)
end Go.Proofs.YtnfcnpolflfpfaaGreatDoor
