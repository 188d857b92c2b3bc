import Derived.Test.YtbpcgephicmhhaaGreatDoorMf28
import Derived.Laws.EntriesVeiled
namespace Go.Proofs.YtbpcgephicmhhaaGreatDoor
open Go.RowKit Go.Maps Go.Sort Go.Shelf
set_option maxRecDepth 100000
theorem ent_wrongToAdd (args : Array Value) (W : World) : (callFunc 96 args).run Tryz.prog W = .ok (.enter 96 args) W := by go_simp
theorem ent_changes_1 (args : Array Value) (W : World) : (callFunc 97 args).run Tryz.prog W = .ok (.enter 97 args) W := by go_simp
theorem ent_wrongToAddVolume (args : Array Value) (W : World) : (callFunc 100 args).run Tryz.prog W = .ok (.enter 100 args) W := by go_simp
theorem ent_changes_3 (args : Array Value) (W : World) : (callFunc 101 args).run Tryz.prog W = .ok (.enter 101 args) W := by go_simp
theorem ent_wrongToCharge (args : Array Value) (W : World) : (callFunc 106 args).run Tryz.prog W = .ok (.enter 106 args) W := by go_simp
theorem ent_charged (args : Array Value) (W : World) : (callFunc 107 args).run Tryz.prog W = .ok (.enter 107 args) W := by go_simp
theorem fld_0 (W : World) : (Instr.field 113 (.agg #[.func (.func 96) #[] #[], .func (.func 97) #[] #[], .func (.func 98) #[] #[], .func (.func 99) #[] #[], .func (.func 100) #[] #[], .func (.func 101) #[] #[], .func (.func 103) #[] #[], .func (.func 104) #[] #[], .func (.func 106) #[] #[], .func (.func 107) #[] #[]]) 0).run Tryz.prog W = .ok (.agg #[.func (.func 96) #[] #[], .func (.func 97) #[] #[]]) W := by kernel_rfl
theorem fld_2 (W : World) : (Instr.field 113 (.agg #[.func (.func 96) #[] #[], .func (.func 97) #[] #[], .func (.func 98) #[] #[], .func (.func 99) #[] #[], .func (.func 100) #[] #[], .func (.func 101) #[] #[], .func (.func 103) #[] #[], .func (.func 104) #[] #[], .func (.func 106) #[] #[], .func (.func 107) #[] #[]]) 2).run Tryz.prog W = .ok (.agg #[.func (.func 100) #[] #[], .func (.func 101) #[] #[]]) W := by kernel_rfl
theorem fld_4 (W : World) : (Instr.field 113 (.agg #[.func (.func 96) #[] #[], .func (.func 97) #[] #[], .func (.func 98) #[] #[], .func (.func 99) #[] #[], .func (.func 100) #[] #[], .func (.func 101) #[] #[], .func (.func 103) #[] #[], .func (.func 104) #[] #[], .func (.func 106) #[] #[], .func (.func 107) #[] #[]]) 4).run Tryz.prog W = .ok (.agg #[.func (.func 106) #[] #[], .func (.func 107) #[] #[]]) W := by kernel_rfl
set_option maxRecDepth 100000 in
set_option maxHeartbeats 2000000 in
theorem changes_any (w : World) : Calls Tryz.prog 45 #[] w fun e w' => e = .returned (.agg #[fnV 96, fnV 97, fnV 98, fnV 99, fnV 100, fnV 101, fnV 103, fnV 104, fnV 106, fnV 107]) ∧ Below w.heap.size w w' := by
  obtain ⟨g, hg⟩ : ∃ xx, w.heap.size = xx := ⟨_, rfl⟩
  obtain ⟨x1, hx1⟩ : ∃ xx, w.alloc (.cells #[.nilFunc, .nilFunc, .nilFunc, .nilFunc, .nilFunc, .nilFunc, .nilFunc, .nilFunc, .nilFunc, .nilFunc] 113) = xx := ⟨_, rfl⟩
  have B1 : Blk x1 g #[.nilFunc, .nilFunc, .nilFunc, .nilFunc, .nilFunc, .nilFunc, .nilFunc, .nilFunc, .nilFunc, .nilFunc] 113 := by rw [← hx1, ← hg]; exact Blk.new w _ _
  have hb : Below g w x1 := by rw [← hx1, ← hg]; exact (Below.refl _ w).alloc (Nat.le_refl _) _
  have c0 : x1.cell? ⟨g, 0, none⟩ = some .nilFunc := B1.cell 0
  have f0 := B1.frozen 0
  have c1 : x1.cell? ⟨g, 1, none⟩ = some .nilFunc := B1.cell 1
  have f1 := B1.frozen 1
  have c2 : x1.cell? ⟨g, 2, none⟩ = some .nilFunc := B1.cell 2
  have f2 := B1.frozen 2
  have c3 : x1.cell? ⟨g, 3, none⟩ = some .nilFunc := B1.cell 3
  have f3 := B1.frozen 3
  have c4 : x1.cell? ⟨g, 4, none⟩ = some .nilFunc := B1.cell 4
  have f4 := B1.frozen 4
  have c5 : x1.cell? ⟨g, 5, none⟩ = some .nilFunc := B1.cell 5
  have f5 := B1.frozen 5
  have c6 : x1.cell? ⟨g, 6, none⟩ = some .nilFunc := B1.cell 6
  have f6 := B1.frozen 6
  have c7 : x1.cell? ⟨g, 7, none⟩ = some .nilFunc := B1.cell 7
  have f7 := B1.frozen 7
  have c8 : x1.cell? ⟨g, 8, none⟩ = some .nilFunc := B1.cell 8
  have f8 := B1.frozen 8
  have c9 : x1.cell? ⟨g, 9, none⟩ = some .nilFunc := B1.cell 9
  have f9 := B1.frozen 9
  have B2 := setCells_all B1 [.func (.func 96) #[] #[], .func (.func 97) #[] #[], .func (.func 98) #[] #[], .func (.func 99) #[] #[], .func (.func 100) #[] #[], .func (.func 101) #[] #[], .func (.func 103) #[] #[], .func (.func 104) #[] #[], .func (.func 106) #[] #[], .func (.func 107) #[] #[]] rfl
  have HLD := hide (iload_blk 113 _ B2 Tryz.underlying113 rfl (by kernel_rfl))
  have HB := hide (below_setCells (b := g) (Nat.le_refl _) [.func (.func 96) #[] #[], .func (.func 97) #[] #[], .func (.func 98) #[] #[], .func (.func 99) #[] #[], .func (.func 100) #[] #[], .func (.func 101) #[] #[], .func (.func 103) #[] #[], .func (.func 104) #[] #[], .func (.func 106) #[] #[], .func (.func 107) #[] #[]] 0 hb)
  have hsz : (Tryz.prog.info? 113).map (·.size) = some 10 := by kernel_rfl
  have HSZ := hide hsz
  clear B1 hb B2 hsz
  rw [hg]
  simp only [fnV]
  go_enter Tryz.func45, Tryz.ntmps45
  go_wp2
  exact bodyPost_ret (v := .agg #[.func (.func 96) #[] #[], .func (.func 97) #[] #[], .func (.func 98) #[] #[], .func (.func 99) #[] #[], .func (.func 100) #[] #[], .func (.func 101) #[] #[], .func (.func 103) #[] #[], .func (.func 104) #[] #[], .func (.func 106) #[] #[], .func (.func 107) #[] #[]]) (results_cell rfl _ _ _ ⟨g, 0, none⟩ rfl _ (unhide HLD)) rfl ⟨rfl, unhide HB⟩
set_option maxRecDepth 100000 in
set_option maxHeartbeats 2000000 in
theorem tAdd_ok {w0 w : World} {b jb pb tb : Nat} {X : Nat → Prop} {a cap : Nat} {S : PS} {L : List ByteArray} {A : List (Nat × Nat)} {hn : Nat} {Mw Mn : List ByteArray} {R : Nat → Rc} (h : TG w0 w b jb pb tb X a cap S L A hn Mw Mn R) (ho : S.op = true) (k : Nat) (hk : k < 8) (q : Nat) (hq : q ≤ 65535) (hE : wAdd (R k) ((cap : Int) - (qs R 8 : Int)) q = 0) : Calls Tryz.prog 13 #[.pointer (some ⟨tb, 0, none⟩), .int .i64 ((k + 1 : Nat) : Int), .int .i64 (q : Int)] w fun e w' => e = .returned (.int .i64 (0)) ∧ TChg w0 w b jb pb tb X a cap S L A hn Mw (ups R k ⟨true, q, 0, []⟩) w' := by
  have hE0 := hE
  have HC := hide (fun W (hb : Below w.heap.size w W) => show Calls Tryz.prog 44 _ W _ from have G1 := h.below hb; tChg_ok G1 ho k hk _ _ ent_wrongToAdd ent_changes_1 q 0 0 0 ⟨by omega, by omega, hq, by omega, by omega⟩ (wAdd (R k) ((cap : Int) - (qs R 8 : Int)) q) (fun W => wAdd_any (R k) _ (k + 1) q 0 0 0 W) hE (⟨true, q, 0, []⟩) (by exact ⟨fun z => (by cases z), hq, Nat.zero_le _, Nat.zero_le _, fun k hk => absurd hk (Nat.not_lt_zero _), fun k hk => absurd hk (Nat.not_lt_zero _)⟩) (fun W => dAdd_any (R k) (k + 1) q 0 0 0 W))
  rw [hE] at HC
  have HM := hide h
  unfold akA at HC
  simp only [show ((0 : Nat) : Int) = 0 from rfl] at HC
  have hfl := fld_0
  generalize ((k + 1 : Nat) : Int) = kk at *
  clear hE hE0 h
  go_enter Tryz.func13, Tryz.ntmps13
  go_wp2_with fail
  refine (changes_any _).mono ?_
  rintro e x1 ⟨rfl, hb1⟩
  have HC1 := hide (unhide HC x1 hb1)
  have HO := hide (Only.of_below (P := fun x => ¬ X x) hb1)
  clear hb1 HC
  simp only [fnV] at HC1 ⊢
  go_wp2_with fail
  refine (unhide HC1).mono ?_
  rintro e x2 ⟨rfl, hc⟩
  have HF := hide (show TChg w0 w b jb pb tb X a cap S L A hn Mw (ups R k ⟨true, q, 0, []⟩) x2 from hc.less (unhide HO) (fun _ q => q) (unhide HM).xt)
  clear hc HC1
  go_wp2
  go_ret
  exact ⟨rfl, unhide HF⟩
set_option maxRecDepth 100000 in
set_option maxHeartbeats 2000000 in
theorem tAdd_no {w0 w : World} {b jb pb tb : Nat} {X : Nat → Prop} {a cap : Nat} {S : PS} {L : List ByteArray} {A : List (Nat × Nat)} {hn : Nat} {Mw Mn : List ByteArray} {R : Nat → Rc} (h : TG w0 w b jb pb tb X a cap S L A hn Mw Mn R) (ho : S.op = true) (k : Nat) (hk : k < 8) (q : Nat) (hq : q ≤ 65535) (hE : wAdd (R k) ((cap : Int) - (qs R 8 : Int)) q ≠ 0) : Calls Tryz.prog 13 #[.pointer (some ⟨tb, 0, none⟩), .int .i64 ((k + 1 : Nat) : Int), .int .i64 (q : Int)] w fun e w' => e = .returned (.int .i64 (wAdd (R k) ((cap : Int) - (qs R 8 : Int)) q)) ∧ TKept w0 w b jb pb tb X a cap S L A hn Mw Mn R w' := by
  obtain ⟨EE, hEE⟩ : ∃ xx, wAdd (R k) ((cap : Int) - (qs R 8 : Int)) q = xx := ⟨_, rfl⟩
  have HC := hide (fun W (hb : Below w.heap.size w W) => show Calls Tryz.prog 44 _ W _ from have G1 := h.below hb; tChg_no G1 ho k hk _ _ ent_wrongToAdd ent_changes_1 q 0 0 0 ⟨by omega, by omega, hq, by omega, by omega⟩ (wAdd (R k) ((cap : Int) - (qs R 8 : Int)) q) (fun W => wAdd_any (R k) _ (k + 1) q 0 0 0 W) hE)
  rw [hEE] at HC ⊢
  have HM := hide h
  unfold akA at HC
  simp only [show ((0 : Nat) : Int) = 0 from rfl] at HC
  have hfl := fld_0
  generalize ((k + 1 : Nat) : Int) = kk at *
  clear hE hEE h
  go_enter Tryz.func13, Tryz.ntmps13
  go_wp2_with fail
  refine (changes_any _).mono ?_
  rintro e x1 ⟨rfl, hb1⟩
  have HC1 := hide (unhide HC x1 hb1)
  have HO := hide (Only.of_below (P := fun x => ¬ X x) hb1)
  clear hb1 HC
  simp only [fnV] at HC1 ⊢
  go_wp2_with fail
  refine (unhide HC1).mono ?_
  rintro e x2 ⟨rfl, hc⟩
  have HF := hide (show TKept w0 w b jb pb tb X a cap S L A hn Mw Mn R x2 from hc.less (unhide HO) (fun _ q => q) (unhide HM).xt)
  clear hc HC1
  go_wp2
  go_ret
  exact ⟨rfl, unhide HF⟩
theorem wChg_ok {r : Rc} {m : Int} (h : wChg r m = 0) : r.th = true ∧ -(r.c : Int) ≤ m ∧ m ≤ (r.q : Int) - (r.c : Int) := by
  unfold wChg at h
  split at h
  · rename_i ht
    refine ⟨ht, ?_⟩
    split at h
    · cases h
    · split at h
      · cases h
      · omega
  · cases h
def chgR (r : Rc) (m : Int) : Rc := ⟨r.th, r.q, ((r.c : Int) + m).toNat, r.v⟩
theorem chgR_ok {r : Rc} {m : Int} (h : wChg r m = 0) (hr : ROk r) : ROk (chgR r m) ∧ (r.c : Int) + m = ((((r.c : Int) + m).toNat : Nat) : Int) ∧ ((r.c : Int) + m).toNat ≤ 65535 := by
  obtain ⟨h1, h2, h3⟩ := wChg_ok h
  have hq := hr.q
  refine ⟨⟨fun q => (by rw [show (chgR r m).th = r.th from rfl, h1] at q; cases q), hr.q, ?_, hr.n, hr.vo, hr.ri⟩, by omega, by omega⟩
  show ((r.c : Int) + m).toNat ≤ r.q
  omega
theorem wAdv_ok {r : Rc} {a : Nat} (h : wAdv r a = 0) (hn : r.v.length ≤ 8) : r.th = true ∧ r.v.length < 8 ∧ ∀ p, p < r.v.length → (r.at p).1 ≠ a := by
  unfold wAdv at h
  split at h
  · rename_i ht
    split at h
    · cases h
    · rename_i hx
      split at h
      · cases h
      · exact ⟨ht, by omega, fun p hp q => hx ⟨p, hp, q⟩⟩
  · cases h
set_option maxRecDepth 100000 in
set_option maxHeartbeats 2000000 in
theorem tCharge_ok {w0 w : World} {b jb pb tb : Nat} {X : Nat → Prop} {a cap : Nat} {S : PS} {L : List ByteArray} {A : List (Nat × Nat)} {hn : Nat} {Mw Mn : List ByteArray} {R : Nat → Rc} (h : TG w0 w b jb pb tb X a cap S L A hn Mw Mn R) (ho : S.op = true) (k : Nat) (hk : k < 8) (m : Int) (hE : wChg (R k) m = 0) : Calls Tryz.prog 14 #[.pointer (some ⟨tb, 0, none⟩), .int .i64 ((k + 1 : Nat) : Int), .int .i64 m] w fun e w' => e = .returned (.int .i64 (0)) ∧ TChg w0 w b jb pb tb X a cap S L A hn Mw (ups R k (chgR (R k) m)) w' := by
  have hE0 := hE
  have HC := hide (fun W (hb : Below w.heap.size w W) => show Calls Tryz.prog 44 _ W _ from have G1 := h.below hb; tChg_ok G1 ho k hk _ _ ent_wrongToCharge ent_charged 0 0 0 m ⟨by omega, by omega, by omega, by omega, by omega⟩ (wChg (R k) m) (fun W => wChg_any (R k) (h.ok k hk) _ (k + 1) 0 0 0 m W) hE ((chgR (R k) m)) (chgR_ok hE (h.ok k hk)).1 (fun W => dChg_any (R k) _ (k + 1) 0 0 0 m W (chgR_ok hE0 (h.ok k hk)).2.1 (chgR_ok hE0 (h.ok k hk)).2.2))
  rw [hE] at HC
  have HM := hide h
  unfold akA at HC
  simp only [show ((0 : Nat) : Int) = 0 from rfl] at HC
  have hfl := fld_4
  generalize ((k + 1 : Nat) : Int) = kk at *
  clear hE hE0 h
  go_enter Tryz.func14, Tryz.ntmps14
  go_wp2_with fail
  refine (changes_any _).mono ?_
  rintro e x1 ⟨rfl, hb1⟩
  have HC1 := hide (unhide HC x1 hb1)
  have HO := hide (Only.of_below (P := fun x => ¬ X x) hb1)
  clear hb1 HC
  simp only [fnV] at HC1 ⊢
  go_wp2_with fail
  refine (unhide HC1).mono ?_
  rintro e x2 ⟨rfl, hc⟩
  have HF := hide (show TChg w0 w b jb pb tb X a cap S L A hn Mw (ups R k (chgR (R k) m)) x2 from hc.less (unhide HO) (fun _ q => q) (unhide HM).xt)
  clear hc HC1
  go_wp2
  go_ret
  exact ⟨rfl, unhide HF⟩
set_option maxRecDepth 100000 in
set_option maxHeartbeats 2000000 in
theorem tCharge_no {w0 w : World} {b jb pb tb : Nat} {X : Nat → Prop} {a cap : Nat} {S : PS} {L : List ByteArray} {A : List (Nat × Nat)} {hn : Nat} {Mw Mn : List ByteArray} {R : Nat → Rc} (h : TG w0 w b jb pb tb X a cap S L A hn Mw Mn R) (ho : S.op = true) (k : Nat) (hk : k < 8) (m : Int) (hE : wChg (R k) m ≠ 0) : Calls Tryz.prog 14 #[.pointer (some ⟨tb, 0, none⟩), .int .i64 ((k + 1 : Nat) : Int), .int .i64 m] w fun e w' => e = .returned (.int .i64 (wChg (R k) m)) ∧ TKept w0 w b jb pb tb X a cap S L A hn Mw Mn R w' := by
  obtain ⟨EE, hEE⟩ : ∃ xx, wChg (R k) m = xx := ⟨_, rfl⟩
  have HC := hide (fun W (hb : Below w.heap.size w W) => show Calls Tryz.prog 44 _ W _ from have G1 := h.below hb; tChg_no G1 ho k hk _ _ ent_wrongToCharge ent_charged 0 0 0 m ⟨by omega, by omega, by omega, by omega, by omega⟩ (wChg (R k) m) (fun W => wChg_any (R k) (h.ok k hk) _ (k + 1) 0 0 0 m W) hE)
  rw [hEE] at HC ⊢
  have HM := hide h
  unfold akA at HC
  simp only [show ((0 : Nat) : Int) = 0 from rfl] at HC
  have hfl := fld_4
  generalize ((k + 1 : Nat) : Int) = kk at *
  clear hE hEE h
  go_enter Tryz.func14, Tryz.ntmps14
  go_wp2_with fail
  refine (changes_any _).mono ?_
  rintro e x1 ⟨rfl, hb1⟩
  have HC1 := hide (unhide HC x1 hb1)
  have HO := hide (Only.of_below (P := fun x => ¬ X x) hb1)
  clear hb1 HC
  simp only [fnV] at HC1 ⊢
  go_wp2_with fail
  refine (unhide HC1).mono ?_
  rintro e x2 ⟨rfl, hc⟩
  have HF := hide (show TKept w0 w b jb pb tb X a cap S L A hn Mw Mn R x2 from hc.less (unhide HO) (fun _ q => q) (unhide HM).xt)
  clear hc HC1
  go_wp2
  go_ret
  exact ⟨rfl, unhide HF⟩
set_option maxRecDepth 100000 in
set_option maxHeartbeats 2000000 in
theorem tAddVol_ok {w0 w : World} {b jb pb tb : Nat} {X : Nat → Prop} {a cap : Nat} {S : PS} {L : List ByteArray} {A : List (Nat × Nat)} {hn : Nat} {Mw Mn : List ByteArray} {R : Nat → Rc} (h : TG w0 w b jb pb tb X a cap S L A hn Mw Mn R) (ho : S.op = true) (k : Nat) (hk : k < 8) (a0 b0 : Nat) (ha0 : a0 ≤ 99) (hb0 : b0 ≤ 1023) (hE : wAdv (R k) a0 = 0) : Calls Tryz.prog 18 #[.pointer (some ⟨tb, 0, none⟩), .int .i64 ((k + 1 : Nat) : Int), .int .i64 (a0 : Int), .int .i64 (b0 : Int)] w fun e w' => e = .returned (.int .i64 (0)) ∧ TChg w0 w b jb pb tb X a cap S L A hn Mw (ups R k ((R k).with a0 b0)) w' := by
  have hE0 := hE
  have HC := hide (fun W (hb : Below w.heap.size w W) => show Calls Tryz.prog 44 _ W _ from have G1 := h.below hb; tChg_ok G1 ho k hk _ _ ent_wrongToAddVolume ent_changes_3 0 a0 b0 0 ⟨by omega, by omega, by omega, ha0, hb0⟩ (wAdv (R k) a0) (fun W => wAdv_any (R k) (h.ok k hk) _ (k + 1) 0 a0 b0 0 W) hE (((R k).with a0 b0)) ((h.ok k hk).with (wAdv_ok hE (h.ok k hk).n).1 (wAdv_ok hE (h.ok k hk).n).2.1 a0 b0 ha0 hb0 (wAdv_ok hE (h.ok k hk).n).2.2) (fun W => dAdv_any (R k) (wAdv_ok hE0 (h.ok k hk).n).2.1 (k + 1) 0 a0 b0 0 W))
  rw [hE] at HC
  have HM := hide h
  unfold akA at HC
  simp only [show ((0 : Nat) : Int) = 0 from rfl] at HC
  have hfl := fld_2
  generalize ((k + 1 : Nat) : Int) = kk at *
  clear hE hE0 h
  go_enter Tryz.func18, Tryz.ntmps18
  go_wp2_with fail
  refine (changes_any _).mono ?_
  rintro e x1 ⟨rfl, hb1⟩
  have HC1 := hide (unhide HC x1 hb1)
  have HO := hide (Only.of_below (P := fun x => ¬ X x) hb1)
  clear hb1 HC
  simp only [fnV] at HC1 ⊢
  go_wp2_with fail
  refine (unhide HC1).mono ?_
  rintro e x2 ⟨rfl, hc⟩
  have HF := hide (show TChg w0 w b jb pb tb X a cap S L A hn Mw (ups R k ((R k).with a0 b0)) x2 from hc.less (unhide HO) (fun _ q => q) (unhide HM).xt)
  clear hc HC1
  go_wp2
  go_ret
  exact ⟨rfl, unhide HF⟩
end Go.Proofs.YtbpcgephicmhhaaGreatDoor
