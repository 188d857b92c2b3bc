import Derived.Test.YtpcmifmgkccfnaaGreatDoorMv32
import Derived.Laws.EntriesVeiled
import Derived.Test.YtpcmifmgkccfnaaGreatDoorMv30
import Derived.Test.YtpcmifmgkccfnaaGreatDoorMv23
namespace Go.Proofs.YtpcmifmgkccfnaaGreatDoor
open Go.RowKit Go.Maps Go.Sort Go.Shelf
set_option maxRecDepth 100000
theorem ent_wrongToAdd (args : Array Value) (W : World) : (callFunc 81 args).run Tryz.prog W = .ok (.enter 81 args) W := by go_simp
theorem ent_changes_1 (args : Array Value) (W : World) : (callFunc 82 args).run Tryz.prog W = .ok (.enter 82 args) W := by go_simp
theorem ent_wrongToAddVolume (args : Array Value) (W : World) : (callFunc 85 args).run Tryz.prog W = .ok (.enter 85 args) W := by go_simp
theorem ent_changes_3 (args : Array Value) (W : World) : (callFunc 86 args).run Tryz.prog W = .ok (.enter 86 args) W := by go_simp
theorem ent_wrongToCharge (args : Array Value) (W : World) : (callFunc 91 args).run Tryz.prog W = .ok (.enter 91 args) W := by go_simp
theorem ent_charged (args : Array Value) (W : World) : (callFunc 92 args).run Tryz.prog W = .ok (.enter 92 args) W := by go_simp
theorem fld_0 (W : World) : (Instr.field 104 (.agg #[.func (.func 81) #[] #[], .func (.func 82) #[] #[], .func (.func 83) #[] #[], .func (.func 84) #[] #[], .func (.func 85) #[] #[], .func (.func 86) #[] #[], .func (.func 88) #[] #[], .func (.func 89) #[] #[], .func (.func 91) #[] #[], .func (.func 92) #[] #[]]) 0).run Tryz.prog W = .ok (.agg #[.func (.func 81) #[] #[], .func (.func 82) #[] #[]]) W := by kernel_rfl
theorem fld_2 (W : World) : (Instr.field 104 (.agg #[.func (.func 81) #[] #[], .func (.func 82) #[] #[], .func (.func 83) #[] #[], .func (.func 84) #[] #[], .func (.func 85) #[] #[], .func (.func 86) #[] #[], .func (.func 88) #[] #[], .func (.func 89) #[] #[], .func (.func 91) #[] #[], .func (.func 92) #[] #[]]) 2).run Tryz.prog W = .ok (.agg #[.func (.func 85) #[] #[], .func (.func 86) #[] #[]]) W := by kernel_rfl
theorem fld_4 (W : World) : (Instr.field 104 (.agg #[.func (.func 81) #[] #[], .func (.func 82) #[] #[], .func (.func 83) #[] #[], .func (.func 84) #[] #[], .func (.func 85) #[] #[], .func (.func 86) #[] #[], .func (.func 88) #[] #[], .func (.func 89) #[] #[], .func (.func 91) #[] #[], .func (.func 92) #[] #[]]) 4).run Tryz.prog W = .ok (.agg #[.func (.func 91) #[] #[], .func (.func 92) #[] #[]]) W := by kernel_rfl
set_option maxRecDepth 100000 in
set_option maxHeartbeats 2000000 in
theorem changes_any (w : World) : Calls Tryz.prog 37 #[] w fun e w' => e = .returned (.agg #[fnV 81, fnV 82, fnV 83, fnV 84, fnV 85, fnV 86, fnV 88, fnV 89, fnV 91, fnV 92]) ∧ Below w.heap.size w w' := by
  obtain ⟨g, hg⟩ : ∃ xx, w.heap.size = xx := ⟨_, rfl⟩
  obtain ⟨x1, hx1⟩ : ∃ xx, w.alloc (.cells #[.nilFunc, .nilFunc, .nilFunc, .nilFunc, .nilFunc, .nilFunc, .nilFunc, .nilFunc, .nilFunc, .nilFunc] 104) = xx := ⟨_, rfl⟩
  have B1 : Blk x1 g #[.nilFunc, .nilFunc, .nilFunc, .nilFunc, .nilFunc, .nilFunc, .nilFunc, .nilFunc, .nilFunc, .nilFunc] 104 := by rw [← hx1, ← hg]; exact Blk.new w _ _
  have hb : Below g w x1 := by rw [← hx1, ← hg]; exact (Below.refl _ w).alloc (Nat.le_refl _) _
  have c0 : x1.cell? ⟨g, 0, none⟩ = some .nilFunc := B1.cell 0
  have f0 := B1.frozen 0
  have c1 : x1.cell? ⟨g, 1, none⟩ = some .nilFunc := B1.cell 1
  have f1 := B1.frozen 1
  have c2 : x1.cell? ⟨g, 2, none⟩ = some .nilFunc := B1.cell 2
  have f2 := B1.frozen 2
  have c3 : x1.cell? ⟨g, 3, none⟩ = some .nilFunc := B1.cell 3
  have f3 := B1.frozen 3
  have c4 : x1.cell? ⟨g, 4, none⟩ = some .nilFunc := B1.cell 4
  have f4 := B1.frozen 4
  have c5 : x1.cell? ⟨g, 5, none⟩ = some .nilFunc := B1.cell 5
  have f5 := B1.frozen 5
  have c6 : x1.cell? ⟨g, 6, none⟩ = some .nilFunc := B1.cell 6
  have f6 := B1.frozen 6
  have c7 : x1.cell? ⟨g, 7, none⟩ = some .nilFunc := B1.cell 7
  have f7 := B1.frozen 7
  have c8 : x1.cell? ⟨g, 8, none⟩ = some .nilFunc := B1.cell 8
  have f8 := B1.frozen 8
  have c9 : x1.cell? ⟨g, 9, none⟩ = some .nilFunc := B1.cell 9
  have f9 := B1.frozen 9
  have B2 := setCells_all B1 [.func (.func 81) #[] #[], .func (.func 82) #[] #[], .func (.func 83) #[] #[], .func (.func 84) #[] #[], .func (.func 85) #[] #[], .func (.func 86) #[] #[], .func (.func 88) #[] #[], .func (.func 89) #[] #[], .func (.func 91) #[] #[], .func (.func 92) #[] #[]] rfl
  have HLD := hide (iload_blk 104 _ B2 Tryz.underlying104 rfl (by kernel_rfl))
  have HB := hide (below_setCells (b := g) (Nat.le_refl _) [.func (.func 81) #[] #[], .func (.func 82) #[] #[], .func (.func 83) #[] #[], .func (.func 84) #[] #[], .func (.func 85) #[] #[], .func (.func 86) #[] #[], .func (.func 88) #[] #[], .func (.func 89) #[] #[], .func (.func 91) #[] #[], .func (.func 92) #[] #[]] 0 hb)
  have hsz : (Tryz.prog.info? 104).map (·.size) = some 10 := by kernel_rfl
  have HSZ := hide hsz
  clear B1 hb B2 hsz
  rw [hg]
  simp only [fnV]
  go_enter Tryz.func37, Tryz.ntmps37
  go_wp2
  exact bodyPost_ret (v := .agg #[.func (.func 81) #[] #[], .func (.func 82) #[] #[], .func (.func 83) #[] #[], .func (.func 84) #[] #[], .func (.func 85) #[] #[], .func (.func 86) #[] #[], .func (.func 88) #[] #[], .func (.func 89) #[] #[], .func (.func 91) #[] #[], .func (.func 92) #[] #[]]) (results_cell rfl _ _ _ ⟨g, 0, none⟩ rfl _ (unhide HLD)) rfl ⟨rfl, unhide HB⟩
set_option maxRecDepth 100000 in
set_option maxHeartbeats 2000000 in
theorem tAdd_ok {w0 w : World} {b jb pb tb : Nat} {X : Nat → Prop} {a cap : Nat} {S : PS} {L : List ByteArray} {A : List (Nat × Nat)} {hn : Nat} {Mw Mn : List ByteArray} {R : Nat → Rc} (h : TG w0 w b jb pb tb X a cap S L A hn Mw Mn R) (ho : S.op = true) (k : Nat) (hk : k < 8) (q : Nat) (hq : q ≤ 65535) (hE : wAdd (R k) ((cap : Int) - (qs R 8 : Int)) q = 0) : Calls Tryz.prog 14 #[.pointer (some ⟨tb, 0, none⟩), .int .i64 ((k + 1 : Nat) : Int), .int .i64 (q : Int)] w fun e w' => e = .returned (.int .i64 (0)) ∧ TChg w0 w b jb pb tb X a cap S L A hn Mw (ups R k ⟨true, q, 0, []⟩) w' := by
  have hE0 := hE
  have HC := hide (fun W (hb : Below w.heap.size w W) => show Calls Tryz.prog 36 _ W _ from have G1 := h.below hb; tChg_ok G1 ho k hk _ _ ent_wrongToAdd ent_changes_1 q 0 0 0 ⟨by omega, by omega, hq, by omega, by omega⟩ (wAdd (R k) ((cap : Int) - (qs R 8 : Int)) q) (fun W => wAdd_any (R k) _ (k + 1) q 0 0 0 W) hE (⟨true, q, 0, []⟩) (by exact ⟨fun z => (by cases z), hq, Nat.zero_le _, Nat.zero_le _, fun k hk => absurd hk (Nat.not_lt_zero _), fun k hk => absurd hk (Nat.not_lt_zero _)⟩) (fun W => dAdd_any (R k) (k + 1) q 0 0 0 W))
  rw [hE] at HC
  have HM := hide h
  unfold akA at HC
  simp only [show ((0 : Nat) : Int) = 0 from rfl] at HC
  have hfl := fld_0
  generalize ((k + 1 : Nat) : Int) = kk at *
  clear hE hE0 h
  go_enter Tryz.func14, Tryz.ntmps14
  go_wp2_with fail
  refine (changes_any _).mono ?_
  rintro e x1 ⟨rfl, hb1⟩
  have HC1 := hide (unhide HC x1 hb1)
  have HO := hide (Only.of_below (P := fun x => ¬ X x) hb1)
  clear hb1 HC
  simp only [fnV] at HC1 ⊢
  go_wp2_with fail
  refine (unhide HC1).mono ?_
  rintro e x2 ⟨rfl, hc⟩
  have HF := hide (show TChg w0 w b jb pb tb X a cap S L A hn Mw (ups R k ⟨true, q, 0, []⟩) x2 from hc.less (unhide HO) (fun _ q => q) (unhide HM).xt)
  clear hc HC1
  go_wp2
  go_ret
  exact ⟨rfl, unhide HF⟩
set_option maxRecDepth 100000 in
set_option maxHeartbeats 2000000 in
theorem tAdd_no {w0 w : World} {b jb pb tb : Nat} {X : Nat → Prop} {a cap : Nat} {S : PS} {L : List ByteArray} {A : List (Nat × Nat)} {hn : Nat} {Mw Mn : List ByteArray} {R : Nat → Rc} (h : TG w0 w b jb pb tb X a cap S L A hn Mw Mn R) (ho : S.op = true) (k : Nat) (hk : k < 8) (q : Nat) (hq : q ≤ 65535) (hE : wAdd (R k) ((cap : Int) - (qs R 8 : Int)) q ≠ 0) : Calls Tryz.prog 14 #[.pointer (some ⟨tb, 0, none⟩), .int .i64 ((k + 1 : Nat) : Int), .int .i64 (q : Int)] w fun e w' => e = .returned (.int .i64 (wAdd (R k) ((cap : Int) - (qs R 8 : Int)) q)) ∧ TKept w0 w b jb pb tb X a cap S L A hn Mw Mn R w' := by
  obtain ⟨EE, hEE⟩ : ∃ xx, wAdd (R k) ((cap : Int) - (qs R 8 : Int)) q = xx := ⟨_, rfl⟩
  have HC := hide (fun W (hb : Below w.heap.size w W) => show Calls Tryz.prog 36 _ W _ from have G1 := h.below hb; tChg_no G1 ho k hk _ _ ent_wrongToAdd ent_changes_1 q 0 0 0 ⟨by omega, by omega, hq, by omega, by omega⟩ (wAdd (R k) ((cap : Int) - (qs R 8 : Int)) q) (fun W => wAdd_any (R k) _ (k + 1) q 0 0 0 W) hE)
  rw [hEE] at HC ⊢
  have HM := hide h
  unfold akA at HC
  simp only [show ((0 : Nat) : Int) = 0 from rfl] at HC
  have hfl := fld_0
  generalize ((k + 1 : Nat) : Int) = kk at *
  clear hE hEE h
  go_enter Tryz.func14, Tryz.ntmps14
  go_wp2_with fail
  refine (changes_any _).mono ?_
  rintro e x1 ⟨rfl, hb1⟩
  have HC1 := hide (unhide HC x1 hb1)
  have HO := hide (Only.of_below (P := fun x => ¬ X x) hb1)
  clear hb1 HC
  simp only [fnV] at HC1 ⊢
  go_wp2_with fail
  refine (unhide HC1).mono ?_
  rintro e x2 ⟨rfl, hc⟩
  have HF := hide (show TKept w0 w b jb pb tb X a cap S L A hn Mw Mn R x2 from hc.less (unhide HO) (fun _ q => q) (unhide HM).xt)
  clear hc HC1
  go_wp2
  go_ret
  exact ⟨rfl, unhide HF⟩
theorem wChg_ok {r : Rc} {m : Int} (h : wChg r m = 0) : r.th = true ∧ -(r.c : Int) ≤ m ∧ m ≤ (r.q : Int) - (r.c : Int) := by
  unfold wChg at h
  split at h
  · rename_i ht
    refine ⟨ht, ?_⟩
    split at h
    · cases h
    · split at h
      · cases h
      · omega
  · cases h
def chgR (r : Rc) (m : Int) : Rc := ⟨r.th, r.q, ((r.c : Int) + m).toNat, r.v⟩
theorem chgR_ok {r : Rc} {m : Int} (h : wChg r m = 0) (hr : ROk r) : ROk (chgR r m) ∧ (r.c : Int) + m = ((((r.c : Int) + m).toNat : Nat) : Int) ∧ ((r.c : Int) + m).toNat ≤ 65535 := by
  obtain ⟨h1, h2, h3⟩ := wChg_ok h
  have hq := hr.q
  refine ⟨⟨fun q => (by rw [show (chgR r m).th = r.th from rfl, h1] at q; cases q), hr.q, ?_, hr.n, hr.vo, hr.ri⟩, by omega, by omega⟩
  show ((r.c : Int) + m).toNat ≤ r.q
  omega
theorem wAdv_ok {r : Rc} {a : Nat} (h : wAdv r a = 0) (hn : r.v.length ≤ 8) : r.th = true ∧ r.v.length < 8 ∧ ∀ p, p < r.v.length → (r.at p).1 ≠ a := by
  unfold wAdv at h
  split at h
  · rename_i ht
    split at h
    · cases h
    · rename_i hx
      split at h
      · cases h
      · exact ⟨ht, by omega, fun p hp q => hx ⟨p, hp, q⟩⟩
  · cases h
set_option maxRecDepth 100000 in
set_option maxHeartbeats 2000000 in
theorem tCharge_ok {w0 w : World} {b jb pb tb : Nat} {X : Nat → Prop} {a cap : Nat} {S : PS} {L : List ByteArray} {A : List (Nat × Nat)} {hn : Nat} {Mw Mn : List ByteArray} {R : Nat → Rc} (h : TG w0 w b jb pb tb X a cap S L A hn Mw Mn R) (ho : S.op = true) (k : Nat) (hk : k < 8) (m : Int) (hE : wChg (R k) m = 0) : Calls Tryz.prog 15 #[.pointer (some ⟨tb, 0, none⟩), .int .i64 ((k + 1 : Nat) : Int), .int .i64 m] w fun e w' => e = .returned (.int .i64 (0)) ∧ TChg w0 w b jb pb tb X a cap S L A hn Mw (ups R k (chgR (R k) m)) w' := by
  have hE0 := hE
  have HC := hide (fun W (hb : Below w.heap.size w W) => show Calls Tryz.prog 36 _ W _ from have G1 := h.below hb; tChg_ok G1 ho k hk _ _ ent_wrongToCharge ent_charged 0 0 0 m ⟨by omega, by omega, by omega, by omega, by omega⟩ (wChg (R k) m) (fun W => wChg_any (R k) (h.ok k hk) _ (k + 1) 0 0 0 m W) hE ((chgR (R k) m)) (chgR_ok hE (h.ok k hk)).1 (fun W => dChg_any (R k) _ (k + 1) 0 0 0 m W (chgR_ok hE0 (h.ok k hk)).2.1 (chgR_ok hE0 (h.ok k hk)).2.2))
  rw [hE] at HC
  have HM := hide h
  unfold akA at HC
  simp only [show ((0 : Nat) : Int) = 0 from rfl] at HC
  have hfl := fld_4
  generalize ((k + 1 : Nat) : Int) = kk at *
  clear hE hE0 h
  go_enter Tryz.func15, Tryz.ntmps15
  go_wp2_with fail
  refine (changes_any _).mono ?_
  rintro e x1 ⟨rfl, hb1⟩
  have HC1 := hide (unhide HC x1 hb1)
  have HO := hide (Only.of_below (P := fun x => ¬ X x) hb1)
  clear hb1 HC
  simp only [fnV] at HC1 ⊢
  go_wp2_with fail
  refine (unhide HC1).mono ?_
  rintro e x2 ⟨rfl, hc⟩
  have HF := hide (show TChg w0 w b jb pb tb X a cap S L A hn Mw (ups R k (chgR (R k) m)) x2 from hc.less (unhide HO) (fun _ q => q) (unhide HM).xt)
  clear hc HC1
  go_wp2
  go_ret
  exact ⟨rfl, unhide HF⟩
set_option maxRecDepth 100000 in
set_option maxHeartbeats 2000000 in
theorem tAddVol_ok {w0 w : World} {b jb pb tb : Nat} {X : Nat → Prop} {a cap : Nat} {S : PS} {L : List ByteArray} {A : List (Nat × Nat)} {hn : Nat} {Mw Mn : List ByteArray} {R : Nat → Rc} (h : TG w0 w b jb pb tb X a cap S L A hn Mw Mn R) (ho : S.op = true) (k : Nat) (hk : k < 8) (a0 b0 : Nat) (ha0 : a0 ≤ 99) (hb0 : b0 ≤ 1023) (hE : wAdv (R k) a0 = 0) : Calls Tryz.prog 16 #[.pointer (some ⟨tb, 0, none⟩), .int .i64 ((k + 1 : Nat) : Int), .int .i64 (a0 : Int), .int .i64 (b0 : Int)] w fun e w' => e = .returned (.int .i64 (0)) ∧ TChg w0 w b jb pb tb X a cap S L A hn Mw (ups R k ((R k).with a0 b0)) w' := by
  have hE0 := hE
  have HC := hide (fun W (hb : Below w.heap.size w W) => show Calls Tryz.prog 36 _ W _ from have G1 := h.below hb; tChg_ok G1 ho k hk _ _ ent_wrongToAddVolume ent_changes_3 0 a0 b0 0 ⟨by omega, by omega, by omega, ha0, hb0⟩ (wAdv (R k) a0) (fun W => wAdv_any (R k) (h.ok k hk) _ (k + 1) 0 a0 b0 0 W) hE (((R k).with a0 b0)) ((h.ok k hk).with (wAdv_ok hE (h.ok k hk).n).1 (wAdv_ok hE (h.ok k hk).n).2.1 a0 b0 ha0 hb0 (wAdv_ok hE (h.ok k hk).n).2.2) (fun W => dAdv_any (R k) (wAdv_ok hE0 (h.ok k hk).n).2.1 (k + 1) 0 a0 b0 0 W))
  rw [hE] at HC
  have HM := hide h
  unfold akA at HC
  simp only [show ((0 : Nat) : Int) = 0 from rfl] at HC
  have hfl := fld_2
  generalize ((k + 1 : Nat) : Int) = kk at *
  clear hE hE0 h
  go_enter Tryz.func16, Tryz.ntmps16
  go_wp2_with fail
  refine (changes_any _).mono ?_
  rintro e x1 ⟨rfl, hb1⟩
  have HC1 := hide (unhide HC x1 hb1)
  have HO := hide (Only.of_below (P := fun x => ¬ X x) hb1)
  clear hb1 HC
  simp only [fnV] at HC1 ⊢
  go_wp2_with fail
  refine (unhide HC1).mono ?_
  rintro e x2 ⟨rfl, hc⟩
  have HF := hide (show TChg w0 w b jb pb tb X a cap S L A hn Mw (ups R k ((R k).with a0 b0)) x2 from hc.less (unhide HO) (fun _ q => q) (unhide HM).xt)
  clear hc HC1
  go_wp2
  go_ret
  exact ⟨rfl, unhide HF⟩
end Go.Proofs.YtpcmifmgkccfnaaGreatDoor

namespace Go.Proofs.YtpcmifmgkccfnaaGreatDoor
open Go.RowKit Go.Maps Go.Sort Go.Shelf
set_option maxRecDepth 100000
theorem infoV : (Tryz.prog.info? 54).map (fun i => (i.zero, i.size, i.bytes)) = some (some (.agg #[.int .i64 0, .int .i64 0]), 2, 16) := by kernel_rfl
/-- The cells of a record's volumes. -/
def vls (r : Rc) : List Value := (vC r.at).take (r.v.length * 2)
theorem vls_len (r : Rc) (h : r.v.length ≤ 8) : (vls r).length = r.v.length * 2 := by
  unfold vls
  rw [List.length_take, show (vC r.at).length = 16 from rfl]
  omega
set_option maxRecDepth 100000 in
set_option maxHeartbeats 2000000 in
theorem list_any (r : Rc) (h : r.v.length ≤ 8) (w : World) : Calls Tryz.prog 44 #[.agg (rV r).toArray] w fun e w' => ∃ v, e = .returned v ∧ w'.ownsRow w.heap.size 54 2 v r.v.length (vls r) ∧ Below w.heap.size w w' := by
  obtain ⟨g, hg⟩ : ∃ xx, w.heap.size = xx := ⟨_, rfl⟩
  have HRG := hide (fun W (q : Blk W g (rV r).toArray 88) => vC_range q)
  have h3 : (rV r).toArray[3]? = some (.int .i64 (r.v.length : Int)) := rfl
  have HVL := hide (vls_len r h)
  have HVS := hide (show vls r = (vC r.at).take (r.v.length * 2) from rfl)
  have HV1 := hide (show ∀ u ∈ vls r, u.oneCell' = true from fun u hu => by
    have hu' : u ∈ vC r.at := List.mem_of_mem_take hu
    simp only [vC, List.mem_cons, List.not_mem_nil, or_false] at hu'
    rcases hu' with rfl | rfl | rfl | rfl | rfl | rfl | rfl | rfl | rfl | rfl | rfl | rfl | rfl | rfl | rfl | rfl <;> rfl)
  generalize vls r = vs at *
  generalize (rV r).toArray = xs at *
  generalize r.v.length = n at *
  obtain ⟨x2, hx2⟩ : ∃ xx, w.alloc (.cells xs 88) = xx := ⟨_, rfl⟩
  have B : Blk x2 g xs 88 := by rw [← hx2, ← hg]; exact Blk.new w _ _
  have hb : Below g w x2 := by rw [← hx2, ← hg]; exact (Below.refl _ w).alloc (Nat.le_refl _) _
  have c3 : x2.cell? ⟨g, 3, none⟩ = some (.int .i64 (n : Int)) := by rw [B.cell]; exact h3
  have HN := hide (show ∀ j u, vs[j]? = some u → x2.cell? (Addr.add ⟨g, 4, none⟩ j) = some u from fun j u hu => by
    have := unhide HRG x2 B j u (by
      rw [unhide HVS, List.getElem?_take] at hu
      split at hu
      · exact hu
      · cases hu)
    cases j with
    | zero => simpa [Addr.add] using this
    | succ j => simpa [Addr.add] using this)
  have HB := hide (And.intro hb B.lt)
  have hn0 : (0 : Int) ≤ (n : Int) := by omega
  have hn8 : (n : Int) ≤ 8 := by omega
  obtain ⟨i0, hi0, hz0, hz1, hz2⟩ := info_parts infoV
  have HI := hide (And.intro hi0 (And.intro hz0 (And.intro hz1 hz2)))
  clear hi0 hz0 hz1 hz2 B hb h3
  rw [hg]
  go_enter Tryz.func44, Tryz.ntmps44
  go_wp2_with (refine wpList_append_own _ rfl (.tmp 4) (.tmp 8) 48 rfl g 54 i0 (.agg #[.int .i64 0, .int .i64 0]) 2 16 Tryz.underlying48 (unhide HI).1 (unhide HI).2.1 (unhide HI).2.2.1 (unhide HI).2.2.2 rfl (by decide) (.slice none 0 0) 0 [] rfl (World.ownsRow_nil _ _ _ _) ⟨g, 4, none⟩ n 8 vs rfl (unhide HVL) (unhide HN) (unhide HV1) (by unfold maxLen; omega) (by omega) (Nat.le_of_lt (unhide HB).2) ?_)
  intro v' x3 ho hgr _
  have HF := hide (show x3.ownsRow g 54 2 v' n vs from by simpa using ho)
  have HB3 := hide (show Below g w x3 from (unhide HB).1.grown hgr (Nat.le_of_lt (unhide HB).2) (fun q hq => by cases hq))
  clear ho hgr
  go_wp2
  go_ret
  exact ⟨v', rfl, unhide HF, unhide HB3⟩
set_option maxRecDepth 100000 in
set_option maxHeartbeats 2000000 in
theorem tFind_ok {w0 w : World} {b jb pb tb : Nat} {X : Nat → Prop} {a cap : Nat} {S : PS} {L : List ByteArray} {A : List (Nat × Nat)} {hn : Nat} {Mw Mn : List ByteArray} {R : Nat → Rc} (h : TG w0 w b jb pb tb X a cap S L A hn Mw Mn R) (k : Nat) (hk : k < 8) (hth : (R k).th = true) : Calls Tryz.prog 43 #[.pointer (some ⟨tb, 0, none⟩), .agg #[.int .i64 ((k + 1 : Nat) : Int), .int .i64 0, .int .i64 0, .int .i64 0, .int .i64 0]] w fun e w' => e = .returned (.tuple #[.agg (rV (R k)).toArray, .int .i64 0]) ∧ TKept w0 w b jb pb tb X a cap S L A hn Mw Mn R w' := by
  obtain ⟨g, hg⟩ : ∃ xx, w.heap.size = xx := ⟨_, rfl⟩
  have HRT := hide (fun W => isRight_ok (k + 1) 0 0 0 0 ⟨by omega, by omega, by omega, by omega, by omega⟩ W)
  have HOF := hide (fun W => rOf_any R k hk W)
  have hzl := lC_len R
  have hzo := lC_one R
  have hyl := rV_len (R k)
  have hyo := rV_one (R k)
  have hy0 : (rV (R k)).toArray[0]? = some (.bool true) := by rw [← hth]; rfl
  obtain ⟨kk, hkk⟩ : ∃ xx, ((k + 1 : Nat) : Int) = xx := ⟨_, rfl⟩
  obtain ⟨zs, hzs⟩ : ∃ xx, lC R = xx := ⟨_, rfl⟩
  obtain ⟨ys, hys⟩ : ∃ xx, rV (R k) = xx := ⟨_, rfl⟩
  have HRQ := hide (fun W (G : TG w0 W b jb pb tb (fun x => (fun x => X x ∨ x = g) x ∨ x = g + 1) a cap S L A hn Mw Mn R) => tRead_any G)
  unfold akA at HRT
  simp only [show ((0 : Nat) : Int) = 0 from rfl] at HRT
  rw [hkk] at HRT HOF ⊢
  rw [hzs] at HOF hzl hzo HRQ
  rw [hys] at HOF hyl hyo hy0 ⊢
  obtain ⟨x1, hx1⟩ : ∃ xx, w.alloc (.cells #[.int .i64 kk, .int .i64 0, .int .i64 0, .int .i64 0, .int .i64 0] 107) = xx := ⟨_, rfl⟩
  have hg1 : x1.heap.size = g + 1 := by rw [← hx1, ← hg]; simp
  obtain ⟨x2, hx2⟩ : ∃ xx, x1.alloc (.cells #[.bool false, .int .i64 0, .int .i64 0, .int .i64 0, .int .i64 0, .int .i64 0, .int .i64 0, .int .i64 0, .int .i64 0, .int .i64 0, .int .i64 0, .int .i64 0, .int .i64 0, .int .i64 0, .int .i64 0, .int .i64 0, .int .i64 0, .int .i64 0, .int .i64 0, .int .i64 0] 88) = xx := ⟨_, rfl⟩
  have G1 := h.add _ hx1 hg
  have G2 := G1.add _ hx2 hg1
  obtain ⟨n1, n2, n3⟩ := h.new hg
  obtain ⟨m1, m2, m3⟩ := G1.new hg1
  have B1 : Blk x2 g #[.int .i64 kk, .int .i64 0, .int .i64 0, .int .i64 0, .int .i64 0] 107 := by rw [← hx2, ← hx1, ← hg]; exact (Blk.new w _ _).alloc _
  have B2 : Blk x2 (g + 1) #[.bool false, .int .i64 0, .int .i64 0, .int .i64 0, .int .i64 0, .int .i64 0, .int .i64 0, .int .i64 0, .int .i64 0, .int .i64 0, .int .i64 0, .int .i64 0, .int .i64 0, .int .i64 0, .int .i64 0, .int .i64 0, .int .i64 0, .int .i64 0, .int .i64 0, .int .i64 0] 88 := by rw [← hx2, ← hg1]; exact Blk.new x1 _ _
  have hO2 : Only (fun x => ¬ X x) w x2 := by rw [← hx2, ← hx1]; exact ((Only.refl _ w).alloc _).alloc _
  have k0 : x2.cell? ⟨g, 0, none⟩ = some (.int .i64 kk) := B1.cell 0
  have k1 : x2.cell? ⟨g, 1, none⟩ = some (.int .i64 0) := B1.cell 1
  have k2 : x2.cell? ⟨g, 2, none⟩ = some (.int .i64 0) := B1.cell 2
  have k3 : x2.cell? ⟨g, 3, none⟩ = some (.int .i64 0) := B1.cell 3
  have k4 : x2.cell? ⟨g, 4, none⟩ = some (.int .i64 0) := B1.cell 4
  have X2 := hide (And.intro G2 (And.intro B1 (And.intro B2 hO2)))
  have HXT := hide (And.intro h.xt (And.intro m2 (And.intro m3 (show ¬ X (g + 1) from fun q => m1 (.inl q)))))
  clear G1 G2 B1 B2 hO2 h hkk hzs hth n1 n2 n3 m1 m2 m3 
  have HYQ := hide hys
  clear hys
  go_enter Tryz.func43, Tryz.ntmps43
  go_wp2_with fail
  clear hx1 hx2 hg1
  refine (unhide HRT _).mono ?_
  rintro e x3 ⟨rfl, hb3⟩
  obtain ⟨G2, B1, B2, hO2⟩ := unhide X2
  have HRD := hide (unhide HRQ _ (G2.below hb3))
  have X4 := hide (And.intro (B1.below hb3 B1.lt) (And.intro (B2.below hb3 B2.lt) (hO2.trans (Only.of_below (P := fun x => ¬ X x) hb3) (fun _ _ q => q))))
  clear G2 B1 B2 hO2 hb3 X2 k0 k1 k2 k3 k4 HRT HRQ
  go_wp2_with fail
  refine (unhide HRD).mono ?_
  rintro e x5 ⟨rfl, S5, G5, ho5, hT5, hO5⟩
  obtain ⟨B1, B2, hO4⟩ := unhide X4
  have B15 := B1.only hO5 (fun q => q (.inl (.inr rfl)))
  have B25 := B2.only hO5 (fun q => q (.inr rfl))
  have hO45 : Only (fun x => ¬ X x) w x5 := hO4.trans hO5 (fun x _ q r => q (.inl (.inl r)))
  obtain ⟨h7, hh7⟩ : ∃ xx, x5.heap.size = xx := ⟨_, rfl⟩
  obtain ⟨x6, hx6⟩ : ∃ xx, x5.alloc (.cells Tryz.zeroCells90 90) = xx := ⟨_, rfl⟩
  have BZ6 : Blk x6 h7 Tryz.zeroCells90 90 := by rw [← hx6, ← hh7]; exact Blk.new x5 _ _
  have hzz : (Tryz.zeroCells90).size = 160 := by rw [← lC_zero]; simp [lC_len]
  have TH6 := hide (blk_there BZ6 zs.toArray.size (by rw [hzz]; simp [hzl]))
  have B7 := setCells_all BZ6 zs (by rw [hzz, hzl])
  have hb6 : Below x5.heap.size x5 x6 := by rw [← hx6]; exact (Below.refl _ x5).alloc (Nat.le_refl _) _
  have hb7 : Below x5.heap.size x5 (x6.setCells h7 0 zs) := below_setCells (by omega) zs 0 hb6
  obtain ⟨x7, hx7⟩ : ∃ xx, x6.setCells h7 0 zs = xx := ⟨_, rfl⟩
  rw [hx7] at B7 hb7
  have R7 := hide (blk_range B7)
  have HZL := hide hzl
  have HZO := hide hzo
  have B17 := B15.below hb7 B15.lt
  have k0 : x7.cell? ⟨g, 0, none⟩ = some (.int .i64 kk) := B17.cell 0
  have X7 := hide (And.intro (G5.below hb7) (And.intro ho5 (And.intro hT5 (And.intro (hO45.trans (Only.of_below (P := fun x => ¬ X x) hb7) (fun _ _ q => q)) (B25.below hb7 B25.lt)))))
  clear B1 B2 hO4 B15 B25 hO45 BZ6 hzz B7 hb6 hb7 hzl hzo B17 G5 ho5 hT5 hO5 X4 HRD
  go_wp2_with (first | refine wpList_store_mid rfl 90 (.tmp 6) (.tmp 16) rfl h7 0 zs.toArray rfl rfl (unhide TH6) (by rw [sizeRol]; simp [unhide HZL]) (unhide HZO) ?_ | refine wpList_load_mid rfl 90 (.tmp 6) rfl h7 0 rfl _ _ (unhide R7) Tryz.underlying90 rfl (by rw [sizeRol, unhide HZL]) ?_)
  clear hx6 hx7 hh7 TH6 R7 k0 HZO
  refine (unhide HOF _).mono ?_
  rintro e x8 ⟨rfl, hb8⟩
  obtain ⟨G7, ho7, hT7, hO7, B27⟩ := unhide X7
  have G8 := G7.below hb8
  have B28 := B27.below hb8 B27.lt
  have hO8 := hO7.trans (Only.of_below (P := fun x => ¬ X x) hb8) (fun _ _ q => q)
  obtain ⟨h9, hh9⟩ : ∃ xx, x8.heap.size = xx := ⟨_, rfl⟩
  obtain ⟨x9, hx9⟩ : ∃ xx, x8.alloc (.cells #[.bool false, .int .i64 0, .int .i64 0, .int .i64 0, .int .i64 0, .int .i64 0, .int .i64 0, .int .i64 0, .int .i64 0, .int .i64 0, .int .i64 0, .int .i64 0, .int .i64 0, .int .i64 0, .int .i64 0, .int .i64 0, .int .i64 0, .int .i64 0, .int .i64 0, .int .i64 0] 88) = xx := ⟨_, rfl⟩
  have BZ9 : Blk x9 h9 #[.bool false, .int .i64 0, .int .i64 0, .int .i64 0, .int .i64 0, .int .i64 0, .int .i64 0, .int .i64 0, .int .i64 0, .int .i64 0, .int .i64 0, .int .i64 0, .int .i64 0, .int .i64 0, .int .i64 0, .int .i64 0, .int .i64 0, .int .i64 0, .int .i64 0, .int .i64 0] 88 := by rw [← hx9, ← hh9]; exact Blk.new x8 _ _
  have TH9 := hide (blk_there BZ9 ys.toArray.size (by simp [hyl]))
  have B10 := setCells_all BZ9 ys (by simp [hyl])
  have hb9 : Below x8.heap.size x8 x9 := by rw [← hx9]; exact (Below.refl _ x8).alloc (Nat.le_refl _) _
  have hb10 : Below x8.heap.size x8 (x9.setCells h9 0 ys) := below_setCells (by omega) ys 0 hb9
  obtain ⟨x10, hx10⟩ : ∃ xx, x9.setCells h9 0 ys = xx := ⟨_, rfl⟩
  rw [hx10] at B10 hb10
  have c0 : x10.cell? ⟨h9, 0, none⟩ = some (.bool true) := by rw [B10.cell]; exact hy0
  have R10 := hide (blk_range B10)
  have B210 := B28.below hb10 B28.lt
  have G10 := G8.below hb10
  obtain ⟨us, hus⟩ : ∃ xx, xx = ys := ⟨_, rfl⟩
  have hul : us.length = 20 := by rw [hus]; exact hyl
  have huo : us.toArray.all (·.oneCell') = true := by rw [hus]; exact hyo
  have HUQ := hide hus
  have HUZ := hide (show us.toArray = ys.toArray by rw [hus])
  clear hus
  have TH := hide (blk_there B210 us.toArray.size (by simp [hul]))
  have B11 := setCells_all B210 us (by simp [hul])
  have HLD := hide (iload_blk 88 _ B11 Tryz.underlying88 rfl (by rw [sizeRec]; simp [hul]))
  have HF := hide (show TKept w0 w b jb pb tb X a cap S L A hn Mw Mn R (x10.setCells (g + 1) 0 us) from ⟨S5, (G10.poke (.inr rfl) (unhide HXT).2.1 (unhide HXT).2.2.1 (only_cells (g + 1) 0 us rfl)).less (fun x q => .inl (.inl q)) (unhide HXT).1, ho7, hT7, (hO8.trans (Only.of_below (P := fun x => ¬ X x) hb10) (fun _ _ q => q)).trans (only_cells (P := fun x => ¬ X x) (g + 1) 0 us (unhide HXT).2.2.2) (fun _ _ q => q)⟩)
  have HYL := hide hyl
  have HYO := hide hyo
  have HUL := hide hul
  have HUO := hide huo
  clear G7 ho7 hT7 hO7 B27 G8 B28 hO8 BZ9 B10 hb9 hb10 hyl hyo hul huo hb8 X7 HOF B210 G10 B11 hy0
  go_wp2_with (first | refine wpList_store_mid rfl 88 (.tmp 8) (.tmp 25) rfl h9 0 ys.toArray rfl rfl (unhide TH9) (by rw [sizeRec]; simp [unhide HYL]) (unhide HYO) ?_ | refine wpList_load_mid rfl 88 (.tmp 8) rfl h9 0 rfl _ _ (unhide R10) Tryz.underlying88 rfl (by rw [sizeRec, unhide HYL]) ?_ | refine wpList_store_mid rfl 88 (.tmp 4) (.tmp 30) rfl (g + 1) 0 us.toArray rfl (by rw [unhide HUZ]; rfl) (unhide TH) (by rw [sizeRec]; simp [unhide HUL]) (unhide HUO) ?_)
  exact bodyPost_ret (v := .tuple #[.agg us.toArray, .int .i64 0]) (results_cell2 (p := 4) (q := 5) (ty := 88) rfl _ _ _ ⟨g + 1, 0, none⟩ rfl _ (unhide HLD)) rfl ⟨by rw [unhide HUQ], unhide HF⟩
set_option maxRecDepth 100000 in
set_option maxHeartbeats 2000000 in
theorem tGet_ok {w0 w : World} {b jb pb tb : Nat} {X : Nat → Prop} {a cap : Nat} {S : PS} {L : List ByteArray} {A : List (Nat × Nat)} {hn : Nat} {Mw Mn : List ByteArray} {R : Nat → Rc} (h : TG w0 w b jb pb tb X a cap S L A hn Mw Mn R) (k : Nat) (hk : k < 8) (hth : (R k).th = true) : Calls Tryz.prog 18 #[.pointer (some ⟨tb, 0, none⟩), .int .i64 ((k + 1 : Nat) : Int)] w fun e w' => ∃ v, e = .returned (.tuple #[.agg #[.int .i64 ((k + 1 : Nat) : Int), .int .i64 ((R k).q : Int), .int .i64 ((R k).c : Int), v], .int .i64 0]) ∧ w'.ownsRow w.heap.size 54 2 v (R k).v.length (vls (R k)) ∧ TKept w0 w b jb pb tb X a cap S L A hn Mw Mn R w' := by
  obtain ⟨g, hg⟩ : ∃ xx, w.heap.size = xx := ⟨_, rfl⟩
  obtain ⟨x1, hx1⟩ : ∃ xx, w.alloc (.cells #[.int .i64 0, .int .i64 0, .int .i64 0, .slice none 0 0] 50) = xx := ⟨_, rfl⟩
  have G1 := h.add _ hx1 hg
  obtain ⟨n1, n2, n3⟩ := h.new hg
  have B1 : Blk x1 g #[.int .i64 0, .int .i64 0, .int .i64 0, .slice none 0 0] 50 := by rw [← hx1, ← hg]; exact Blk.new w _ _
  have hO1 : Only (fun x => ¬ X x) w x1 := by rw [← hx1]; exact (Only.refl _ w).alloc _
  have HFD := hide (tFind_ok G1 k hk hth)
  have HLS := hide (fun W => list_any (R k) (h.ok k hk).n W)
  have hyl := rV_len (R k)
  have hyo := rV_one (R k)
  have hy1 : (rV (R k)).toArray[1]? = some (.int .i64 ((R k).q : Int)) := rfl
  have hy2 : (rV (R k)).toArray[2]? = some (.int .i64 ((R k).c : Int)) := rfl
  generalize rV (R k) = ys at *
  generalize (R k).q = q at *
  generalize (R k).c = c at *
  generalize ((k + 1 : Nat) : Int) = kk at *
  have X1 := hide (And.intro B1 (And.intro hO1 (And.intro n1 (And.intro n2 (And.intro n3 h.xt)))))
  clear G1 n1 n2 n3 B1 hO1 h hth
  go_enter Tryz.func18, Tryz.ntmps18
  go_wp2_with fail
  clear hx1
  refine (unhide HFD).mono ?_
  rintro e x2 ⟨rfl, S2, G2, ho2, hT2, hO2⟩
  obtain ⟨B1, hO1, n1, n2, n3, hxt⟩ := unhide X1
  have B2 := B1.only hO2 (fun q => q (.inr rfl))
  have hO12 : Only (fun x => ¬ X x) w x2 := hO1.trans hO2 (fun x _ q r => q (.inl r))
  obtain ⟨h6, hh6⟩ : ∃ xx, x2.heap.size = xx := ⟨_, rfl⟩
  obtain ⟨x3, hx3⟩ : ∃ xx, x2.alloc (.cells #[.bool false, .int .i64 0, .int .i64 0, .int .i64 0, .int .i64 0, .int .i64 0, .int .i64 0, .int .i64 0, .int .i64 0, .int .i64 0, .int .i64 0, .int .i64 0, .int .i64 0, .int .i64 0, .int .i64 0, .int .i64 0, .int .i64 0, .int .i64 0, .int .i64 0, .int .i64 0] 88) = xx := ⟨_, rfl⟩
  have BZ3 : Blk x3 h6 #[.bool false, .int .i64 0, .int .i64 0, .int .i64 0, .int .i64 0, .int .i64 0, .int .i64 0, .int .i64 0, .int .i64 0, .int .i64 0, .int .i64 0, .int .i64 0, .int .i64 0, .int .i64 0, .int .i64 0, .int .i64 0, .int .i64 0, .int .i64 0, .int .i64 0, .int .i64 0] 88 := by rw [← hx3, ← hh6]; exact Blk.new x2 _ _
  have TH3 := hide (blk_there BZ3 ys.toArray.size (by simp [hyl]))
  have B4 := setCells_all BZ3 ys (by simp [hyl])
  have hb3 : Below x2.heap.size x2 x3 := by rw [← hx3]; exact (Below.refl _ x2).alloc (Nat.le_refl _) _
  have hb4 : Below x2.heap.size x2 (x3.setCells h6 0 ys) := below_setCells (by omega) ys 0 hb3
  obtain ⟨x4, hx4⟩ : ∃ xx, x3.setCells h6 0 ys = xx := ⟨_, rfl⟩
  rw [hx4] at B4 hb4
  have hwg : w.heap.size ≤ x4.heap.size := by have := hb4.size; have := hO12.size; omega
  have HST := hide (show ∀ W, Below x4.heap.size x4 W → Blk W h6 ys.toArray 88 ∧ Blk W g #[.int .i64 0, .int .i64 0, .int .i64 0, .slice none 0 0] 50 ∧ TG w0 W b jb pb tb (fun x => X x ∨ x = g) a cap S2 L A hn Mw Mn R ∧ Only (fun x => ¬ X x) w W from fun W hW => by
    have hB : Below x2.heap.size x2 W := hb4.trans (hW.mono hb4.size)
    exact ⟨B4.below hW B4.lt, B2.below hB B2.lt, G2.below hB, hO12.trans (Only.of_below (P := fun x => ¬ X x) hB) (fun _ _ q => q)⟩)
  have hgh : g < h6 := by rw [← hh6]; exact B2.lt
  have HS0 := hide (unhide HST x4 (Below.refl _ _)).1
  have HY := hide (And.intro hy1 hy2)
  have HN := hide (And.intro n1 (And.intro n2 (And.intro n3 (And.intro hxt (And.intro ho2 (And.intro hT2 (And.intro hwg (And.intro (B2.below hb4 B2.lt).lt hgh))))))))
  have HYL := hide hyl
  have HYO := hide hyo
  clear B1 hO1 n1 n2 n3 hxt B2 hO12 BZ3 B4 hb3 hb4 G2 ho2 hT2 hO2 X1 HFD hyl hyo hy1 hy2 hwg hgh
  go_wp2_with (refine wpList_store_mid rfl 88 (.tmp 6) (.tmp 13) rfl h6 0 ys.toArray rfl rfl (unhide TH3) (by rw [sizeRec]; simp [unhide HYL]) (unhide HYO) ?_)
  clear hx3 hx4 hh6 TH3 HYO
  refine wp_region_held_drew (S := fun w' => Blk w' h6 ys.toArray 88) (by kernel_rfl) (unhide HS0) ?_
  intro hS
  refine wpAnyH_takeD 0 (some 19) (.int .i64 kk) rfl rfl (by kernel_rfl) (by kernel_rfl) (by kernel_rfl) (fun _ _ _ h => h) (Or.inl ⟨by rfl, fun w hSw => by have a1 : w.cell? ⟨h6, 1, none⟩ = some (.int .i64 (q : Int)) := (Blk.cell hSw 1).trans (unhide HY).1; have a2 : w.cell? ⟨h6, 2, none⟩ = some (.int .i64 (c : Int)) := (Blk.cell hSw 2).trans (unhide HY).2; clear hSw; go_simp⟩) hS ?_
  simp only [Act.put, List.setIfInBounds_toArray, List.set_cons_zero, List.set_cons_succ]
  refine wpAnyH_takeD 1 (some 20) (.pointer (some ⟨h6, 1, none⟩)) rfl rfl (by kernel_rfl) (by kernel_rfl) (by kernel_rfl) (fun _ _ _ h => h) (Or.inl ⟨by rfl, fun w hSw => by have a1 : w.cell? ⟨h6, 1, none⟩ = some (.int .i64 (q : Int)) := (Blk.cell hSw 1).trans (unhide HY).1; have a2 : w.cell? ⟨h6, 2, none⟩ = some (.int .i64 (c : Int)) := (Blk.cell hSw 2).trans (unhide HY).2; clear hSw; go_simp⟩) hS ?_
  simp only [Act.put, List.setIfInBounds_toArray, List.set_cons_zero, List.set_cons_succ]
  refine wpAnyH_takeD 2 (some 21) (.int .i64 (q : Int)) rfl rfl (by kernel_rfl) (by kernel_rfl) (by kernel_rfl) (fun _ _ _ h => h) (Or.inl ⟨by rfl, fun w hSw => by have a1 : w.cell? ⟨h6, 1, none⟩ = some (.int .i64 (q : Int)) := (Blk.cell hSw 1).trans (unhide HY).1; have a2 : w.cell? ⟨h6, 2, none⟩ = some (.int .i64 (c : Int)) := (Blk.cell hSw 2).trans (unhide HY).2; clear hSw; go_simp⟩) hS ?_
  simp only [Act.put, List.setIfInBounds_toArray, List.set_cons_zero, List.set_cons_succ]
  refine wpAnyH_takeD 3 (some 22) (.pointer (some ⟨h6, 2, none⟩)) rfl rfl (by kernel_rfl) (by kernel_rfl) (by kernel_rfl) (fun _ _ _ h => h) (Or.inl ⟨by rfl, fun w hSw => by have a1 : w.cell? ⟨h6, 1, none⟩ = some (.int .i64 (q : Int)) := (Blk.cell hSw 1).trans (unhide HY).1; have a2 : w.cell? ⟨h6, 2, none⟩ = some (.int .i64 (c : Int)) := (Blk.cell hSw 2).trans (unhide HY).2; clear hSw; go_simp⟩) hS ?_
  simp only [Act.put, List.setIfInBounds_toArray, List.set_cons_zero, List.set_cons_succ]
  refine wpAnyH_takeD 4 (some 23) (.int .i64 (c : Int)) rfl rfl (by kernel_rfl) (by kernel_rfl) (by kernel_rfl) (fun _ _ _ h => h) (Or.inl ⟨by rfl, fun w hSw => by have a1 : w.cell? ⟨h6, 1, none⟩ = some (.int .i64 (q : Int)) := (Blk.cell hSw 1).trans (unhide HY).1; have a2 : w.cell? ⟨h6, 2, none⟩ = some (.int .i64 (c : Int)) := (Blk.cell hSw 2).trans (unhide HY).2; clear hSw; go_simp⟩) hS ?_
  simp only [Act.put, List.setIfInBounds_toArray, List.set_cons_zero, List.set_cons_succ]
  refine wpAnyH_takeD 5 (some 24) (.agg ys.toArray) rfl rfl (by kernel_rfl) (by kernel_rfl) (by kernel_rfl) (fun _ _ _ h => h) (yieldsIf_load_mid (by rfl) 88 (.tmp 6) rfl h6 0 rfl _ _ (fun w hSw => blk_range hSw) Tryz.underlying88 rfl (by rw [sizeRec, unhide HYL])) hS ?_
  simp only [Act.put, List.setIfInBounds_toArray, List.set_cons_zero, List.set_cons_succ]
  refine wpAnyH_ready (rs := [6]) (by kernel_rfl) (by simp) ?_
  refine AllReadyH.cons rfl (fun K hK => ?_) AllReadyH.nil
  simp only [List.getElem_toArray, List.getElem_cons_succ, List.getElem_cons_zero]
  go_simp
  refine (unhide HLS _).mono ?_
  rintro e x6 ⟨v, rfl, how, hb6⟩
  obtain ⟨p, cp, hv, -⟩ := row_form how
  subst hv
  generalize hnn : (R k).v.length = nn at *
  have hbl : Below x4.heap.size x4 x6 := ((Below.refl _ x4).drew).trans hb6
  obtain ⟨s1, s2, s3, s4⟩ := unhide HST x6 hbl
  have HS6 := hide s1
  have p0 : x6.cell? ⟨g, 0, none⟩ = some (.int .i64 0) := s2.cell 0
  have p1 : x6.cell? ⟨g, 1, none⟩ = some (.int .i64 0) := s2.cell 1
  have p2 : x6.cell? ⟨g, 2, none⟩ = some (.int .i64 0) := s2.cell 2
  have p3 : x6.cell? ⟨g, 3, none⟩ = some (.slice none 0 0) := s2.cell 3
  have q0 := s2.frozen 0
  have q1 := s2.frozen 1
  have q2 := s2.frozen 2
  have q3 := s2.frozen 3
  have BF := (((s2.set 0 (.int .i64 kk)).set 1 (.int .i64 (q : Int))).set 2 (.int .i64 (c : Int))).set 3 (.slice p nn cp)
  have HLD := hide (iload_blk 50 _ BF Tryz.underlying50 rfl (by kernel_rfl))
  have OF : Only (fun x => x = g) x6 ((((x6.setCell ⟨g, 0, none⟩ (.int .i64 kk)).setCell ⟨g, 1, none⟩ (.int .i64 (q : Int))).setCell ⟨g, 2, none⟩ (.int .i64 (c : Int))).setCell ⟨g, 3, none⟩ (.slice p nn cp)) := ((((Only.refl (fun x => x = g) x6).setCell ⟨g, 0, none⟩ (.int .i64 kk) (fun _ => rfl)).setCell ⟨g, 1, none⟩ (.int .i64 (q : Int)) (fun _ => rfl)).setCell ⟨g, 2, none⟩ (.int .i64 (c : Int)) (fun _ => rfl)).setCell ⟨g, 3, none⟩ (.slice p nn cp) (fun _ => rfl)
  obtain ⟨m1, m2, m3, m4, m5, m6, m7, m8, m9⟩ := unhide HN
  have HFI := hide (show ((((x6.setCell ⟨g, 0, none⟩ (.int .i64 kk)).setCell ⟨g, 1, none⟩ (.int .i64 (q : Int))).setCell ⟨g, 2, none⟩ (.int .i64 (c : Int))).setCell ⟨g, 3, none⟩ (.slice p nn cp)).ownsRow w.heap.size 54 2 (.slice p nn cp) nn (vls (R k)) ∧ TKept w0 w b jb pb tb X a cap S L A hn Mw Mn R ((((x6.setCell ⟨g, 0, none⟩ (.int .i64 kk)).setCell ⟨g, 1, none⟩ (.int .i64 (q : Int))).setCell ⟨g, 2, none⟩ (.int .i64 (c : Int))).setCell ⟨g, 3, none⟩ (.slice p nn cp)) from ⟨owns_only (owns_base how m7) OF (fun z hz e => by have := (how.lt z hz).1; rw [e] at this; exact Nat.not_lt.2 this m8), S2, (s3.poke (.inr rfl) m2 m3 OF).less (fun x z => .inl z) m4, m5, m6, s4.trans OF (fun x _ z => by rw [z]; exact m1)⟩)
  have HNN := hide hnn
  have HS7 := hide (show Blk ((((x6.setCell ⟨g, 0, none⟩ (.int .i64 kk)).setCell ⟨g, 1, none⟩ (.int .i64 (q : Int))).setCell ⟨g, 2, none⟩ (.int .i64 (c : Int))).setCell ⟨g, 3, none⟩ (.slice p nn cp)) h6 ys.toArray 88 from s1.only OF (fun z => by omega))
  clear how hb6 hbl s1 s2 s3 s4 BF OF m1 m2 m3 m4 m5 m6 m7 m8 m9 hnn
  refine hK.out _ _ (unhide HS6) (fun hS => ?_)
  clear hK K
  refine wpAnyH_takeD 7 (some 26) (.agg #[.int .i64 kk, .int .i64 (q : Int), .int .i64 (c : Int), .slice p nn cp]) rfl rfl (by kernel_rfl) (by kernel_rfl) (by kernel_rfl) (fun _ _ _ h => h) (Or.inl ⟨by rfl, fun w hSw => by have a1 : w.cell? ⟨h6, 1, none⟩ = some (.int .i64 (q : Int)) := (Blk.cell hSw 1).trans (unhide HY).1; have a2 : w.cell? ⟨h6, 2, none⟩ = some (.int .i64 (c : Int)) := (Blk.cell hSw 2).trans (unhide HY).2; clear hSw; go_simp⟩) hS ?_
  simp only [Act.put, List.setIfInBounds_toArray, List.set_cons_zero, List.set_cons_succ]
  refine wpAnyH_ready (rs := [8]) (by kernel_rfl) (by simp) ?_
  refine AllReadyH.cons rfl (fun K hK => ?_) AllReadyH.nil
  simp only [List.getElem_toArray, List.getElem_cons_succ, List.getElem_cons_zero]
  go_simp
  refine hK.out _ _ (unhide HS7) (fun hS => ?_)
  clear hK K
  refine wpAnyH_takeD 9 (some 5) (.int .i64 0) rfl rfl (by kernel_rfl) (by kernel_rfl) (by kernel_rfl) (fun _ _ _ h => h) (Or.inl ⟨by rfl, fun w hSw => by have a1 : w.cell? ⟨h6, 1, none⟩ = some (.int .i64 (q : Int)) := (Blk.cell hSw 1).trans (unhide HY).1; have a2 : w.cell? ⟨h6, 2, none⟩ = some (.int .i64 (c : Int)) := (Blk.cell hSw 2).trans (unhide HY).2; clear hSw; go_simp⟩) hS ?_
  simp only [Act.put, List.setIfInBounds_toArray, List.set_cons_zero, List.set_cons_succ]
  refine wpAnyH_done (by kernel_rfl) ?_ _
  clear hS HS0
  go_wp2
  exact bodyPost_ret (v := .tuple #[.agg #[.int .i64 kk, .int .i64 (q : Int), .int .i64 (c : Int), .slice p nn cp], .int .i64 0]) (results_cell2 (p := 4) (q := 5) (ty := 50) rfl _ _ _ ⟨g, 0, none⟩ rfl _ (unhide HLD)) rfl ⟨.slice p nn cp, rfl, by rw [unhide HNN]; exact (unhide HFI).1, (unhide HFI).2⟩
end Go.Proofs.YtpcmifmgkccfnaaGreatDoor

namespace Go.Proofs.YtpcmifmgkccfnaaGreatDoor
open Go.RowKit Go.Maps Go.Sort Go.Shelf
theorem DF.less {w0 w : World} {b : Nat} {s : DSt} {X Y : Nat → Prop} (h : DF w0 w b s X) (hy : ∀ x, Y x → X x) : DF w0 w b s Y := by
  obtain ⟨v, h1, h2, h3, h4⟩ := h
  exact ⟨v, h1, h2, h3, fun x hx => h4 x (hy x hx)⟩
end Go.Proofs.YtpcmifmgkccfnaaGreatDoor
