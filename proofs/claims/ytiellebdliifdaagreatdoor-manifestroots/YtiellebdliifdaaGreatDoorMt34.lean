import Derived.Test.YtiellebdliifdaaGreatDoorMt33
import Derived.Test.YtiellebdliifdaaGreatDoorMt18
namespace Go.Proofs.YtiellebdliifdaaGreatDoor
open Go.RowKit Go.Maps Go.Sort Go.Shelf
theorem tdiv_i64 (z d : Int) (hz : I64 z) (hd : 0 < d) : I64 (z.tdiv d) := by
 obtain ⟨a1, a2⟩ := hz
 rcases Int.lt_or_le z 0 with r | r
 ·have e : z.tdiv d = -((-z).tdiv d) := by rw [Int.neg_tdiv, Int.neg_neg]
  rw [e, Int.tdiv_eq_ediv_of_nonneg (by omega)]
  have h1 := Int.ediv_nonneg (a := -z) (b := d) (by omega) (by omega)
  have h2 := Int.ediv_le_self d (a := -z) (by omega)
  constructor <;> omega
 ·rw [Int.tdiv_eq_ediv_of_nonneg r]
  have h1 := Int.ediv_nonneg (a := z) (b := d) r (by omega)
  have h2 := Int.ediv_le_self d r
  constructor <;> omega
def mC (nv : Nat) (M : Nat → Nat → Ent) : Array Value := ((List.range (nv * 120)).map (fun i => Value.string (if i % 2 = 0 then vtD (M (i / 120) (i % 120 / 2)) else vtW (M (i / 120) (i % 120 / 2))))).toArray
theorem mC_get (nv : Nat) (M : Nat → Nat → Ent) (i : Nat) (hi : i < nv * 120) : (mC nv M)[i]? = some (Value.string (if i % 2 = 0 then vtD (M (i / 120) (i % 120 / 2)) else vtW (M (i / 120) (i % 120 / 2)))) := by
 simp [mC, List.getElem?_range hi]
theorem mC_out (nv : Nat) (M : Nat → Nat → Ent) (i : Nat) (hi : ¬ i < nv * 120) : (mC nv M)[i]? = none := by
 simp [mC]; omega
theorem mC_d (nv : Nat) (M : Nat → Nat → Ent) (k b : Nat) (hk : k < nv) (hb : b < 60) : (mC nv M)[k * 120 + b * 2]? = some (.string (vtD (M k b))) := by
 rw [mC_get nv M _ (by omega), if_pos (by omega), show (k * 120 + b * 2) / 120 = k by omega, show (k * 120 + b * 2) % 120 / 2 = b by omega]
theorem mC_w (nv : Nat) (M : Nat → Nat → Ent) (k b : Nat) (hk : k < nv) (hb : b < 60) : (mC nv M)[k * 120 + b * 2 + 1]? = some (.string (vtW (M k b))) := by
 rw [mC_get nv M _ (by omega), if_neg (by omega), show (k * 120 + b * 2 + 1) / 120 = k by omega, show (k * 120 + b * 2 + 1) % 120 / 2 = b by omega]
def mup (M : Nat → Nat → Ent) (k b : Nat) (e : Ent) : Nat → Nat → Ent := fun k' b' => if k' = k ∧ b' = b then e else M k' b'
theorem mC_put (nv : Nat) (M : Nat → Nat → Ent) (k b : Nat) (hk : k < nv) (hb : b < 60) (e : Ent) : ((mC nv M).setIfInBounds (k * 120 + b * 2) (.string (vtD e))).setIfInBounds (k * 120 + b * 2 + 1) (.string (vtW e)) = mC nv (mup M k b e) := by
 have hs : (mC nv M).size = nv * 120 := by simp [mC]
 apply Array.ext_getElem?
 intro i
 rw [Array.getElem?_setIfInBounds, Array.getElem?_setIfInBounds, Array.size_setIfInBounds, hs]
 by_cases hi : i < nv * 120
 ·rw [mC_get nv (mup M k b e) i hi, mC_get nv M i hi]
  by_cases h1 : k * 120 + b * 2 + 1 = i
  ·rw [if_pos h1, if_pos (by omega), if_neg (by omega), mup, if_pos (by omega)]
  ·rw [if_neg h1]
   by_cases h2 : k * 120 + b * 2 = i
   ·rw [if_pos h2, if_pos (by omega), if_pos (by omega), mup, if_pos (by omega)]
   ·have h3 : ¬ (i / 120 = k ∧ i % 120 / 2 = b) := by omega
    rw [if_neg h2]
    simp only [mup, if_neg h3]
 ·rw [mC_out nv M i hi, mC_out nv (mup M k b e) i hi]
  by_cases h1 : k * 120 + b * 2 + 1 = i
  ·omega
  ·rw [if_neg h1, if_neg (by omega)]
theorem only_cell {P : Nat → Prop} {w w' : World} (ho : Only P w w') {g o : Nat} {v : Value} (hc : w.cell? ⟨g, o, none⟩ = some v) (hp : ¬ P g) : w'.cell? ⟨g, o, none⟩ = some v :=
 (World.cell?_of_block (a := ⟨g, o, none⟩) (ho.2 g (World.block_lt_of_cell? w _ hc) hp)).trans hc
def Tel (M : Nat → Nat → Ent) (V : Nat → Vol) (ro nv : Nat) : Prop := (∀ j, j < nv → ∀ i, i < 60 → M j i = (V (ro + j)).e i) ∧ ∀ j, j < ro → ∀ i, i < 60 → (V j).e i = none
theorem mup_put {M : Nat → Nat → Ent} {V V' : Nat → Vol} {ro nv kk bb : Nat} {e : Ent} (h : Tel M V ro nv) (hp : Put V V' (ro + kk) bb e) : Tel (mup M kk bb e) V' ro nv := by
 refine ⟨fun j hj i hi => ?_, fun j hj i hi => ?_⟩
 ·rw [hp.2 (ro + j) i, mup]
  by_cases q : j = kk ∧ i = bb
  ·rw [if_pos q, if_pos ⟨by omega, q.2⟩]
  ·rw [if_neg q, if_neg (fun r => q ⟨by omega, r.2⟩)]
   exact h.1 j hj i hi
 ·rw [hp.2 j i, if_neg (fun r => by omega)]
  exact h.2 j hj i hi
def TMm (w : World) (Z : Nat → Prop) (gr ro nv gm : Nat) (M : Nat → Nat → Ent) (wr : World) : Prop :=
 Blk wr gm (mC nv M) 60 ∧ (∀ j, j < nv → wr.cell? ⟨gr, ro + j, none⟩ = some (.int .i64 ((ro + j : Nat) : Int))) ∧ Only (fun x => ¬ Z x ∨ x = gm) w wr
theorem TMm.only {w : World} {Z : Nat → Prop} {gr ro nv gm : Nat} {M : Nat → Nat → Ent} {wr w' : World} (h : TMm w Z gr ro nv gm M wr) (ho : Only (fun x => ¬ Z x) wr w') (h1 : Z gm) (h2 : Z gr) : TMm w Z gr ro nv gm M w' :=
 ⟨h.1.only ho (fun q => q h1), fun j hj => only_cell ho (h.2.1 j hj) (fun q => q h2), h.2.2.trans ho (fun _ _ q => .inl q)⟩
theorem TMm.below {w : World} {Z : Nat → Prop} {gr ro nv gm : Nat} {M : Nat → Nat → Ent} {wr w' : World} (h : TMm w Z gr ro nv gm M wr) (hb : Below wr.heap.size wr w') : TMm w Z gr ro nv gm M w' :=
 ⟨h.1.below hb h.1.lt, fun j hj => only_cell (Only.of_below (P := fun _ => False) hb) (h.2.1 j hj) (fun q => q), h.2.2.trans (Only.of_below (P := fun x => ¬ Z x ∨ x = gm) hb) (fun _ _ q => q)⟩
theorem TMm.put {w : World} {Z : Nat → Prop} {gr ro nv gm : Nat} {M : Nat → Nat → Ent} {wr : World} (h : TMm w Z gr ro nv gm M wr) (kk bb : Nat) (e : Ent) (hk : kk < nv) (hb : bb < 60) (hg : gm ≠ gr) : TMm w Z gr ro nv gm (mup M kk bb e) ((wr.setCell ⟨gm, kk * 120 + bb * 2, none⟩ (.string (vtD e))).setCell ⟨gm, kk * 120 + bb * 2 + 1, none⟩ (.string (vtW e))) ∧ Only (fun x => x = gm) wr ((wr.setCell ⟨gm, kk * 120 + bb * 2, none⟩ (.string (vtD e))).setCell ⟨gm, kk * 120 + bb * 2 + 1, none⟩ (.string (vtW e))) := by
 have hO := ((Only.refl (fun x => x = gm) wr).setCell ⟨gm, kk * 120 + bb * 2, none⟩ (.string (vtD e)) (fun _ => rfl)).setCell ⟨gm, kk * 120 + bb * 2 + 1, none⟩ (.string (vtW e)) (fun _ => rfl)
 refine ⟨⟨?_, fun j hj => only_cell hO (h.2.1 j hj) (fun q => hg q.symm), h.2.2.trans hO (fun _ _ q => .inr q)⟩, hO⟩
 rw [← mC_put nv M kk bb hk hb e]
 exact (h.1.set _ _).set _ _
def TD (w0 w : World) (b jb pb mb sb gb : Nat) (Z : Nat → Prop) (n kp m gr ro nv gm a0 k : Nat) (wr : World) : Prop :=
 ∃ L A hn V T M, A.length ≤ a0 + 38 * k ∧ VSt w0 wr b jb pb mb sb gb Z n kp 0 false L A hn m V T m V T ∧ (∀ j, j < m → (V j).r = j) ∧ Tel M V ro nv ∧ TMm w Z gr ro nv gm M wr
set_option maxRecDepth 100000 in
set_option maxHeartbeats 2000000 in
theorem tended_any {w0 w : World} {b jb pb mb sb gb : Nat} {Z : Nat → Prop} {n kp m gr ro nv gm a0 : Nat} (h : TD w0 w b jb pb mb sb gb Z n kp m gr ro nv gm a0 0 w) (hzm : Z gm) (hzr : Z gr) (hmr : gm ≠ gr) (hlo : w0.heap.size ≤ gm) (hm1 : gm ≠ mb) (hm2 : gm ≠ sb) (hm3 : gm ≠ gb) (hn : 21 * m < n) (hnv : 0 < nv) (hrm : ro + nv ≤ m) (ha0 : a0 ≤ 900000) {pa : Option Addr} {l : List Int} {na ca cr cm : Nat} (hl : na = l.length) (hI : Ints w0 pa l) (hw : ∀ i, I64 (l.getD i 0)) :
  Calls Tryz.prog 7 #[.pointer (some ⟨gb, 0, none⟩), .slice (some ⟨gr, ro, none⟩) nv cr, .slice (some ⟨gm, 0, none⟩) nv cm, .slice pa na ca] w fun e w' => e = .returned (.bool true) ∧ TD w0 w b jb pb mb sb gb Z n kp m gr ro nv gm a0 60 w' := by
 have X0 := hide h
 have HL := hide (And.intro hl (And.intro hI hw))
 have HXX := hide (show Z gm ∧ Z gr ∧ gm ≠ gr ∧ w0.heap.size ≤ gm ∧ gm ≠ mb ∧ gm ≠ sb ∧ gm ≠ gb ∧ 21 * m < n from ⟨hzm, hzr, hmr, hlo, hm1, hm2, hm3, hn⟩)
 clear h hl hI hw hzm hzr hmr hlo hm1 hm2 hm3 hn
 go_enter Tryz.func7, Tryz.ntmps7
 go_wp2
 go_loopw [9] (fun i wr => ∃ k : Nat, k ≤ 60 ∧ k ≤ na ∧ i = .int .i64 (k : Int) ∧ TD w0 w b jb pb mb sb gb Z n kp m gr ro nv gm a0 k wr) (fun i _ => 60 - (intOf i).toNat)
 case atStart => exact ⟨0, by omega, by omega, rfl, unhide X0⟩
 case round =>
  obtain ⟨k, hk60, hkna, rfl, hTD⟩ := hrel
  obtain ⟨wo, rfl⟩ : ∃ wo, wo = wr := ⟨_, rfl⟩
  clear X0
  by_cases hkn : k < na ∧ k < 60
  ·have hkn' : (k : Int) < (na : Int) := by omega
   have hdk : decide ((k : Int) < (na : Int)) = true := decide_eq_true hkn'
   have hdk2 : decide ((k : Int) < 60) = true := decide_eq_true (by omega)
   have hk0 : (0 : Int) ≤ (k : Int) := by omega
   obtain ⟨L, A, hn, V, T, M, hA, hS, hr, hM, hTM⟩ := hTD
   obtain ⟨hm, hl, hw⟩ := unhide HL
   obtain ⟨g, oo, rfl, hgl, cg⟩ := hl k (by omega)
   have cg0 : wo.cell? ⟨g, oo + k, none⟩ = some (.int .i64 (l.getD k 0)) := by rw [hS.bel.cell hgl]; exact cg
   have hzz := hw k
   generalize l.getD k 0 = z at *
   have hz7 := tdiv_i64 z 7 hzz (by decide)
   have hz5 := tdiv_i64 z 500 hzz (by decide)
   obtain ⟨z7, hz7e⟩ : ∃ q, z.tdiv 7 = q := ⟨_, rfl⟩
   obtain ⟨z5, hz5e⟩ : ∃ q, z.tdiv 500 = q := ⟨_, rfl⟩
   have hw7 : IntKind.i64.wrap (z.tdiv 7) = z7 := (wrapI_eq _ hz7.1 hz7.2).trans hz7e
   have hw5 : IntKind.i64.wrap (z.tdiv 500) = z5 := (wrapI_eq _ hz5.1 hz5.2).trans hz5e
   rw [hz7e] at hz7
   rw [hz5e] at hz5
   have HP1 := hide (fun W => pick10_any z nv hnv hzz (nv : Int) rfl W)
   have HP2 := hide (fun W => pick10_any z7 60 (by decide) hz7 60 rfl W)
   have HP3 := hide (fun W => pick10_any z5 2 (by decide) hz5 2 rfl W)
   have HEN := hide (fun W => entry_any z hzz W)
   have HDS := hide (And.intro (eD_size z) (eW_size z))
   generalize eD z = ed at *
   generalize eW z = ew at *
   have hkk := pickP_lt z nv hnv
   have hbb := pickP_lt z7 60 (by decide)
   have hp2 := pickP_lt z5 2 (by decide)
   generalize pickP z nv = kk at *
   generalize pickP z7 60 = bb at *
   generalize pickP z5 2 = pp at *
   have HBE := hide hS.begin
   obtain ⟨c0, c1, c2, c3⟩ := hS.c
   have HGA := hide (And.intro hgl cg)
   have HST := hide (And.intro hA (And.intro hr (And.intro hM hTM)))
   have hEO := (hS.vs.elim (fun _ q => q.eo (ro + kk) (by omega) bb hbb))
   rw [← hM.1 kk hkk bb hbb] at hEO
   have hkk' : (kk : Int) < (nv : Int) := by omega
   have hbb' : (bb : Int) < 60 := by omega
   have hkk0 : (0 : Int) ≤ (kk : Int) := by omega
   have hbb0 : (0 : Int) ≤ (bb : Int) := by omega
   clear hS hr hM hTM hm hl hw cg hA c0 c2 c3 hz7 hz5 hz7e hz5e hzz hgl
   go_wp2_with fail
   refine (unhide HP1 _).mono ?_
   rintro e w' ⟨rfl, hw'⟩
   subst w'
   go_wp2_with fail
   refine (unhide HP2 _).mono ?_
   rintro e w' ⟨rfl, hw'⟩
   subst w'
   go_wp2_with fail
   refine (unhide HBE).mono ?_
   rintro e y1 ⟨rfl, hS1, O1⟩
   obtain ⟨c0, c1, c2, c3⟩ := hS1.c
   have hT1 := (unhide HST).2.2.2.only O1 (unhide HXX).1 (unhide HXX).2.1
   have cg1 : y1.cell? ⟨g, oo + k, none⟩ = some (.int .i64 z) := by rw [hS1.bel.cell (unhide HGA).1]; exact (unhide HGA).2
   have cr1 := hT1.2.1 kk hkk
   have md := hT1.1.cell (kk * 120 + bb * 2)
   rw [mC_d nv M kk bb hkk hbb] at md
   have X1 := hide (And.intro (hS1.below ((Below.refl _ y1).drew)) (hT1.below ((Below.refl _ y1).drew)))
   have HS1 := hide (And.intro c3 (And.intro cr1 cg1))
   have mw := hT1.1.cell (kk * 120 + bb * 2 + 1)
   rw [mC_w nv M kk bb hkk hbb] at mw
   have MW := hide mw
   clear hS1 hT1 O1 HBE c0 c1 c2 c3 mw cr1
   have HME := hide ((unhide HST).2.2.1.1 kk hkk bb hbb)
   obtain ⟨ee, hee⟩ : ∃ q, M kk bb = q := ⟨_, rfl⟩
   rw [hee] at md hEO MW HME
   have HEE := hide hee
   clear hee
   cases ee with
   | none =>
    rw [show vtD none = ⟨#[]⟩ from rfl] at md
    clear hEO
    go_wp2_with fail
    refine wp_region_held_drew (S := fun w' => w'.cell? ⟨gb, 3, none⟩ = some (.pointer (some ⟨sb, 0, none⟩)) ∧ w'.cell? ⟨gr, ro + kk, none⟩ = some (.int .i64 ((ro + kk : Nat) : Int)) ∧ w'.cell? ⟨g, oo + k, none⟩ = some (.int .i64 z)) (by kernel_rfl) (unhide HS1) ?_
    intro hS
    generalize y1.drew = y1d at *
    refine wpAnyH_takeD 0 (some 83) (.pointer (some ⟨gb, 0, none⟩)) rfl rfl (by kernel_rfl) (by kernel_rfl) (by kernel_rfl) (fun _ _ _ h => h) (Or.inl ⟨by rfl, fun w hSw => by obtain ⟨q1, q2, q3⟩ := hSw; go_simp⟩) hS ?_
    simp only [Act.put, List.setIfInBounds_toArray, List.set_cons_zero, List.set_cons_succ]
    refine wpAnyH_takeD 1 (some 84) (.pointer (some ⟨gb, 0, none⟩)) rfl rfl (by kernel_rfl) (by kernel_rfl) (by kernel_rfl) (fun _ _ _ h => h) (Or.inl ⟨by rfl, fun w hSw => by obtain ⟨q1, q2, q3⟩ := hSw; go_simp⟩) hS ?_
    simp only [Act.put, List.setIfInBounds_toArray, List.set_cons_zero, List.set_cons_succ]
    refine wpAnyH_takeD 2 (some 85) (.pointer (some ⟨gb, 3, none⟩)) rfl rfl (by kernel_rfl) (by kernel_rfl) (by kernel_rfl) (fun _ _ _ h => h) (Or.inl ⟨by rfl, fun w hSw => by obtain ⟨q1, q2, q3⟩ := hSw; go_simp⟩) hS ?_
    simp only [Act.put, List.setIfInBounds_toArray, List.set_cons_zero, List.set_cons_succ]
    refine wpAnyH_takeD 3 (some 86) (.pointer (some ⟨sb, 0, none⟩)) rfl rfl (by kernel_rfl) (by kernel_rfl) (by kernel_rfl) (fun _ _ _ h => h) (Or.inl ⟨by rfl, fun w hSw => by obtain ⟨q1, q2, q3⟩ := hSw; go_simp⟩) hS ?_
    simp only [Act.put, List.setIfInBounds_toArray, List.set_cons_zero, List.set_cons_succ]
    refine wpAnyH_takeD 4 (some 87) (.slice (some ⟨gr, ro, none⟩) nv cr) rfl rfl (by kernel_rfl) (by kernel_rfl) (by kernel_rfl) (fun _ _ _ h => h) (Or.inl ⟨by rfl, fun w hSw => by obtain ⟨q1, q2, q3⟩ := hSw; go_simp⟩) hS ?_
    simp only [Act.put, List.setIfInBounds_toArray, List.set_cons_zero, List.set_cons_succ]
    refine wpAnyH_takeD 5 (some 88) (.int .i64 (kk : Int)) rfl rfl (by kernel_rfl) (by kernel_rfl) (by kernel_rfl) (fun _ _ _ h => h) (Or.inl ⟨by rfl, fun w hSw => by obtain ⟨q1, q2, q3⟩ := hSw; go_simp⟩) hS ?_
    simp only [Act.put, List.setIfInBounds_toArray, List.set_cons_zero, List.set_cons_succ]
    refine wpAnyH_takeD 6 (some 89) (.pointer (some ⟨gr, ro + kk, none⟩)) rfl rfl (by kernel_rfl) (by kernel_rfl) (by kernel_rfl) (fun _ _ _ h => h) (Or.inl ⟨by rfl, fun w hSw => by obtain ⟨q1, q2, q3⟩ := hSw; go_simp⟩) hS ?_
    simp only [Act.put, List.setIfInBounds_toArray, List.set_cons_zero, List.set_cons_succ]
    refine wpAnyH_takeD 7 (some 90) (.int .i64 ((ro + kk : Nat) : Int)) rfl rfl (by kernel_rfl) (by kernel_rfl) (by kernel_rfl) (fun _ _ _ h => h) (Or.inl ⟨by rfl, fun w hSw => by obtain ⟨q1, q2, q3⟩ := hSw; go_simp⟩) hS ?_
    simp only [Act.put, List.setIfInBounds_toArray, List.set_cons_zero, List.set_cons_succ]
    refine wpAnyH_takeD 8 (some 91) (.int .i64 (bb : Int)) rfl rfl (by kernel_rfl) (by kernel_rfl) (by kernel_rfl) (fun _ _ _ h => h) (Or.inl ⟨by rfl, fun w hSw => by obtain ⟨q1, q2, q3⟩ := hSw; go_simp⟩) hS ?_
    simp only [Act.put, List.setIfInBounds_toArray, List.set_cons_zero, List.set_cons_succ]
    refine wpAnyH_takeD 9 (some 92) (.slice (some ⟨g, oo, none⟩) na ca) rfl rfl (by kernel_rfl) (by kernel_rfl) (by kernel_rfl) (fun _ _ _ h => h) (Or.inl ⟨by rfl, fun w hSw => by obtain ⟨q1, q2, q3⟩ := hSw; go_simp⟩) hS ?_
    simp only [Act.put, List.setIfInBounds_toArray, List.set_cons_zero, List.set_cons_succ]
    refine wpAnyH_takeD 10 (some 93) (.int .i64 (k : Int)) rfl rfl (by kernel_rfl) (by kernel_rfl) (by kernel_rfl) (fun _ _ _ h => h) (Or.inl ⟨by rfl, fun w hSw => by obtain ⟨q1, q2, q3⟩ := hSw; go_simp⟩) hS ?_
    simp only [Act.put, List.setIfInBounds_toArray, List.set_cons_zero, List.set_cons_succ]
    refine wpAnyH_takeD 11 (some 94) (.pointer (some ⟨g, oo + k, none⟩)) rfl rfl (by kernel_rfl) (by kernel_rfl) (by kernel_rfl) (fun _ _ _ h => h) (Or.inl ⟨by rfl, fun w hSw => by obtain ⟨q1, q2, q3⟩ := hSw; go_simp⟩) hS ?_
    simp only [Act.put, List.setIfInBounds_toArray, List.set_cons_zero, List.set_cons_succ]
    refine wpAnyH_takeD 12 (some 95) (.int .i64 z) rfl rfl (by kernel_rfl) (by kernel_rfl) (by kernel_rfl) (fun _ _ _ h => h) (Or.inl ⟨by rfl, fun w hSw => by obtain ⟨q1, q2, q3⟩ := hSw; go_simp⟩) hS ?_
    simp only [Act.put, List.setIfInBounds_toArray, List.set_cons_zero, List.set_cons_succ]
    refine wpAnyH_ready (rs := [13]) (by kernel_rfl) (by simp) ?_
    refine AllReadyH.cons rfl (fun K hK => ?_) AllReadyH.nil
    simp only [List.getElem_toArray, List.getElem_cons_succ, List.getElem_cons_zero]
    go_simp
    refine (unhide HEN _).mono ?_
    rintro e y2 ⟨rfl, hb2⟩
    have X2 := hide (And.intro ((unhide X1).1.below hb2) ((unhide X1).2.below hb2))
    have S2 : (fun w' => w'.cell? ⟨gb, 3, none⟩ = some (.pointer (some ⟨sb, 0, none⟩)) ∧ w'.cell? ⟨gr, ro + kk, none⟩ = some (.int .i64 ((ro + kk : Nat) : Int)) ∧ w'.cell? ⟨g, oo + k, none⟩ = some (.int .i64 z)) y2 := ⟨(unhide X2).1.c.2.2.2, (unhide X2).2.2.1 kk hkk, by rw [(unhide X2).1.bel.cell (unhide HGA).1]; exact (unhide HGA).2⟩
    clear hb2 X1
    refine hK.out _ _ S2 (fun hS => ?_)
    clear hK K
    refine wpAnyH_ready (rs := [14]) (by kernel_rfl) (by simp) ?_
    refine AllReadyH.cons rfl (fun K hK => ?_) AllReadyH.nil
    simp only [List.getElem_toArray, List.getElem_cons_succ, List.getElem_cons_zero]
    go_simp
    have HSE := (unhide X2).1.set (by decide) (ro + kk) (by omega) bb (by omega) ed ew (unhide HDS).1 (unhide HDS).2 (fun _ => (unhide X2).1.vs.elim (fun _ q => q.free (unhide HXX).2.2.2.2.2.2.2))
    rw [(unhide HST).2.1 (ro + kk) (by omega)] at HSE
    refine HSE.mono ?_
    rintro e y3 ⟨rfl, ⟨V3, T3, hV3, hP3, -⟩, O3⟩
    have X3 := hide (And.intro hV3 ((unhide X2).2.only O3 (unhide HXX).1 (unhide HXX).2.1))
    have P3 := hide hP3
    have S3 : (fun w' => w'.cell? ⟨gb, 3, none⟩ = some (.pointer (some ⟨sb, 0, none⟩)) ∧ w'.cell? ⟨gr, ro + kk, none⟩ = some (.int .i64 ((ro + kk : Nat) : Int)) ∧ w'.cell? ⟨g, oo + k, none⟩ = some (.int .i64 z)) y3 := ⟨(unhide X3).1.c.2.2.2, (unhide X3).2.2.1 kk hkk, by rw [(unhide X3).1.bel.cell (unhide HGA).1]; exact (unhide HGA).2⟩
    clear hV3 hP3 O3 HSE X2 S2
    refine hK.out _ _ S3 (fun hS => ?_)
    clear hK K
    refine wpAnyH_takeD 15 (some 82) (.tuple #[.int .i64 (gro (V (ro + kk)) bb : Int), .int .i64 0]) rfl rfl (by kernel_rfl) (by kernel_rfl) (by kernel_rfl) (fun _ _ _ h => h) (Or.inl ⟨by rfl, fun w hSw => by obtain ⟨q1, q2, q3⟩ := hSw; go_simp⟩) hS ?_
    simp only [Act.put, List.setIfInBounds_toArray, List.set_cons_zero, List.set_cons_succ]
    refine wpAnyH_takeD 16 (some 98) (.int .i64 (gro (V (ro + kk)) bb : Int)) rfl rfl (by kernel_rfl) (by kernel_rfl) (by kernel_rfl) (fun _ _ _ h => h) (Or.inl ⟨by rfl, fun w hSw => by obtain ⟨q1, q2, q3⟩ := hSw; go_simp⟩) hS ?_
    simp only [Act.put, List.setIfInBounds_toArray, List.set_cons_zero, List.set_cons_succ]
    refine wpAnyH_takeD 17 (some 99) (.int .i64 0) rfl rfl (by kernel_rfl) (by kernel_rfl) (by kernel_rfl) (fun _ _ _ h => h) (Or.inl ⟨by rfl, fun w hSw => by obtain ⟨q1, q2, q3⟩ := hSw; go_simp⟩) hS ?_
    simp only [Act.put, List.setIfInBounds_toArray, List.set_cons_zero, List.set_cons_succ]
    refine wpAnyH_takeD 18 (some 12) (.int .i64 0) rfl rfl (by kernel_rfl) (by kernel_rfl) (by kernel_rfl) (fun _ _ _ h => h) (Or.inl ⟨by rfl, fun w hSw => by obtain ⟨q1, q2, q3⟩ := hSw; go_simp⟩) hS ?_
    simp only [Act.put, List.setIfInBounds_toArray, List.set_cons_zero, List.set_cons_succ]
    refine wpAnyH_done (by kernel_rfl) ?_ _
    clear hS
    have X4 := hide (And.intro ((unhide X3).1.below ((Below.refl _ y3).drew)) ((unhide X3).2.below ((Below.refl _ y3).drew)))
    have HS3 := hide S3
    clear X3 S3 HS1
    generalize gro (V (ro + kk)) bb = gq at *
    go_wp2
    refine wp_region_held_drew (S := fun w' => w'.cell? ⟨gb, 3, none⟩ = some (.pointer (some ⟨sb, 0, none⟩)) ∧ w'.cell? ⟨gr, ro + kk, none⟩ = some (.int .i64 ((ro + kk : Nat) : Int)) ∧ w'.cell? ⟨g, oo + k, none⟩ = some (.int .i64 z)) (by kernel_rfl) (unhide HS3) ?_
    intro hS
    generalize y3.drew = y3d at *
    refine wpAnyH_takeD 0 (some 100) (.slice (some ⟨gm, 0, none⟩) nv cm) rfl rfl (by kernel_rfl) (by kernel_rfl) (by kernel_rfl) (fun _ _ _ h => h) (Or.inl ⟨by rfl, fun w hSw => by obtain ⟨q1, q2, q3⟩ := hSw; go_simp⟩) hS ?_
    simp only [Act.put, List.setIfInBounds_toArray, List.set_cons_zero, List.set_cons_succ]
    refine wpAnyH_takeD 1 (some 101) (.int .i64 (kk : Int)) rfl rfl (by kernel_rfl) (by kernel_rfl) (by kernel_rfl) (fun _ _ _ h => h) (Or.inl ⟨by rfl, fun w hSw => by obtain ⟨q1, q2, q3⟩ := hSw; go_simp⟩) hS ?_
    simp only [Act.put, List.setIfInBounds_toArray, List.set_cons_zero, List.set_cons_succ]
    refine wpAnyH_takeD 2 (some 102) (.int .i64 (bb : Int)) rfl rfl (by kernel_rfl) (by kernel_rfl) (by kernel_rfl) (fun _ _ _ h => h) (Or.inl ⟨by rfl, fun w hSw => by obtain ⟨q1, q2, q3⟩ := hSw; go_simp⟩) hS ?_
    simp only [Act.put, List.setIfInBounds_toArray, List.set_cons_zero, List.set_cons_succ]
    refine wpAnyH_takeD 3 (some 103) (.slice (some ⟨g, oo, none⟩) na ca) rfl rfl (by kernel_rfl) (by kernel_rfl) (by kernel_rfl) (fun _ _ _ h => h) (Or.inl ⟨by rfl, fun w hSw => by obtain ⟨q1, q2, q3⟩ := hSw; go_simp⟩) hS ?_
    simp only [Act.put, List.setIfInBounds_toArray, List.set_cons_zero, List.set_cons_succ]
    refine wpAnyH_takeD 4 (some 104) (.int .i64 (k : Int)) rfl rfl (by kernel_rfl) (by kernel_rfl) (by kernel_rfl) (fun _ _ _ h => h) (Or.inl ⟨by rfl, fun w hSw => by obtain ⟨q1, q2, q3⟩ := hSw; go_simp⟩) hS ?_
    simp only [Act.put, List.setIfInBounds_toArray, List.set_cons_zero, List.set_cons_succ]
    refine wpAnyH_takeD 5 (some 105) (.pointer (some ⟨g, oo + k, none⟩)) rfl rfl (by kernel_rfl) (by kernel_rfl) (by kernel_rfl) (fun _ _ _ h => h) (Or.inl ⟨by rfl, fun w hSw => by obtain ⟨q1, q2, q3⟩ := hSw; go_simp⟩) hS ?_
    simp only [Act.put, List.setIfInBounds_toArray, List.set_cons_zero, List.set_cons_succ]
    refine wpAnyH_takeD 6 (some 106) (.int .i64 z) rfl rfl (by kernel_rfl) (by kernel_rfl) (by kernel_rfl) (fun _ _ _ h => h) (Or.inl ⟨by rfl, fun w hSw => by obtain ⟨q1, q2, q3⟩ := hSw; go_simp⟩) hS ?_
    simp only [Act.put, List.setIfInBounds_toArray, List.set_cons_zero, List.set_cons_succ]
    refine wpAnyH_takeD 8 (some 108) (.pointer (some ⟨gm, kk * 120, none⟩)) rfl rfl (by kernel_rfl) (by kernel_rfl) (by kernel_rfl) (fun _ _ _ h => h) (Or.inl ⟨by rfl, fun w hSw => by obtain ⟨q1, q2, q3⟩ := hSw; go_simp⟩) hS ?_
    simp only [Act.put, List.setIfInBounds_toArray, List.set_cons_zero, List.set_cons_succ]
    refine wpAnyH_ready (rs := [7]) (by kernel_rfl) (by simp) ?_
    refine AllReadyH.cons rfl (fun K hK => ?_) AllReadyH.nil
    simp only [List.getElem_toArray, List.getElem_cons_succ, List.getElem_cons_zero]
    go_simp
    refine (unhide HEN _).mono ?_
    rintro e y4 ⟨rfl, hb4⟩
    have X5 := hide (And.intro ((unhide X4).1.below hb4) ((unhide X4).2.below hb4))
    have S4 : (fun w' => w'.cell? ⟨gb, 3, none⟩ = some (.pointer (some ⟨sb, 0, none⟩)) ∧ w'.cell? ⟨gr, ro + kk, none⟩ = some (.int .i64 ((ro + kk : Nat) : Int)) ∧ w'.cell? ⟨g, oo + k, none⟩ = some (.int .i64 z)) y4 := ⟨(unhide X5).1.c.2.2.2, (unhide X5).2.2.1 kk hkk, by rw [(unhide X5).1.bel.cell (unhide HGA).1]; exact (unhide HGA).2⟩
    have md := (unhide X5).2.1.cell (kk * 120 + bb * 2)
    rw [mC_d nv M kk bb hkk hbb] at md
    have mw := (unhide X5).2.1.cell (kk * 120 + bb * 2 + 1)
    rw [mC_w nv M kk bb hkk hbb] at mw
    have f0 := (unhide X5).2.1.frozen (kk * 120 + bb * 2)
    have f1 := (unhide X5).2.1.frozen (kk * 120 + bb * 2 + 1)
    clear hb4 X4
    refine hK.out _ _ S4 (fun hS => ?_)
    clear hK K
    refine wpAnyH_takeD 9 (some 109) (.pointer (some ⟨gm, kk * 120 + bb * 2, none⟩)) rfl rfl (by kernel_rfl) (by kernel_rfl) (by kernel_rfl) (fun _ _ _ h => h) (Or.inl ⟨by rfl, fun w hSw => by obtain ⟨q1, q2, q3⟩ := hSw; go_simp⟩) hS ?_
    simp only [Act.put, List.setIfInBounds_toArray, List.set_cons_zero, List.set_cons_succ]
    refine wpAnyH_ready (rs := [10]) (by kernel_rfl) (by simp) ?_
    refine AllReadyH.cons rfl (fun K hK => ?_) AllReadyH.nil
    simp only [List.getElem_toArray, List.getElem_cons_succ, List.getElem_cons_zero]
    go_simp
    have M5 := (unhide X5).2.put kk bb (some (ed, ew)) hkk hbb (unhide HXX).2.2.1
    have V5 := (unhide X5).1.poke M5.2 (unhide HXX).1 (unhide HXX).2.2.2.1 (unhide HXX).2.2.2.2.1 (unhide HXX).2.2.2.2.2.1 (unhide HXX).2.2.2.2.2.2.1
    have X6 := hide (And.intro V5 M5.1)
    simp only [show vtD (some (ed, ew)) = ed from rfl, show vtW (some (ed, ew)) = ew from rfl] at X6
    clear V5 M5 md mw f0 f1 S4
    refine hK.out _ _ ⟨(unhide X6).1.c.2.2.2, (unhide X6).2.2.1 kk hkk, by rw [(unhide X6).1.bel.cell (unhide HGA).1]; exact (unhide HGA).2⟩ (fun hS => ?_)
    clear hK K
    refine wpAnyH_done (by kernel_rfl) ?_ _
    clear hS HS3 X5
    generalize (y4.setCell ⟨gm, kk * 120 + bb * 2, none⟩ (.string ed)).setCell ⟨gm, kk * 120 + bb * 2 + 1, none⟩ (.string ew) = y5 at *
    obtain ⟨c0, c1, c2, c3⟩ := (unhide X6).1.c
    have HCM := hide ((unhide X6).1.commit (by have := (unhide HST).1; omega))
    clear c0 c2 c3
    go_wp2_with fail
    refine (unhide HCM).mono ?_
    rintro e y6 ⟨rfl, ⟨L6, A6, hA6, hV6⟩, O6⟩
    have HTD := hide (show TD w0 w b jb pb mb sb gb Z n kp m gr ro nv gm a0 (k + 1) y6 from ⟨L6, A6, _, V3, T3, mup M kk bb (some (ed, ew)), by have := (unhide HST).1; omega, hV6, fun j hj => ((unhide P3).1 j).trans ((unhide HST).2.1 j hj), mup_put (unhide HST).2.2.1 (unhide P3), (unhide X6).2.only O6 (unhide HXX).1 (unhide HXX).2.1⟩)
    clear hA6 hV6 O6 HCM
    go_wp2
    go_roundw
    case rel => exact ⟨k + 1, by omega, by omega, by go_num, unhide HTD⟩
    case measure => simp [intOf]; omega
   | some dt =>
    obtain ⟨od, ot⟩ := dt
    have hod := (hEO od ot rfl).1
    rw [show vtD (some (od, ot)) = od from rfl] at md
    have hne := list_ne hod
    have hemp : od.toList.isEmpty = false := by rw [List.isEmpty_eq_false_iff]; exact hne
    clear hEO hod
    by_cases hpp : pp = 0
    ·subst hpp
     simp only [Int.cast_ofNat_Int] at HP3
     go_wp2_with fail
     refine (unhide HP3 _).mono ?_
     rintro e w' ⟨rfl, hw'⟩
     subst w'
     go_wp2_with fail
     refine wp_region_held_drew (S := fun w' => w'.cell? ⟨gb, 3, none⟩ = some (.pointer (some ⟨sb, 0, none⟩)) ∧ w'.cell? ⟨gr, ro + kk, none⟩ = some (.int .i64 ((ro + kk : Nat) : Int)) ∧ w'.cell? ⟨g, oo + k, none⟩ = some (.int .i64 z)) (by kernel_rfl) (unhide HS1) ?_
     intro hS
     generalize y1.drew = y1d at *
     refine wpAnyH_takeD 0 (some 64) (.pointer (some ⟨gb, 0, none⟩)) rfl rfl (by kernel_rfl) (by kernel_rfl) (by kernel_rfl) (fun _ _ _ h => h) (Or.inl ⟨by rfl, fun w hSw => by obtain ⟨q1, q2, q3⟩ := hSw; go_simp⟩) hS ?_
     simp only [Act.put, List.setIfInBounds_toArray, List.set_cons_zero, List.set_cons_succ]
     refine wpAnyH_takeD 1 (some 65) (.pointer (some ⟨gb, 0, none⟩)) rfl rfl (by kernel_rfl) (by kernel_rfl) (by kernel_rfl) (fun _ _ _ h => h) (Or.inl ⟨by rfl, fun w hSw => by obtain ⟨q1, q2, q3⟩ := hSw; go_simp⟩) hS ?_
     simp only [Act.put, List.setIfInBounds_toArray, List.set_cons_zero, List.set_cons_succ]
     refine wpAnyH_takeD 2 (some 66) (.pointer (some ⟨gb, 3, none⟩)) rfl rfl (by kernel_rfl) (by kernel_rfl) (by kernel_rfl) (fun _ _ _ h => h) (Or.inl ⟨by rfl, fun w hSw => by obtain ⟨q1, q2, q3⟩ := hSw; go_simp⟩) hS ?_
     simp only [Act.put, List.setIfInBounds_toArray, List.set_cons_zero, List.set_cons_succ]
     refine wpAnyH_takeD 3 (some 67) (.pointer (some ⟨sb, 0, none⟩)) rfl rfl (by kernel_rfl) (by kernel_rfl) (by kernel_rfl) (fun _ _ _ h => h) (Or.inl ⟨by rfl, fun w hSw => by obtain ⟨q1, q2, q3⟩ := hSw; go_simp⟩) hS ?_
     simp only [Act.put, List.setIfInBounds_toArray, List.set_cons_zero, List.set_cons_succ]
     refine wpAnyH_takeD 4 (some 68) (.slice (some ⟨gr, ro, none⟩) nv cr) rfl rfl (by kernel_rfl) (by kernel_rfl) (by kernel_rfl) (fun _ _ _ h => h) (Or.inl ⟨by rfl, fun w hSw => by obtain ⟨q1, q2, q3⟩ := hSw; go_simp⟩) hS ?_
     simp only [Act.put, List.setIfInBounds_toArray, List.set_cons_zero, List.set_cons_succ]
     refine wpAnyH_takeD 5 (some 69) (.int .i64 (kk : Int)) rfl rfl (by kernel_rfl) (by kernel_rfl) (by kernel_rfl) (fun _ _ _ h => h) (Or.inl ⟨by rfl, fun w hSw => by obtain ⟨q1, q2, q3⟩ := hSw; go_simp⟩) hS ?_
     simp only [Act.put, List.setIfInBounds_toArray, List.set_cons_zero, List.set_cons_succ]
     refine wpAnyH_takeD 6 (some 70) (.pointer (some ⟨gr, ro + kk, none⟩)) rfl rfl (by kernel_rfl) (by kernel_rfl) (by kernel_rfl) (fun _ _ _ h => h) (Or.inl ⟨by rfl, fun w hSw => by obtain ⟨q1, q2, q3⟩ := hSw; go_simp⟩) hS ?_
     simp only [Act.put, List.setIfInBounds_toArray, List.set_cons_zero, List.set_cons_succ]
     refine wpAnyH_takeD 7 (some 71) (.int .i64 ((ro + kk : Nat) : Int)) rfl rfl (by kernel_rfl) (by kernel_rfl) (by kernel_rfl) (fun _ _ _ h => h) (Or.inl ⟨by rfl, fun w hSw => by obtain ⟨q1, q2, q3⟩ := hSw; go_simp⟩) hS ?_
     simp only [Act.put, List.setIfInBounds_toArray, List.set_cons_zero, List.set_cons_succ]
     refine wpAnyH_takeD 8 (some 72) (.int .i64 (bb : Int)) rfl rfl (by kernel_rfl) (by kernel_rfl) (by kernel_rfl) (fun _ _ _ h => h) (Or.inl ⟨by rfl, fun w hSw => by obtain ⟨q1, q2, q3⟩ := hSw; go_simp⟩) hS ?_
     simp only [Act.put, List.setIfInBounds_toArray, List.set_cons_zero, List.set_cons_succ]
     refine wpAnyH_ready (rs := [9]) (by kernel_rfl) (by simp) ?_
     refine AllReadyH.cons rfl (fun K hK => ?_) AllReadyH.nil
     simp only [List.getElem_toArray, List.getElem_cons_succ, List.getElem_cons_zero]
     go_simp
     have HSE := (unhide X1).1.clear (by decide) (ro + kk) (by omega) bb (by omega) (by rw [← unhide HME]; rfl)
     rw [(unhide HST).2.1 (ro + kk) (by omega)] at HSE
     refine HSE.mono ?_
     rintro e y3 ⟨rfl, ⟨V3, T3, hV3, hP3, -⟩, O3⟩
     have X3 := hide (And.intro hV3 ((unhide X1).2.only O3 (unhide HXX).1 (unhide HXX).2.1))
     have P3 := hide hP3
     have S3 : (fun w' => w'.cell? ⟨gb, 3, none⟩ = some (.pointer (some ⟨sb, 0, none⟩)) ∧ w'.cell? ⟨gr, ro + kk, none⟩ = some (.int .i64 ((ro + kk : Nat) : Int)) ∧ w'.cell? ⟨g, oo + k, none⟩ = some (.int .i64 z)) y3 := ⟨(unhide X3).1.c.2.2.2, (unhide X3).2.2.1 kk hkk, by rw [(unhide X3).1.bel.cell (unhide HGA).1]; exact (unhide HGA).2⟩
     clear hV3 hP3 O3 HSE X1
     refine hK.out _ _ S3 (fun hS => ?_)
     clear hK K
     refine wpAnyH_takeD 10 (some 63) (.tuple #[.int .i64 (shr (V (ro + kk)) bb : Int), .int .i64 0]) rfl rfl (by kernel_rfl) (by kernel_rfl) (by kernel_rfl) (fun _ _ _ h => h) (Or.inl ⟨by rfl, fun w hSw => by obtain ⟨q1, q2, q3⟩ := hSw; go_simp⟩) hS ?_
     simp only [Act.put, List.setIfInBounds_toArray, List.set_cons_zero, List.set_cons_succ]
     refine wpAnyH_takeD 11 (some 74) (.int .i64 (shr (V (ro + kk)) bb : Int)) rfl rfl (by kernel_rfl) (by kernel_rfl) (by kernel_rfl) (fun _ _ _ h => h) (Or.inl ⟨by rfl, fun w hSw => by obtain ⟨q1, q2, q3⟩ := hSw; go_simp⟩) hS ?_
     simp only [Act.put, List.setIfInBounds_toArray, List.set_cons_zero, List.set_cons_succ]
     refine wpAnyH_takeD 12 (some 75) (.int .i64 0) rfl rfl (by kernel_rfl) (by kernel_rfl) (by kernel_rfl) (fun _ _ _ h => h) (Or.inl ⟨by rfl, fun w hSw => by obtain ⟨q1, q2, q3⟩ := hSw; go_simp⟩) hS ?_
     simp only [Act.put, List.setIfInBounds_toArray, List.set_cons_zero, List.set_cons_succ]
     refine wpAnyH_takeD 13 (some 12) (.int .i64 0) rfl rfl (by kernel_rfl) (by kernel_rfl) (by kernel_rfl) (fun _ _ _ h => h) (Or.inl ⟨by rfl, fun w hSw => by obtain ⟨q1, q2, q3⟩ := hSw; go_simp⟩) hS ?_
     simp only [Act.put, List.setIfInBounds_toArray, List.set_cons_zero, List.set_cons_succ]
     refine wpAnyH_done (by kernel_rfl) ?_ _
     clear hS S3 HS1 md
     generalize shr (V (ro + kk)) bb = gq at *
     have md := (unhide X3).2.1.cell (kk * 120 + bb * 2)
     rw [mC_d nv M kk bb hkk hbb] at md
     have mw := (unhide X3).2.1.cell (kk * 120 + bb * 2 + 1)
     rw [mC_w nv M kk bb hkk hbb] at mw
     have f0 := (unhide X3).2.1.frozen (kk * 120 + bb * 2)
     have f1 := (unhide X3).2.1.frozen (kk * 120 + bb * 2 + 1)
     have M5 := (unhide X3).2.put kk bb none hkk hbb (unhide HXX).2.2.1
     have V5 := (unhide X3).1.poke M5.2 (unhide HXX).1 (unhide HXX).2.2.2.1 (unhide HXX).2.2.2.2.1 (unhide HXX).2.2.2.2.2.1 (unhide HXX).2.2.2.2.2.2.1
     have X6 := hide (And.intro V5 M5.1)
     simp only [show vtD none = ⟨#[]⟩ from rfl, show vtW none = ⟨#[]⟩ from rfl] at X6
     obtain ⟨y5, hy5⟩ : ∃ q, (y3.setCell ⟨gm, kk * 120 + bb * 2, none⟩ (.string ⟨#[]⟩)).setCell ⟨gm, kk * 120 + bb * 2 + 1, none⟩ (.string ⟨#[]⟩) = q := ⟨_, rfl⟩
     rw [hy5] at X6
     obtain ⟨c0, c1, c2, c3⟩ := (unhide X6).1.c
     have HCM := hide ((unhide X6).1.commit (by have := (unhide HST).1; omega))
     clear c0 c2 c3 V5 M5 X3
     go_wp2_with fail
     refine (unhide HCM).mono ?_
     rintro e y6 ⟨rfl, ⟨L6, A6, hA6, hV6⟩, O6⟩
     have HTD := hide (show TD w0 w b jb pb mb sb gb Z n kp m gr ro nv gm a0 (k + 1) y6 from ⟨L6, A6, _, V3, T3, mup M kk bb none, by have := (unhide HST).1; omega, hV6, fun j hj => ((unhide P3).1 j).trans ((unhide HST).2.1 j hj), mup_put (unhide HST).2.2.1 (unhide P3), (unhide X6).2.only O6 (unhide HXX).1 (unhide HXX).2.1⟩)
     clear hA6 hV6 O6 HCM
     go_wp2
     go_roundw
     case rel => exact ⟨k + 1, by omega, by omega, by go_num, unhide HTD⟩
     case measure => simp [intOf]; omega
    ·obtain rfl : pp = 1 := by omega
     simp only [Int.cast_ofNat_Int] at HP3
     go_wp2_with fail
     refine (unhide HP3 _).mono ?_
     rintro e w' ⟨rfl, hw'⟩
     subst w'
     go_wp2_with fail
     refine wp_region_held_drew (S := fun w' => w'.cell? ⟨gb, 3, none⟩ = some (.pointer (some ⟨sb, 0, none⟩)) ∧ w'.cell? ⟨gr, ro + kk, none⟩ = some (.int .i64 ((ro + kk : Nat) : Int)) ∧ w'.cell? ⟨g, oo + k, none⟩ = some (.int .i64 z)) (by kernel_rfl) (unhide HS1) ?_
     intro hS
     generalize y1.drew = y1d at *
     refine wpAnyH_takeD 0 (some 83) (.pointer (some ⟨gb, 0, none⟩)) rfl rfl (by kernel_rfl) (by kernel_rfl) (by kernel_rfl) (fun _ _ _ h => h) (Or.inl ⟨by rfl, fun w hSw => by obtain ⟨q1, q2, q3⟩ := hSw; go_simp⟩) hS ?_
     simp only [Act.put, List.setIfInBounds_toArray, List.set_cons_zero, List.set_cons_succ]
     refine wpAnyH_takeD 1 (some 84) (.pointer (some ⟨gb, 0, none⟩)) rfl rfl (by kernel_rfl) (by kernel_rfl) (by kernel_rfl) (fun _ _ _ h => h) (Or.inl ⟨by rfl, fun w hSw => by obtain ⟨q1, q2, q3⟩ := hSw; go_simp⟩) hS ?_
     simp only [Act.put, List.setIfInBounds_toArray, List.set_cons_zero, List.set_cons_succ]
     refine wpAnyH_takeD 2 (some 85) (.pointer (some ⟨gb, 3, none⟩)) rfl rfl (by kernel_rfl) (by kernel_rfl) (by kernel_rfl) (fun _ _ _ h => h) (Or.inl ⟨by rfl, fun w hSw => by obtain ⟨q1, q2, q3⟩ := hSw; go_simp⟩) hS ?_
     simp only [Act.put, List.setIfInBounds_toArray, List.set_cons_zero, List.set_cons_succ]
     refine wpAnyH_takeD 3 (some 86) (.pointer (some ⟨sb, 0, none⟩)) rfl rfl (by kernel_rfl) (by kernel_rfl) (by kernel_rfl) (fun _ _ _ h => h) (Or.inl ⟨by rfl, fun w hSw => by obtain ⟨q1, q2, q3⟩ := hSw; go_simp⟩) hS ?_
     simp only [Act.put, List.setIfInBounds_toArray, List.set_cons_zero, List.set_cons_succ]
     refine wpAnyH_takeD 4 (some 87) (.slice (some ⟨gr, ro, none⟩) nv cr) rfl rfl (by kernel_rfl) (by kernel_rfl) (by kernel_rfl) (fun _ _ _ h => h) (Or.inl ⟨by rfl, fun w hSw => by obtain ⟨q1, q2, q3⟩ := hSw; go_simp⟩) hS ?_
     simp only [Act.put, List.setIfInBounds_toArray, List.set_cons_zero, List.set_cons_succ]
     refine wpAnyH_takeD 5 (some 88) (.int .i64 (kk : Int)) rfl rfl (by kernel_rfl) (by kernel_rfl) (by kernel_rfl) (fun _ _ _ h => h) (Or.inl ⟨by rfl, fun w hSw => by obtain ⟨q1, q2, q3⟩ := hSw; go_simp⟩) hS ?_
     simp only [Act.put, List.setIfInBounds_toArray, List.set_cons_zero, List.set_cons_succ]
     refine wpAnyH_takeD 6 (some 89) (.pointer (some ⟨gr, ro + kk, none⟩)) rfl rfl (by kernel_rfl) (by kernel_rfl) (by kernel_rfl) (fun _ _ _ h => h) (Or.inl ⟨by rfl, fun w hSw => by obtain ⟨q1, q2, q3⟩ := hSw; go_simp⟩) hS ?_
     simp only [Act.put, List.setIfInBounds_toArray, List.set_cons_zero, List.set_cons_succ]
     refine wpAnyH_takeD 7 (some 90) (.int .i64 ((ro + kk : Nat) : Int)) rfl rfl (by kernel_rfl) (by kernel_rfl) (by kernel_rfl) (fun _ _ _ h => h) (Or.inl ⟨by rfl, fun w hSw => by obtain ⟨q1, q2, q3⟩ := hSw; go_simp⟩) hS ?_
     simp only [Act.put, List.setIfInBounds_toArray, List.set_cons_zero, List.set_cons_succ]
     refine wpAnyH_takeD 8 (some 91) (.int .i64 (bb : Int)) rfl rfl (by kernel_rfl) (by kernel_rfl) (by kernel_rfl) (fun _ _ _ h => h) (Or.inl ⟨by rfl, fun w hSw => by obtain ⟨q1, q2, q3⟩ := hSw; go_simp⟩) hS ?_
     simp only [Act.put, List.setIfInBounds_toArray, List.set_cons_zero, List.set_cons_succ]
     refine wpAnyH_takeD 9 (some 92) (.slice (some ⟨g, oo, none⟩) na ca) rfl rfl (by kernel_rfl) (by kernel_rfl) (by kernel_rfl) (fun _ _ _ h => h) (Or.inl ⟨by rfl, fun w hSw => by obtain ⟨q1, q2, q3⟩ := hSw; go_simp⟩) hS ?_
     simp only [Act.put, List.setIfInBounds_toArray, List.set_cons_zero, List.set_cons_succ]
     refine wpAnyH_takeD 10 (some 93) (.int .i64 (k : Int)) rfl rfl (by kernel_rfl) (by kernel_rfl) (by kernel_rfl) (fun _ _ _ h => h) (Or.inl ⟨by rfl, fun w hSw => by obtain ⟨q1, q2, q3⟩ := hSw; go_simp⟩) hS ?_
     simp only [Act.put, List.setIfInBounds_toArray, List.set_cons_zero, List.set_cons_succ]
     refine wpAnyH_takeD 11 (some 94) (.pointer (some ⟨g, oo + k, none⟩)) rfl rfl (by kernel_rfl) (by kernel_rfl) (by kernel_rfl) (fun _ _ _ h => h) (Or.inl ⟨by rfl, fun w hSw => by obtain ⟨q1, q2, q3⟩ := hSw; go_simp⟩) hS ?_
     simp only [Act.put, List.setIfInBounds_toArray, List.set_cons_zero, List.set_cons_succ]
     refine wpAnyH_takeD 12 (some 95) (.int .i64 z) rfl rfl (by kernel_rfl) (by kernel_rfl) (by kernel_rfl) (fun _ _ _ h => h) (Or.inl ⟨by rfl, fun w hSw => by obtain ⟨q1, q2, q3⟩ := hSw; go_simp⟩) hS ?_
     simp only [Act.put, List.setIfInBounds_toArray, List.set_cons_zero, List.set_cons_succ]
     refine wpAnyH_ready (rs := [13]) (by kernel_rfl) (by simp) ?_
     refine AllReadyH.cons rfl (fun K hK => ?_) AllReadyH.nil
     simp only [List.getElem_toArray, List.getElem_cons_succ, List.getElem_cons_zero]
     go_simp
     refine (unhide HEN _).mono ?_
     rintro e y2 ⟨rfl, hb2⟩
     have X2 := hide (And.intro ((unhide X1).1.below hb2) ((unhide X1).2.below hb2))
     have S2 : (fun w' => w'.cell? ⟨gb, 3, none⟩ = some (.pointer (some ⟨sb, 0, none⟩)) ∧ w'.cell? ⟨gr, ro + kk, none⟩ = some (.int .i64 ((ro + kk : Nat) : Int)) ∧ w'.cell? ⟨g, oo + k, none⟩ = some (.int .i64 z)) y2 := ⟨(unhide X2).1.c.2.2.2, (unhide X2).2.2.1 kk hkk, by rw [(unhide X2).1.bel.cell (unhide HGA).1]; exact (unhide HGA).2⟩
     clear hb2 X1
     refine hK.out _ _ S2 (fun hS => ?_)
     clear hK K
     refine wpAnyH_ready (rs := [14]) (by kernel_rfl) (by simp) ?_
     refine AllReadyH.cons rfl (fun K hK => ?_) AllReadyH.nil
     simp only [List.getElem_toArray, List.getElem_cons_succ, List.getElem_cons_zero]
     go_simp
     have HSE := (unhide X2).1.set (by decide) (ro + kk) (by omega) bb (by omega) ed ew (unhide HDS).1 (unhide HDS).2 (fun _ => (unhide X2).1.vs.elim (fun _ q => q.free (unhide HXX).2.2.2.2.2.2.2))
     rw [(unhide HST).2.1 (ro + kk) (by omega)] at HSE
     refine HSE.mono ?_
     rintro e y3 ⟨rfl, ⟨V3, T3, hV3, hP3, -⟩, O3⟩
     have X3 := hide (And.intro hV3 ((unhide X2).2.only O3 (unhide HXX).1 (unhide HXX).2.1))
     have P3 := hide hP3
     have S3 : (fun w' => w'.cell? ⟨gb, 3, none⟩ = some (.pointer (some ⟨sb, 0, none⟩)) ∧ w'.cell? ⟨gr, ro + kk, none⟩ = some (.int .i64 ((ro + kk : Nat) : Int)) ∧ w'.cell? ⟨g, oo + k, none⟩ = some (.int .i64 z)) y3 := ⟨(unhide X3).1.c.2.2.2, (unhide X3).2.2.1 kk hkk, by rw [(unhide X3).1.bel.cell (unhide HGA).1]; exact (unhide HGA).2⟩
     clear hV3 hP3 O3 HSE X2 S2
     refine hK.out _ _ S3 (fun hS => ?_)
     clear hK K
     refine wpAnyH_takeD 15 (some 82) (.tuple #[.int .i64 (gro (V (ro + kk)) bb : Int), .int .i64 0]) rfl rfl (by kernel_rfl) (by kernel_rfl) (by kernel_rfl) (fun _ _ _ h => h) (Or.inl ⟨by rfl, fun w hSw => by obtain ⟨q1, q2, q3⟩ := hSw; go_simp⟩) hS ?_
     simp only [Act.put, List.setIfInBounds_toArray, List.set_cons_zero, List.set_cons_succ]
     refine wpAnyH_takeD 16 (some 98) (.int .i64 (gro (V (ro + kk)) bb : Int)) rfl rfl (by kernel_rfl) (by kernel_rfl) (by kernel_rfl) (fun _ _ _ h => h) (Or.inl ⟨by rfl, fun w hSw => by obtain ⟨q1, q2, q3⟩ := hSw; go_simp⟩) hS ?_
     simp only [Act.put, List.setIfInBounds_toArray, List.set_cons_zero, List.set_cons_succ]
     refine wpAnyH_takeD 17 (some 99) (.int .i64 0) rfl rfl (by kernel_rfl) (by kernel_rfl) (by kernel_rfl) (fun _ _ _ h => h) (Or.inl ⟨by rfl, fun w hSw => by obtain ⟨q1, q2, q3⟩ := hSw; go_simp⟩) hS ?_
     simp only [Act.put, List.setIfInBounds_toArray, List.set_cons_zero, List.set_cons_succ]
     refine wpAnyH_takeD 18 (some 12) (.int .i64 0) rfl rfl (by kernel_rfl) (by kernel_rfl) (by kernel_rfl) (fun _ _ _ h => h) (Or.inl ⟨by rfl, fun w hSw => by obtain ⟨q1, q2, q3⟩ := hSw; go_simp⟩) hS ?_
     simp only [Act.put, List.setIfInBounds_toArray, List.set_cons_zero, List.set_cons_succ]
     refine wpAnyH_done (by kernel_rfl) ?_ _
     clear hS
     have X4 := hide (And.intro ((unhide X3).1.below ((Below.refl _ y3).drew)) ((unhide X3).2.below ((Below.refl _ y3).drew)))
     have HS3 := hide S3
     clear X3 S3 HS1
     generalize gro (V (ro + kk)) bb = gq at *
     go_wp2
     refine wp_region_held_drew (S := fun w' => w'.cell? ⟨gb, 3, none⟩ = some (.pointer (some ⟨sb, 0, none⟩)) ∧ w'.cell? ⟨gr, ro + kk, none⟩ = some (.int .i64 ((ro + kk : Nat) : Int)) ∧ w'.cell? ⟨g, oo + k, none⟩ = some (.int .i64 z)) (by kernel_rfl) (unhide HS3) ?_
     intro hS
     generalize y3.drew = y3d at *
     refine wpAnyH_takeD 0 (some 100) (.slice (some ⟨gm, 0, none⟩) nv cm) rfl rfl (by kernel_rfl) (by kernel_rfl) (by kernel_rfl) (fun _ _ _ h => h) (Or.inl ⟨by rfl, fun w hSw => by obtain ⟨q1, q2, q3⟩ := hSw; go_simp⟩) hS ?_
     simp only [Act.put, List.setIfInBounds_toArray, List.set_cons_zero, List.set_cons_succ]
     refine wpAnyH_takeD 1 (some 101) (.int .i64 (kk : Int)) rfl rfl (by kernel_rfl) (by kernel_rfl) (by kernel_rfl) (fun _ _ _ h => h) (Or.inl ⟨by rfl, fun w hSw => by obtain ⟨q1, q2, q3⟩ := hSw; go_simp⟩) hS ?_
     simp only [Act.put, List.setIfInBounds_toArray, List.set_cons_zero, List.set_cons_succ]
     refine wpAnyH_takeD 2 (some 102) (.int .i64 (bb : Int)) rfl rfl (by kernel_rfl) (by kernel_rfl) (by kernel_rfl) (fun _ _ _ h => h) (Or.inl ⟨by rfl, fun w hSw => by obtain ⟨q1, q2, q3⟩ := hSw; go_simp⟩) hS ?_
     simp only [Act.put, List.setIfInBounds_toArray, List.set_cons_zero, List.set_cons_succ]
     refine wpAnyH_takeD 3 (some 103) (.slice (some ⟨g, oo, none⟩) na ca) rfl rfl (by kernel_rfl) (by kernel_rfl) (by kernel_rfl) (fun _ _ _ h => h) (Or.inl ⟨by rfl, fun w hSw => by obtain ⟨q1, q2, q3⟩ := hSw; go_simp⟩) hS ?_
     simp only [Act.put, List.setIfInBounds_toArray, List.set_cons_zero, List.set_cons_succ]
     refine wpAnyH_takeD 4 (some 104) (.int .i64 (k : Int)) rfl rfl (by kernel_rfl) (by kernel_rfl) (by kernel_rfl) (fun _ _ _ h => h) (Or.inl ⟨by rfl, fun w hSw => by obtain ⟨q1, q2, q3⟩ := hSw; go_simp⟩) hS ?_
     simp only [Act.put, List.setIfInBounds_toArray, List.set_cons_zero, List.set_cons_succ]
     refine wpAnyH_takeD 5 (some 105) (.pointer (some ⟨g, oo + k, none⟩)) rfl rfl (by kernel_rfl) (by kernel_rfl) (by kernel_rfl) (fun _ _ _ h => h) (Or.inl ⟨by rfl, fun w hSw => by obtain ⟨q1, q2, q3⟩ := hSw; go_simp⟩) hS ?_
     simp only [Act.put, List.setIfInBounds_toArray, List.set_cons_zero, List.set_cons_succ]
     refine wpAnyH_takeD 6 (some 106) (.int .i64 z) rfl rfl (by kernel_rfl) (by kernel_rfl) (by kernel_rfl) (fun _ _ _ h => h) (Or.inl ⟨by rfl, fun w hSw => by obtain ⟨q1, q2, q3⟩ := hSw; go_simp⟩) hS ?_
     simp only [Act.put, List.setIfInBounds_toArray, List.set_cons_zero, List.set_cons_succ]
     refine wpAnyH_takeD 8 (some 108) (.pointer (some ⟨gm, kk * 120, none⟩)) rfl rfl (by kernel_rfl) (by kernel_rfl) (by kernel_rfl) (fun _ _ _ h => h) (Or.inl ⟨by rfl, fun w hSw => by obtain ⟨q1, q2, q3⟩ := hSw; go_simp⟩) hS ?_
     simp only [Act.put, List.setIfInBounds_toArray, List.set_cons_zero, List.set_cons_succ]
     refine wpAnyH_ready (rs := [7]) (by kernel_rfl) (by simp) ?_
     refine AllReadyH.cons rfl (fun K hK => ?_) AllReadyH.nil
     simp only [List.getElem_toArray, List.getElem_cons_succ, List.getElem_cons_zero]
     go_simp
     refine (unhide HEN _).mono ?_
     rintro e y4 ⟨rfl, hb4⟩
     have X5 := hide (And.intro ((unhide X4).1.below hb4) ((unhide X4).2.below hb4))
     have S4 : (fun w' => w'.cell? ⟨gb, 3, none⟩ = some (.pointer (some ⟨sb, 0, none⟩)) ∧ w'.cell? ⟨gr, ro + kk, none⟩ = some (.int .i64 ((ro + kk : Nat) : Int)) ∧ w'.cell? ⟨g, oo + k, none⟩ = some (.int .i64 z)) y4 := ⟨(unhide X5).1.c.2.2.2, (unhide X5).2.2.1 kk hkk, by rw [(unhide X5).1.bel.cell (unhide HGA).1]; exact (unhide HGA).2⟩
     have md := (unhide X5).2.1.cell (kk * 120 + bb * 2)
     rw [mC_d nv M kk bb hkk hbb] at md
     have mw := (unhide X5).2.1.cell (kk * 120 + bb * 2 + 1)
     rw [mC_w nv M kk bb hkk hbb] at mw
     have f0 := (unhide X5).2.1.frozen (kk * 120 + bb * 2)
     have f1 := (unhide X5).2.1.frozen (kk * 120 + bb * 2 + 1)
     clear hb4 X4
     refine hK.out _ _ S4 (fun hS => ?_)
     clear hK K
     refine wpAnyH_takeD 9 (some 109) (.pointer (some ⟨gm, kk * 120 + bb * 2, none⟩)) rfl rfl (by kernel_rfl) (by kernel_rfl) (by kernel_rfl) (fun _ _ _ h => h) (Or.inl ⟨by rfl, fun w hSw => by obtain ⟨q1, q2, q3⟩ := hSw; go_simp⟩) hS ?_
     simp only [Act.put, List.setIfInBounds_toArray, List.set_cons_zero, List.set_cons_succ]
     refine wpAnyH_ready (rs := [10]) (by kernel_rfl) (by simp) ?_
     refine AllReadyH.cons rfl (fun K hK => ?_) AllReadyH.nil
     simp only [List.getElem_toArray, List.getElem_cons_succ, List.getElem_cons_zero]
     go_simp
     have M5 := (unhide X5).2.put kk bb (some (ed, ew)) hkk hbb (unhide HXX).2.2.1
     have V5 := (unhide X5).1.poke M5.2 (unhide HXX).1 (unhide HXX).2.2.2.1 (unhide HXX).2.2.2.2.1 (unhide HXX).2.2.2.2.2.1 (unhide HXX).2.2.2.2.2.2.1
     have X6 := hide (And.intro V5 M5.1)
     simp only [show vtD (some (ed, ew)) = ed from rfl, show vtW (some (ed, ew)) = ew from rfl] at X6
     clear V5 M5 md mw f0 f1 S4
     refine hK.out _ _ ⟨(unhide X6).1.c.2.2.2, (unhide X6).2.2.1 kk hkk, by rw [(unhide X6).1.bel.cell (unhide HGA).1]; exact (unhide HGA).2⟩ (fun hS => ?_)
     clear hK K
     refine wpAnyH_done (by kernel_rfl) ?_ _
     clear hS HS3 X5
     generalize (y4.setCell ⟨gm, kk * 120 + bb * 2, none⟩ (.string ed)).setCell ⟨gm, kk * 120 + bb * 2 + 1, none⟩ (.string ew) = y5 at *
     obtain ⟨c0, c1, c2, c3⟩ := (unhide X6).1.c
     have HCM := hide ((unhide X6).1.commit (by have := (unhide HST).1; omega))
     clear c0 c2 c3
     go_wp2_with fail
     refine (unhide HCM).mono ?_
     rintro e y6 ⟨rfl, ⟨L6, A6, hA6, hV6⟩, O6⟩
     have HTD := hide (show TD w0 w b jb pb mb sb gb Z n kp m gr ro nv gm a0 (k + 1) y6 from ⟨L6, A6, _, V3, T3, mup M kk bb (some (ed, ew)), by have := (unhide HST).1; omega, hV6, fun j hj => ((unhide P3).1 j).trans ((unhide HST).2.1 j hj), mup_put (unhide HST).2.2.1 (unhide P3), (unhide X6).2.only O6 (unhide HXX).1 (unhide HXX).2.1⟩)
     clear hA6 hV6 O6 HCM
     go_wp2
     go_roundw
     case rel => exact ⟨k + 1, by omega, by omega, by go_num, unhide HTD⟩
     case measure => simp [intOf]; omega
  ·have HTD := hide (show TD w0 w b jb pb mb sb gb Z n kp m gr ro nv gm a0 60 wo from by
    obtain ⟨L, A, hn, V, T, M, hA, h⟩ := hTD
    exact ⟨L, A, hn, V, T, M, by omega, h⟩)
   clear hTD
   by_cases hkn1 : k < na
   ·have hdk : decide ((k : Int) < (na : Int)) = true := decide_eq_true (by omega)
    have hdk2 : decide ((k : Int) < 60) = false := decide_eq_false (by omega)
    go_wp2
    go_ret
    exact ⟨rfl, unhide HTD⟩
   ·have hdk : decide ((k : Int) < (na : Int)) = false := decide_eq_false (by omega)
    go_wp2
    go_ret
    exact ⟨rfl, unhide HTD⟩
end Go.Proofs.YtiellebdliifdaaGreatDoor
