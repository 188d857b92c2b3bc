import Derived.Test.YtiellebdliifdaaGreatDoorMt38
import Derived.Deep.DeepCutAuto
import Derived.BigQuiet
import Derived.Deep.RegionHeld3
namespace Go.Proofs.YtiellebdliifdaaGreatDoor
open Go.RowKit Go.Maps Go.Sort Go.Shelf
set_option maxRecDepth 100000 in
set_option maxHeartbeats 4000000 in
theorem roots10 {w : World} (hE : ETy w) {pa : Option Addr} {l : List Int} {na ca : Nat} (hl : na = l.length) (hI : Ints w pa l) (hw : ∀ i, I64 (l.getD i 0)) (gone number : Int) (hgo : I64 gone) : Calls Tryz.prog 3 #[.slice pa na ca, .int .i64 gone, .int .i64 number] w fun e w' => e = .returned (.bool true) ∧ Below w.heap.size w w' := by
 have HKN := hide (known10_any w hE)
 have HARG := hide (And.intro hE (And.intro hl (And.intro hI hw)))
 have HPI := hide (fun W => pick10_any gone 60 (by decide) hgo 60 rfl W)
 have hbb := pickP_lt gone 60 (by decide)
 generalize pickP gone 60 = bb at *
 clear hE hl hI hw hgo
 refine (callsIn_wide (n := 6)).1 (callsIn_of_wp_marks Tryz.func3 rfl trivial (wpIn_wide.2 ?_) rfl)
 simp only [Tryz.ntmps3, List.size_toArray, List.length_cons, List.length_nil, Nat.reduceAdd, Nat.reduceSub, Array.replicate_succ, Array.replicate_zero, List.push_toArray, List.append_toArray, List.nil_append, List.cons_append]
 generalize hQ : bodyPostM Fence.wide 6 Tryz.prog _ _ = Q
 have HQ := hide hQ
 clear hQ
 go_wp2_with fail
 refine (unhide HKN).mono ?_
 rintro e w1 ⟨rfl, hb1⟩
 obtain ⟨gb, hgb⟩ : ∃ q, w1.heap.size = q := ⟨_, rfl⟩
 obtain ⟨x1, hx1⟩ : ∃ q, w1.alloc (.cells #[.pointer none, .pointer none, .pointer none, .pointer none, .pointer none] 30) = q := ⟨_, rfl⟩
 have B1 : Blk x1 gb #[.pointer none, .pointer none, .pointer none, .pointer none, .pointer none] 30 := by rw [← hx1, ← hgb]; exact Blk.new w1 _ _
 have hb1' : Below w.heap.size w x1 := by rw [← hx1]; exact hb1.trans ((Below.refl _ w1).alloc hb1.size _)
 have HMD := hide (made_any (w0 := w) (w := x1) (n := 88) (kp := 3) (Z := fun _ => False) hb1' (unhide HARG).1 (by decide) (by decide) (by decide) (by rw [← hgb]; exact hb1.size) B1 (fun x q => q.elim))
 simp only [Int.cast_ofNat_Int] at HMD
 clear B1 hb1 hb1' HKN
 go_wp2_with fail
 refine (unhide HMD).mono ?_
 rintro e x2 ⟨rfl, b, hOp⟩
 obtain ⟨jb, pb, mb, sb, L, A, n0, T, hV2, hT, -, hA⟩ := hOp.st (m := 0) (V := V0) (fun L A n0 T hR => by rw [hR.1]; exact VS.empty L 88 V0)
 rw [hT, Tb_0] at hV2
 have HVO := hide (volumes_any hV2 3 (by decide) (by decide) (fun x q => q.elim) (by omega))
 simp only [Int.cast_ofNat_Int] at HVO
 have HLT := hide (And.intro hV2.lts hV2.bel)
 have hA' : A.length ≤ 100 := hA
 clear hOp HMD hx1 hT hA hV2 hgb
 go_wp2_with fail
 refine (unhide HVO).mono ?_
 rintro e x3 ⟨v, rfl, hrow, ⟨L3, A3, hA3, hV3⟩, O3⟩
 obtain ⟨gr, cr, hv, hcr⟩ := hrow.form (by decide)
 subst hv
 have hcr3 : 3 ≤ cr := by
  obtain ⟨p', c', e', h'⟩ := row_form hrow
  cases e'
  exact h'
 have HRW := hide hrow
 have X3 := hide (And.intro hV3 hA3)
 have HGR := hide (show x2.heap.size ≤ gr ∧ gr < x3.heap.size from hrow.lt gr rfl)
 have HMK := emake 2 (by decide)
 simp only [Int.cast_ofNat_Int] at HMK
 obtain ⟨gm, hgm⟩ : ∃ q, x3.heap.size = q := ⟨_, rfl⟩
 obtain ⟨x4, hx4⟩ : ∃ q, x3.alloc (.cells (mC 2 (fun _ _ => none)) 60) = q := ⟨_, rfl⟩
 have hmk := HMK x3
 rw [hgm, hx4] at hmk
 clear hrow hV3 hA3 HVO O3 HMK
 obtain ⟨Z, hZ⟩ : ∃ Z : Nat → Prop, Z = fun x => x = gr ∨ x = gm := ⟨_, rfl⟩
 have hb4 : Below x3.heap.size x3 x4 := by rw [← hx4]; exact (Below.refl _ x3).alloc (Nat.le_refl _) _
 have hs4 : x4.heap.size = gm + 1 := by rw [← hx4, ← hgm]; simp
 obtain ⟨⟨t1, t2, t3⟩, t4⟩ := unhide HLT
 have t5 := t4.size
 have HXX := hide (show Z gm ∧ Z gr ∧ gm ≠ gr ∧ w.heap.size ≤ gm ∧ gm ≠ mb ∧ gm ≠ sb ∧ gm ≠ gb ∧ 21 * 3 < 88 from ⟨by rw [hZ]; exact .inr rfl, by rw [hZ]; exact .inl rfl, by omega, by omega, by omega, by omega, by omega, by decide⟩)
 have hV4 := (unhide X3).1.more (Y := Z) hb4 (fun x q => by
  rw [hZ] at q
  rcases q with q | q
  ·exact .inl (.inr (by rw [q]; rfl))
  ·exact .inr ⟨by omega, by omega⟩)
 have hTM4 := TM_new1 (Z := Z) (gr := gr) (unhide HRW)
 rw [hgm, hx4] at hTM4
 have HC0 := hide (show x4.cell? ⟨gr, 0, none⟩ = some (.int .i64 0) from by
  refine only_cell (Only.of_below (P := fun _ => False) hb4) ?_ (fun q => q)
  rw [(unhide HRW).cellAt 0 (by decide)]
  rfl)
 have hTD : TD w x4 b jb pb mb sb gb Z 88 3 3 gr 1 2 gm 138 0 x4 := ⟨L3, A3, _, VN 3, Tb 3, fun _ _ => none, by have := (unhide X3).2; omega, hV4, fun j hj => VN_r 3 j hj, ⟨fun j _ i _ => (VN_e 3 _ i).symm, fun j _ i _ => VN_e 3 j i⟩, hTM4⟩
 obtain ⟨-, u1, u2, u3⟩ := unhide HARG
 obtain ⟨v1, v2, v3, v4, v5, v6, v7, v8⟩ := unhide HXX
 have HTE := hide (tended_any hTD v1 v2 v3 v4 v5 v6 v7 v8 (by decide) (by decide) (by decide) (ca := ca) (cr := cr - 1) (cm := 2) u1 u2 u3)
 have HZZ := hide (And.intro hZ (And.intro (show w.heap.size ≤ gr ∧ gr < x4.heap.size ∧ mb < x4.heap.size ∧ sb < x4.heap.size ∧ gb < x4.heap.size ∧ gr ≠ gb from ⟨by omega, by omega, by omega, by omega, by omega, by omega⟩) True.intro))
 clear hTD hTM4 hV4 t1 t2 t3 t4 t5 u1 u2 u3 v1 v2 v3 v4 v5 v6 v7 v8 hb4 hs4 hZ hcr HGR HRW X3 HLT hA'
 go_wp2_with fail
 refine (unhide HTE).mono ?_
 rintro e x5 ⟨rfl, L5, A5, n5, V, T5, M, hA5, hV5, hr5, hM5, hTM5⟩
 clear hx4 hgm hmk HTE
 have hc0 : x5.cell? ⟨gr, 0, none⟩ = some (.int .i64 0) := only_cell hTM5.2.2 (unhide HC0) (fun q => q.elim (fun q => q (unhide HXX).2.1) (fun q => (unhide HXX).2.2.1 q.symm))
 have hc1 : x5.cell? ⟨gr, 1, none⟩ = some (.int .i64 1) := hTM5.2.1 0 (by decide)
 have hc2 : x5.cell? ⟨gr, 2, none⟩ = some (.int .i64 2) := hTM5.2.1 1 (by decide)
 have HLO := hide (show gr < x5.heap.size ∧ x4.heap.size ≤ x5.heap.size from ⟨World.block_lt_of_cell? x5 _ hc0, hTM5.2.2.size⟩)
 have HBA := hide (show ∀ i, i < 60 → (V 0).e i = none from hM5.2 0 (by decide))
 have HRR := hide (show (V 0).r = 0 ∧ (V 1).r = 1 ∧ (V 2).r = 2 from ⟨hr5 0 (by decide), hr5 1 (by decide), hr5 2 (by decide)⟩)
 have HBG := hide hV5.begin
 obtain ⟨-, d1, -, d3⟩ := hV5.c
 have HCC := hide (And.intro hc0 (And.intro hc1 hc2))
 have HA5 := hide (show A5.length ≤ 10000 by omega)
 clear hA5 hV5 hr5 hM5 hTM5 HC0 hc0 hc1 hc2 d3 hcr3
 go_wp2_with fail
 refine (unhide HBG).mono ?_
 rintro e x6 ⟨rfl, hV6, O6⟩
 obtain ⟨-, -, -, d3⟩ := hV6.c
 have hz := (unhide HXX).2.1
 have hc0 : x6.cell? ⟨gr, 0, none⟩ = some (.int .i64 0) := only_cell O6 (unhide HCC).1 (fun q => q hz)
 have HCD := hide (And.intro (only_cell O6 (unhide HCC).2.1 (fun q => q hz)) (only_cell O6 (unhide HCC).2.2 (fun q => q hz)))
 have HDS := hide ((hV6.below (Below.refl _ x6).drew).destroy (by decide) (unhide HBA))
 rw [(unhide HRR).1] at HDS
 rw [show ((0 : Nat) : Int) = 0 from rfl] at HDS
 have HZG := hide hz
 clear hV6 O6 HBG HCC HBA d1 hz
 go_wp2_with fail
 refine wp_region_noPanic ?_
 refine wp_region_held_drew (S := fun w' => w'.cell? ⟨gb, 3, none⟩ = some (.pointer (some ⟨sb, 0, none⟩)) ∧ w'.cell? ⟨gr, 0, none⟩ = some (.int .i64 0)) (by kernel_rfl) ⟨d3, hc0⟩ ?_
 intro hS
 refine wpAnyH_takeD 0 (some 54) (.pointer (some ⟨gb, 0, none⟩)) rfl rfl (by kernel_rfl) (by kernel_rfl) (by kernel_rfl) (fun _ _ _ h => h) (Or.inl ⟨by rfl, fun w hSw => by obtain ⟨q1, q2⟩ := hSw; go_simp⟩) hS ?_
 simp only [Act.put, List.setIfInBounds_toArray, List.set_cons_zero, List.set_cons_succ]
 refine wpAnyH_takeD 1 (some 55) (.pointer (some ⟨gb, 0, none⟩)) rfl rfl (by kernel_rfl) (by kernel_rfl) (by kernel_rfl) (fun _ _ _ h => h) (Or.inl ⟨by rfl, fun w hSw => by obtain ⟨q1, q2⟩ := hSw; go_simp⟩) hS ?_
 simp only [Act.put, List.setIfInBounds_toArray, List.set_cons_zero, List.set_cons_succ]
 refine wpAnyH_takeD 2 (some 56) (.pointer (some ⟨gb, 3, none⟩)) rfl rfl (by kernel_rfl) (by kernel_rfl) (by kernel_rfl) (fun _ _ _ h => h) (Or.inl ⟨by rfl, fun w hSw => by obtain ⟨q1, q2⟩ := hSw; go_simp⟩) hS ?_
 simp only [Act.put, List.setIfInBounds_toArray, List.set_cons_zero, List.set_cons_succ]
 refine wpAnyH_takeD 3 (some 57) (.pointer (some ⟨sb, 0, none⟩)) rfl rfl (by kernel_rfl) (by kernel_rfl) (by kernel_rfl) (fun _ _ _ h => h) (Or.inl ⟨by rfl, fun w hSw => by obtain ⟨q1, q2⟩ := hSw; go_simp⟩) hS ?_
 simp only [Act.put, List.setIfInBounds_toArray, List.set_cons_zero, List.set_cons_succ]
 refine wpAnyH_takeD 4 (some 58) (.slice (some ⟨gr, 0, none⟩) 3 cr) rfl rfl (by kernel_rfl) (by kernel_rfl) (by kernel_rfl) (fun _ _ _ h => h) (Or.inl ⟨by rfl, fun w hSw => by obtain ⟨q1, q2⟩ := hSw; go_simp⟩) hS ?_
 simp only [Act.put, List.setIfInBounds_toArray, List.set_cons_zero, List.set_cons_succ]
 refine wpAnyH_takeD 5 (some 59) (.pointer (some ⟨gr, 0, none⟩)) rfl rfl (by kernel_rfl) (by kernel_rfl) (by kernel_rfl) (fun _ _ _ h => h) (Or.inl ⟨by rfl, fun w hSw => by obtain ⟨q1, q2⟩ := hSw; go_simp⟩) hS ?_
 simp only [Act.put, List.setIfInBounds_toArray, List.set_cons_zero, List.set_cons_succ]
 refine wpAnyH_takeD 6 (some 60) (.int .i64 0) rfl rfl (by kernel_rfl) (by kernel_rfl) (by kernel_rfl) (fun _ _ _ h => h) (Or.inl ⟨by rfl, fun w hSw => by obtain ⟨q1, q2⟩ := hSw; go_simp⟩) hS ?_
 simp only [Act.put, List.setIfInBounds_toArray, List.set_cons_zero, List.set_cons_succ]
 refine wpAnyH_ready (rs := [7]) (by kernel_rfl) (by simp) ?_
 refine AllReadyH.cons rfl (fun K hK => ?_) AllReadyH.nil
 simp only [List.getElem_toArray, List.getElem_cons_succ, List.getElem_cons_zero]
 go_simp
 refine (unhide HDS).mono ?_
 rintro e x7 ⟨rfl, hV7, O7⟩
 have hz := unhide HZG
 have hc7 : x7.cell? ⟨gr, 0, none⟩ = some (.int .i64 0) := only_cell (show Only _ x6 x7 from (Only.refl _ x6).drew.trans O7 (fun _ _ q => q)) hc0 (fun q => q hz)
 have HCE := hide (And.intro (only_cell (show Only _ x6 x7 from (Only.refl _ x6).drew.trans O7 (fun _ _ q => q)) (unhide HCD).1 (fun q => q hz)) (only_cell (show Only _ x6 x7 from (Only.refl _ x6).drew.trans O7 (fun _ _ q => q)) (unhide HCD).2 (fun q => q hz)))
 obtain ⟨-, d1, -, e3⟩ := hV7.c
 have HCM := hide (hV7.commit (by have := unhide HA5; omega))
 clear hV7 O7 HDS HCD hz
 refine hK.out _ _ ⟨e3, hc7⟩ (fun hS => ?_)
 clear hK K
 refine wpAnyH_takeD 8 (some 13) (.int .i64 0) rfl rfl (by kernel_rfl) (by kernel_rfl) (by kernel_rfl) (fun _ _ _ h => h) (Or.inl ⟨by rfl, fun w hSw => by obtain ⟨q1, q2⟩ := hSw; go_simp⟩) hS ?_
 simp only [Act.put, List.setIfInBounds_toArray, List.set_cons_zero, List.set_cons_succ]
 refine wpAnyH_done (by kernel_rfl) ?_ _
 refine NoPanic.normal ?_
 clear hS d3 e3 hc0 hc7
 go_wp2_with fail
 refine (unhide HCM).mono ?_
 rintro e x8 ⟨rfl, ⟨L8, A8, hA8, hV8⟩, O8⟩
 have HI0 := hide (show ∃ k : Nat, k ≤ 91 ∧ (.int .i64 (-1) : Value) = .int .i64 ((k : Int) - 1) ∧ VSt w x8 b jb pb mb sb gb Z 88 3 0 false L8 A8 ((n5 + 1) % 4294967296) 2 (fun j => V (j + 1)) (flp T5 0) 2 (fun j => V (j + 1)) (flp T5 0) ∧ x8.cell? ⟨gr, 1, none⟩ = some (.int .i64 1) ∧ x8.cell? ⟨gr, 2, none⟩ = some (.int .i64 2) from ⟨0, by omega, rfl, hV8, only_cell O8 (unhide HCE).1 (fun q => q (unhide HZG)), only_cell O8 (unhide HCE).2 (fun q => q (unhide HZG))⟩)
 clear hA8 hV8 O8 HCM HCE d1
 go_wp2
 go_loopw [15, 16, 17, 18, 19] (fun i _ _ _ _ wr => ∃ k : Nat, k ≤ 91 ∧ i = .int .i64 ((k : Int) - 1) ∧ VSt w wr b jb pb mb sb gb Z 88 3 0 false L8 A8 ((n5 + 1) % 4294967296) 2 (fun j => V (j + 1)) (flp T5 0) 2 (fun j => V (j + 1)) (flp T5 0) ∧ wr.cell? ⟨gr, 1, none⟩ = some (.int .i64 1) ∧ wr.cell? ⟨gr, 2, none⟩ = some (.int .i64 2)) (fun i _ _ _ _ _ => (90 - intOf i).toNat)
 case atStart => exact unhide HI0
 case round =>
  obtain ⟨k, hk, rfl, hVr, hc1, hc2⟩ := hrel
  obtain ⟨y, rfl⟩ : ∃ wo, wo = wr := ⟨_, rfl⟩
  clear HI0
  obtain ⟨z, hzk⟩ : ∃ z, (k : Int) - 1 = z := ⟨_, rfl⟩
  rw [hzk]
  have HZK := hide hzk
  obtain ⟨-, -, -, d3⟩ := hVr.c
  by_cases hk9 : k < 91
  ·have hzl : z < 90 := by omega
   have hwz : IntKind.i64.wrap (z + 1) = z + 1 := wrapI_eq _ (by omega) (by omega)
   have HMP := hide (show Calls Tryz.prog 11 #[.pointer (some ⟨sb, 0, none⟩), .int .i64 z] y fun e w' => ∃ p q : Int, e = .returned (.tuple #[.int .i64 p, .int .i64 q, .int .i64 (if z = 1 ∨ z = 2 then 0 else 102)]) ∧ VSt w w' b jb pb mb sb gb Z 88 3 0 false L8 A8 ((n5 + 1) % 4294967296) 2 (fun j => V (j + 1)) (flp T5 0) 2 (fun j => V (j + 1)) (flp T5 0) ∧ w'.cell? ⟨gr, 1, none⟩ = some (.int .i64 1) ∧ w'.cell? ⟨gr, 2, none⟩ = some (.int .i64 2) from by
    by_cases h12 : z = 1 ∨ z = 2
    ·rw [if_pos h12]
     obtain ⟨j, hj, hjr⟩ : ∃ j, j < 2 ∧ ((V (j + 1)).r : Int) = z := by
      rcases h12 with q | q
      ·exact ⟨0, by decide, by rw [(unhide HRR).2.1, q]; rfl⟩
      ·exact ⟨1, by decide, by rw [(unhide HRR).2.2, q]; rfl⟩
     refine (hVr.mapped j hj z hjr).mono ?_
     rintro e w' ⟨⟨p, q, rfl⟩, r1, r2⟩
     exact ⟨p, q, rfl, r1, only_cell r2 hc1 (fun q => q (unhide HZG)), only_cell r2 hc2 (fun q => q (unhide HZG))⟩
    ·rw [if_neg h12]
     refine (hVr.mappedBad z (fun j hj e => ?_)).mono ?_
     ·have hj' : j = 0 ∨ j = 1 := by omega
      rcases hj' with rfl | rfl
      ·exact h12 (.inl (by rw [← e, (unhide HRR).2.1]; rfl))
      ·exact h12 (.inr (by rw [← e, (unhide HRR).2.2]; rfl))
     ·rintro e w' ⟨rfl, r1, r2⟩
      exact ⟨_, _, rfl, r1, only_cell r2 hc1 (fun q => q (unhide HZG)), only_cell r2 hc2 (fun q => q (unhide HZG))⟩)
   have HK9 := hide hk9
   clear hVr hc1 hc2 hzk hk9
   by_cases h1 : z = 1
   ·have e1 : ((z : Int) == 1) = true := by simp [h1]
    rw [if_pos (.inl h1)] at HMP
    clear h1
    as_aux_lemma =>
     go_wp2_with fail
     refine (unhide HMP).mono ?_
     rintro e y1 ⟨p, q, rfl, r1, r2, r3⟩
     have HR := hide (And.intro r1 (And.intro r2 r3))
     clear r1 HMP d3
     go_wp2
     clear r2 r3
     go_roundw
     case rel => exact ⟨k + 1, by have := unhide HK9; omega, by rw [show ((k + 1 : Nat) : Int) - 1 = z + 1 by have := unhide HZK; omega], unhide HR⟩
     case measure => simp [intOf]; omega
   ·have e1 : ((z : Int) == 1) = false := by simp [h1]
    by_cases h2 : z = 2
    ·have e2 : ((z : Int) == 2) = true := by simp [h2]
     rw [if_pos (.inr h2)] at HMP
     clear h1 h2
     as_aux_lemma =>
      go_wp2_with fail
      refine (unhide HMP).mono ?_
      rintro e y1 ⟨p, q, rfl, r1, r2, r3⟩
      have HR := hide (And.intro r1 (And.intro r2 r3))
      clear r1 HMP d3
      go_wp2
      clear r2 r3
      go_roundw
      case rel => exact ⟨k + 1, by have := unhide HK9; omega, by rw [show ((k + 1 : Nat) : Int) - 1 = z + 1 by have := unhide HZK; omega], unhide HR⟩
      case measure => simp [intOf]; omega
    ·have e2 : ((z : Int) == 2) = false := by simp [h2]
     rw [if_neg (fun q => q.elim h1 h2)] at HMP
     clear h1 h2
     as_aux_lemma =>
      go_wp2_with fail
      refine (unhide HMP).mono ?_
      rintro e y1 ⟨p, q, rfl, r1, r2, r3⟩
      have HR := hide (And.intro r1 (And.intro r2 r3))
      clear r1 HMP d3
      go_wp2
      clear r2 r3
      go_roundw
      case rel => exact ⟨k + 1, by have := unhide HK9; omega, by rw [show ((k + 1 : Nat) : Int) - 1 = z + 1 by have := unhide HZK; omega], unhide HR⟩
      case measure => simp [intOf]; omega
  ·have hzl : ¬ z < 90 := by omega
   clear hzk hk hk9
   have HBE := hide (show Below w.heap.size w y from hVr.bel)
   have HVR := hide hVr
   have hVRlts := hide hVr.lts
   clear hVr
   by_cases h1 : number = 1
   ·have e1 : ((number : Int) == 1) = true := by simp [h1]
    clear h1
    as_aux_lemma =>
     go_wp2
     rw [← unhide HQ]
     exact ⟨_, results_t1 rfl _ _ _, rfl, unhide HBE⟩
   ·have e1 : ((number : Int) == 1) = false := by simp [h1]
    by_cases h2 : number = 2
    ·have e2 : ((number : Int) == 2) = true := by simp [h2]
     clear h1 h2
     as_aux_lemma =>
      go_wp2
      rw [← unhide HQ]
      exact ⟨_, results_t1 rfl _ _ _, rfl, unhide HBE⟩
    ·have e2 : ((number : Int) == 2) = false := by simp [h2]
     have HNR := hide (show ∀ j, j < 2 → ((V (j + 1)).r : Int) ≠ number from fun j hj e => by
      have hj' : j = 0 ∨ j = 1 := by omega
      rcases hj' with rfl | rfl
      ·exact h1 (by rw [← e, (unhide HRR).2.1]; rfl)
      ·exact h2 (by rw [← e, (unhide HRR).2.2]; rfl))
     clear h1 h2
     as_aux_lemma =>
      have hlt := unhide hVRlts
      clear hVRlts
      have d3a : (y.alloc (.cells #[.int .i64 0] 3)).cell? ⟨gb, 3, none⟩ = some (.pointer (some ⟨sb, 0, none⟩)) := only_cell (P := fun _ => False) ((Only.refl _ y).alloc _) d3 (fun q => q)
      have HEA := hide (each_any (some ⟨sb, 0, none⟩) number (y.alloc (.cells #[.int .i64 0] 3)))
      have HLT := hide hlt
      clear hlt
      go_wp2_with fail
      refine (unhide HEA).mono ?_
      rintro e y1 ⟨rfl, hy1⟩
      obtain ⟨gn, hgn⟩ : ∃ q, y.heap.size = q := ⟨_, rfl⟩
      rw [show (y.alloc (.cells #[.int .i64 0] 3)).heap.size = gn + 1 by rw [World.size_alloc, hgn]]
      have HY1 := hide hy1
      have hfn : ∀ w, (binOp .eql 41 (.func (.func 37) #[] #[.pointer (some ⟨gn + 1, 0, none⟩), .pointer (some ⟨gn + 1 + 1, 0, none⟩)]) .nilFunc).run Tryz.prog w = .ok (.bool false) w := fun w => fn_nil _ _ w
      clear hy1 HEA d3a d3
      go_wp2_with fail
      clear hfn
      refine (wpIn_wide (n := 6)).1 (wpIn_rangeFunc_none (F := Fence.wide) rfl (by decide) (gf := 37) (lb := #[.pointer (some ⟨gn + 1, 0, none⟩), .pointer (some ⟨gn + 1 + 1, 0, none⟩)]) rfl trivial (enters_of Tryz.func37 (by kernel_rfl) rfl) ?_)
      intro rec W1 hW1
      have hy1 := unhide HY1
      have hsz1 : y1.heap.size = gn + 3 := by rw [hy1, World.size_alloc, World.size_alloc, World.size_alloc, hgn]
      have hoY : Only (fun _ => False) y W1 := by rw [← hW1, hy1]; exact (((((Only.refl _ y).alloc _).alloc _).alloc _).alloc _).alloc _
      have hbY := hoY.below (Nat.le_refl _) (fun _ _ q => q)
      have hsW : W1.heap.size = gn + 5 := by rw [← hW1, World.size_alloc, World.size_alloc, hsz1]
      obtain ⟨Z2, hZ2⟩ : ∃ Z2 : Nat → Prop, Z2 = fun x => Z x ∨ (gn ≤ x ∧ x < gn + 5) := ⟨_, rfl⟩
      have hVW := (unhide HVR).more (Y := Z2) hbY (fun x q => by
       rw [hZ2] at q
       rcases q with q | q
       ·exact .inl q
       ·exact .inr ⟨by omega, by omega⟩)
      have hin : ∀ x, gn ≤ x → x < gn + 5 → Z2 x := fun x a c => by rw [hZ2]; exact .inr ⟨a, c⟩
      have bn : Blk W1 gn #[.int .i64 0] 3 := by rw [← hW1, hy1, ← hgn]; exact ((((Blk.new y _ _).alloc _).alloc _).alloc _).alloc _
      have b0 : Blk W1 (gn + 1) #[.pointer (some ⟨sb, 0, none⟩)] 28 := by
       have q := Blk.new (y.alloc (.cells #[.int .i64 0] 3)) 28 #[.pointer (some ⟨sb, 0, none⟩)]
       rw [World.size_alloc, hgn] at q
       rw [← hW1, hy1]
       exact ((q.alloc _).alloc _).alloc _
      have b1 : Blk W1 (gn + 1 + 1) #[.int .i64 number] 3 := by
       have q := Blk.new ((y.alloc (.cells #[.int .i64 0] 3)).alloc (.cells #[.pointer (some ⟨sb, 0, none⟩)] 28)) 3 #[.int .i64 number]
       rw [World.size_alloc, World.size_alloc, hgn] at q
       rw [← hW1, hy1]
       exact (q.alloc _).alloc _
      have kd : W1.heap[gn + 3]? = some (.deferred (some [])) := by
       rw [← hW1, ← hsz1]
       exact (Below.heap_alloc _ _ _ (by simp)).trans (World.alloc_heap_new y1 _)
      have kl : W1.heap[gn + 3 + 1]? = some (.loop rec) := by
       have q := World.alloc_heap_new (y1.alloc (.deferred (some []))) (.loop rec)
       rw [World.size_alloc, hsz1, hW1] at q
       exact q
      have hsr : SR w gb sb gn W1 := ⟨hVW.c.2.2.2, bn.cell 0, kd, hVW.bel⟩
      rw [hsz1, show (#[.func (.yield (gn + 3 + 1)) #[] #[]] ++ #[.pointer (some ⟨gn + 1, 0, none⟩), .pointer (some ⟨gn + 1 + 1, 0, none⟩)] : Array Value) = #[.func (.yield (gn + 3 + 1)) #[] #[], .pointer (some ⟨gn + 1, 0, none⟩), .pointer (some ⟨gn + 1 + 1, 0, none⟩)] from rfl]
      refine (callsIn_wide.2 (hVW.each1Bad number (unhide HNR) (gn + 3 + 1) (gn + 1) (gn + 1 + 1) (b0.cell 0) (b1.cell 0))).mono ?_
      rintro e w3 ⟨rfl, hV3, O3⟩
      refine ⟨⟨_, rfl⟩, (O3.2 (gn + 3 + 1) (by omega) (fun q => q (hin _ (by omega) (by omega)))).trans kl, ?_⟩
      have hltt := unhide HLT
      have hbw := (unhide HBE).size
      have hsr3 : SR w gb sb gn w3 := ⟨hV3.c.2.2.2, only_cell O3 hsr.cn (fun q => q (hin _ (by omega) (by omega))), (O3.2 (gn + 3) (by omega) (fun q => q (hin _ (by omega) (by omega)))).trans kd, hV3.bel⟩
      obtain ⟨w4, hw4⟩ : ∃ q, w3.putObj (gn + 3 + 1) (.loop { rec with state := .exhausted }) = q := ⟨_, rfl⟩
      have O4 : Only (fun x => x = gn + 3 + 1) w3 w4 := by rw [← hw4]; exact only_putObj _ _ _
      rw [hw4]
      have hV4 := hV3.poke O4 (hin _ (by omega) (by omega)) (by omega) (by omega) (by omega) (by omega)
      have hsr4 : SR w gb sb gn w4 := hsr3.only O4 (by omega) (by omega) (by omega) (fun k hk => by omega)
      have HGR := hide ((hV4.below (Below.refl _ _).drew).growsBad number (unhide HNR) bb hbb)
      have HS4 := hide hsr4
      have HIN := hide hin
      have HWG := hide (show w.heap.size ≤ gn by omega)
      obtain ⟨gz, hgz⟩ : ∃ q : Int, -1 - (bb : Int) = q := ⟨_, rfl⟩
      have hwg : IntKind.i64.wrap (-1 - (bb : Int)) = gz := by rw [wrapI_eq _ (by omega) (by omega)]; exact hgz
      have HGZ := hide (show gz < 0 by omega)
      have d3 := hsr4.c3
      have HGN := hide (show gb < gn by omega)
      have HIL := hide (show gn + 5 ≤ w4.heap.size from by have := O3.size; have := O4.size; omega)
      clear hltt hbw hsr3 hw4 O4 hV4 hsr4 hV3 O3 hsr kl kd b1 b0 bn hin hVW hZ2 hsW hbY hoY hsz1 hy1 hW1 hgz hgn HY1 HVR
      go_wp2_with fail
      refine wp_region_noPanic ?_
      refine wp_region_held_drew (S := SR w gb sb gn) (by kernel_rfl) ((unhide HS4).below (Below.refl _ _).drew) ?_
      intro hS
      clear d3
      refine wpAnyH_takeD 0 (some 145) (.pointer (some ⟨gb, 0, none⟩)) rfl rfl (by kernel_rfl) (by kernel_rfl) (by kernel_rfl) (fun _ _ _ h => h) (Or.inl ⟨by rfl, fun w hSw => by have q1 := hSw.c3; go_simp⟩) hS ?_
      simp only [Act.put, List.setIfInBounds_toArray, List.set_cons_zero, List.set_cons_succ]
      refine wpAnyH_takeD 1 (some 146) (.pointer (some ⟨gb, 0, none⟩)) rfl rfl (by kernel_rfl) (by kernel_rfl) (by kernel_rfl) (fun _ _ _ h => h) (Or.inl ⟨by rfl, fun w hSw => by have q1 := hSw.c3; go_simp⟩) hS ?_
      simp only [Act.put, List.setIfInBounds_toArray, List.set_cons_zero, List.set_cons_succ]
      refine wpAnyH_takeD 2 (some 147) (.pointer (some ⟨gb, 3, none⟩)) rfl rfl (by kernel_rfl) (by kernel_rfl) (by kernel_rfl) (fun _ _ _ h => h) (Or.inl ⟨by rfl, fun w hSw => by have q1 := hSw.c3; go_simp⟩) hS ?_
      simp only [Act.put, List.setIfInBounds_toArray, List.set_cons_zero, List.set_cons_succ]
      refine wpAnyH_takeD 3 (some 148) (.pointer (some ⟨sb, 0, none⟩)) rfl rfl (by kernel_rfl) (by kernel_rfl) (by kernel_rfl) (fun _ _ _ h => h) (Or.inl ⟨by rfl, fun w hSw => by have q1 := hSw.c3; go_simp⟩) hS ?_
      simp only [Act.put, List.setIfInBounds_toArray, List.set_cons_zero, List.set_cons_succ]
      refine wpAnyH_takeD 4 (some 149) (.int .i64 number) rfl rfl (by kernel_rfl) (by kernel_rfl) (by kernel_rfl) (fun _ _ _ h => h) (Or.inl ⟨by rfl, fun w hSw => by have q1 := hSw.c3; go_simp⟩) hS ?_
      simp only [Act.put, List.setIfInBounds_toArray, List.set_cons_zero, List.set_cons_succ]
      refine wpAnyH_takeD 5 (some 150) (.int .i64 gone) rfl rfl (by kernel_rfl) (by kernel_rfl) (by kernel_rfl) (fun _ _ _ h => h) (Or.inl ⟨by rfl, fun w hSw => by have q1 := hSw.c3; go_simp⟩) hS ?_
      simp only [Act.put, List.setIfInBounds_toArray, List.set_cons_zero, List.set_cons_succ]
      refine wpAnyH_ready (rs := [6]) (by kernel_rfl) (by simp) ?_
      refine AllReadyH.cons rfl (fun K hK => ?_) AllReadyH.nil
      simp only [List.getElem_toArray, List.getElem_cons_succ, List.getElem_cons_zero]
      go_simp
      refine (unhide HPI _).mono ?_
      rintro e w' ⟨rfl, hw'⟩
      subst w'
      refine hK.out _ _ hS (fun hS => ?_)
      clear hK K
      refine wpAnyH_ready (rs := [7]) (by kernel_rfl) (by simp) ?_
      refine AllReadyH.cons rfl (fun K hK => ?_) AllReadyH.nil
      simp only [List.getElem_toArray, List.getElem_cons_succ, List.getElem_cons_zero]
      go_simp
      refine (unhide HGR).mono ?_
      rintro e w5 ⟨rfl, hV5, O5⟩
      have O5' : Only (fun x => ¬ Z2 x) w4 w5 := (Only.refl _ w4).drew.trans O5 (fun _ _ q => q)
      have hS5 : SR w gb sb gn w5 := ⟨hV5.c.2.2.2, only_cell O5' (unhide HS4).cn (fun q => q (unhide HIN _ (by omega) (by omega))), (O5'.2 (gn + 3) (by have := unhide HIL; omega) (fun q => q (unhide HIN _ (by omega) (by omega)))).trans (unhide HS4).d, hV5.bel⟩
      refine hK.out _ _ hS5 (fun hS => ?_)
      clear hK K
      refine wpAnyH_takeD 8 (some 144) (.tuple #[.int .i64 0, .int .i64 102]) rfl rfl (by kernel_rfl) (by kernel_rfl) (by kernel_rfl) (fun _ _ _ h => h) (Or.inl ⟨by rfl, fun w hSw => by have q1 := hSw.c3; go_simp⟩) hS ?_
      simp only [Act.put, List.setIfInBounds_toArray, List.set_cons_zero, List.set_cons_succ]
      refine wpAnyH_takeD 9 (some 153) (.int .i64 0) rfl rfl (by kernel_rfl) (by kernel_rfl) (by kernel_rfl) (fun _ _ _ h => h) (Or.inl ⟨by rfl, fun w hSw => by have q1 := hSw.c3; go_simp⟩) hS ?_
      simp only [Act.put, List.setIfInBounds_toArray, List.set_cons_zero, List.set_cons_succ]
      refine wpAnyH_takeD 10 (some 154) (.int .i64 102) rfl rfl (by kernel_rfl) (by kernel_rfl) (by kernel_rfl) (fun _ _ _ h => h) (Or.inl ⟨by rfl, fun w hSw => by have q1 := hSw.c3; go_simp⟩) hS ?_
      simp only [Act.put, List.setIfInBounds_toArray, List.set_cons_zero, List.set_cons_succ]
      refine wpAnyH_takeD 11 (some 22) (.int .i64 0) rfl rfl (by kernel_rfl) (by kernel_rfl) (by kernel_rfl) (fun _ _ _ h => h) (Or.inl ⟨by rfl, fun w hSw => by have q1 := hSw.c3; go_simp⟩) hS ?_
      simp only [Act.put, List.setIfInBounds_toArray, List.set_cons_zero, List.set_cons_succ]
      refine wpAnyH_takeD 12 (some 23) (.int .i64 102) rfl rfl (by kernel_rfl) (by kernel_rfl) (by kernel_rfl) (fun _ _ _ h => h) (Or.inl ⟨by rfl, fun w hSw => by have q1 := hSw.c3; go_simp⟩) hS ?_
      simp only [Act.put, List.setIfInBounds_toArray, List.set_cons_zero, List.set_cons_succ]
      refine wpAnyH_done (by kernel_rfl) ?_ _
      refine NoPanic.normal ?_
      have HS5 := hide hS
      have HIM := hide (show gn + 5 ≤ w5.heap.size ∧ gb < gn from ⟨by have := O5'.size; have := unhide HIL; omega, unhide HGN⟩)
      have d3 := hS.c3
      clear hS hS5 hV5 O5 O5' HGR
      go_wp2_with fail
      refine wp_region_noPanic ?_
      refine wp_region_held_drew (S := SR w gb sb gn) (by kernel_rfl) ((unhide HS5).below (Below.refl _ _).drew) ?_
      intro hS
      clear d3
      refine wpAnyH_takeD 0 (some 156) (.pointer (some ⟨gb, 0, none⟩)) rfl rfl (by kernel_rfl) (by kernel_rfl) (by kernel_rfl) (fun _ _ _ h => h) (Or.inl ⟨by rfl, fun w hSw => by have q1 := hSw.c3; go_simp⟩) hS ?_
      simp only [Act.put, List.setIfInBounds_toArray, List.set_cons_zero, List.set_cons_succ]
      refine wpAnyH_takeD 1 (some 157) (.pointer (some ⟨gb, 0, none⟩)) rfl rfl (by kernel_rfl) (by kernel_rfl) (by kernel_rfl) (fun _ _ _ h => h) (Or.inl ⟨by rfl, fun w hSw => by have q1 := hSw.c3; go_simp⟩) hS ?_
      simp only [Act.put, List.setIfInBounds_toArray, List.set_cons_zero, List.set_cons_succ]
      refine wpAnyH_takeD 2 (some 158) (.pointer (some ⟨gb, 3, none⟩)) rfl rfl (by kernel_rfl) (by kernel_rfl) (by kernel_rfl) (fun _ _ _ h => h) (Or.inl ⟨by rfl, fun w hSw => by have q1 := hSw.c3; go_simp⟩) hS ?_
      simp only [Act.put, List.setIfInBounds_toArray, List.set_cons_zero, List.set_cons_succ]
      refine wpAnyH_takeD 3 (some 159) (.pointer (some ⟨sb, 0, none⟩)) rfl rfl (by kernel_rfl) (by kernel_rfl) (by kernel_rfl) (fun _ _ _ h => h) (Or.inl ⟨by rfl, fun w hSw => by have q1 := hSw.c3; go_simp⟩) hS ?_
      simp only [Act.put, List.setIfInBounds_toArray, List.set_cons_zero, List.set_cons_succ]
      refine wpAnyH_takeD 4 (some 160) (.int .i64 number) rfl rfl (by kernel_rfl) (by kernel_rfl) (by kernel_rfl) (fun _ _ _ h => h) (Or.inl ⟨by rfl, fun w hSw => by have q1 := hSw.c3; go_simp⟩) hS ?_
      simp only [Act.put, List.setIfInBounds_toArray, List.set_cons_zero, List.set_cons_succ]
      refine wpAnyH_takeD 5 (some 161) (.int .i64 gone) rfl rfl (by kernel_rfl) (by kernel_rfl) (by kernel_rfl) (fun _ _ _ h => h) (Or.inl ⟨by rfl, fun w hSw => by have q1 := hSw.c3; go_simp⟩) hS ?_
      simp only [Act.put, List.setIfInBounds_toArray, List.set_cons_zero, List.set_cons_succ]
      refine wpAnyH_ready (rs := [6, 12]) (by kernel_rfl) (by simp) ?_
      refine AllReadyH.cons rfl (fun K hK => ?oA) (AllReadyH.cons rfl (fun K hK => ?oB) AllReadyH.nil)
      case oA =>
       simp only [List.getElem_toArray, List.getElem_cons_succ, List.getElem_cons_zero]
       go_simp
       refine (unhide HPI _).mono ?_
       rintro e w' ⟨rfl, hw'⟩
       subst w'
       refine hK.out _ _ hS (fun hS => ?_)
       clear hK K
       refine wpAnyH_takeD 7 (some 163) (.int .i64 gz) rfl rfl (by kernel_rfl) (by kernel_rfl) (by kernel_rfl) (fun _ _ _ h => h) (Or.inl ⟨by rfl, fun w hSw => by have q1 := hSw.c3; go_simp⟩) hS ?_
       simp only [Act.put, List.setIfInBounds_toArray, List.set_cons_zero, List.set_cons_succ]
       refine wpAnyH_ready (rs := [8, 12]) (by kernel_rfl) (by simp) ?_
       refine AllReadyH.cons rfl (fun K hK => ?oA1) (AllReadyH.cons rfl (fun K hK => ?oA2) AllReadyH.nil)
       case oA1 =>
        simp only [List.getElem_toArray, List.getElem_cons_succ, List.getElem_cons_zero]
        go_simp
        refine (get_block (.pointer (some ⟨sb, 0, none⟩)) number gz (unhide HGZ) _).mono ?_
        rintro e w6 ⟨rfl, hbw6⟩
        refine hK.out _ _ (hS.below hbw6) (fun hS => ?_)
        clear hK K
        refine wpAnyH_takeD 9 (some 155) (.tuple #[.agg #[.string ⟨#[]⟩, .string ⟨#[]⟩], .int .i64 100]) rfl rfl (by kernel_rfl) (by kernel_rfl) (by kernel_rfl) (fun _ _ _ h => h) (Or.inl ⟨by rfl, fun w hSw => by have q1 := hSw.c3; go_simp⟩) hS ?_
        simp only [Act.put, List.setIfInBounds_toArray, List.set_cons_zero, List.set_cons_succ]
        refine wpAnyH_takeD 10 (some 165) (.agg #[.string ⟨#[]⟩, .string ⟨#[]⟩]) rfl rfl (by kernel_rfl) (by kernel_rfl) (by kernel_rfl) (fun _ _ _ h => h) (Or.inl ⟨by rfl, fun w hSw => by have q1 := hSw.c3; go_simp⟩) hS ?_
        simp only [Act.put, List.setIfInBounds_toArray, List.set_cons_zero, List.set_cons_succ]
        refine wpAnyH_takeD 11 (some 166) (.int .i64 100) rfl rfl (by kernel_rfl) (by kernel_rfl) (by kernel_rfl) (fun _ _ _ h => h) (Or.inl ⟨by rfl, fun w hSw => by have q1 := hSw.c3; go_simp⟩) hS ?_
        simp only [Act.put, List.setIfInBounds_toArray, List.set_cons_zero, List.set_cons_succ]
        refine wpAnyH_ready (rs := [12]) (by kernel_rfl) (by simp) ?_
        refine AllReadyH.cons rfl (fun K hK => ?_) AllReadyH.nil
        simp only [List.getElem_toArray, List.getElem_cons_succ, List.getElem_cons_zero]
        go_simp
        refine hK.out _ _ (hS.below ((Below.refl _ _).alloc (Nat.le_refl _) _)) (fun hS => ?_)
        clear hK K
        refine wpAnyH_ready (rs := [13]) (by kernel_rfl) (by simp) ?_
        refine AllReadyH.cons rfl (fun K hK => ?_) AllReadyH.nil
        simp only [List.getElem_toArray, List.getElem_cons_succ, List.getElem_cons_zero]
        go_simp
        refine hK.out _ _ hS (fun hS => ?_)
        clear hK K
        refine wpAnyH_takeD 14 (some 25) (.int .i64 100) rfl rfl (by kernel_rfl) (by kernel_rfl) (by kernel_rfl) (fun _ _ _ h => h) (Or.inl ⟨by rfl, fun w hSw => by have q1 := hSw.c3; go_simp⟩) hS ?_
        simp only [Act.put, List.setIfInBounds_toArray, List.set_cons_zero, List.set_cons_succ]
        refine wpAnyH_done (by kernel_rfl) ?_ _
        refine NoPanic.normal ?_
        have HSF := hide hS
        have cn := hS.cn
        clear hS
        go_wp2
        rw [← unhide HQ]
        exact ⟨by simp, .inl ⟨_, _, rfl, run_takeDeferred (unhide HSF).d, _, results_t1 rfl _ _ _, rfl, (unhide HSF).bel.trans ((only_putObj _ _ _).below (unhide HSF).bel.size (fun k hk q => by have := unhide HWG; omega))⟩⟩
       case oA2 =>
        simp only [List.getElem_toArray, List.getElem_cons_succ, List.getElem_cons_zero]
        have BE : Blk (w5.drew.alloc (.cells #[.string ⟨#[]⟩, .string ⟨#[]⟩] 47)) w5.heap.size #[.string ⟨#[]⟩, .string ⟨#[]⟩] 47 := Blk.new w5.drew _ _
        go_simp
        refine hK.out _ _ (hS.below ((Below.refl _ _).alloc (Nat.le_refl _) _)) (fun hS => ?_)
        clear hK K
        refine wpAnyH_ready (rs := [8]) (by kernel_rfl) (by simp) ?_
        refine AllReadyH.cons rfl (fun K hK => ?_) AllReadyH.nil
        simp only [List.getElem_toArray, List.getElem_cons_succ, List.getElem_cons_zero]
        go_simp
        refine (get_block (.pointer (some ⟨sb, 0, none⟩)) number gz (unhide HGZ) _).mono ?_
        rintro e w6 ⟨rfl, hbw6⟩
        have bE := BE.below hbw6 BE.lt
        refine hK.out _ _ (hS.below hbw6) (fun hS => ?_)
        clear hK K
        refine wpAnyH_takeD 9 (some 155) (.tuple #[.agg #[.string ⟨#[]⟩, .string ⟨#[]⟩], .int .i64 100]) rfl rfl (by kernel_rfl) (by kernel_rfl) (by kernel_rfl) (fun _ _ _ h => h) (Or.inl ⟨by rfl, fun w hSw => by have q1 := hSw.c3; go_simp⟩) hS ?_
        simp only [Act.put, List.setIfInBounds_toArray, List.set_cons_zero, List.set_cons_succ]
        refine wpAnyH_takeD 10 (some 165) (.agg #[.string ⟨#[]⟩, .string ⟨#[]⟩]) rfl rfl (by kernel_rfl) (by kernel_rfl) (by kernel_rfl) (fun _ _ _ h => h) (Or.inl ⟨by rfl, fun w hSw => by have q1 := hSw.c3; go_simp⟩) hS ?_
        simp only [Act.put, List.setIfInBounds_toArray, List.set_cons_zero, List.set_cons_succ]
        refine wpAnyH_takeD 11 (some 166) (.int .i64 100) rfl rfl (by kernel_rfl) (by kernel_rfl) (by kernel_rfl) (fun _ _ _ h => h) (Or.inl ⟨by rfl, fun w hSw => by have q1 := hSw.c3; go_simp⟩) hS ?_
        simp only [Act.put, List.setIfInBounds_toArray, List.set_cons_zero, List.set_cons_succ]
        have c0 : w6.cell? ⟨w5.heap.size, 0, none⟩ = some (.string ⟨#[]⟩) := bE.cell 0
        have c1 : w6.cell? ⟨w5.heap.size, 1, none⟩ = some (.string ⟨#[]⟩) := bE.cell 1
        have f0 := bE.frozen 0
        have f1 := bE.frozen 1
        refine wpAnyH_ready (rs := [13]) (by kernel_rfl) (by simp) ?_
        refine AllReadyH.cons rfl (fun K hK => ?_) AllReadyH.nil
        simp only [List.getElem_toArray, List.getElem_cons_succ, List.getElem_cons_zero]
        go_simp
        refine hK.out _ _ (hS.only (((Only.refl (fun x => x = w5.heap.size) w6).setCell ⟨w5.heap.size, 0, none⟩ (.string ⟨#[]⟩) (fun _ => rfl)).setCell ⟨w5.heap.size, 1, none⟩ (.string ⟨#[]⟩) (fun _ => rfl)) (by have := unhide HIM; omega) (by have := unhide HIM; omega) (by have := unhide HIM; omega) (fun k hk => by have := unhide HIM; have := unhide HWG; omega)) (fun hS => ?_)
        clear hK K
        refine wpAnyH_takeD 14 (some 25) (.int .i64 100) rfl rfl (by kernel_rfl) (by kernel_rfl) (by kernel_rfl) (fun _ _ _ h => h) (Or.inl ⟨by rfl, fun w hSw => by have q1 := hSw.c3; go_simp⟩) hS ?_
        simp only [Act.put, List.setIfInBounds_toArray, List.set_cons_zero, List.set_cons_succ]
        refine wpAnyH_done (by kernel_rfl) ?_ _
        refine NoPanic.normal ?_
        have HSF := hide hS
        have cn := hS.cn
        clear hS
        go_wp2
        rw [← unhide HQ]
        exact ⟨by simp, .inl ⟨_, _, rfl, run_takeDeferred (unhide HSF).d, _, results_t1 rfl _ _ _, rfl, (unhide HSF).bel.trans ((only_putObj _ _ _).below (unhide HSF).bel.size (fun k hk q => by have := unhide HWG; omega))⟩⟩
      case oB =>
       simp only [List.getElem_toArray, List.getElem_cons_succ, List.getElem_cons_zero]
       have BE : Blk (w5.drew.alloc (.cells #[.string ⟨#[]⟩, .string ⟨#[]⟩] 47)) w5.heap.size #[.string ⟨#[]⟩, .string ⟨#[]⟩] 47 := Blk.new w5.drew _ _
       go_simp
       refine hK.out _ _ (hS.below ((Below.refl _ _).alloc (Nat.le_refl _) _)) (fun hS => ?_)
       clear hK K
       refine wpAnyH_ready (rs := [6]) (by kernel_rfl) (by simp) ?_
       refine AllReadyH.cons rfl (fun K hK => ?_) AllReadyH.nil
       simp only [List.getElem_toArray, List.getElem_cons_succ, List.getElem_cons_zero]
       go_simp
       refine (unhide HPI _).mono ?_
       rintro e w' ⟨rfl, hw'⟩
       subst w'
       refine hK.out _ _ hS (fun hS => ?_)
       clear hK K
       refine wpAnyH_takeD 7 (some 163) (.int .i64 gz) rfl rfl (by kernel_rfl) (by kernel_rfl) (by kernel_rfl) (fun _ _ _ h => h) (Or.inl ⟨by rfl, fun w hSw => by have q1 := hSw.c3; go_simp⟩) hS ?_
       simp only [Act.put, List.setIfInBounds_toArray, List.set_cons_zero, List.set_cons_succ]
       refine wpAnyH_ready (rs := [8]) (by kernel_rfl) (by simp) ?_
       refine AllReadyH.cons rfl (fun K hK => ?_) AllReadyH.nil
       simp only [List.getElem_toArray, List.getElem_cons_succ, List.getElem_cons_zero]
       go_simp
       refine (get_block (.pointer (some ⟨sb, 0, none⟩)) number gz (unhide HGZ) _).mono ?_
       rintro e w6 ⟨rfl, hbw6⟩
       have bE := BE.below hbw6 BE.lt
       refine hK.out _ _ (hS.below hbw6) (fun hS => ?_)
       clear hK K
       refine wpAnyH_takeD 9 (some 155) (.tuple #[.agg #[.string ⟨#[]⟩, .string ⟨#[]⟩], .int .i64 100]) rfl rfl (by kernel_rfl) (by kernel_rfl) (by kernel_rfl) (fun _ _ _ h => h) (Or.inl ⟨by rfl, fun w hSw => by have q1 := hSw.c3; go_simp⟩) hS ?_
       simp only [Act.put, List.setIfInBounds_toArray, List.set_cons_zero, List.set_cons_succ]
       refine wpAnyH_takeD 10 (some 165) (.agg #[.string ⟨#[]⟩, .string ⟨#[]⟩]) rfl rfl (by kernel_rfl) (by kernel_rfl) (by kernel_rfl) (fun _ _ _ h => h) (Or.inl ⟨by rfl, fun w hSw => by have q1 := hSw.c3; go_simp⟩) hS ?_
       simp only [Act.put, List.setIfInBounds_toArray, List.set_cons_zero, List.set_cons_succ]
       refine wpAnyH_takeD 11 (some 166) (.int .i64 100) rfl rfl (by kernel_rfl) (by kernel_rfl) (by kernel_rfl) (fun _ _ _ h => h) (Or.inl ⟨by rfl, fun w hSw => by have q1 := hSw.c3; go_simp⟩) hS ?_
       simp only [Act.put, List.setIfInBounds_toArray, List.set_cons_zero, List.set_cons_succ]
       have c0 : w6.cell? ⟨w5.heap.size, 0, none⟩ = some (.string ⟨#[]⟩) := bE.cell 0
       have c1 : w6.cell? ⟨w5.heap.size, 1, none⟩ = some (.string ⟨#[]⟩) := bE.cell 1
       have f0 := bE.frozen 0
       have f1 := bE.frozen 1
       refine wpAnyH_ready (rs := [13]) (by kernel_rfl) (by simp) ?_
       refine AllReadyH.cons rfl (fun K hK => ?_) AllReadyH.nil
       simp only [List.getElem_toArray, List.getElem_cons_succ, List.getElem_cons_zero]
       go_simp
       refine hK.out _ _ (hS.only (((Only.refl (fun x => x = w5.heap.size) w6).setCell ⟨w5.heap.size, 0, none⟩ (.string ⟨#[]⟩) (fun _ => rfl)).setCell ⟨w5.heap.size, 1, none⟩ (.string ⟨#[]⟩) (fun _ => rfl)) (by have := unhide HIM; omega) (by have := unhide HIM; omega) (by have := unhide HIM; omega) (fun k hk => by have := unhide HIM; have := unhide HWG; omega)) (fun hS => ?_)
       clear hK K
       refine wpAnyH_takeD 14 (some 25) (.int .i64 100) rfl rfl (by kernel_rfl) (by kernel_rfl) (by kernel_rfl) (fun _ _ _ h => h) (Or.inl ⟨by rfl, fun w hSw => by have q1 := hSw.c3; go_simp⟩) hS ?_
       simp only [Act.put, List.setIfInBounds_toArray, List.set_cons_zero, List.set_cons_succ]
       refine wpAnyH_done (by kernel_rfl) ?_ _
       refine NoPanic.normal ?_
       have HSF := hide hS
       have cn := hS.cn
       clear hS
       go_wp2
       rw [← unhide HQ]
       exact ⟨by simp, .inl ⟨_, _, rfl, run_takeDeferred (unhide HSF).d, _, results_t1 rfl _ _ _, rfl, (unhide HSF).bel.trans ((only_putObj _ _ _).below (unhide HSF).bel.size (fun k hk q => by have := unhide HWG; omega))⟩⟩
end Go.Proofs.YtiellebdliifdaaGreatDoor
