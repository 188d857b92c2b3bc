import Derived.Test.YtpcmifmgkccfnaaGreatDoorMv12
import Derived.Test.YtpcmifmgkccfnaaGreatDoorMv31
namespace Go.Proofs.YtpcmifmgkccfnaaGreatDoor
open Go.RowKit Go.Maps Go.Sort Go.Shelf
set_option maxRecDepth 100000
def wAdv (r : Rc) (a : Nat) : Int := if r.th then (if ∃ p, p < r.v.length ∧ (r.at p).1 = a then 117 else if r.v.length = 8 then 118 else 0) else 110
set_option maxRecDepth 100000 in
set_option maxHeartbeats 2000000 in
theorem wAdv_any (r : Rc) (h : ROk r) (lf : Int) (t q a b : Nat) (m : Int) (w : World) : Calls Tryz.prog 85 #[.agg (rV r).toArray, .int .i64 lf, akA t q a b m] w fun e w' => e = .returned (.int .i64 (wAdv r a)) ∧ Below w.heap.size w w' := by
  obtain ⟨g, hg⟩ : ∃ g, w.heap.size = g := ⟨_, rfl⟩
  have hxl := rV_len r
  have h0 : (rV r).toArray[0]? = some (.bool r.th) := rfl
  have h3 : (rV r).toArray[3]? = some (.int .i64 (r.v.length : Int)) := rfl
  have HS := hide (fun W => seat_any r h a W)
  have hn8 := h.n
  unfold akA
  obtain ⟨EE, hEE⟩ : ∃ xx, wAdv r a = xx := ⟨_, rfl⟩
  have HE := hide hEE
  rw [hEE]
  generalize rV r = xs at *
  obtain ⟨x1, hx1⟩ : ∃ xx, w.alloc (.cells xs.toArray 88) = xx := ⟨_, rfl⟩
  have hg1 : x1.heap.size = g + 1 := by rw [← hx1, ← hg]; simp
  obtain ⟨x2, hx2⟩ : ∃ xx, x1.alloc (.cells #[.int .i64 (t : Int), .int .i64 (q : Int), .int .i64 (a : Int), .int .i64 (b : Int), .int .i64 m] 107) = xx := ⟨_, rfl⟩
  have B : Blk x2 g xs.toArray 88 := by rw [← hx2, ← hx1, ← hg]; exact (Blk.new w _ _).alloc _
  have BA : Blk x2 (g + 1) #[.int .i64 (t : Int), .int .i64 (q : Int), .int .i64 (a : Int), .int .i64 (b : Int), .int .i64 m] 107 := by rw [← hx2, ← hg1]; exact Blk.new x1 _ _
  have hb : Below g w x2 := by rw [← hx2, ← hx1, ← hg]; exact ((Below.refl _ w).alloc (Nat.le_refl _) _).alloc (by simp) _
  have c0 : x2.cell? ⟨g, 0, none⟩ = some (.bool r.th) := by rw [B.cell]; exact h0
  have c3 : x2.cell? ⟨g, 3, none⟩ = some (.int .i64 (r.v.length : Int)) := by rw [B.cell]; exact h3
  have k0 : x2.cell? ⟨g + 1, 0, none⟩ = some (.int .i64 (t : Int)) := by rw [BA.cell]; rfl
  have k1 : x2.cell? ⟨g + 1, 1, none⟩ = some (.int .i64 (q : Int)) := by rw [BA.cell]; rfl
  have k2 : x2.cell? ⟨g + 1, 2, none⟩ = some (.int .i64 (a : Int)) := by rw [BA.cell]; rfl
  have k3 : x2.cell? ⟨g + 1, 3, none⟩ = some (.int .i64 (b : Int)) := by rw [BA.cell]; rfl
  have k4 : x2.cell? ⟨g + 1, 4, none⟩ = some (.int .i64 m) := by rw [BA.cell]; rfl
  have HB := hide (And.intro hb B.lt)
  have HBX := hide B
  have R2 := hide (blk_range B)
  have HXL := hide hxl
  clear hb B BA hxl h hEE h0 h3
  rw [hg]
  go_enter Tryz.func85, Tryz.ntmps85
  go_wp2_with (refine wpList_load_mid rfl 88 (.tmp 3) rfl g 0 rfl _ _ (unhide R2) Tryz.underlying88 rfl (by rw [sizeRec, unhide HXL]) ?_)
  refine (unhide HS _).mono ?_
  rintro e x3 ⟨hd, hb3⟩
  have HB3 := hide ((unhide HB).1.trans (hb3.mono (Nat.le_of_lt (unhide HB).2)))
  have B3 := (unhide HBX).below hb3 (unhide HBX).lt
  have d0 : x3.cell? ⟨g, 0, none⟩ = some (.bool r.th) := ((B3.cell 0).trans ((unhide HBX).cell 0).symm).trans c0
  have d3 : x3.cell? ⟨g, 3, none⟩ = some (.int .i64 (r.v.length : Int)) := ((B3.cell 3).trans ((unhide HBX).cell 3).symm).trans c3
  clear hb3 B3 HB HBX R2 HXL c0 c3 k0 k1 k2 k3 k4 hx1 hx2 hg1
  cases hth : r.th with
  | false =>
    rw [hth] at d0
    have HV := hide (show EE = 110 by rw [← unhide HE, wAdv, hth]; rfl)
    rcases hd with ⟨p, hp, hpa, rfl⟩ | ⟨hno, rfl⟩
    · clear hp hpa
      go_wp2
      go_ret
      exact ⟨by rw [unhide HV]; rfl, unhide HB3⟩
    · clear hno
      go_wp2
      go_ret
      exact ⟨by rw [unhide HV]; rfl, unhide HB3⟩
  | true =>
    rw [hth] at d0
    rcases hd with ⟨p, hp, hpa, rfl⟩ | ⟨hno, rfl⟩
    · have HV := hide (show EE = 117 by rw [← unhide HE, wAdv, hth, if_pos rfl, if_pos ⟨p, hp, hpa⟩])
      clear hp hpa
      go_wp2
      go_ret
      exact ⟨by rw [unhide HV]; rfl, unhide HB3⟩
    · by_cases hn : r.v.length = 8
      · have HV := hide (show EE = 118 by rw [← unhide HE, wAdv, hth, if_pos rfl, if_neg (fun ⟨p, h1, h2⟩ => hno p h1 h2), if_pos hn])
        have hn' : ((r.v.length : Int) == 8) = true := by rw [hn]; rfl
        clear hno hn
        generalize (r.v.length : Int) = n at *
        go_wp2
        go_ret
        exact ⟨by rw [unhide HV]; rfl, unhide HB3⟩
      · have HV := hide (show EE = 0 by rw [← unhide HE, wAdv, hth, if_pos rfl, if_neg (fun ⟨p, h1, h2⟩ => hno p h1 h2), if_neg hn])
        have hn' : ((r.v.length : Int) == 8) = false := by simp; omega
        clear hno hn
        generalize (r.v.length : Int) = n at *
        go_wp2
        go_ret
        exact ⟨by rw [unhide HV]; rfl, unhide HB3⟩
set_option maxRecDepth 100000 in
set_option maxHeartbeats 2000000 in
theorem dAdv_any (r : Rc) (hn : r.v.length < 8) (t q a b : Nat) (m : Int) (w : World) : Calls Tryz.prog 86 #[.agg (rV r).toArray, akA t q a b m] w fun e w' => e = .returned (.agg (rV (r.with a b)).toArray) ∧ Below w.heap.size w w' := by
  obtain ⟨g, hg⟩ : ∃ g, w.heap.size = g := ⟨_, rfl⟩
  have hxl := rV_len r
  have HW := hide (fun W => with_c r.th r.q r.c r.v.length r.at hn (fun k hk => r.at_ge k hk) a b W)
  rw [← rV_with] at HW
  rw [show rC r.th r.q r.c r.v.length r.at = rV r from rfl] at HW
  unfold akA
  have hyl := rV_len (r.with a b)
  have hyo := rV_one (r.with a b)
  generalize rV (r.with a b) = ys at *
  generalize rV r = xs at *
  obtain ⟨x1, hx1⟩ : ∃ xx, w.alloc (.cells xs.toArray 88) = xx := ⟨_, rfl⟩
  have hg1 : x1.heap.size = g + 1 := by rw [← hx1, ← hg]; simp
  obtain ⟨x2, hx2⟩ : ∃ xx, x1.alloc (.cells #[.int .i64 (t : Int), .int .i64 (q : Int), .int .i64 (a : Int), .int .i64 (b : Int), .int .i64 m] 107) = xx := ⟨_, rfl⟩
  have B : Blk x2 g xs.toArray 88 := by rw [← hx2, ← hx1, ← hg]; exact (Blk.new w _ _).alloc _
  have BA : Blk x2 (g + 1) #[.int .i64 (t : Int), .int .i64 (q : Int), .int .i64 (a : Int), .int .i64 (b : Int), .int .i64 m] 107 := by rw [← hx2, ← hg1]; exact Blk.new x1 _ _
  have hb : Below g w x2 := by rw [← hx2, ← hx1, ← hg]; exact ((Below.refl _ w).alloc (Nat.le_refl _) _).alloc (by simp) _
  have hg2 : x2.heap.size = g + 2 := by rw [← hx2]; simp; omega
  obtain ⟨x3, hx3⟩ : ∃ xx, x2.alloc (.cells #[.bool false, .int .i64 0, .int .i64 0, .int .i64 0, .int .i64 0, .int .i64 0, .int .i64 0, .int .i64 0, .int .i64 0, .int .i64 0, .int .i64 0, .int .i64 0, .int .i64 0, .int .i64 0, .int .i64 0, .int .i64 0, .int .i64 0, .int .i64 0, .int .i64 0, .int .i64 0] 88) = xx := ⟨_, rfl⟩
  have BZ : Blk x3 (g + 2) #[.bool false, .int .i64 0, .int .i64 0, .int .i64 0, .int .i64 0, .int .i64 0, .int .i64 0, .int .i64 0, .int .i64 0, .int .i64 0, .int .i64 0, .int .i64 0, .int .i64 0, .int .i64 0, .int .i64 0, .int .i64 0, .int .i64 0, .int .i64 0, .int .i64 0, .int .i64 0] 88 := by rw [← hx3, ← hg2]; exact Blk.new x2 _ _
  have B3 : Blk x3 g xs.toArray 88 := by rw [← hx3]; exact B.alloc _
  have BA3 : Blk x3 (g + 1) #[.int .i64 (t : Int), .int .i64 (q : Int), .int .i64 (a : Int), .int .i64 (b : Int), .int .i64 m] 107 := by rw [← hx3]; exact BA.alloc _
  have hb3 : Below g w x3 := by rw [← hx3]; exact hb.alloc (by omega) _
  have k0 : x3.cell? ⟨g + 1, 0, none⟩ = some (.int .i64 (t : Int)) := by rw [BA3.cell]; rfl
  have k1 : x3.cell? ⟨g + 1, 1, none⟩ = some (.int .i64 (q : Int)) := by rw [BA3.cell]; rfl
  have k2 : x3.cell? ⟨g + 1, 2, none⟩ = some (.int .i64 (a : Int)) := by rw [BA3.cell]; rfl
  have k3 : x3.cell? ⟨g + 1, 3, none⟩ = some (.int .i64 (b : Int)) := by rw [BA3.cell]; rfl
  have k4 : x3.cell? ⟨g + 1, 4, none⟩ = some (.int .i64 m) := by rw [BA3.cell]; rfl
  have R3 := hide (blk_range B3)
  have HXL := hide hxl
  have X3 := hide (And.intro BZ hb3)
  have HYL := hide hyl
  have HYO := hide hyo
  clear hb hb3 B BA B3 BA3 BZ hyl hyo hxl hn
  rw [hg]
  go_enter Tryz.func86, Tryz.ntmps86
  go_wp2_with (refine wpList_load_mid rfl 88 (.tmp 2) rfl g 0 rfl _ _ (unhide R3) Tryz.underlying88 rfl (by rw [sizeRec, unhide HXL]) ?_)
  refine (unhide HW _).mono ?_
  rintro e x4 ⟨rfl, hb4⟩
  obtain ⟨BZ, hb3⟩ := unhide X3
  have hlt := BZ.lt
  have BZ4 := BZ.below hb4 BZ.lt
  have hb4' := hb3.trans (hb4.mono (by omega))
  have TH := hide (blk_there BZ4 ys.toArray.size (by simp [unhide HYL]))
  have B5 := setCells_all BZ4 ys (by simp [unhide HYL])
  have HLD := hide (iload_blk 88 _ B5 Tryz.underlying88 rfl (by rw [sizeRec]; simp [unhide HYL]))
  have HB4 := hide (below_setCells (b := g + 2) (by omega) ys 0 hb4')
  clear BZ hb3 hlt BZ4 hb4' hb4 B5 X3 R3 HXL HW
  go_wp2_with (refine wpList_store_mid rfl 88 (.tmp 4) (.tmp 8) rfl (g + 2) 0 ys.toArray rfl rfl (unhide TH) (by rw [sizeRec]; simp [unhide HYL]) (unhide HYO) ?_)
  exact bodyPost_ret (v := .agg ys.toArray) (results_cell rfl _ _ _ ⟨g + 2, 0, none⟩ rfl _ (unhide HLD)) rfl ⟨rfl, unhide HB4⟩
theorem sizeAsk : (Tryz.prog.info? 107).map (·.size) = some 5 := by kernel_rfl
set_option maxRecDepth 100000 in
set_option maxHeartbeats 2000000 in
theorem tChg_no {w0 w : World} {b jb pb tb : Nat} {X : Nat → Prop} {a cap : Nat} {S : PS} {L : List ByteArray} {A : List (Nat × Nat)} {hn : Nat} {Mw Mn : List ByteArray} {R : Nat → Rc} (h : TG w0 w b jb pb tb X a cap S L A hn Mw Mn R) (ho : S.op = true) (k : Nat) (hk : k < 8) (kw kd : Nat) (hKW : ∀ args W, (callFunc kw args).run Tryz.prog W = .ok (.enter kw args) W) (hKD : ∀ args W, (callFunc kd args).run Tryz.prog W = .ok (.enter kd args) W) (q a0 b0 : Nat) (m : Int) (ha : AOk (k + 1) q a0 b0) (E : Int) (hW : ∀ W, Calls Tryz.prog kw #[.agg (rV (R k)).toArray, .int .i64 ((cap : Int) - (qs R 8 : Int)), akA (k + 1) q a0 b0 m] W fun e w' => e = .returned (.int .i64 E) ∧ Below W.heap.size W w') (hE : E ≠ 0) : Calls Tryz.prog 36 #[.pointer (some ⟨tb, 0, none⟩), .agg #[fnV kw, fnV kd], akA (k + 1) q a0 b0 m] w fun e w' => e = .returned (.int .i64 E) ∧ TKept w0 w b jb pb tb X a cap S L A hn Mw Mn R w' := by
  obtain ⟨g, hg⟩ : ∃ xx, w.heap.size = xx := ⟨_, rfl⟩
  have HRT := hide (fun W => isRight_ok (k + 1) q a0 b0 m ha W)
  have HOF := hide (fun W => rOf_any R k hk W)
  have HW := hide hW
  have HKW := hide hKW
  have HKD := hide hKD
  clear hKW hKD

  have HR := hide h.ok
  have HLO := hide (And.intro h.lo (And.intro h.hi h.cp))
  have hzl := lC_len R
  have hzo := lC_one R
  have hyl := rV_len (R k)
  have hyo := rV_one (R k)
  have HLF := hide (fun W (q : Blk W tb (Tbv pb a cap) 85) => left_any q h.cp R h.ok)
  obtain ⟨lf, hlf⟩ : ∃ xx, (cap : Int) - (qs R 8 : Int) = xx := ⟨_, rfl⟩
  obtain ⟨kk, hkk⟩ : ∃ xx, ((k + 1 : Nat) : Int) = xx := ⟨_, rfl⟩
  obtain ⟨zs, hzs⟩ : ∃ xx, lC R = xx := ⟨_, rfl⟩
  obtain ⟨ys, hys⟩ : ∃ xx, rV (R k) = xx := ⟨_, rfl⟩
  unfold akA at HRT HW  ⊢
  rw [hlf] at HLF HW
  rw [hkk] at HRT HW HOF  ⊢
  rw [hzs] at HLF HOF hzl hzo
  rw [hys] at HW  HOF hyl hyo
  have HSC := hide (fun W (q : Blk W tb (Tbv pb a cap) 85) => tSector_any q (by have := h.hi; omega) k hk)
  rw [hkk] at HSC
  have HZQ := hide hzs
  have HRQ := hide (fun W (G : TG w0 W b jb pb tb (fun x => (fun x => X x ∨ x = g) x ∨ x = g + 1) a cap S L A hn Mw Mn R) => tRead_any G)
  rw [hzs] at HRQ

  obtain ⟨fw, hfw⟩ : ∃ xx, fnV kw = xx := ⟨_, rfl⟩
  obtain ⟨fd, hfd⟩ : ∃ xx, fnV kd = xx := ⟨_, rfl⟩
  rw [hfw, hfd]
  have HFW := hide hfw
  have HFD := hide hfd
  obtain ⟨x1, hx1⟩ : ∃ xx, w.alloc (.cells #[fw, fd] 102) = xx := ⟨_, rfl⟩
  have hg1 : x1.heap.size = g + 1 := by rw [← hx1, ← hg]; simp
  obtain ⟨x2, hx2⟩ : ∃ xx, x1.alloc (.cells #[.int .i64 kk, .int .i64 (q : Int), .int .i64 (a0 : Int), .int .i64 (b0 : Int), .int .i64 m] 107) = xx := ⟨_, rfl⟩
  have G1 := h.add _ hx1 hg
  have G2 := G1.add _ hx2 hg1
  have B1 : Blk x2 g #[fw, fd] 102 := by rw [← hx2, ← hx1, ← hg]; exact (Blk.new w _ _).alloc _
  have B2 : Blk x2 (g + 1) #[.int .i64 kk, .int .i64 (q : Int), .int .i64 (a0 : Int), .int .i64 (b0 : Int), .int .i64 m] 107 := by rw [← hx2, ← hg1]; exact Blk.new x1 _ _
  have hO2 : Only (fun x => ¬ X x) w x2 := by rw [← hx2, ← hx1]; exact ((Only.refl _ w).alloc _).alloc _
  have k0 : x2.cell? ⟨g + 1, 0, none⟩ = some (.int .i64 kk) := B2.cell 0
  have k1 : x2.cell? ⟨g + 1, 1, none⟩ = some (.int .i64 (q : Int)) := B2.cell 1
  have k2 : x2.cell? ⟨g + 1, 2, none⟩ = some (.int .i64 (a0 : Int)) := B2.cell 2
  have k3 : x2.cell? ⟨g + 1, 3, none⟩ = some (.int .i64 (b0 : Int)) := B2.cell 3
  have k4 : x2.cell? ⟨g + 1, 4, none⟩ = some (.int .i64 m) := B2.cell 4
  have X2 := hide (And.intro G2 (And.intro B1 (And.intro B2 hO2)))
  have HXT := hide h.xt
  clear G1 G2 B1 B2 hO2 hW h ha hlf hkk hzs hys hfw hfd
  go_enter Tryz.func36, Tryz.ntmps36
  go_wp2_with fail
  clear hx1 hx2 hg1
  refine (unhide HRT _).mono ?_
  rintro e x3 ⟨rfl, hb3⟩
  obtain ⟨G2, B1, B2, hO2⟩ := unhide X2
  have G3 := G2.below hb3
  have HCG := hide (tChange_ok G3 ho)
  have X3 := hide (And.intro (B1.below hb3 B1.lt) (And.intro (B2.below hb3 B2.lt) (hO2.trans (Only.of_below (P := fun x => ¬ X x) hb3) (fun _ _ q => q))))
  clear G2 B1 B2 hO2 hb3 G3 X2 k0 k1 k2 k3 k4 HRT
  go_wp2_with fail
  refine (unhide HCG).mono ?_
  rintro e x4 ⟨rfl, G4, hO4⟩
  obtain ⟨B1, B2, hO3⟩ := unhide X3
  have HRD := hide (unhide HRQ _ G4)
  have X4 := hide (And.intro (B1.only hO4 (fun q => q (.inl (.inr rfl)))) (And.intro (B2.only hO4 (fun q => q (.inr rfl))) (hO3.trans hO4 (fun x _ q r => q (.inl (.inl r))))))
  clear B1 B2 hO3 G4 hO4 X3 HCG HRQ
  go_wp2_with fail
  refine (unhide HRD).mono ?_
  rintro e x5 ⟨rfl, S5, G5, ho5, hT5, hO5⟩
  obtain ⟨B1, B2, hO4⟩ := unhide X4
  have B15 := B1.only hO5 (fun q => q (.inl (.inr rfl)))
  have B25 := B2.only hO5 (fun q => q (.inr rfl))
  have hO45 : Only (fun x => ¬ X x) w x5 := hO4.trans hO5 (fun x _ q r => q (.inl (.inl r)))
  obtain ⟨h7, hh7⟩ : ∃ xx, x5.heap.size = xx := ⟨_, rfl⟩
  obtain ⟨x6, hx6⟩ : ∃ xx, x5.alloc (.cells Tryz.zeroCells90 90) = xx := ⟨_, rfl⟩
  have BZ6 : Blk x6 h7 Tryz.zeroCells90 90 := by rw [← hx6, ← hh7]; exact Blk.new x5 _ _
  have hzz : (Tryz.zeroCells90).size = 160 := by rw [← lC_zero]; simp [lC_len]
  have TH6 := hide (blk_there BZ6 zs.toArray.size (by rw [hzz]; simp [hzl]))
  have B7 := setCells_all BZ6 zs (by rw [hzz, hzl])
  have hb6 : Below x5.heap.size x5 x6 := by rw [← hx6]; exact (Below.refl _ x5).alloc (Nat.le_refl _) _
  have hb7 : Below x5.heap.size x5 (x6.setCells h7 0 zs) := below_setCells (by omega) zs 0 hb6
  obtain ⟨x7, hx7⟩ : ∃ xx, x6.setCells h7 0 zs = xx := ⟨_, rfl⟩
  rw [hx7] at B7 hb7
  have R7 := hide (blk_range B7)
  have HZL := hide hzl
  have HZO := hide hzo
  have B27 := B25.below hb7 B25.lt
  have k0 : x7.cell? ⟨g + 1, 0, none⟩ = some (.int .i64 kk) := B27.cell 0
  have G7 : TG w0 x7 b jb pb tb (fun x => (fun x => (fun x => X x ∨ x = g) x ∨ x = g + 1) x ∨ x = h7) a cap S5 L A hn Mw Mn R := G5.more hb7 (fun x q => q.imp_right (fun e => by rw [e]; exact ⟨by omega, B7.lt⟩)) (.inl G5.xt)
  have X7 := hide (And.intro G7 (And.intro ho5 (And.intro hT5 (And.intro (hO45.trans (Only.of_below (P := fun x => ¬ X x) hb7) (fun _ _ q => q)) (And.intro B7 (And.intro (B15.below hb7 B15.lt) B27))))))
  clear B1 B2 hO4 B15 B25 hO45 BZ6 hzz B7 hb6 hb7 hzl hzo B27 G5 G7 ho5 hT5 hO5 X4 HRD
  go_wp2_with (first | refine wpList_store_mid rfl 90 (.tmp 7) (.tmp 19) rfl h7 0 zs.toArray rfl rfl (unhide TH6) (by rw [sizeRol]; simp [unhide HZL]) (unhide HZO) ?_ | refine wpList_load_mid rfl 90 (.tmp 7) rfl h7 0 rfl _ _ (unhide R7) Tryz.underlying90 rfl (by rw [sizeRol, unhide HZL]) ?_)
  clear hx6 hx7 hh7 TH6 R7 k0 HZO
  refine (unhide HOF _).mono ?_
  rintro e x8 ⟨rfl, hb8⟩
  obtain ⟨G7, ho7, hT7, hO7, B7, BF7, BA7⟩ := unhide X7
  have G8 := G7.below hb8
  have B8 := B7.below hb8 B7.lt
  have BF8 := BF7.below hb8 BF7.lt
  have BA8 := BA7.below hb8 BA7.lt
  have hO8 := hO7.trans (Only.of_below (P := fun x => ¬ X x) hb8) (fun _ _ q => q)
  obtain ⟨h9, hh9⟩ : ∃ xx, x8.heap.size = xx := ⟨_, rfl⟩
  obtain ⟨x9, hx9⟩ : ∃ xx, x8.alloc (.cells #[.bool false, .int .i64 0, .int .i64 0, .int .i64 0, .int .i64 0, .int .i64 0, .int .i64 0, .int .i64 0, .int .i64 0, .int .i64 0, .int .i64 0, .int .i64 0, .int .i64 0, .int .i64 0, .int .i64 0, .int .i64 0, .int .i64 0, .int .i64 0, .int .i64 0, .int .i64 0] 88) = xx := ⟨_, rfl⟩
  have BZ9 : Blk x9 h9 #[.bool false, .int .i64 0, .int .i64 0, .int .i64 0, .int .i64 0, .int .i64 0, .int .i64 0, .int .i64 0, .int .i64 0, .int .i64 0, .int .i64 0, .int .i64 0, .int .i64 0, .int .i64 0, .int .i64 0, .int .i64 0, .int .i64 0, .int .i64 0, .int .i64 0, .int .i64 0] 88 := by rw [← hx9, ← hh9]; exact Blk.new x8 _ _
  have TH9 := hide (blk_there BZ9 ys.toArray.size (by simp [hyl]))
  have B10 := setCells_all BZ9 ys (by simp [hyl])
  have hb9 : Below x8.heap.size x8 x9 := by rw [← hx9]; exact (Below.refl _ x8).alloc (Nat.le_refl _) _
  have hb10 : Below x8.heap.size x8 (x9.setCells h9 0 ys) := below_setCells (by omega) ys 0 hb9
  obtain ⟨x10, hx10⟩ : ∃ xx, x9.setCells h9 0 ys = xx := ⟨_, rfl⟩
  rw [hx10] at B10 hb10
  have HYL := hide hyl
  have HYO := hide hyo
  have G10 : TG w0 x10 b jb pb tb (fun x => (fun x => (fun x => (fun x => X x ∨ x = g) x ∨ x = g + 1) x ∨ x = h7) x ∨ x = h9) a cap S5 L A hn Mw Mn R := G8.more hb10 (fun x q => q.imp_right (fun e => by rw [e]; exact ⟨by omega, B10.lt⟩)) (.inl G8.xt)
  have HST := hide (show ∀ W, Below x10.heap.size x10 W → TG w0 W b jb pb tb (fun x => (fun x => (fun x => (fun x => X x ∨ x = g) x ∨ x = g + 1) x ∨ x = h7) x ∨ x = h9) a cap S5 L A hn Mw Mn R ∧ (Blk W h7 zs.toArray 90 ∧ Blk W h9 ys.toArray 88 ∧ Blk W g #[fw, fd] 102 ∧ Blk W (g + 1) #[.int .i64 kk, .int .i64 (q : Int), .int .i64 (a0 : Int), .int .i64 (b0 : Int), .int .i64 m] 107) ∧ Only (fun x => ¬ X x) w W from fun W hW => by
    have hB : Below x8.heap.size x8 W := hb10.trans (hW.mono hb10.size)
    exact ⟨G10.below hW, ⟨B8.below hB B8.lt, B10.below hW B10.lt, BF8.below hB BF8.lt, BA8.below hB BA8.lt⟩, hO8.trans (Only.of_below (P := fun x => ¬ X x) hB) (fun _ _ q => q)⟩)
  have HS0 := hide (unhide HST x10 (Below.refl _ _)).2.1
  have HT7 := hide (And.intro ho7 hT7)
  clear G7 ho7 hT7 hO7 B7 BF7 BA7 G8 G10 B8 BF8 BA8 hO8 BZ9 B10 hb9 hb10 hyl hyo hb8 X7 HOF
  go_wp2_with (refine wpList_store_mid rfl 88 (.tmp 9) (.tmp 27) rfl h9 0 ys.toArray rfl rfl (unhide TH9) (by rw [sizeRec]; simp [unhide HYL]) (unhide HYO) ?_)
  first | rw [hx10] | rw [List.toList_toArray, hx10]
  clear hx9 hx10 hh9 TH9 HYO
  refine wp_region_held_drew (S := fun w' => Blk w' h7 zs.toArray 90 ∧ Blk w' h9 ys.toArray 88 ∧ Blk w' g #[fw, fd] 102 ∧ Blk w' (g + 1) #[.int .i64 kk, .int .i64 (q : Int), .int .i64 (a0 : Int), .int .i64 (b0 : Int), .int .i64 m] 107) (by kernel_rfl) (unhide HS0) ?_
  intro hS
  refine wpAnyH_takeD 0 (some 28) (.pointer (some ⟨g, 0, none⟩)) rfl rfl (by kernel_rfl) (by kernel_rfl) (by kernel_rfl) (fun _ _ _ h => h) (Or.inl ⟨by rfl, fun w hSw => by have a0 : w.cell? ⟨g, 0, none⟩ = some fw := Blk.cell hSw.2.2.1 0; have a1 : w.cell? ⟨g, 1, none⟩ = some fd := Blk.cell hSw.2.2.1 1; have a2 : w.cell? ⟨g + 1, 0, none⟩ = some (.int .i64 kk) := Blk.cell hSw.2.2.2 0; clear hSw; go_simp⟩) hS ?_
  simp only [Act.put, List.setIfInBounds_toArray, List.set_cons_zero, List.set_cons_succ]
  refine wpAnyH_takeD 1 (some 29) (fw) rfl rfl (by kernel_rfl) (by kernel_rfl) (by kernel_rfl) (fun _ _ _ h => h) (Or.inl ⟨by rfl, fun w hSw => by have a0 : w.cell? ⟨g, 0, none⟩ = some fw := Blk.cell hSw.2.2.1 0; have a1 : w.cell? ⟨g, 1, none⟩ = some fd := Blk.cell hSw.2.2.1 1; have a2 : w.cell? ⟨g + 1, 0, none⟩ = some (.int .i64 kk) := Blk.cell hSw.2.2.2 0; clear hSw; go_simp⟩) hS ?_
  simp only [Act.put, List.setIfInBounds_toArray, List.set_cons_zero, List.set_cons_succ]
  refine wpAnyH_takeD 2 (some 30) (.agg ys.toArray) rfl rfl (by kernel_rfl) (by kernel_rfl) (by kernel_rfl) (fun _ _ _ h => h) (yieldsIf_load_mid (by rfl) 88 (.tmp 9) rfl h9 0 rfl _ _ (fun w hSw => blk_range hSw.2.1) Tryz.underlying88 rfl (by rw [sizeRec, unhide HYL])) hS ?_
  simp only [Act.put, List.setIfInBounds_toArray, List.set_cons_zero, List.set_cons_succ]
  refine wpAnyH_takeD 3 (some 31) (.pointer (some ⟨tb, 0, none⟩)) rfl rfl (by kernel_rfl) (by kernel_rfl) (by kernel_rfl) (fun _ _ _ h => h) (Or.inl ⟨by rfl, fun w hSw => by have a0 : w.cell? ⟨g, 0, none⟩ = some fw := Blk.cell hSw.2.2.1 0; have a1 : w.cell? ⟨g, 1, none⟩ = some fd := Blk.cell hSw.2.2.1 1; have a2 : w.cell? ⟨g + 1, 0, none⟩ = some (.int .i64 kk) := Blk.cell hSw.2.2.2 0; clear hSw; go_simp⟩) hS ?_
  simp only [Act.put, List.setIfInBounds_toArray, List.set_cons_zero, List.set_cons_succ]
  refine wpAnyH_takeD 4 (some 32) (.agg zs.toArray) rfl rfl (by kernel_rfl) (by kernel_rfl) (by kernel_rfl) (fun _ _ _ h => h) (yieldsIf_load_mid (by rfl) 90 (.tmp 7) rfl h7 0 rfl _ _ (fun w hSw => blk_range hSw.1) Tryz.underlying90 rfl (by rw [sizeRol, unhide HZL])) hS ?_
  simp only [Act.put, List.setIfInBounds_toArray, List.set_cons_zero, List.set_cons_succ]
  refine wpAnyH_takeD 6 (some 34) (.agg #[.int .i64 kk, .int .i64 (q : Int), .int .i64 (a0 : Int), .int .i64 (b0 : Int), .int .i64 m]) rfl rfl (by kernel_rfl) (by kernel_rfl) (by kernel_rfl) (fun _ _ _ h => h) (yieldsIf_load_mid (by rfl) 107 (.tmp 5) rfl (g + 1) 0 rfl [.int .i64 kk, .int .i64 (q : Int), .int .i64 (a0 : Int), .int .i64 (b0 : Int), .int .i64 m] _ (fun w hSw => blk_range hSw.2.2.2) Tryz.underlying107 rfl (by rw [sizeAsk]; rfl)) hS ?_
  simp only [Act.put, List.setIfInBounds_toArray, List.set_cons_zero, List.set_cons_succ]
  refine wpAnyH_ready (rs := [5]) (by kernel_rfl) (by simp) ?_
  refine AllReadyH.cons rfl (fun K hK => ?_) AllReadyH.nil
  simp only [List.getElem_toArray, List.getElem_cons_succ, List.getElem_cons_zero]
  go_simp
  refine (unhide HLF _ (unhide HST _ ((Below.refl _ x10).drew)).1.bk).mono ?_
  rintro e x11 ⟨rfl, hb11⟩
  have hbl : Below x10.heap.size x10 x11 := ((Below.refl _ x10).drew).trans hb11
  have HS1 := hide (unhide HST x11 hbl).2.1
  have HBL := hide hbl
  clear hb11 hbl
  refine hK.out _ _ (unhide HS1) (fun hS => ?_)
  clear hK K
  refine wpAnyH_ready (rs := [7]) (by kernel_rfl) (by simp) ?_
  refine AllReadyH.cons rfl (fun K hK => ?_) AllReadyH.nil
  simp only [List.getElem_toArray, List.getElem_cons_succ, List.getElem_cons_zero]
  go_simp
  rw [← unhide HFW]
  simp only [fnV]
  go_simp
  rw [unhide HKW, Oper.upon_enter]
  refine (unhide HW _).mono ?_
  rintro e x12 ⟨rfl, hb12⟩
  have hbl : Below x10.heap.size x10 x12 := (unhide HBL).trans (hb12.mono (unhide HBL).size)
  have HS2 := hide (unhide HST x12 hbl).2.1
  have HSL := HS2
  have HFI := hide (show TKept w0 w b jb pb tb X a cap S L A hn Mw Mn R x12 from ⟨S5, (unhide HST _ hbl).1.less (fun x q => .inl (.inl (.inl (.inl q)))) (unhide HXT), (unhide HT7).1, (unhide HT7).2, (unhide HST _ hbl).2.2⟩)
  clear hb12 hbl
  refine hK.out _ _ (unhide HS2) (fun hS => ?_)
  clear hK K
  refine wpAnyH_takeD 8 (some 8) (.int .i64 E) rfl rfl (by kernel_rfl) (by kernel_rfl) (by kernel_rfl) (fun _ _ _ h => h) (Or.inl ⟨by rfl, fun w hSw => by have a0 : w.cell? ⟨g, 0, none⟩ = some fw := Blk.cell hSw.2.2.1 0; have a1 : w.cell? ⟨g, 1, none⟩ = some fd := Blk.cell hSw.2.2.1 1; have a2 : w.cell? ⟨g + 1, 0, none⟩ = some (.int .i64 kk) := Blk.cell hSw.2.2.2 0; clear hSw; go_simp⟩) hS ?_
  simp only [Act.put, List.setIfInBounds_toArray, List.set_cons_zero, List.set_cons_succ]
  refine wpAnyH_done (by kernel_rfl) ?_ _
  clear hS HS0 HSL
  have hE' : (E != 0) = true := by simpa using hE
  clear hE
  go_wp2
  go_ret
  exact ⟨rfl, unhide HFI⟩
set_option maxRecDepth 100000 in
set_option maxHeartbeats 2000000 in
theorem tChg_ok {w0 w : World} {b jb pb tb : Nat} {X : Nat → Prop} {a cap : Nat} {S : PS} {L : List ByteArray} {A : List (Nat × Nat)} {hn : Nat} {Mw Mn : List ByteArray} {R : Nat → Rc} (h : TG w0 w b jb pb tb X a cap S L A hn Mw Mn R) (ho : S.op = true) (k : Nat) (hk : k < 8) (kw kd : Nat) (hKW : ∀ args W, (callFunc kw args).run Tryz.prog W = .ok (.enter kw args) W) (hKD : ∀ args W, (callFunc kd args).run Tryz.prog W = .ok (.enter kd args) W) (q a0 b0 : Nat) (m : Int) (ha : AOk (k + 1) q a0 b0) (E : Int) (hW : ∀ W, Calls Tryz.prog kw #[.agg (rV (R k)).toArray, .int .i64 ((cap : Int) - (qs R 8 : Int)), akA (k + 1) q a0 b0 m] W fun e w' => e = .returned (.int .i64 E) ∧ Below W.heap.size W w') (hE : E = 0) (r2 : Rc) (hr2 : ROk r2) (hD : ∀ W, Calls Tryz.prog kd #[.agg (rV (R k)).toArray, akA (k + 1) q a0 b0 m] W fun e w' => e = .returned (.agg (rV r2).toArray) ∧ Below W.heap.size W w') : Calls Tryz.prog 36 #[.pointer (some ⟨tb, 0, none⟩), .agg #[fnV kw, fnV kd], akA (k + 1) q a0 b0 m] w fun e w' => e = .returned (.int .i64 E) ∧ TChg w0 w b jb pb tb X a cap S L A hn Mw (ups R k r2) w' := by
  obtain ⟨g, hg⟩ : ∃ xx, w.heap.size = xx := ⟨_, rfl⟩
  have HRT := hide (fun W => isRight_ok (k + 1) q a0 b0 m ha W)
  have HOF := hide (fun W => rOf_any R k hk W)
  have HW := hide hW
  have HKW := hide hKW
  have HKD := hide hKD
  clear hKW hKD
  have HD := hide hD
  have HSO := hide (fun W => sectorOf_any (k + 1) (by omega) r2 hr2 W)
  have HR := hide h.ok
  have HLO := hide (And.intro h.lo (And.intro h.hi h.cp))
  have hzl := lC_len R
  have hzo := lC_one R
  have hyl := rV_len (R k)
  have hyo := rV_one (R k)
  have HLF := hide (fun W (q : Blk W tb (Tbv pb a cap) 85) => left_any q h.cp R h.ok)
  obtain ⟨lf, hlf⟩ : ∃ xx, (cap : Int) - (qs R 8 : Int) = xx := ⟨_, rfl⟩
  obtain ⟨kk, hkk⟩ : ∃ xx, ((k + 1 : Nat) : Int) = xx := ⟨_, rfl⟩
  obtain ⟨zs, hzs⟩ : ∃ xx, lC R = xx := ⟨_, rfl⟩
  obtain ⟨ys, hys⟩ : ∃ xx, rV (R k) = xx := ⟨_, rfl⟩
  unfold akA at HRT HW HD ⊢
  rw [hlf] at HLF HW
  rw [hkk] at HRT HW HOF HD HSO ⊢
  rw [hzs] at HLF HOF hzl hzo
  rw [hys] at HW HD HOF hyl hyo
  have HSC := hide (fun W (q : Blk W tb (Tbv pb a cap) 85) => tSector_any q (by have := h.hi; omega) k hk)
  rw [hkk] at HSC
  have HZQ := hide hzs
  have HRQ := hide (fun W (G : TG w0 W b jb pb tb (fun x => (fun x => X x ∨ x = g) x ∨ x = g + 1) a cap S L A hn Mw Mn R) => tRead_any G)
  rw [hzs] at HRQ
  have HKQ := hide hkk
  obtain ⟨fw, hfw⟩ : ∃ xx, fnV kw = xx := ⟨_, rfl⟩
  obtain ⟨fd, hfd⟩ : ∃ xx, fnV kd = xx := ⟨_, rfl⟩
  rw [hfw, hfd]
  have HFW := hide hfw
  have HFD := hide hfd
  obtain ⟨x1, hx1⟩ : ∃ xx, w.alloc (.cells #[fw, fd] 102) = xx := ⟨_, rfl⟩
  have hg1 : x1.heap.size = g + 1 := by rw [← hx1, ← hg]; simp
  obtain ⟨x2, hx2⟩ : ∃ xx, x1.alloc (.cells #[.int .i64 kk, .int .i64 (q : Int), .int .i64 (a0 : Int), .int .i64 (b0 : Int), .int .i64 m] 107) = xx := ⟨_, rfl⟩
  have G1 := h.add _ hx1 hg
  have G2 := G1.add _ hx2 hg1
  have B1 : Blk x2 g #[fw, fd] 102 := by rw [← hx2, ← hx1, ← hg]; exact (Blk.new w _ _).alloc _
  have B2 : Blk x2 (g + 1) #[.int .i64 kk, .int .i64 (q : Int), .int .i64 (a0 : Int), .int .i64 (b0 : Int), .int .i64 m] 107 := by rw [← hx2, ← hg1]; exact Blk.new x1 _ _
  have hO2 : Only (fun x => ¬ X x) w x2 := by rw [← hx2, ← hx1]; exact ((Only.refl _ w).alloc _).alloc _
  have k0 : x2.cell? ⟨g + 1, 0, none⟩ = some (.int .i64 kk) := B2.cell 0
  have k1 : x2.cell? ⟨g + 1, 1, none⟩ = some (.int .i64 (q : Int)) := B2.cell 1
  have k2 : x2.cell? ⟨g + 1, 2, none⟩ = some (.int .i64 (a0 : Int)) := B2.cell 2
  have k3 : x2.cell? ⟨g + 1, 3, none⟩ = some (.int .i64 (b0 : Int)) := B2.cell 3
  have k4 : x2.cell? ⟨g + 1, 4, none⟩ = some (.int .i64 m) := B2.cell 4
  have X2 := hide (And.intro G2 (And.intro B1 (And.intro B2 hO2)))
  have HXT := hide h.xt
  clear G1 G2 B1 B2 hO2 hW h ha hlf hkk hzs hys hfw hfd hD
  go_enter Tryz.func36, Tryz.ntmps36
  go_wp2_with fail
  clear hx1 hx2 hg1
  refine (unhide HRT _).mono ?_
  rintro e x3 ⟨rfl, hb3⟩
  obtain ⟨G2, B1, B2, hO2⟩ := unhide X2
  have G3 := G2.below hb3
  have HCG := hide (tChange_ok G3 ho)
  have X3 := hide (And.intro (B1.below hb3 B1.lt) (And.intro (B2.below hb3 B2.lt) (hO2.trans (Only.of_below (P := fun x => ¬ X x) hb3) (fun _ _ q => q))))
  clear G2 B1 B2 hO2 hb3 G3 X2 k0 k1 k2 k3 k4 HRT
  go_wp2_with fail
  refine (unhide HCG).mono ?_
  rintro e x4 ⟨rfl, G4, hO4⟩
  obtain ⟨B1, B2, hO3⟩ := unhide X3
  have HRD := hide (unhide HRQ _ G4)
  have X4 := hide (And.intro (B1.only hO4 (fun q => q (.inl (.inr rfl)))) (And.intro (B2.only hO4 (fun q => q (.inr rfl))) (hO3.trans hO4 (fun x _ q r => q (.inl (.inl r))))))
  clear B1 B2 hO3 G4 hO4 X3 HCG HRQ
  go_wp2_with fail
  refine (unhide HRD).mono ?_
  rintro e x5 ⟨rfl, S5, G5, ho5, hT5, hO5⟩
  obtain ⟨B1, B2, hO4⟩ := unhide X4
  have B15 := B1.only hO5 (fun q => q (.inl (.inr rfl)))
  have B25 := B2.only hO5 (fun q => q (.inr rfl))
  have hO45 : Only (fun x => ¬ X x) w x5 := hO4.trans hO5 (fun x _ q r => q (.inl (.inl r)))
  obtain ⟨h7, hh7⟩ : ∃ xx, x5.heap.size = xx := ⟨_, rfl⟩
  obtain ⟨x6, hx6⟩ : ∃ xx, x5.alloc (.cells Tryz.zeroCells90 90) = xx := ⟨_, rfl⟩
  have BZ6 : Blk x6 h7 Tryz.zeroCells90 90 := by rw [← hx6, ← hh7]; exact Blk.new x5 _ _
  have hzz : (Tryz.zeroCells90).size = 160 := by rw [← lC_zero]; simp [lC_len]
  have TH6 := hide (blk_there BZ6 zs.toArray.size (by rw [hzz]; simp [hzl]))
  have B7 := setCells_all BZ6 zs (by rw [hzz, hzl])
  have hb6 : Below x5.heap.size x5 x6 := by rw [← hx6]; exact (Below.refl _ x5).alloc (Nat.le_refl _) _
  have hb7 : Below x5.heap.size x5 (x6.setCells h7 0 zs) := below_setCells (by omega) zs 0 hb6
  obtain ⟨x7, hx7⟩ : ∃ xx, x6.setCells h7 0 zs = xx := ⟨_, rfl⟩
  rw [hx7] at B7 hb7
  have R7 := hide (blk_range B7)
  have HZL := hide hzl
  have HZO := hide hzo
  have B27 := B25.below hb7 B25.lt
  have k0 : x7.cell? ⟨g + 1, 0, none⟩ = some (.int .i64 kk) := B27.cell 0
  have G7 : TG w0 x7 b jb pb tb (fun x => (fun x => (fun x => X x ∨ x = g) x ∨ x = g + 1) x ∨ x = h7) a cap S5 L A hn Mw Mn R := G5.more hb7 (fun x q => q.imp_right (fun e => by rw [e]; exact ⟨by omega, B7.lt⟩)) (.inl G5.xt)
  have X7 := hide (And.intro G7 (And.intro ho5 (And.intro hT5 (And.intro (hO45.trans (Only.of_below (P := fun x => ¬ X x) hb7) (fun _ _ q => q)) (And.intro B7 (And.intro (B15.below hb7 B15.lt) B27))))))
  clear B1 B2 hO4 B15 B25 hO45 BZ6 hzz B7 hb6 hb7 hzl hzo B27 G5 G7 ho5 hT5 hO5 X4 HRD
  go_wp2_with (first | refine wpList_store_mid rfl 90 (.tmp 7) (.tmp 19) rfl h7 0 zs.toArray rfl rfl (unhide TH6) (by rw [sizeRol]; simp [unhide HZL]) (unhide HZO) ?_ | refine wpList_load_mid rfl 90 (.tmp 7) rfl h7 0 rfl _ _ (unhide R7) Tryz.underlying90 rfl (by rw [sizeRol, unhide HZL]) ?_)
  clear hx6 hx7 hh7 TH6 R7 k0 HZO
  refine (unhide HOF _).mono ?_
  rintro e x8 ⟨rfl, hb8⟩
  obtain ⟨G7, ho7, hT7, hO7, B7, BF7, BA7⟩ := unhide X7
  have G8 := G7.below hb8
  have B8 := B7.below hb8 B7.lt
  have BF8 := BF7.below hb8 BF7.lt
  have BA8 := BA7.below hb8 BA7.lt
  have hO8 := hO7.trans (Only.of_below (P := fun x => ¬ X x) hb8) (fun _ _ q => q)
  obtain ⟨h9, hh9⟩ : ∃ xx, x8.heap.size = xx := ⟨_, rfl⟩
  obtain ⟨x9, hx9⟩ : ∃ xx, x8.alloc (.cells #[.bool false, .int .i64 0, .int .i64 0, .int .i64 0, .int .i64 0, .int .i64 0, .int .i64 0, .int .i64 0, .int .i64 0, .int .i64 0, .int .i64 0, .int .i64 0, .int .i64 0, .int .i64 0, .int .i64 0, .int .i64 0, .int .i64 0, .int .i64 0, .int .i64 0, .int .i64 0] 88) = xx := ⟨_, rfl⟩
  have BZ9 : Blk x9 h9 #[.bool false, .int .i64 0, .int .i64 0, .int .i64 0, .int .i64 0, .int .i64 0, .int .i64 0, .int .i64 0, .int .i64 0, .int .i64 0, .int .i64 0, .int .i64 0, .int .i64 0, .int .i64 0, .int .i64 0, .int .i64 0, .int .i64 0, .int .i64 0, .int .i64 0, .int .i64 0] 88 := by rw [← hx9, ← hh9]; exact Blk.new x8 _ _
  have TH9 := hide (blk_there BZ9 ys.toArray.size (by simp [hyl]))
  have B10 := setCells_all BZ9 ys (by simp [hyl])
  have hb9 : Below x8.heap.size x8 x9 := by rw [← hx9]; exact (Below.refl _ x8).alloc (Nat.le_refl _) _
  have hb10 : Below x8.heap.size x8 (x9.setCells h9 0 ys) := below_setCells (by omega) ys 0 hb9
  obtain ⟨x10, hx10⟩ : ∃ xx, x9.setCells h9 0 ys = xx := ⟨_, rfl⟩
  rw [hx10] at B10 hb10
  have HYL := hide hyl
  have HYO := hide hyo
  have G10 : TG w0 x10 b jb pb tb (fun x => (fun x => (fun x => (fun x => X x ∨ x = g) x ∨ x = g + 1) x ∨ x = h7) x ∨ x = h9) a cap S5 L A hn Mw Mn R := G8.more hb10 (fun x q => q.imp_right (fun e => by rw [e]; exact ⟨by omega, B10.lt⟩)) (.inl G8.xt)
  have HST := hide (show ∀ W, Below x10.heap.size x10 W → TG w0 W b jb pb tb (fun x => (fun x => (fun x => (fun x => X x ∨ x = g) x ∨ x = g + 1) x ∨ x = h7) x ∨ x = h9) a cap S5 L A hn Mw Mn R ∧ (Blk W h7 zs.toArray 90 ∧ Blk W h9 ys.toArray 88 ∧ Blk W g #[fw, fd] 102 ∧ Blk W (g + 1) #[.int .i64 kk, .int .i64 (q : Int), .int .i64 (a0 : Int), .int .i64 (b0 : Int), .int .i64 m] 107) ∧ Only (fun x => ¬ X x) w W from fun W hW => by
    have hB : Below x8.heap.size x8 W := hb10.trans (hW.mono hb10.size)
    exact ⟨G10.below hW, ⟨B8.below hB B8.lt, B10.below hW B10.lt, BF8.below hB BF8.lt, BA8.below hB BA8.lt⟩, hO8.trans (Only.of_below (P := fun x => ¬ X x) hB) (fun _ _ q => q)⟩)
  have HS0 := hide (unhide HST x10 (Below.refl _ _)).2.1
  have HT7 := hide (And.intro ho7 hT7)
  clear G7 ho7 hT7 hO7 B7 BF7 BA7 G8 G10 B8 BF8 BA8 hO8 BZ9 B10 hb9 hb10 hyl hyo hb8 X7 HOF
  go_wp2_with (refine wpList_store_mid rfl 88 (.tmp 9) (.tmp 27) rfl h9 0 ys.toArray rfl rfl (unhide TH9) (by rw [sizeRec]; simp [unhide HYL]) (unhide HYO) ?_)
  first | rw [hx10] | rw [List.toList_toArray, hx10]
  clear hx9 hx10 hh9 TH9 HYO
  refine wp_region_held_drew (S := fun w' => Blk w' h7 zs.toArray 90 ∧ Blk w' h9 ys.toArray 88 ∧ Blk w' g #[fw, fd] 102 ∧ Blk w' (g + 1) #[.int .i64 kk, .int .i64 (q : Int), .int .i64 (a0 : Int), .int .i64 (b0 : Int), .int .i64 m] 107) (by kernel_rfl) (unhide HS0) ?_
  intro hS
  refine wpAnyH_takeD 0 (some 28) (.pointer (some ⟨g, 0, none⟩)) rfl rfl (by kernel_rfl) (by kernel_rfl) (by kernel_rfl) (fun _ _ _ h => h) (Or.inl ⟨by rfl, fun w hSw => by have a0 : w.cell? ⟨g, 0, none⟩ = some fw := Blk.cell hSw.2.2.1 0; have a1 : w.cell? ⟨g, 1, none⟩ = some fd := Blk.cell hSw.2.2.1 1; have a2 : w.cell? ⟨g + 1, 0, none⟩ = some (.int .i64 kk) := Blk.cell hSw.2.2.2 0; clear hSw; go_simp⟩) hS ?_
  simp only [Act.put, List.setIfInBounds_toArray, List.set_cons_zero, List.set_cons_succ]
  refine wpAnyH_takeD 1 (some 29) (fw) rfl rfl (by kernel_rfl) (by kernel_rfl) (by kernel_rfl) (fun _ _ _ h => h) (Or.inl ⟨by rfl, fun w hSw => by have a0 : w.cell? ⟨g, 0, none⟩ = some fw := Blk.cell hSw.2.2.1 0; have a1 : w.cell? ⟨g, 1, none⟩ = some fd := Blk.cell hSw.2.2.1 1; have a2 : w.cell? ⟨g + 1, 0, none⟩ = some (.int .i64 kk) := Blk.cell hSw.2.2.2 0; clear hSw; go_simp⟩) hS ?_
  simp only [Act.put, List.setIfInBounds_toArray, List.set_cons_zero, List.set_cons_succ]
  refine wpAnyH_takeD 2 (some 30) (.agg ys.toArray) rfl rfl (by kernel_rfl) (by kernel_rfl) (by kernel_rfl) (fun _ _ _ h => h) (yieldsIf_load_mid (by rfl) 88 (.tmp 9) rfl h9 0 rfl _ _ (fun w hSw => blk_range hSw.2.1) Tryz.underlying88 rfl (by rw [sizeRec, unhide HYL])) hS ?_
  simp only [Act.put, List.setIfInBounds_toArray, List.set_cons_zero, List.set_cons_succ]
  refine wpAnyH_takeD 3 (some 31) (.pointer (some ⟨tb, 0, none⟩)) rfl rfl (by kernel_rfl) (by kernel_rfl) (by kernel_rfl) (fun _ _ _ h => h) (Or.inl ⟨by rfl, fun w hSw => by have a0 : w.cell? ⟨g, 0, none⟩ = some fw := Blk.cell hSw.2.2.1 0; have a1 : w.cell? ⟨g, 1, none⟩ = some fd := Blk.cell hSw.2.2.1 1; have a2 : w.cell? ⟨g + 1, 0, none⟩ = some (.int .i64 kk) := Blk.cell hSw.2.2.2 0; clear hSw; go_simp⟩) hS ?_
  simp only [Act.put, List.setIfInBounds_toArray, List.set_cons_zero, List.set_cons_succ]
  refine wpAnyH_takeD 4 (some 32) (.agg zs.toArray) rfl rfl (by kernel_rfl) (by kernel_rfl) (by kernel_rfl) (fun _ _ _ h => h) (yieldsIf_load_mid (by rfl) 90 (.tmp 7) rfl h7 0 rfl _ _ (fun w hSw => blk_range hSw.1) Tryz.underlying90 rfl (by rw [sizeRol, unhide HZL])) hS ?_
  simp only [Act.put, List.setIfInBounds_toArray, List.set_cons_zero, List.set_cons_succ]
  refine wpAnyH_takeD 6 (some 34) (.agg #[.int .i64 kk, .int .i64 (q : Int), .int .i64 (a0 : Int), .int .i64 (b0 : Int), .int .i64 m]) rfl rfl (by kernel_rfl) (by kernel_rfl) (by kernel_rfl) (fun _ _ _ h => h) (yieldsIf_load_mid (by rfl) 107 (.tmp 5) rfl (g + 1) 0 rfl [.int .i64 kk, .int .i64 (q : Int), .int .i64 (a0 : Int), .int .i64 (b0 : Int), .int .i64 m] _ (fun w hSw => blk_range hSw.2.2.2) Tryz.underlying107 rfl (by rw [sizeAsk]; rfl)) hS ?_
  simp only [Act.put, List.setIfInBounds_toArray, List.set_cons_zero, List.set_cons_succ]
  refine wpAnyH_ready (rs := [5]) (by kernel_rfl) (by simp) ?_
  refine AllReadyH.cons rfl (fun K hK => ?_) AllReadyH.nil
  simp only [List.getElem_toArray, List.getElem_cons_succ, List.getElem_cons_zero]
  go_simp
  refine (unhide HLF _ (unhide HST _ ((Below.refl _ x10).drew)).1.bk).mono ?_
  rintro e x11 ⟨rfl, hb11⟩
  have hbl : Below x10.heap.size x10 x11 := ((Below.refl _ x10).drew).trans hb11
  have HS1 := hide (unhide HST x11 hbl).2.1
  have HBL := hide hbl
  clear hb11 hbl
  refine hK.out _ _ (unhide HS1) (fun hS => ?_)
  clear hK K
  refine wpAnyH_ready (rs := [7]) (by kernel_rfl) (by simp) ?_
  refine AllReadyH.cons rfl (fun K hK => ?_) AllReadyH.nil
  simp only [List.getElem_toArray, List.getElem_cons_succ, List.getElem_cons_zero]
  go_simp
  rw [← unhide HFW]
  simp only [fnV]
  go_simp
  rw [unhide HKW, Oper.upon_enter]
  refine (unhide HW _).mono ?_
  rintro e x12 ⟨rfl, hb12⟩
  have hbl : Below x10.heap.size x10 x12 := (unhide HBL).trans (hb12.mono (unhide HBL).size)
  have HS2 := hide (unhide HST x12 hbl).2.1
  have HSL := HS2
  have HBM := hide hbl
  clear hb12 hbl
  refine hK.out _ _ (unhide HS2) (fun hS => ?_)
  clear hK K
  refine wpAnyH_takeD 8 (some 8) (.int .i64 E) rfl rfl (by kernel_rfl) (by kernel_rfl) (by kernel_rfl) (fun _ _ _ h => h) (Or.inl ⟨by rfl, fun w hSw => by have a0 : w.cell? ⟨g, 0, none⟩ = some fw := Blk.cell hSw.2.2.1 0; have a1 : w.cell? ⟨g, 1, none⟩ = some fd := Blk.cell hSw.2.2.1 1; have a2 : w.cell? ⟨g + 1, 0, none⟩ = some (.int .i64 kk) := Blk.cell hSw.2.2.2 0; clear hSw; go_simp⟩) hS ?_
  simp only [Act.put, List.setIfInBounds_toArray, List.set_cons_zero, List.set_cons_succ]
  refine wpAnyH_done (by kernel_rfl) ?_ _
  clear hS HS0 HSL
  subst hE
  go_wp2
  have HQ0 := hide (show ∀ W, Below x10.heap.size x10 W → (fun w' => Blk w' h7 zs.toArray 90 ∧ Blk w' h9 ys.toArray 88 ∧ Blk w' g #[fw, fd] 102 ∧ Blk w' (g + 1) #[.int .i64 kk, .int .i64 (q : Int), .int .i64 (a0 : Int), .int .i64 (b0 : Int), .int .i64 m] 107 ∧ w'.cell? ⟨tb, 0, none⟩ = some (.pointer (some ⟨pb, 0, none⟩))) W from fun W hW => ⟨(unhide HST W hW).2.1.1, (unhide HST W hW).2.1.2.1, (unhide HST W hW).2.1.2.2.1, (unhide HST W hW).2.1.2.2.2, (unhide HST W hW).1.c0⟩)
  have HQ1 := hide (unhide HQ0 x12 (unhide HBM))
  refine wp_region_held_drew (S := fun w' => Blk w' h7 zs.toArray 90 ∧ Blk w' h9 ys.toArray 88 ∧ Blk w' g #[fw, fd] 102 ∧ Blk w' (g + 1) #[.int .i64 kk, .int .i64 (q : Int), .int .i64 (a0 : Int), .int .i64 (b0 : Int), .int .i64 m] 107 ∧ w'.cell? ⟨tb, 0, none⟩ = some (.pointer (some ⟨pb, 0, none⟩))) (by kernel_rfl) (unhide HQ1) ?_
  intro hS
  refine wpAnyH_takeD 0 (some 39) (.pointer (some ⟨tb, 0, none⟩)) rfl rfl (by kernel_rfl) (by kernel_rfl) (by kernel_rfl) (fun _ _ _ h => h) (Or.inl ⟨by rfl, fun w hSw => by have a0 : w.cell? ⟨g, 0, none⟩ = some fw := Blk.cell hSw.2.2.1 0; have a1 : w.cell? ⟨g, 1, none⟩ = some fd := Blk.cell hSw.2.2.1 1; have a2 : w.cell? ⟨g + 1, 0, none⟩ = some (.int .i64 kk) := Blk.cell hSw.2.2.2.1 0; have a3 := hSw.2.2.2.2; clear hSw; go_simp⟩) hS ?_
  simp only [Act.put, List.setIfInBounds_toArray, List.set_cons_zero, List.set_cons_succ]
  refine wpAnyH_takeD 1 (some 40) (.pointer (some ⟨tb, 0, none⟩)) rfl rfl (by kernel_rfl) (by kernel_rfl) (by kernel_rfl) (fun _ _ _ h => h) (Or.inl ⟨by rfl, fun w hSw => by have a0 : w.cell? ⟨g, 0, none⟩ = some fw := Blk.cell hSw.2.2.1 0; have a1 : w.cell? ⟨g, 1, none⟩ = some fd := Blk.cell hSw.2.2.1 1; have a2 : w.cell? ⟨g + 1, 0, none⟩ = some (.int .i64 kk) := Blk.cell hSw.2.2.2.1 0; have a3 := hSw.2.2.2.2; clear hSw; go_simp⟩) hS ?_
  simp only [Act.put, List.setIfInBounds_toArray, List.set_cons_zero, List.set_cons_succ]
  refine wpAnyH_takeD 2 (some 41) (.pointer (some ⟨tb, 0, none⟩)) rfl rfl (by kernel_rfl) (by kernel_rfl) (by kernel_rfl) (fun _ _ _ h => h) (Or.inl ⟨by rfl, fun w hSw => by have a0 : w.cell? ⟨g, 0, none⟩ = some fw := Blk.cell hSw.2.2.1 0; have a1 : w.cell? ⟨g, 1, none⟩ = some fd := Blk.cell hSw.2.2.1 1; have a2 : w.cell? ⟨g + 1, 0, none⟩ = some (.int .i64 kk) := Blk.cell hSw.2.2.2.1 0; have a3 := hSw.2.2.2.2; clear hSw; go_simp⟩) hS ?_
  simp only [Act.put, List.setIfInBounds_toArray, List.set_cons_zero, List.set_cons_succ]
  refine wpAnyH_takeD 3 (some 42) (.pointer (some ⟨pb, 0, none⟩)) rfl rfl (by kernel_rfl) (by kernel_rfl) (by kernel_rfl) (fun _ _ _ h => h) (Or.inl ⟨by rfl, fun w hSw => by have a0 : w.cell? ⟨g, 0, none⟩ = some fw := Blk.cell hSw.2.2.1 0; have a1 : w.cell? ⟨g, 1, none⟩ = some fd := Blk.cell hSw.2.2.1 1; have a2 : w.cell? ⟨g + 1, 0, none⟩ = some (.int .i64 kk) := Blk.cell hSw.2.2.2.1 0; have a3 := hSw.2.2.2.2; clear hSw; go_simp⟩) hS ?_
  simp only [Act.put, List.setIfInBounds_toArray, List.set_cons_zero, List.set_cons_succ]
  refine wpAnyH_takeD 4 (some 43) (.pointer (some ⟨tb, 0, none⟩)) rfl rfl (by kernel_rfl) (by kernel_rfl) (by kernel_rfl) (fun _ _ _ h => h) (Or.inl ⟨by rfl, fun w hSw => by have a0 : w.cell? ⟨g, 0, none⟩ = some fw := Blk.cell hSw.2.2.1 0; have a1 : w.cell? ⟨g, 1, none⟩ = some fd := Blk.cell hSw.2.2.1 1; have a2 : w.cell? ⟨g + 1, 0, none⟩ = some (.int .i64 kk) := Blk.cell hSw.2.2.2.1 0; have a3 := hSw.2.2.2.2; clear hSw; go_simp⟩) hS ?_
  simp only [Act.put, List.setIfInBounds_toArray, List.set_cons_zero, List.set_cons_succ]
  refine wpAnyH_takeD 5 (some 44) (.pointer (some ⟨g + 1, 0, none⟩)) rfl rfl (by kernel_rfl) (by kernel_rfl) (by kernel_rfl) (fun _ _ _ h => h) (Or.inl ⟨by rfl, fun w hSw => by have a0 : w.cell? ⟨g, 0, none⟩ = some fw := Blk.cell hSw.2.2.1 0; have a1 : w.cell? ⟨g, 1, none⟩ = some fd := Blk.cell hSw.2.2.1 1; have a2 : w.cell? ⟨g + 1, 0, none⟩ = some (.int .i64 kk) := Blk.cell hSw.2.2.2.1 0; have a3 := hSw.2.2.2.2; clear hSw; go_simp⟩) hS ?_
  simp only [Act.put, List.setIfInBounds_toArray, List.set_cons_zero, List.set_cons_succ]
  refine wpAnyH_takeD 6 (some 45) (.int .i64 kk) rfl rfl (by kernel_rfl) (by kernel_rfl) (by kernel_rfl) (fun _ _ _ h => h) (Or.inl ⟨by rfl, fun w hSw => by have a0 : w.cell? ⟨g, 0, none⟩ = some fw := Blk.cell hSw.2.2.1 0; have a1 : w.cell? ⟨g, 1, none⟩ = some fd := Blk.cell hSw.2.2.1 1; have a2 : w.cell? ⟨g + 1, 0, none⟩ = some (.int .i64 kk) := Blk.cell hSw.2.2.2.1 0; have a3 := hSw.2.2.2.2; clear hSw; go_simp⟩) hS ?_
  simp only [Act.put, List.setIfInBounds_toArray, List.set_cons_zero, List.set_cons_succ]
  refine wpAnyH_takeD 8 (some 47) (.pointer (some ⟨g + 1, 0, none⟩)) rfl rfl (by kernel_rfl) (by kernel_rfl) (by kernel_rfl) (fun _ _ _ h => h) (Or.inl ⟨by rfl, fun w hSw => by have a0 : w.cell? ⟨g, 0, none⟩ = some fw := Blk.cell hSw.2.2.1 0; have a1 : w.cell? ⟨g, 1, none⟩ = some fd := Blk.cell hSw.2.2.1 1; have a2 : w.cell? ⟨g + 1, 0, none⟩ = some (.int .i64 kk) := Blk.cell hSw.2.2.2.1 0; have a3 := hSw.2.2.2.2; clear hSw; go_simp⟩) hS ?_
  simp only [Act.put, List.setIfInBounds_toArray, List.set_cons_zero, List.set_cons_succ]
  refine wpAnyH_takeD 9 (some 48) (.int .i64 kk) rfl rfl (by kernel_rfl) (by kernel_rfl) (by kernel_rfl) (fun _ _ _ h => h) (Or.inl ⟨by rfl, fun w hSw => by have a0 : w.cell? ⟨g, 0, none⟩ = some fw := Blk.cell hSw.2.2.1 0; have a1 : w.cell? ⟨g, 1, none⟩ = some fd := Blk.cell hSw.2.2.1 1; have a2 : w.cell? ⟨g + 1, 0, none⟩ = some (.int .i64 kk) := Blk.cell hSw.2.2.2.1 0; have a3 := hSw.2.2.2.2; clear hSw; go_simp⟩) hS ?_
  simp only [Act.put, List.setIfInBounds_toArray, List.set_cons_zero, List.set_cons_succ]
  refine wpAnyH_takeD 10 (some 49) (.pointer (some ⟨g, 1, none⟩)) rfl rfl (by kernel_rfl) (by kernel_rfl) (by kernel_rfl) (fun _ _ _ h => h) (Or.inl ⟨by rfl, fun w hSw => by have a0 : w.cell? ⟨g, 0, none⟩ = some fw := Blk.cell hSw.2.2.1 0; have a1 : w.cell? ⟨g, 1, none⟩ = some fd := Blk.cell hSw.2.2.1 1; have a2 : w.cell? ⟨g + 1, 0, none⟩ = some (.int .i64 kk) := Blk.cell hSw.2.2.2.1 0; have a3 := hSw.2.2.2.2; clear hSw; go_simp⟩) hS ?_
  simp only [Act.put, List.setIfInBounds_toArray, List.set_cons_zero, List.set_cons_succ]
  refine wpAnyH_takeD 11 (some 50) (fd) rfl rfl (by kernel_rfl) (by kernel_rfl) (by kernel_rfl) (fun _ _ _ h => h) (Or.inl ⟨by rfl, fun w hSw => by have a0 : w.cell? ⟨g, 0, none⟩ = some fw := Blk.cell hSw.2.2.1 0; have a1 : w.cell? ⟨g, 1, none⟩ = some fd := Blk.cell hSw.2.2.1 1; have a2 : w.cell? ⟨g + 1, 0, none⟩ = some (.int .i64 kk) := Blk.cell hSw.2.2.2.1 0; have a3 := hSw.2.2.2.2; clear hSw; go_simp⟩) hS ?_
  simp only [Act.put, List.setIfInBounds_toArray, List.set_cons_zero, List.set_cons_succ]
  refine wpAnyH_takeD 12 (some 51) (.agg ys.toArray) rfl rfl (by kernel_rfl) (by kernel_rfl) (by kernel_rfl) (fun _ _ _ h => h) (yieldsIf_load_mid (by rfl) 88 (.tmp 9) rfl h9 0 rfl _ _ (fun w hSw => blk_range hSw.2.1) Tryz.underlying88 rfl (by rw [sizeRec, unhide HYL])) hS ?_
  simp only [Act.put, List.setIfInBounds_toArray, List.set_cons_zero, List.set_cons_succ]
  refine wpAnyH_takeD 13 (some 52) (.agg #[.int .i64 kk, .int .i64 (q : Int), .int .i64 (a0 : Int), .int .i64 (b0 : Int), .int .i64 m]) rfl rfl (by kernel_rfl) (by kernel_rfl) (by kernel_rfl) (fun _ _ _ h => h) (yieldsIf_load_mid (by rfl) 107 (.tmp 5) rfl (g + 1) 0 rfl [.int .i64 kk, .int .i64 (q : Int), .int .i64 (a0 : Int), .int .i64 (b0 : Int), .int .i64 m] _ (fun w hSw => blk_range hSw.2.2.2.1) Tryz.underlying107 rfl (by rw [sizeAsk]; rfl)) hS ?_
  simp only [Act.put, List.setIfInBounds_toArray, List.set_cons_zero, List.set_cons_succ]
  refine wpAnyH_ready (rs := [7]) (by kernel_rfl) (by simp) ?_
  refine AllReadyH.cons rfl (fun K hK => ?_) AllReadyH.nil
  simp only [List.getElem_toArray, List.getElem_cons_succ, List.getElem_cons_zero]
  go_simp
  refine (unhide HSC _ (unhide HST _ ((unhide HBM).trans (((Below.refl _ x12).drew)))).1.bk).mono ?_
  rintro e x13 ⟨rfl, hx13⟩
  subst x13
  have HQ2 := hide (unhide HQ0 _ ((unhide HBM).trans ((Below.refl _ x12).drew)))
  refine hK.out _ _ (unhide HQ2) (fun hS => ?_)
  clear hK K
  refine wpAnyH_ready (rs := [14]) (by kernel_rfl) (by simp) ?_
  refine AllReadyH.cons rfl (fun K hK => ?_) AllReadyH.nil
  simp only [List.getElem_toArray, List.getElem_cons_succ, List.getElem_cons_zero]
  go_simp
  rw [← unhide HFD]
  simp only [fnV]
  go_simp
  rw [unhide HKD, Oper.upon_enter]
  refine (unhide HD _).mono ?_
  rintro e x14 ⟨rfl, hb14⟩
  have hbl : Below x10.heap.size x10 x14 := ((unhide HBM).trans ((Below.refl _ x12).drew)).trans (hb14.mono (((unhide HBM).trans ((Below.refl _ x12).drew)).size))
  have HQ3 := hide (unhide HQ0 x14 hbl)
  have HBN := hide hbl
  clear hb14 hbl
  refine hK.out _ _ (unhide HQ3) (fun hS => ?_)
  clear hK K
  refine wpAnyH_ready (rs := [15]) (by kernel_rfl) (by simp) ?_
  refine AllReadyH.cons rfl (fun K hK => ?_) AllReadyH.nil
  simp only [List.getElem_toArray, List.getElem_cons_succ, List.getElem_cons_zero]
  go_simp
  refine (unhide HSO _).mono ?_
  rintro e x15 ⟨rfl, hb15⟩
  have hbl : Below x10.heap.size x10 x15 := (unhide HBN).trans (hb15.mono (unhide HBN).size)
  have HQ4 := hide (unhide HQ0 x15 hbl)
  have HG15 := hide (unhide HST x15 hbl)
  clear hb15 hbl
  refine hK.out _ _ (unhide HQ4) (fun hS => ?_)
  clear hK K
  refine wpAnyH_ready (rs := [16]) (by kernel_rfl) (by simp) ?_
  refine AllReadyH.cons rfl (fun K hK => ?_) AllReadyH.nil
  simp only [List.getElem_toArray, List.getElem_cons_succ, List.getElem_cons_zero]
  go_simp
  refine ((unhide HG15).1.write ((unhide HT7).1.trans ho) k hk r2 hr2).mono ?_
  rintro e x16 ⟨rfl, hc16⟩
  have hfin : TChg w0 w b jb pb tb X a cap S L A hn Mw (ups R k r2) x16 := by
    obtain ⟨S6, M6, g1, g2, g3, g4⟩ := hc16
    exact ⟨S6, M6, g1.less (fun x q => .inl (.inl (.inl (.inl q)))) (unhide HXT), g2, g3.trans (unhide HT7).2.2, (unhide HG15).2.2.trans g4 (fun x _ q r => q (.inl (.inl (.inl (.inl r)))))⟩
  have HFI := hide hfin
  obtain ⟨S6, M6, g1, g2, g3, g4⟩ := hc16
  obtain ⟨s1, s2, s3, s4, s5⟩ := unhide HQ4
  have HQ5 := hide (show (fun w' => Blk w' h7 zs.toArray 90 ∧ Blk w' h9 ys.toArray 88 ∧ Blk w' g #[fw, fd] 102 ∧ Blk w' (g + 1) #[.int .i64 kk, .int .i64 (q : Int), .int .i64 (a0 : Int), .int .i64 (b0 : Int), .int .i64 m] 107 ∧ w'.cell? ⟨tb, 0, none⟩ = some (.pointer (some ⟨pb, 0, none⟩))) x16 from ⟨s1.only g4 (fun q => q (.inl (.inr rfl))), s2.only g4 (fun q => q (.inr rfl)), s3.only g4 (fun q => q (.inl (.inl (.inl (.inr rfl))))), s4.only g4 (fun q => q (.inl (.inl (.inr rfl)))), g1.c0⟩)
  clear g1 g2 g3 g4 s1 s2 s3 s4 s5 hfin
  refine hK.out _ _ (unhide HQ5) (fun hS => ?_)
  clear hK K
  refine wpAnyH_takeD 17 (some 6) (.int .i64 0) rfl rfl (by kernel_rfl) (by kernel_rfl) (by kernel_rfl) (fun _ _ _ h => h) (Or.inl ⟨by rfl, fun w hSw => by have a0 : w.cell? ⟨g, 0, none⟩ = some fw := Blk.cell hSw.2.2.1 0; have a1 : w.cell? ⟨g, 1, none⟩ = some fd := Blk.cell hSw.2.2.1 1; have a2 : w.cell? ⟨g + 1, 0, none⟩ = some (.int .i64 kk) := Blk.cell hSw.2.2.2.1 0; have a3 := hSw.2.2.2.2; clear hSw; go_simp⟩) hS ?_
  simp only [Act.put, List.setIfInBounds_toArray, List.set_cons_zero, List.set_cons_succ]
  refine wpAnyH_done (by kernel_rfl) ?_ _
  clear hS
  go_wp2
  go_ret
  exact ⟨rfl, unhide HFI⟩
end Go.Proofs.YtpcmifmgkccfnaaGreatDoor
