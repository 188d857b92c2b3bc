import Derived.Test.YtifjmldmilmfjaaGreatDoorMkb18
import Derived.Test.YtifjmldmilmfjaaGreatDoorMkb20
namespace Go.Proofs.YtifjmldmilmfjaaGreatDoor
open Go.RowKit
set_option maxRecDepth 100000
/-- the four ends, the lists -/
structure MkI (w0 : World) (h g1 g2 g3 g4 b1 b2 : Nat) (l : List ByteArray) (W : World) (e : LE) : Prop where
  bel : Below h w0 W
  a : EndM W g1 e
  x : DEnd W g2 e (.slice none 0 0)
  l1 : ∀ k, k < 5 → W.cell? ⟨b1, k, none⟩ = some (.string (l.getD k ⟨#[]⟩))
  l2 : ∀ k, k < 5 → W.cell? ⟨b2, k, none⟩ = some (.string (l.getD k ⟨#[]⟩))
  hb : b1 < W.heap.size ∧ b2 < W.heap.size
  hs : h ≤ W.heap.size
theorem MkI.bel' {w0 : World} {h g1 g2 g3 g4 b1 b2 : Nat} {l : List ByteArray} {W W' : World} {e : LE} (x : MkI w0 h g1 g2 g3 g4 b1 b2 l W e) (hb : Below W.heap.size W W') : MkI w0 h g1 g2 g3 g4 b1 b2 l W' e :=
  ⟨x.bel.trans (hb.mono x.hs), x.a.below hb x.a.lt, x.x.below hb x.x.lt, fun k hk => (hb.cell (p := ⟨b1, k, none⟩) x.hb.1).trans (x.l1 k hk), fun k hk => (hb.cell (p := ⟨b2, k, none⟩) x.hb.2).trans (x.l2 k hk), by have := hb.size; have := x.hb; omega, by have := hb.size; have := x.hs; omega⟩
set_option maxHeartbeats 16000000 in
theorem makes21 (key : ByteArray) (side : Int) (nonce twin other frame : ByteArray) (_hs : I64 side) (hf : frame.size ≤ 140737488351232) (w : World) (hK : KTab w) (hG : ETy w) : Calls Tryz.prog 6 #[.string key, .int .i64 side, .string nonce, .string twin, .string other, .string frame] w fun ev w' => ev = .returned (.bool true) ∧ Below w.heap.size w w' := by
  obtain ⟨h, hh⟩ : ∃ h, w.heap.size = h := ⟨_, rfl⟩
  have hvh : 1 < h := by rw [← hh]; exact hK.1
  have HKB := hide (show ∀ W, Below h w W → KTab W ∧ ETy W from fun W hW => ⟨hK.below (by rw [← hh] at hW; exact hW) hK.1, hG.below (by rw [← hh] at hW; exact hW) hG.lt⟩)
  have HKN := hide (known21 w hK hG)
  have HB := hide (show Below h w w from Below.refl _ _)
  obtain ⟨s2, hs2⟩ : ∃ z, wrap64 (1 - side) = z := ⟨_, rfl⟩
  rw [hh] at HKN ⊢
  clear hK hG
  by_cases hA : newOk key side nonce
  · obtain ⟨i, hi, rfl⟩ : ∃ i : Nat, i < 2 ∧ side = (i : Int) := ⟨side.toNat, by have := hA.2.1; have := hA.2.2.1; omega, by have := hA.2.1; omega⟩
    by_cases hB : newOk twin s2 other
    · obtain ⟨j, hj, rfl⟩ : ∃ j : Nat, j < 2 ∧ s2 = (j : Int) := ⟨s2.toNat, by have := hB.2.1; have := hB.2.2.1; omega, by have := hB.2.1; omega⟩
      have HNA := hide (fun W => lnew_ok key i nonce hA.1 hi hA.2.2.2 W)
      have HRA := hide (fun W => rlnew_ok key i nonce hA.1 hi hA.2.2.2 W)
      have HNB := hide (fun W => lnew_ok twin j other hB.1 hj hB.2.2.2 W)
      have HRB := hide (fun W => rlnew_ok twin j other hB.1 hj hB.2.2.2 W)
      have HI := hide (And.intro hA (And.intro hB (And.intro hi hj)))
      clear hA hB hi hj
      go_enter Tryz.func6, Tryz.ntmps6
      go_wp2_with fail
      refine (unhide HKN).mono ?_
      rintro ev y0 ⟨rfl, hb⟩
      replace HB := hide hb
      clear hb
      go_wp2_with fail
      refine (unhide HNA y0).mono ?_
      rintro ev y1 ⟨g1, hg, rfl, hE, hb⟩
      have hgh1 : h ≤ g1 := by have := (unhide HB).size; omega
      replace HB := hide (show Below h w y1 from (unhide HB).trans (hb.mono (by have := (unhide HB).size; omega)))
      have HX1 := hide hE
      clear hE hb hg
      go_wp2_with fail
      refine (unhide HRA y1).mono ?_
      rintro ev y2 ⟨g2, hg, rfl, hE, hb⟩
      have hgh2 : h ≤ g2 := by have := (unhide HB).size; omega
      have hl12 : g1 < g2 := by have := (unhide HX1).lt; omega
      replace HB := hide (show Below h w y2 from (unhide HB).trans (hb.mono (by have := (unhide HB).size; omega)))
      replace HX1 := hide ((unhide HX1).below hb (unhide HX1).lt)
      have HX2 := hide hE
      clear hE hb hg
      go_wp2_with fail
      refine (unhide HNB y2).mono ?_
      rintro ev y3 ⟨g3, hg, rfl, hE, hb⟩
      have hgh3 : h ≤ g3 := by have := (unhide HB).size; omega
      have hl13 : g1 < g3 := by have := (unhide HX1).lt; omega
      have hl23 : g2 < g3 := by have := (unhide HX2).lt; omega
      replace HB := hide (show Below h w y3 from (unhide HB).trans (hb.mono (by have := (unhide HB).size; omega)))
      replace HX1 := hide ((unhide HX1).below hb (unhide HX1).lt)
      replace HX2 := hide ((unhide HX2).below hb (unhide HX2).lt)
      have HX3 := hide hE
      clear hE hb hg
      go_wp2_with fail
      refine (unhide HRB y3).mono ?_
      rintro ev y4 ⟨g4, hg, rfl, hE, hb⟩
      have hgh4 : h ≤ g4 := by have := (unhide HB).size; omega
      have hl14 : g1 < g4 := by have := (unhide HX1).lt; omega
      have hl24 : g2 < g4 := by have := (unhide HX2).lt; omega
      have hl34 : g3 < g4 := by have := (unhide HX3).lt; omega
      replace HB := hide (show Below h w y4 from (unhide HB).trans (hb.mono (by have := (unhide HB).size; omega)))
      replace HX1 := hide ((unhide HX1).below hb (unhide HX1).lt)
      replace HX2 := hide ((unhide HX2).below hb (unhide HX2).lt)
      replace HX3 := hide ((unhide HX3).below hb (unhide HX3).lt)
      have HX4 := hide hE
      clear hE hb hg
      have HH1 := hide (fun W g (hE : EndM W g (le0 key i nonce)) hKW => lhello_any g _ W hE hKW)
      have HH3 := hide (fun W g (hE : EndM W g (le0 twin j other)) hKW => lhello_any g _ W hE hKW)
      have HH2 := hide (fun W g (hE : DEnd W g (le0 key i nonce) (.slice none 0 0)) => rlhello_any g _ _ W hE)
      have HH4 := hide (fun W g (hE : DEnd W g (le0 twin j other) (.slice none 0 0)) => rlhello_any g _ _ W hE)
      have z1 := heB_size key i nonce
      have z3 := heB_size twin j other
      rw [show (if (le0 key i nonce).c = true then (⟨#[]⟩ : ByteArray) else heB (le0 key i nonce).k (le0 key i nonce).i (le0 key i nonce).n) = heB key i nonce from rfl] at HH1 HH2
      rw [show (if (le0 twin j other).c = true then (⟨#[]⟩ : ByteArray) else heB (le0 twin j other).k (le0 twin j other).i (le0 twin j other).n) = heB twin j other from rfl] at HH3 HH4
      obtain ⟨ha, hha⟩ : ∃ z, heB key i nonce = z := ⟨_, rfl⟩
      obtain ⟨hb9, hhb⟩ : ∃ z, heB twin j other = z := ⟨_, rfl⟩
      rw [hha] at HH1 HH2 z1
      rw [hhb] at HH3 HH4 z3
      have HZ := hide (show ha.size ≤ 140737488351232 ∧ hb9.size ≤ 140737488351232 from ⟨by have := (unhide HI).1.2.2.2; omega, by have := (unhide HI).2.1.2.2.2; omega⟩)
      clear z1 z3 hha hhb
      go_wp2_with fail
      refine (unhide HH1 y4 g1 (unhide HX1) (unhide HKB _ (unhide HB)).1).mono ?_
      rintro ev y5 ⟨rfl, hb⟩
      replace HB := hide (show Below h w y5 from (unhide HB).trans (hb.mono (by have := (unhide HB).size; omega)))
      replace HX1 := hide ((unhide HX1).below hb (unhide HX1).lt)
      replace HX2 := hide ((unhide HX2).below hb (unhide HX2).lt)
      replace HX3 := hide ((unhide HX3).below hb (unhide HX3).lt)
      replace HX4 := hide ((unhide HX4).below hb (unhide HX4).lt)
      clear hb
      go_wp2_with fail
      refine (unhide HH3 y5 g3 (unhide HX3) (unhide HKB _ (unhide HB)).1).mono ?_
      rintro ev y6 ⟨rfl, hb⟩
      replace HB := hide (show Below h w y6 from (unhide HB).trans (hb.mono (by have := (unhide HB).size; omega)))
      replace HX1 := hide ((unhide HX1).below hb (unhide HX1).lt)
      replace HX2 := hide ((unhide HX2).below hb (unhide HX2).lt)
      replace HX3 := hide ((unhide HX3).below hb (unhide HX3).lt)
      replace HX4 := hide ((unhide HX4).below hb (unhide HX4).lt)
      clear hb
      go_wp2_with fail
      refine (unhide HH3 y6 g3 (unhide HX3) (unhide HKB _ (unhide HB)).1).mono ?_
      rintro ev y7 ⟨rfl, hb⟩
      replace HB := hide (show Below h w y7 from (unhide HB).trans (hb.mono (by have := (unhide HB).size; omega)))
      replace HX1 := hide ((unhide HX1).below hb (unhide HX1).lt)
      replace HX2 := hide ((unhide HX2).below hb (unhide HX2).lt)
      replace HX3 := hide ((unhide HX3).below hb (unhide HX3).lt)
      replace HX4 := hide ((unhide HX4).below hb (unhide HX4).lt)
      clear hb
      have hlt12 : g1 < y7.heap.size ∧ g2 < y7.heap.size := ⟨(unhide HX1).lt, (unhide HX2).lt⟩
      obtain ⟨b1, hb1⟩ : ∃ z, y7.heap.size = z := ⟨_, rfl⟩
      obtain ⟨y8, hyy8⟩ : ∃ z, y7.alloc (.cells #[.string frame, .string ha, .string hb9, .string hb9, .string ⟨#[]⟩] 9) = z := ⟨_, rfl⟩
      have hb : Below y7.heap.size y7 y8 := by rw [← hyy8]; exact (Below.refl _ _).alloc (Nat.le_refl _) _
      have HR1 := hide (show Blk y8 b1 #[.string frame, .string ha, .string hb9, .string hb9, .string ⟨#[]⟩] 9 from by rw [← hyy8, ← hb1]; exact Blk.new _ _ _)
      replace HB := hide (show Below h w y8 from (unhide HB).trans (hb.mono (by have := (unhide HB).size; omega)))
      replace HX1 := hide ((unhide HX1).below hb (unhide HX1).lt)
      replace HX2 := hide ((unhide HX2).below hb (unhide HX2).lt)
      replace HX3 := hide ((unhide HX3).below hb (unhide HX3).lt)
      replace HX4 := hide ((unhide HX4).below hb (unhide HX4).lt)
      have HA1 := hide (show b1 ≠ g1 ∧ b1 ≠ g2 from by omega)
      clear hb
      have HXR := hide (show Blk _ _ _ _ from unhide HR1)
      go_wp2_with fail
      refine (unhide HH2 y8 g2 (unhide HX2)).mono ?_
      rintro ev y9 ⟨rfl, hb⟩
      replace HB := hide (show Below h w y9 from (unhide HB).trans (hb.mono (by have := (unhide HB).size; omega)))
      replace HX1 := hide ((unhide HX1).below hb (unhide HX1).lt)
      replace HX2 := hide ((unhide HX2).below hb (unhide HX2).lt)
      replace HX3 := hide ((unhide HX3).below hb (unhide HX3).lt)
      replace HX4 := hide ((unhide HX4).below hb (unhide HX4).lt)
      replace HXR := hide ((unhide HXR).below hb (unhide HXR).lt)
      clear hb
      go_wp2_with fail
      refine (unhide HH4 y9 g4 (unhide HX4)).mono ?_
      rintro ev y10 ⟨rfl, hb⟩
      replace HB := hide (show Below h w y10 from (unhide HB).trans (hb.mono (by have := (unhide HB).size; omega)))
      replace HX1 := hide ((unhide HX1).below hb (unhide HX1).lt)
      replace HX2 := hide ((unhide HX2).below hb (unhide HX2).lt)
      replace HX3 := hide ((unhide HX3).below hb (unhide HX3).lt)
      replace HX4 := hide ((unhide HX4).below hb (unhide HX4).lt)
      replace HXR := hide ((unhide HXR).below hb (unhide HXR).lt)
      clear hb
      go_wp2_with fail
      refine (unhide HH4 y10 g4 (unhide HX4)).mono ?_
      rintro ev y11 ⟨rfl, hb⟩
      replace HB := hide (show Below h w y11 from (unhide HB).trans (hb.mono (by have := (unhide HB).size; omega)))
      replace HX1 := hide ((unhide HX1).below hb (unhide HX1).lt)
      replace HX2 := hide ((unhide HX2).below hb (unhide HX2).lt)
      replace HX3 := hide ((unhide HX3).below hb (unhide HX3).lt)
      replace HX4 := hide ((unhide HX4).below hb (unhide HX4).lt)
      replace HXR := hide ((unhide HXR).below hb (unhide HXR).lt)
      clear hb
      have hlt34 : g1 < y11.heap.size ∧ g2 < y11.heap.size := ⟨(unhide HX1).lt, (unhide HX2).lt⟩
      obtain ⟨b2, hb2⟩ : ∃ z, y11.heap.size = z := ⟨_, rfl⟩
      obtain ⟨y12, hyy12⟩ : ∃ z, y11.alloc (.cells #[.string frame, .string ha, .string hb9, .string hb9, .string ⟨#[]⟩] 9) = z := ⟨_, rfl⟩
      have hb : Below y11.heap.size y11 y12 := by rw [← hyy12]; exact (Below.refl _ _).alloc (Nat.le_refl _) _
      have HR2 := hide (show Blk y12 b2 #[.string frame, .string ha, .string hb9, .string hb9, .string ⟨#[]⟩] 9 from by rw [← hyy12, ← hb2]; exact Blk.new _ _ _)
      replace HB := hide (show Below h w y12 from (unhide HB).trans (hb.mono (by have := (unhide HB).size; omega)))
      replace HX1 := hide ((unhide HX1).below hb (unhide HX1).lt)
      replace HX2 := hide ((unhide HX2).below hb (unhide HX2).lt)
      replace HX3 := hide ((unhide HX3).below hb (unhide HX3).lt)
      replace HX4 := hide ((unhide HX4).below hb (unhide HX4).lt)
      replace HXR := hide ((unhide HXR).below hb (unhide HXR).lt)
      clear hb
      obtain ⟨l, hl⟩ : ∃ z, [frame, ha, hb9, hb9, (⟨#[]⟩ : ByteArray)] = z := ⟨_, rfl⟩
      have HM0 := hide (show MkI w h g1 g2 g3 g4 b1 b2 l y12 (le0 key i nonce) from ⟨unhide HB, unhide HX1, unhide HX2, fun k hk => by rw [(unhide HXR).cell k, ← hl]; match k, hk with | 0, _ => rfl | 1, _ => rfl | 2, _ => rfl | 3, _ => rfl | 4, _ => rfl, fun k hk => by rw [(unhide HR2).cell k, ← hl]; match k, hk with | 0, _ => rfl | 1, _ => rfl | 2, _ => rfl | 3, _ => rfl | 4, _ => rfl, ⟨(unhide HXR).lt, (unhide HR2).lt⟩, by have := (unhide HB).size; omega⟩)
      have HLZ := hide (show ∀ k, k < 5 → (l.getD k ⟨#[]⟩).size ≤ 140737488351232 from fun k hk => by rw [← hl]; match k, hk with | 0, _ => exact hf | 1, _ => exact (unhide HZ).1 | 2, _ => exact (unhide HZ).2 | 3, _ => exact (unhide HZ).2 | 4, _ => exact (show (0 : Nat) ≤ 140737488351232 by decide))
      clear hl HX1 HX2 HX3 HX4 HXR HR1 HR2 HH1 HH2 HH3 HH4 HZ
      have hg12 : g1 ≠ g2 := by omega
      have HBG := hide (show b1 ≠ g1 ∧ b1 ≠ g2 ∧ b2 ≠ g1 ∧ b2 ≠ g2 from by have := unhide HA1; omega)
      clear HA1 hlt12 hlt34
      obtain ⟨e0, he0⟩ : ∃ z, le0 key i nonce = z := ⟨_, rfl⟩
      rw [he0] at HM0
      clear he0
      go_wp2
      go_loopw [24] (fun iv wr => ∃ k : Nat, k ≤ 5 ∧ iv = .int .i64 (k : Int) ∧ ∃ e, Hid (MkI w h g1 g2 g3 g4 b1 b2 l wr e)) (fun iv _ => 5 - (intOf iv).toNat)
      case atStart => exact ⟨0, by omega, rfl, e0, HM0⟩
      case round =>
      clear HM0 HB
      obtain ⟨k, hk, rfl, e, HM⟩ := hrel
      obtain ⟨wi, rfl⟩ : ∃ z, z = wr := ⟨_, rfl⟩
      by_cases hk5 : k < 5
      · have e1 : (k : Int) < 5 := by omega
        have HK5 := hide (show (k : Int) < 5 from e1)
        have hc1 : wi.drew.cell? ⟨b1, k, none⟩ = some (.string (l.getD k ⟨#[]⟩)) := (unhide HM).l1 k hk5
        have hc2 : wi.drew.cell? ⟨b2, k, none⟩ = some (.string (l.getD k ⟨#[]⟩)) := (unhide HM).l2 k hk5
        have hsz := unhide HLZ k hk5
        have HL12 := hide (show (∀ W e, MkI w h g1 g2 g3 g4 b1 b2 l W e → W.cell? ⟨b1, k, none⟩ = some (.string (l.getD k ⟨#[]⟩)) ∧ W.cell? ⟨b2, k, none⟩ = some (.string (l.getD k ⟨#[]⟩))) from fun W e hW => ⟨hW.l1 k hk5, hW.l2 k hk5⟩)
        obtain ⟨s, hs⟩ : ∃ z, l.getD k ⟨#[]⟩ = z := ⟨_, rfl⟩
        rw [hs] at hc1 hc2 hsz HL12
        have hM0 := (unhide HM).bel' (W' := wi.drew) (Below.refl _ _).drew
        have hb12 : b1 ≠ g1 ∧ b1 ≠ g2 ∧ b2 ≠ g1 ∧ b2 ≠ g2 := unhide HBG
        obtain ⟨E, hE9⟩ : ∃ z, e.grE s = z := ⟨_, rfl⟩
        obtain ⟨e', he'⟩ : ∃ z, e.grN s = z := ⟨_, rfl⟩
        obtain ⟨r, hr⟩ : ∃ z, e'.r = z := ⟨_, rfl⟩
        have HC1 := hide (lgreet_any g1 e s (by omega) wi.drew hM0.a (unhide HKB _ hM0.bel).1 (by omega))
        rw [hE9, he'] at HC1
        have HN1 := hide (show ∀ z1, EndM z1 g1 e' → Only (fun k => k = g1) wi.drew z1 → (z1.cell? ⟨b1, k, none⟩ = some (.string s) ∧ z1.cell? ⟨b2, k, none⟩ = some (.string s)) ∧ (EndM z1 g1 e' ∧ Only (fun k => k = g1) wi.drew z1) ∧ Calls Tryz.prog 22 #[.pointer (some ⟨g2, 0, none⟩), .string s] z1 (fun ev w' => ev = .returned (.int .i64 E) ∧ DEnd w' g2 e' (.slice none 0 0) ∧ Only (fun k => k = g2) z1 w') from fun z1 h1 h2 => by
          refine ⟨⟨(World.cell?_of_block (a := ⟨b1, k, none⟩) (h2.2 b1 hM0.hb.1 hb12.1)).trans hc1, (World.cell?_of_block (a := ⟨b2, k, none⟩) (h2.2 b2 hM0.hb.2 hb12.2.2.1)).trans hc2⟩, ⟨h1, h2⟩, ?_⟩
          have := rlgreet_any g2 e (.slice none 0 0) s z1 (hM0.x.only h2 (fun q => hg12 q.symm))
          rw [hE9, he'] at this
          exact this)
        have HN2 := hide (show ∀ z1 z2, (EndM z1 g1 e' ∧ Only (fun k => k = g1) wi.drew z1) → DEnd z2 g2 e' (.slice none 0 0) → Only (fun k => k = g2) z1 z2 → (z2.cell? ⟨b1, k, none⟩ = some (.string s) ∧ z2.cell? ⟨b2, k, none⟩ = some (.string s)) ∧ MkI w h g1 g2 g3 g4 b1 b2 l z2 e' ∧ Calls Tryz.prog 19 #[.pointer (some ⟨g1, 0, none⟩)] z2 (fun ev w' => ev = .returned (.bool r) ∧ Below z2.heap.size z2 w') from fun z1 z2 h1 h2 h3 => by
          have hO : Only (fun k => k = g1 ∨ k = g2) wi.drew z2 := (h1.2.mono (fun _ _ q => .inl q)).trans h3 (fun _ _ q => .inr q)
          have hM2 : MkI w h g1 g2 g3 g4 b1 b2 l z2 e' := ⟨hM0.bel.trans (hO.below hM0.hs (fun k hk q => by omega)), h1.1.only h3 hg12, h2, fun k hk => (World.cell?_of_block (a := ⟨b1, k, none⟩) (hO.2 b1 hM0.hb.1 (by omega))).trans (hM0.l1 k hk), fun k hk => (World.cell?_of_block (a := ⟨b2, k, none⟩) (hO.2 b2 hM0.hb.2 (by omega))).trans (hM0.l2 k hk), by have := hO.size; have := hM0.hb; omega, by have := hO.size; have := hM0.hs; omega⟩
          refine ⟨unhide HL12 _ _ hM2, hM2, ?_⟩
          have := lready_any g1 e' z2 hM2.a
          rw [hr] at this
          exact this)
        have HN3 := hide (show ∀ z2 z3, MkI w h g1 g2 g3 g4 b1 b2 l z2 e' → Below z2.heap.size z2 z3 → (z3.cell? ⟨b1, k, none⟩ = some (.string s) ∧ z3.cell? ⟨b2, k, none⟩ = some (.string s)) ∧ MkI w h g1 g2 g3 g4 b1 b2 l z3 e' ∧ Calls Tryz.prog 23 #[.pointer (some ⟨g2, 0, none⟩)] z3 (fun ev w' => ev = .returned (.bool r) ∧ Below z3.heap.size z3 w') from fun z2 z3 h1 h2 => by
          have hM3 := h1.bel' h2
          refine ⟨unhide HL12 _ _ hM3, hM3, ?_⟩
          have := rlready_any g2 e' _ z3 hM3.x
          rw [hr] at this
          exact this)
        have HN4 := hide (show ∀ z3 z4, MkI w h g1 g2 g3 g4 b1 b2 l z3 e' → Below z3.heap.size z3 z4 → (z4.cell? ⟨b1, k, none⟩ = some (.string s) ∧ z4.cell? ⟨b2, k, none⟩ = some (.string s)) ∧ MkI w h g1 g2 g3 g4 b1 b2 l z4 e' from fun z3 z4 h1 h2 => ⟨unhide HL12 _ _ (h1.bel' h2), h1.bel' h2⟩)
        clear hM0 HM hE9 he' hr hs hsz HL12 hb12 e1
        go_wp2_with fail
        refine wp_region_held_drew (S := fun W => W.cell? ⟨b1, k, none⟩ = some (.string s) ∧ W.cell? ⟨b2, k, none⟩ = some (.string s)) (by kernel_rfl) ⟨hc1, hc2⟩ ?_
        intro hS
        refine wpAnyH_takeD 0 (some 110) (.slice (some ⟨b1, 0, none⟩) 5 5) rfl rfl (by kernel_rfl) (by kernel_rfl) (by kernel_rfl) (fun _ _ _ h => h) (Or.inl ⟨by rfl, fun w hSw => by have hq1 := hSw.1; have hq2 := hSw.2; clear hSw; have hk5 := unhide HK5; go_simp⟩) hS ?_
        simp only [Act.put, List.setIfInBounds_toArray, List.set_cons_zero, List.set_cons_succ]
        refine wpAnyH_takeD 1 (some 111) (.int .i64 (k : Int)) rfl rfl (by kernel_rfl) (by kernel_rfl) (by kernel_rfl) (fun _ _ _ h => h) (Or.inl ⟨by rfl, fun w hSw => by have hq1 := hSw.1; have hq2 := hSw.2; clear hSw; have hk5 := unhide HK5; go_simp⟩) hS ?_
        simp only [Act.put, List.setIfInBounds_toArray, List.set_cons_zero, List.set_cons_succ]
        refine wpAnyH_takeD 2 (some 112) (.pointer (some ⟨b1, k, none⟩)) rfl rfl (by kernel_rfl) (by kernel_rfl) (by kernel_rfl) (fun _ _ _ h => h) (Or.inl ⟨by rfl, fun w hSw => by have hq1 := hSw.1; have hq2 := hSw.2; clear hSw; have hk5 := unhide HK5; go_simp⟩) hS ?_
        simp only [Act.put, List.setIfInBounds_toArray, List.set_cons_zero, List.set_cons_succ]
        refine wpAnyH_takeD 3 (some 113) (.string s) rfl rfl (by kernel_rfl) (by kernel_rfl) (by kernel_rfl) (fun _ _ _ h => h) (Or.inl ⟨by rfl, fun w hSw => by have hq1 := hSw.1; have hq2 := hSw.2; clear hSw; have hk5 := unhide HK5; go_simp⟩) hS ?_
        simp only [Act.put, List.setIfInBounds_toArray, List.set_cons_zero, List.set_cons_succ]
        refine wpAnyH_takeD 4 (some 114) (.slice (some ⟨b2, 0, none⟩) 5 5) rfl rfl (by kernel_rfl) (by kernel_rfl) (by kernel_rfl) (fun _ _ _ h => h) (Or.inl ⟨by rfl, fun w hSw => by have hq1 := hSw.1; have hq2 := hSw.2; clear hSw; have hk5 := unhide HK5; go_simp⟩) hS ?_
        simp only [Act.put, List.setIfInBounds_toArray, List.set_cons_zero, List.set_cons_succ]
        refine wpAnyH_takeD 5 (some 115) (.int .i64 (k : Int)) rfl rfl (by kernel_rfl) (by kernel_rfl) (by kernel_rfl) (fun _ _ _ h => h) (Or.inl ⟨by rfl, fun w hSw => by have hq1 := hSw.1; have hq2 := hSw.2; clear hSw; have hk5 := unhide HK5; go_simp⟩) hS ?_
        simp only [Act.put, List.setIfInBounds_toArray, List.set_cons_zero, List.set_cons_succ]
        refine wpAnyH_takeD 6 (some 116) (.pointer (some ⟨b2, k, none⟩)) rfl rfl (by kernel_rfl) (by kernel_rfl) (by kernel_rfl) (fun _ _ _ h => h) (Or.inl ⟨by rfl, fun w hSw => by have hq1 := hSw.1; have hq2 := hSw.2; clear hSw; have hk5 := unhide HK5; go_simp⟩) hS ?_
        simp only [Act.put, List.setIfInBounds_toArray, List.set_cons_zero, List.set_cons_succ]
        refine wpAnyH_takeD 7 (some 117) (.string s) rfl rfl (by kernel_rfl) (by kernel_rfl) (by kernel_rfl) (fun _ _ _ h => h) (Or.inl ⟨by rfl, fun w hSw => by have hq1 := hSw.1; have hq2 := hSw.2; clear hSw; have hk5 := unhide HK5; go_simp⟩) hS ?_
        simp only [Act.put, List.setIfInBounds_toArray, List.set_cons_zero, List.set_cons_succ]
        refine wpAnyH_takeD 8 (some 118) (.bool false) rfl rfl (by kernel_rfl) (by kernel_rfl) (by kernel_rfl) (fun _ _ _ h => h) (Or.inl ⟨by rfl, fun w hSw => by have hq1 := hSw.1; have hq2 := hSw.2; clear hSw; have hk5 := unhide HK5; go_simp⟩) hS ?_
        simp only [Act.put, List.setIfInBounds_toArray, List.set_cons_zero, List.set_cons_succ]
        refine wpAnyH_takeD 9 (some 119) (.bool false) rfl rfl (by kernel_rfl) (by kernel_rfl) (by kernel_rfl) (fun _ _ _ h => h) (Or.inl ⟨by rfl, fun w hSw => by have hq1 := hSw.1; have hq2 := hSw.2; clear hSw; have hk5 := unhide HK5; go_simp⟩) hS ?_
        simp only [Act.put, List.setIfInBounds_toArray, List.set_cons_zero, List.set_cons_succ]
        refine wpAnyH_takeD 10 (some 120) (.pointer (some ⟨g1, 0, none⟩)) rfl rfl (by kernel_rfl) (by kernel_rfl) (by kernel_rfl) (fun _ _ _ h => h) (Or.inl ⟨by rfl, fun w hSw => by have hq1 := hSw.1; have hq2 := hSw.2; clear hSw; have hk5 := unhide HK5; go_simp⟩) hS ?_
        simp only [Act.put, List.setIfInBounds_toArray, List.set_cons_zero, List.set_cons_succ]
        refine wpAnyH_takeD 11 (some 121) (.slice (some ⟨b1, 0, none⟩) 5 5) rfl rfl (by kernel_rfl) (by kernel_rfl) (by kernel_rfl) (fun _ _ _ h => h) (Or.inl ⟨by rfl, fun w hSw => by have hq1 := hSw.1; have hq2 := hSw.2; clear hSw; have hk5 := unhide HK5; go_simp⟩) hS ?_
        simp only [Act.put, List.setIfInBounds_toArray, List.set_cons_zero, List.set_cons_succ]
        refine wpAnyH_takeD 12 (some 122) (.int .i64 (k : Int)) rfl rfl (by kernel_rfl) (by kernel_rfl) (by kernel_rfl) (fun _ _ _ h => h) (Or.inl ⟨by rfl, fun w hSw => by have hq1 := hSw.1; have hq2 := hSw.2; clear hSw; have hk5 := unhide HK5; go_simp⟩) hS ?_
        simp only [Act.put, List.setIfInBounds_toArray, List.set_cons_zero, List.set_cons_succ]
        refine wpAnyH_takeD 13 (some 123) (.pointer (some ⟨b1, k, none⟩)) rfl rfl (by kernel_rfl) (by kernel_rfl) (by kernel_rfl) (fun _ _ _ h => h) (Or.inl ⟨by rfl, fun w hSw => by have hq1 := hSw.1; have hq2 := hSw.2; clear hSw; have hk5 := unhide HK5; go_simp⟩) hS ?_
        simp only [Act.put, List.setIfInBounds_toArray, List.set_cons_zero, List.set_cons_succ]
        refine wpAnyH_takeD 14 (some 124) (.string s) rfl rfl (by kernel_rfl) (by kernel_rfl) (by kernel_rfl) (fun _ _ _ h => h) (Or.inl ⟨by rfl, fun w hSw => by have hq1 := hSw.1; have hq2 := hSw.2; clear hSw; have hk5 := unhide HK5; go_simp⟩) hS ?_
        simp only [Act.put, List.setIfInBounds_toArray, List.set_cons_zero, List.set_cons_succ]
        refine wpAnyH_takeD 16 (some 126) (.pointer (some ⟨g2, 0, none⟩)) rfl rfl (by kernel_rfl) (by kernel_rfl) (by kernel_rfl) (fun _ _ _ h => h) (Or.inl ⟨by rfl, fun w hSw => by have hq1 := hSw.1; have hq2 := hSw.2; clear hSw; have hk5 := unhide HK5; go_simp⟩) hS ?_
        simp only [Act.put, List.setIfInBounds_toArray, List.set_cons_zero, List.set_cons_succ]
        refine wpAnyH_takeD 17 (some 127) (.slice (some ⟨b2, 0, none⟩) 5 5) rfl rfl (by kernel_rfl) (by kernel_rfl) (by kernel_rfl) (fun _ _ _ h => h) (Or.inl ⟨by rfl, fun w hSw => by have hq1 := hSw.1; have hq2 := hSw.2; clear hSw; have hk5 := unhide HK5; go_simp⟩) hS ?_
        simp only [Act.put, List.setIfInBounds_toArray, List.set_cons_zero, List.set_cons_succ]
        refine wpAnyH_takeD 18 (some 128) (.int .i64 (k : Int)) rfl rfl (by kernel_rfl) (by kernel_rfl) (by kernel_rfl) (fun _ _ _ h => h) (Or.inl ⟨by rfl, fun w hSw => by have hq1 := hSw.1; have hq2 := hSw.2; clear hSw; have hk5 := unhide HK5; go_simp⟩) hS ?_
        simp only [Act.put, List.setIfInBounds_toArray, List.set_cons_zero, List.set_cons_succ]
        refine wpAnyH_takeD 19 (some 129) (.pointer (some ⟨b2, k, none⟩)) rfl rfl (by kernel_rfl) (by kernel_rfl) (by kernel_rfl) (fun _ _ _ h => h) (Or.inl ⟨by rfl, fun w hSw => by have hq1 := hSw.1; have hq2 := hSw.2; clear hSw; have hk5 := unhide HK5; go_simp⟩) hS ?_
        simp only [Act.put, List.setIfInBounds_toArray, List.set_cons_zero, List.set_cons_succ]
        refine wpAnyH_takeD 20 (some 130) (.string s) rfl rfl (by kernel_rfl) (by kernel_rfl) (by kernel_rfl) (fun _ _ _ h => h) (Or.inl ⟨by rfl, fun w hSw => by have hq1 := hSw.1; have hq2 := hSw.2; clear hSw; have hk5 := unhide HK5; go_simp⟩) hS ?_
        simp only [Act.put, List.setIfInBounds_toArray, List.set_cons_zero, List.set_cons_succ]
        refine wpAnyH_ready (rs := [15]) (by kernel_rfl) (by simp) ?_
        refine AllReadyH.cons rfl (fun K hK => ?_) AllReadyH.nil
        simp only [List.getElem_toArray, List.getElem_cons_succ, List.getElem_cons_zero]
        go_simp
        refine (unhide HC1).mono ?_
        rintro ev z1 ⟨rfl, hE, hO⟩
        obtain ⟨hS9, n1, n2⟩ := unhide HN1 _ hE hO
        have HQ1 := hide n1
        have HC2 := hide n2
        clear hE hO n1 n2
        refine hK.out _ _ hS9 (fun hS => ?_)
        clear hK K
        refine wpAnyH_ready (rs := [21]) (by kernel_rfl) (by simp) ?_
        refine AllReadyH.cons rfl (fun K hK => ?_) AllReadyH.nil
        simp only [List.getElem_toArray, List.getElem_cons_succ, List.getElem_cons_zero]
        go_simp
        refine (unhide HC2).mono ?_
        rintro ev z2 ⟨rfl, hE, hO⟩
        obtain ⟨hS9, n1, n2⟩ := unhide HN2 _ _ (unhide HQ1) hE hO
        have HQ2 := hide n1
        have HC3 := hide n2
        clear hE hO n1 n2
        refine hK.out _ _ hS9 (fun hS => ?_)
        clear hK K
        refine wpAnyH_takeD 22 (some 132) (.bool false) rfl rfl (by kernel_rfl) (by kernel_rfl) (by kernel_rfl) (fun _ _ _ h => h) (Or.inl ⟨by rfl, fun w hSw => by have hq1 := hSw.1; have hq2 := hSw.2; clear hSw; have hk5 := unhide HK5; go_simp⟩) hS ?_
        simp only [Act.put, List.setIfInBounds_toArray, List.set_cons_zero, List.set_cons_succ]
        refine wpAnyH_takeD 23 (some 133) (.bool false) rfl rfl (by kernel_rfl) (by kernel_rfl) (by kernel_rfl) (fun _ _ _ h => h) (Or.inl ⟨by rfl, fun w hSw => by have hq1 := hSw.1; have hq2 := hSw.2; clear hSw; have hk5 := unhide HK5; go_simp⟩) hS ?_
        simp only [Act.put, List.setIfInBounds_toArray, List.set_cons_zero, List.set_cons_succ]
        refine wpAnyH_takeD 24 (some 134) (.bool false) rfl rfl (by kernel_rfl) (by kernel_rfl) (by kernel_rfl) (fun _ _ _ h => h) (Or.inl ⟨by rfl, fun w hSw => by have hq1 := hSw.1; have hq2 := hSw.2; clear hSw; have hk5 := unhide HK5; go_simp⟩) hS ?_
        simp only [Act.put, List.setIfInBounds_toArray, List.set_cons_zero, List.set_cons_succ]
        refine wpAnyH_takeD 25 (some 135) (.pointer (some ⟨g1, 0, none⟩)) rfl rfl (by kernel_rfl) (by kernel_rfl) (by kernel_rfl) (fun _ _ _ h => h) (Or.inl ⟨by rfl, fun w hSw => by have hq1 := hSw.1; have hq2 := hSw.2; clear hSw; have hk5 := unhide HK5; go_simp⟩) hS ?_
        simp only [Act.put, List.setIfInBounds_toArray, List.set_cons_zero, List.set_cons_succ]
        refine wpAnyH_takeD 27 (some 137) (.pointer (some ⟨g2, 0, none⟩)) rfl rfl (by kernel_rfl) (by kernel_rfl) (by kernel_rfl) (fun _ _ _ h => h) (Or.inl ⟨by rfl, fun w hSw => by have hq1 := hSw.1; have hq2 := hSw.2; clear hSw; have hk5 := unhide HK5; go_simp⟩) hS ?_
        simp only [Act.put, List.setIfInBounds_toArray, List.set_cons_zero, List.set_cons_succ]
        refine wpAnyH_ready (rs := [26]) (by kernel_rfl) (by simp) ?_
        refine AllReadyH.cons rfl (fun K hK => ?_) AllReadyH.nil
        simp only [List.getElem_toArray, List.getElem_cons_succ, List.getElem_cons_zero]
        go_simp
        refine (unhide HC3).mono ?_
        rintro ev z3 ⟨rfl, hb⟩
        obtain ⟨hS9, n1, n2⟩ := unhide HN3 _ _ (unhide HQ2) hb
        have HQ3 := hide n1
        have HC4 := hide n2
        clear hb n1 n2
        refine hK.out _ _ hS9 (fun hS => ?_)
        clear hK K
        refine wpAnyH_ready (rs := [28]) (by kernel_rfl) (by simp) ?_
        refine AllReadyH.cons rfl (fun K hK => ?_) AllReadyH.nil
        simp only [List.getElem_toArray, List.getElem_cons_succ, List.getElem_cons_zero]
        go_simp
        refine (unhide HC4).mono ?_
        rintro ev z4 ⟨rfl, hb⟩
        obtain ⟨hS9, n1⟩ := unhide HN4 _ _ (unhide HQ3) hb
        have HQ4 := hide n1
        clear hb n1
        refine hK.out _ _ hS9 (fun hS => ?_)
        clear hK K
        refine wpAnyH_takeD 29 (some 139) (.bool false) rfl rfl (by kernel_rfl) (by kernel_rfl) (by kernel_rfl) (fun _ _ _ h => h) (Or.inl ⟨by rfl, fun w hSw => by have hq1 := hSw.1; have hq2 := hSw.2; clear hSw; have hk5 := unhide HK5; go_simp⟩) hS ?_
        simp only [Act.put, List.setIfInBounds_toArray, List.set_cons_zero, List.set_cons_succ]
        refine wpAnyH_takeD 30 (some 140) (.bool false) rfl rfl (by kernel_rfl) (by kernel_rfl) (by kernel_rfl) (fun _ _ _ h => h) (Or.inl ⟨by rfl, fun w hSw => by have hq1 := hSw.1; have hq2 := hSw.2; clear hSw; have hk5 := unhide HK5; go_simp⟩) hS ?_
        simp only [Act.put, List.setIfInBounds_toArray, List.set_cons_zero, List.set_cons_succ]
        refine wpAnyH_done (by kernel_rfl) ?_ _
        clear hS hc1 hc2
        go_wp2
        go_roundw
        case rel => exact ⟨k + 1, by omega, by go_num, e', HQ4⟩
        case measure => simp [intOf] <;> omega
      obtain rfl : k = 5 := by omega
      have e1 : ¬ (((5 : Nat) : Int)) < 5 := by omega
      have HHA := hide (lhello_any g1 e wi (unhide HM).a (unhide HKB _ (unhide HM).bel).1)
      have HHB := hide (fun W (hW : MkI w h g1 g2 g3 g4 b1 b2 l W e) => rlhello_any g2 e _ W hW.x)
      generalize (if e.c = true then (⟨#[]⟩ : ByteArray) else heB e.k e.i e.n) = H at *
      go_wp2_with fail
      refine (unhide HHA).mono ?_
      rintro ev z1 ⟨rfl, hb⟩
      replace HM := hide ((unhide HM).bel' hb)
      clear hb
      go_wp2_with fail
      refine (unhide HHB _ (unhide HM)).mono ?_
      rintro ev z2 ⟨rfl, hb⟩
      replace HM := hide ((unhide HM).bel' hb)
      clear hb
      go_wp2
      go_ret
      exact ⟨rfl, (unhide HM).bel⟩
    · have HNA := hide (fun W => lnew_ok key i nonce hA.1 hi hA.2.2.2 W)
      have HRA := hide (fun W => rlnew_ok key i nonce hA.1 hi hA.2.2.2 W)
      have HNB := hide (fun W => lnew_bad twin s2 other hB W)
      have HRB := hide (fun W => rlnew_bad twin s2 other hB W)
      clear hA hB hi
      go_enter Tryz.func6, Tryz.ntmps6
      go_wp2_with fail
      refine (unhide HKN).mono ?_
      rintro ev y0 ⟨rfl, hb⟩
      replace HB := hide hb
      clear hb
      go_wp2_with fail
      refine (unhide HNA y0).mono ?_
      rintro ev y1 ⟨g1, hg, rfl, hE, hb⟩
      have hgh1 : h ≤ g1 := by have := (unhide HB).size; omega
      replace HB := hide (show Below h w y1 from (unhide HB).trans (hb.mono (by have := (unhide HB).size; omega)))
      have HX1 := hide hE
      clear hE hb hg
      go_wp2_with fail
      refine (unhide HRA y1).mono ?_
      rintro ev y2 ⟨g2, hg, rfl, hE, hb⟩
      have hgh2 : h ≤ g2 := by have := (unhide HB).size; omega
      have hl12 : g1 < g2 := by have := (unhide HX1).lt; omega
      replace HB := hide (show Below h w y2 from (unhide HB).trans (hb.mono (by have := (unhide HB).size; omega)))
      replace HX1 := hide ((unhide HX1).below hb (unhide HX1).lt)
      have HX2 := hide hE
      clear hE hb hg
      go_wp2_with fail
      refine (unhide HNB y2).mono ?_
      rintro ev y3 ⟨rfl, hb⟩
      replace HB := hide (show Below h w y3 from (unhide HB).trans (hb.mono (by have := (unhide HB).size; omega)))
      replace HX1 := hide ((unhide HX1).below hb (unhide HX1).lt)
      replace HX2 := hide ((unhide HX2).below hb (unhide HX2).lt)
      clear hb
      go_wp2_with fail
      refine (unhide HRB y3).mono ?_
      rintro ev y4 ⟨rfl, hb⟩
      replace HB := hide (show Below h w y4 from (unhide HB).trans (hb.mono (by have := (unhide HB).size; omega)))
      replace HX1 := hide ((unhide HX1).below hb (unhide HX1).lt)
      replace HX2 := hide ((unhide HX2).below hb (unhide HX2).lt)
      clear hb
      go_wp2
      go_ret
      exact ⟨rfl, unhide HB⟩
  · by_cases hB : newOk twin s2 other
    · obtain ⟨j, hj, rfl⟩ : ∃ j : Nat, j < 2 ∧ s2 = (j : Int) := ⟨s2.toNat, by have := hB.2.1; have := hB.2.2.1; omega, by have := hB.2.1; omega⟩
      have HNA := hide (fun W => lnew_bad key side nonce hA W)
      have HRA := hide (fun W => rlnew_bad key side nonce hA W)
      have HNB := hide (fun W => lnew_ok twin j other hB.1 hj hB.2.2.2 W)
      have HRB := hide (fun W => rlnew_ok twin j other hB.1 hj hB.2.2.2 W)
      clear hA hB hj
      go_enter Tryz.func6, Tryz.ntmps6
      go_wp2_with fail
      refine (unhide HKN).mono ?_
      rintro ev y0 ⟨rfl, hb⟩
      replace HB := hide hb
      clear hb
      go_wp2_with fail
      refine (unhide HNA y0).mono ?_
      rintro ev y1 ⟨rfl, hb⟩
      replace HB := hide (show Below h w y1 from (unhide HB).trans (hb.mono (by have := (unhide HB).size; omega)))
      clear hb
      go_wp2_with fail
      refine (unhide HRA y1).mono ?_
      rintro ev y2 ⟨rfl, hb⟩
      replace HB := hide (show Below h w y2 from (unhide HB).trans (hb.mono (by have := (unhide HB).size; omega)))
      clear hb
      go_wp2_with fail
      refine (unhide HNB y2).mono ?_
      rintro ev y3 ⟨g3, hg, rfl, hE, hb⟩
      have hgh3 : h ≤ g3 := by have := (unhide HB).size; omega
      replace HB := hide (show Below h w y3 from (unhide HB).trans (hb.mono (by have := (unhide HB).size; omega)))
      have HX3 := hide hE
      clear hE hb hg
      go_wp2_with fail
      refine (unhide HRB y3).mono ?_
      rintro ev y4 ⟨g4, hg, rfl, hE, hb⟩
      have hgh4 : h ≤ g4 := by have := (unhide HB).size; omega
      have hl34 : g3 < g4 := by have := (unhide HX3).lt; omega
      replace HB := hide (show Below h w y4 from (unhide HB).trans (hb.mono (by have := (unhide HB).size; omega)))
      replace HX3 := hide ((unhide HX3).below hb (unhide HX3).lt)
      have HX4 := hide hE
      clear hE hb hg
      go_wp2
      go_ret
      exact ⟨rfl, unhide HB⟩
    · have HNA := hide (fun W => lnew_bad key side nonce hA W)
      have HRA := hide (fun W => rlnew_bad key side nonce hA W)
      have HNB := hide (fun W => lnew_bad twin s2 other hB W)
      have HRB := hide (fun W => rlnew_bad twin s2 other hB W)
      clear hA hB
      go_enter Tryz.func6, Tryz.ntmps6
      go_wp2_with fail
      refine (unhide HKN).mono ?_
      rintro ev y0 ⟨rfl, hb⟩
      replace HB := hide hb
      clear hb
      go_wp2_with fail
      refine (unhide HNA y0).mono ?_
      rintro ev y1 ⟨rfl, hb⟩
      replace HB := hide (show Below h w y1 from (unhide HB).trans (hb.mono (by have := (unhide HB).size; omega)))
      clear hb
      go_wp2_with fail
      refine (unhide HRA y1).mono ?_
      rintro ev y2 ⟨rfl, hb⟩
      replace HB := hide (show Below h w y2 from (unhide HB).trans (hb.mono (by have := (unhide HB).size; omega)))
      clear hb
      go_wp2_with fail
      refine (unhide HNB y2).mono ?_
      rintro ev y3 ⟨rfl, hb⟩
      replace HB := hide (show Below h w y3 from (unhide HB).trans (hb.mono (by have := (unhide HB).size; omega)))
      clear hb
      go_wp2_with fail
      refine (unhide HRB y3).mono ?_
      rintro ev y4 ⟨rfl, hb⟩
      replace HB := hide (show Below h w y4 from (unhide HB).trans (hb.mono (by have := (unhide HB).size; omega)))
      clear hb
      go_wp2
      go_ret
      exact ⟨rfl, unhide HB⟩
end Go.Proofs.YtifjmldmilmfjaaGreatDoor
