import Derived.Test.YtnfdedolgfcmfaaGreatDoorMrc30
import Derived.Test.YtnfdedolgfcmfaaGreatDoorMrc23
namespace Go.Proofs.YtnfdedolgfcmfaaGreatDoor
open Go.RowKit
set_option maxRecDepth 100000
theorem imB_all {l : List ByteArray} (h : imB l = true) : (128 ≤ l.length ∧ l.length ≤ 1024) ∧ ∀ t ∈ l, t.size = 256 := by
  refine ⟨imB_len h, fun t ht => ?_⟩
  obtain ⟨j, hj, e⟩ := List.getElem_of_mem ht
  have := imB_at h j hj
  rw [List.getD_eq_getElem?_getD, List.getElem?_eq_getElem hj] at this
  rw [← e]
  exact this
set_option maxHeartbeats 4000000 in
theorem ypromote_none (w : World) (b : Nat) (h : Rp w b 0 []) : Calls Tryz.prog 23 #[.pointer (some ⟨b, 0, none⟩)] w fun e w' => e = .returned (.tuple #[.pointer none, .int .i64 224]) ∧ w' = w := by
  obtain ⟨q, kn, h1, _, _⟩ := h
  have c0 : w.cell? ⟨b, 0, none⟩ = some (.int .i64 0) := by rw [h1.cell 0]; rfl
  clear h1
  go_enter Tryz.func23, Tryz.ntmps23
  go_wp2
  go_ret2
  exact ⟨rfl, rfl⟩
set_option maxHeartbeats 4000000 in
theorem ypromote_any (w : World) (b N : Nat) (l : List ByteArray) (h : Rp w b N l) (hN : N ≠ 0) (hI : imB l = true) : Calls Tryz.prog 23 #[.pointer (some ⟨b, 0, none⟩)] w fun e w' => ∃ d v, e = .returned (.tuple #[.pointer (some ⟨d, 0, none⟩), .int .i64 0]) ∧ Dk w' w.heap.size d v (freshS l) ∧ Below w.heap.size w w' := by
  obtain ⟨q, kn, h1, _, h3⟩ := h
  obtain ⟨g, rfl, h4, _⟩ := h3 hN
  have c0 : w.cell? ⟨b, 0, none⟩ = some (.int .i64 (N : Int)) := by rw [h1.cell 0]; rfl
  have c1 : w.cell? ⟨b, 1, none⟩ = some (.slice (some ⟨g, 0, none⟩) l.length l.length) := by rw [h1.cell 1]; rfl
  have e1 : ((N : Int) == 0) = false := by simp; omega
  have hia := imB_all hI
  have HL := hide (show Calls Tryz.prog 56 #[.slice (some ⟨g, 0, none⟩) l.length l.length] w fun e w' => ∃ d v, e = .returned (.tuple #[.pointer (some ⟨d, 0, none⟩), .int .i64 0]) ∧ Dk w' w.heap.size d v (freshS l) ∧ Below w.heap.size w w' from by
    refine (load_any (some ⟨g, 0, none⟩) l.length l w (fun j hj => Blk.sb h4 j hj)).mono ?_
    intro e w' h
    unfold LoadPost at h
    rw [if_pos hia.1, if_pos hia.2] at h
    exact h)
  obtain ⟨n, hn⟩ : ∃ q, l.length = q := ⟨_, rfl⟩
  rw [hn] at HL c1
  clear h1 h3 h4 hI hia hn hN
  go_enter Tryz.func23, Tryz.ntmps23
  go_wp2_with fail
  refine (unhide HL).mono ?_
  rintro e w' ⟨d, v, rfl, hd, hb⟩
  have HD := hide (And.intro hd hb)
  clear hd hb HL
  go_wp2
  go_ret2
  exact ⟨d, v, rfl, (unhide HD).1, (unhide HD).2⟩
theorem Dk.hi {w w' : World} {base b B : Nat} {v : DV} {s s' : DSt} (h : Dk w base b v s) (hB : B ≤ base) (hw : base ≤ w.heap.size) (ho : DPost base b v s' w w') : Below B w w' := by
  obtain ⟨v', _, h2, _⟩ := ho
  exact h2.hi (by omega) (fun k hk => by have := (h.fd k hk).1; omega)
/-- what Promotes does on its disk -/
theorem pr_disk (l : List ByteArray) (hI : imB l = true) (i : Nat) (hi : i < l.length) (t : ByteArray) (ht : t.size = 256) :
    writeE (freshS l) (i : Int) t = 0 ∧ Sane (freshS l) ∧ Sane (writeS (freshS l) (i : Int) t) ∧ (writeS (freshS l) (i : Int) t).pend.length ≤ 1000000000 ∧ (writeS (freshS l) (i : Int) t).acts.length ≤ 1000000000 ∧ flushE (writeS (freshS l) (i : Int) t) = 0 ∧
    readE (flushS (writeS (freshS l) (i : Int) t)) (i : Int) = 0 ∧ readT (flushS (writeS (freshS l) (i : Int) t)) (i : Int) = t ∧ (flushS (writeS (freshS l) (i : Int) t)).now.length = (flushS (writeS (freshS l) (i : Int) t)).last.length := by
  have hl := imB_len hI
  have hS := Sane.fresh l (by omega) (by omega)
  have hA : Alive (freshS l) := ⟨rfl, rfl⟩
  obtain ⟨w1, w2⟩ := writeA hA i hi t ht
  have hA2 : Alive (writeS (freshS l) (i : Int) t) := by rw [w2]; exact ⟨rfl, rfl⟩
  obtain ⟨f1, f2⟩ := flushA hA2
  have hA3 : Alive (flushS (writeS (freshS l) (i : Int) t)) := by rw [f2]; exact hA2
  have hs3 := (hS.write (i : Int) t).flush
  have hl3 : (flushS (writeS (freshS l) (i : Int) t)).last.length = l.length := by
    rw [← hs3.same, f2, w2]
    show (l.set i t).length = _
    rw [List.length_set]
  obtain ⟨r1, r2⟩ := readA hA3 i (by rw [hl3]; exact hi)
  refine ⟨w1, hS, hS.write _ _, by rw [w2]; exact (by decide : 1 ≤ 1000000000), by rw [w2]; exact (by decide : 1 ≤ 1000000000), f1, r1, ?_, hs3.same⟩
  rw [r2, f2, w2]
  show (l.set i t).getD i ByteArray.empty = t
  rw [List.getD_eq_getElem?_getD, List.getElem?_set, if_pos rfl, if_pos hi]
  rfl
theorem pm_f (g : Nat) : fgt 0 1 [(1, g)] = [(1, g)] := rfl
theorem pm_n (g : Nat) : ntsP 1 [(1, g)] = [] := rfl
theorem pm_l (g g' : Nat) : nwL 1 1 g' [(1, g)] = [(1, g), (2, g')] := rfl
theorem pm_k (g g' : Nat) : ntsP 1 [(1, g), (2, g')] = [2] := rfl
theorem pm_1 (g : Nat) : ntsP 0 [(1, g)] = [1] := rfl
set_option maxHeartbeats 32000000 in
theorem promotes22 (E1 E2 : List (Int × Int)) (n1 c1 n2 c2 : Nat) (p1 p2 : Option Addr) (at' : Int) (h1 : E1.length = n1) (h2 : E2.length = n2) (hl1 : n1 ≤ 9223372036854775807) (hl2 : n2 ≤ 9223372036854775807) (hI1 : ∀ j, j < n1 → I64 (E1.getD j (0, 0)).1 ∧ I64 (E1.getD j (0, 0)).2) (hI2 : ∀ j, j < n2 → I64 (E2.getD j (0, 0)).1 ∧ I64 (E2.getD j (0, 0)).2) (ha : I64 at') (W : World) (hE1 : EdM W W.heap.size p1 E1) (hE2 : EdM W W.heap.size p2 E2) (hK : KTab W) (hG : ETy W) :
    Calls Tryz.prog 6 #[.slice p1 n1 c1, .slice p2 n2 c2, .int .i64 at'] W fun e w' => e = .returned (.bool true) ∧ Below W.heap.size W w' := by
  have HAW := hide (awake22 W hK hG)
  have HKG := hide (show ∀ y, Below W.heap.size W y → KTab y ∧ ETy y from fun y h => ⟨hK.below h hK.1, hG.below h hG.lt⟩)
  have HBL := hide (fun w => blank22 130 (by decide) w)
  have HPK := hide (fun w => pick22_c at' 130 (by decide) ha 130 rfl w)
  have hil := pickP_lt at' 130 (by decide)
  obtain ⟨i, hie⟩ : ∃ q, pickP at' 130 = q := ⟨_, rfl⟩
  rw [hie] at HPK hil
  obtain ⟨Z, hZ⟩ : ∃ q, List.replicate 130 (zR 256) = q := ⟨_, rfl⟩
  have HZI := hide (show Z.length = 130 ∧ imB Z = true from by rw [← hZ]; exact ⟨List.length_replicate, imB_blank 130 (by decide) (by decide)⟩)
  rw [hZ] at HBL
  obtain ⟨A, hA⟩ : ∃ q, edP Z 130 E1 n1 = q := ⟨_, rfl⟩
  have HAI := hide (show A.length = 130 ∧ imB A = true from by rw [← hA]; exact ⟨by rw [edP_len, (unhide HZI).1], edP_im _ _ _ (unhide HZI).2 _⟩)
  obtain ⟨B, hB⟩ : ∃ q, edP A 130 E2 n2 = q := ⟨_, rfl⟩
  have HBI := hide (show B.length = 130 ∧ imB B = true from by rw [← hB]; exact ⟨by rw [edP_len, (unhide HAI).1], edP_im _ _ _ (unhide HAI).2 _⟩)
  obtain ⟨T9, hT9⟩ : ∃ q, fdB 200 = q := ⟨_, rfl⟩
  have HFL := hide (fun w => filled22 200 w)
  have HDS := hide (pr_disk A (unhide HAI).2 i (by rw [(unhide HAI).1]; exact hil) T9 (by rw [← hT9]; exact fdB_size _))
  rw [hT9] at HFL
  have HED1 := hide (show ∀ w, Below W.heap.size W w → ∀ B9 c p, SB w B9 p Z → B9 ≤ w.heap.size → Calls Tryz.prog 13 #[.slice p 130 c, .slice p1 n1 c1] w fun e w' => ∃ g, e = .returned (.slice (some ⟨g, 0, none⟩) 130 130) ∧ w.heap.size ≤ g ∧ Blk w' g (strs A).toArray 9 ∧ Below w.heap.size w w' from fun w hw B9 c p hs hb => by
    rw [← hA]
    exact edited22 w Z 130 (unhide HZI).1 (by decide) (by decide) B9 c p hs hb E1 n1 h1 hl1 W.heap.size c1 p1 (edM_below hE1 hw) hw.size hI1)
  have HED2 := hide (show ∀ w, Below W.heap.size W w → ∀ B9 c p, SB w B9 p A → B9 ≤ w.heap.size → Calls Tryz.prog 13 #[.slice p 130 c, .slice p2 n2 c2] w fun e w' => ∃ g, e = .returned (.slice (some ⟨g, 0, none⟩) 130 130) ∧ w.heap.size ≤ g ∧ Blk w' g (strs B).toArray 9 ∧ Below w.heap.size w w' from fun w hw B9 c p hs hb => by
    rw [← hB]
    exact edited22 w A 130 (unhide HAI).1 (by decide) (by decide) B9 c p hs hb E2 n2 h2 hl2 W.heap.size c2 p2 (edM_below hE2 hw) hw.size hI2)
  clear hK hG hZ hA hB h1 h2 hl1 hl2 hI1 hI2 hE1 hE2 hT9 hie ha
  go_enter Tryz.func6, Tryz.ntmps6
  go_wp2_with fail
  refine (unhide HAW).mono ?_
  rintro e w0 ⟨rfl, hb0⟩
  have HB0 := hide hb0
  clear hb0 HAW
  go_wp2_with fail
  refine (unhide HBL _).mono ?_
  rintro e w1 ⟨v1, rfl, hr1, hb1⟩
  obtain ⟨pz, cz, rfl, _⟩ := yr_form hr1
  have HW1 := hide (show Below W.heap.size W w1 from (unhide HB0).trans (hb1.mono (unhide HB0).size))
  have HE1 := hide (unhide HED1 w1 (unhide HW1) w1.heap.size cz pz (own_sb (unhide HZI).1 hr1) (Nat.le_refl _))
  clear hr1 hb1 HED1 HBL
  go_wp2_with fail
  refine (unhide HE1).mono ?_
  rintro e w2 ⟨gA, rfl, hgA, hkA, hb2⟩
  obtain ⟨S, hS⟩ : ∃ q, w2.heap.size = q := ⟨_, rfl⟩
  have HW2 := hide (show Below W.heap.size W w2 ∧ W.heap.size ≤ S from by
    have h := (unhide HW1).trans (hb2.mono (unhide HW1).size)
    exact ⟨h, by rw [← hS]; exact h.size⟩)
  have HK2 := hide (show ∀ y, Below S w2 y → KTab y ∧ ETy y ∧ Below W.heap.size W y ∧ S ≤ y.heap.size from fun y hy => by
    have h : Below W.heap.size W y := (unhide HW2).1.trans (hy.mono (unhide HW2).2)
    exact ⟨(unhide HKG y h).1, (unhide HKG y h).2, h, by rw [← hS]; exact hy.size⟩)
  have HAB := hide (show ∀ y, Below S w2 y → SB y S (some ⟨gA, 0, none⟩) A from fun y hy => by
    have k1 : SB w2 w2.heap.size (some ⟨gA, 0, none⟩) A := Blk.sb hkA
    rw [hS] at k1
    exact k1.below hy)
  have HPN := hide (pnew_any (fun q => S ≤ q) w2 A 130 130 S (some ⟨gA, 0, none⟩) (unhide HAI).1 (unhide HAB w2 (Below.refl _ _)) (by omega) (fun q hq => by omega))
  clear hkA hb2 hgA HE1 HKG
  go_wp2_with fail
  refine (unhide HPN).mono ?_
  rintro e w3 ⟨hb3, _, h3⟩
  obtain ⟨p, mp, g, rfl, _, hP3⟩ := h3 (unhide HAI).2
  have HP3 := hide hP3
  have HB3 := hide (show Below S w2 w3 from by rw [← hS]; exact hb3)
  have HPW := hide (PW.new (unhide HAI).1 (unhide HAI).2 g)
  clear hb3 h3 hP3 HPN
  have HNR := hide (ynewReplica_any w3)
  go_wp2_with fail
  refine (unhide HNR).mono ?_
  rintro e w4 ⟨rfl, hR4, hb4⟩
  obtain ⟨b, hbe⟩ : ∃ q, w3.heap.size = q := ⟨_, rfl⟩
  have HB4 := hide (show Below S w2 w4 from (unhide HB3).trans (hb4.mono (unhide HK2 w3 (unhide HB3)).2.2.2))
  have HP4 := hide (show PrF (fun q => S ≤ q ∧ q ≠ b) w4 p mp 130 1 0 [(1, g)] (fun _ => A) from ((unhide HP3).imp (fun q h1 h2 => ⟨h1, by omega⟩)).below hb4)
  rw [hbe] at hR4 ⊢
  have HBS := hide (show S ≤ b from by have := (unhide HK2 w3 (unhide HB3)).2.2.2; omega)
  have HR4 := hide hR4
  clear hbe hR4 hb4 HNR HP3
  have HPR := hide (ypromote_none w4 b (unhide HR4))
  go_wp2_with fail
  refine (unhide HPR).mono ?_
  rintro e w5 ⟨rfl, h5⟩
  subst w5
  clear HPR
  have HFR := hide (pframesF_any (fun q => S ≤ q ∧ q ≠ b) w4 p mp 130 1 0 1 [(1, g)] (fun _ => A) (unhide HP4) (unhide HPW) (unhide HK2 w4 (unhide HB4)).1 rfl)
  rw [pm_1] at HFR
  obtain ⟨s0, hs0⟩ : ∃ q, fmT 130 (fun _ => A) 0 1 = q := ⟨_, rfl⟩
  rw [show frms 130 (fun _ => A) 0 [1] = [fmT 130 (fun _ => A) 0 1] from rfl, hs0] at HFR
  have HT := hide (show s0.size ≤ 264243 ∧ tkA 0 [] s0 = (wdB 1 1 (rt A), 0, 1, A) from by
    have hz : 128 ≤ 130 ∧ 130 ≤ 1024 := by decide
    have h1 : A.length = 130 ∧ imB A = true := unhide HAI
    refine ⟨by rw [← hs0]; exact fmT_size (im := fun _ => A) hz 0 1 (by decide) (by decide) h1 (fun q => absurd rfl q), ?_⟩
    have := tk_chain (im := fun _ => A) hz 0 1 (by decide) (by decide) h1 (fun q => absurd rfl q) 0 [] (by decide) (fun q => absurd rfl q)
    rw [hs0] at this
    exact this)
  clear hs0
  go_wp2_with fail
  refine (unhide HFR).mono ?_
  rintro e w6 ⟨v6, rfl, hr6, hP6, ho6⟩
  obtain ⟨pf, cf, rfl, hcf⟩ := yr_form hr6
  have HB6 := hide ((unhide HB4).trans (ho6.hi (unhide HK2 w4 (unhide HB4)).2.2.2 (fun k q => ((unhide HP4).kp k (.inr (.inr q))).1)))
  have HR6 := hide (show Rp w6 b 0 [] from (unhide HR4).only ho6 (fun q => ((unhide HP4).kp b (.inr (.inr q))).2 rfl) (fun k c q => (unhide HP4).not9 k c (.inr (.inr q))))
  have HP6 := hide hP6
  obtain ⟨gf, of, hpf, _, c0⟩ := own_sb (L := [s0]) rfl hr6 0 (by simp)
  subst hpf
  have c0 : w6.cell? ⟨gf, of, none⟩ = some (.string s0) := c0
  clear hr6 hP6 ho6 hcf HFR HP4 HR4
  obtain ⟨W1, hW1⟩ : ∃ q, wdB 1 1 (rt A) = q := ⟨_, rfl⟩
  have HW1' := hide hW1
  have HT1 := hide (ytake_any w6 b 0 [] (unhide HR6) (by decide) s0 (by have := (unhide HT).1; omega) (unhide HK2 w6 (unhide HB6)).2.1 (unhide HK2 w6 (unhide HB6)).1 (fun j hj => absurd hj (by simp)) (by decide))
  rw [(unhide HT).2, hW1] at HT1
  unfold TkQ at HT1
  clear hW1 HT
  go_wp2_with fail
  refine (unhide HT1).mono ?_
  rintro e w7 ⟨rfl, hR7, ho7⟩
  change Rp w7 b 1 A at hR7
  have HR7 := hide hR7
  have HB7 := hide ((unhide HB6).trans (ho7.hi (unhide HK2 w6 (unhide HB6)).2.2.2 (fun k q => by have := unhide HBS; omega)))
  have HP7 := hide ((unhide HP6).keep ho7 (fun q e h => h.2 e))
  clear hR7 ho7 HT1 c0 HP6 HR6
  have HPR := hide (ypromote_any w7 b 1 A (unhide HR7) (by decide) (unhide HAI).2)
  go_wp2_with fail
  refine (unhide HPR).mono ?_
  rintro e w8 ⟨d, v8, rfl, hd8, hb8⟩
  obtain ⟨D, hD⟩ : ∃ q, w7.heap.size = q := ⟨_, rfl⟩
  rw [hD] at hd8 hb8
  have HSD := hide (show S ≤ D ∧ b < D from ⟨by have := (unhide HK2 w7 (unhide HB7)).2.2.2; omega, by have := (unhide HR7).lt; omega⟩)
  have HPR7 := hide (show ∀ y, Below D w7 y → Below S w2 y ∧ PrF (fun q => S ≤ q ∧ q ≠ b ∧ q < D) y p mp 130 1 0 [(1, g)] (fun _ => A) ∧ Rp y b 1 A ∧ D ≤ y.heap.size from fun y hy => by
    have hy' : Below w7.heap.size w7 y := by rw [hD]; exact hy
    exact ⟨(unhide HB7).trans (hy.mono (unhide HSD).1), ((unhide HP7).imp (fun q h1 h2 => ⟨h1.1, h1.2, by omega⟩)).below hy', (unhide HR7).below hy', by rw [← hD]; exact hy'.size⟩)
  have HD8 := hide hd8
  have HB8 := hide hb8
  have HB7' := HB7
  clear hd8 hb8 hD HPR HP7 HR7 HB7
  go_wp2_with fail
  refine (unhide HPK _).mono ?_
  rintro e w9 ⟨rfl, h9⟩
  subst w9
  clear HPK
  go_wp2_with fail
  refine (unhide HFL _).mono ?_
  rintro e w10 ⟨rfl, hb10⟩
  have HD10 := hide ((unhide HD8).below hb10)
  have HB10 := hide (show Below D w7 w10 from (unhide HB8).trans (hb10.mono (unhide HPR7 w8 (unhide HB8)).2.2.2))
  have HWR := hide (write_any w10 D d v8 (freshS A) ((unhide HD8).below hb10) (unhide HPR7 w10 (unhide HB10)).2.2.2 (unhide HDS).2.1 (Nat.zero_le _) (Nat.zero_le _) (i : Int) T9)
  rw [(unhide HDS).1] at HWR
  clear hb10 HD8 HB8
  go_wp2_with fail
  refine (unhide HWR).mono ?_
  rintro e w11 ⟨rfl, hp11⟩
  have HB11 := hide (show Below D w7 w11 from (unhide HB10).trans ((unhide HD10).hi (Nat.le_refl _) (unhide HPR7 w10 (unhide HB10)).2.2.2 hp11))
  obtain ⟨v11, hd11, _, _⟩ := hp11
  have HD11 := hide hd11
  have HFS := hide (flush_any w11 D d v11 _ hd11 (unhide HPR7 w11 (unhide HB11)).2.2.2 (unhide HDS).2.2.1 (unhide HDS).2.2.2.1 (unhide HDS).2.2.2.2.1)
  rw [(unhide HDS).2.2.2.2.2.1] at HFS
  clear hd11 HWR HD10 HB10
  go_wp2_with fail
  refine (unhide HFS).mono ?_
  rintro e w12 ⟨rfl, hp12⟩
  have HB12 := hide (show Below D w7 w12 from (unhide HB11).trans ((unhide HD11).hi (Nat.le_refl _) (unhide HPR7 w11 (unhide HB11)).2.2.2 hp12))
  obtain ⟨v, hd12, _, _⟩ := hp12
  obtain ⟨hb12, hP12, hR12, hz12⟩ := unhide HPR7 w12 (unhide HB12)
  have HB := hide hb12
  have HR12 := hide hR12
  have hfd : ∀ k, Fd d v k → D ≤ k ∧ k < w12.heap.size := fun k hk => hd12.fd k hk
  have HFD := hide hfd
  have HP12 := hide (show PrF (fun q => S ≤ q ∧ q ≠ b ∧ ¬ Fd d v q) w12 p mp 130 1 0 [(1, g)] (fun _ => A) from hP12.imp (fun q h1 h2 => ⟨h1.1, h1.2.1, fun h => by have := (hfd q h).1; have := h1.2.2; omega⟩))
  obtain ⟨sd, hsd⟩ : ∃ q, flushS (writeS (freshS A) (i : Int) T9) = q := ⟨_, rfl⟩
  rw [hsd] at hd12
  have HDS2 := hide (show readE sd (i : Int) = 0 ∧ readT sd (i : Int) = T9 ∧ sd.now.length = sd.last.length from by rw [← hsd]; exact (unhide HDS).2.2.2.2.2.2)
  have HD12 := hide hd12
  clear hb12 hP12 hR12 hz12 hfd hd12 hsd HFS HB11 HB12 HD11 HPR7 HDS HB7'
  have HIG := hide (yimage_any w12 b 1 A (unhide HR12) (by rw [(unhide HAI).1]; decide))
  rw [(unhide HAI).1] at HIG
  go_wp2_with fail
  refine (unhide HIG).mono ?_
  rintro e w13 ⟨hb13, _, h13⟩
  obtain ⟨px, cx, rfl, hx⟩ := h13 (by decide)
  have HB13 := hide ((unhide HB).trans (hb13.mono (unhide HK2 w12 (unhide HB)).2.2.2))
  have HSM := hide (same22 w13 A 130 w13.heap.size S cx 130 px (some ⟨gA, 0, none⟩) (unhide HAI).1 (own_sb (unhide HAI).1 hx) (unhide HAB w13 (unhide HB13)) (by decide))
  have HB1213 := hide hb13
  clear hb13 h13 hx HIG HB
  go_wp2_with fail
  refine (unhide HSM).mono ?_
  rintro e w14 ⟨rfl, hb14⟩
  have h1214 : Below w12.heap.size w12 w14 := (unhide HB1213).trans (hb14.mono (unhide HB1213).size)
  have HB14 := hide ((unhide HB13).trans (hb14.mono (unhide HK2 w13 (unhide HB13)).2.2.2))
  have HP14 := hide ((unhide HP12).below h1214)
  have HR14 := hide ((unhide HR12).below h1214)
  have HD14 := hide ((unhide HD12).below h1214)
  have HZ14 := hide (show ∀ k, Fd d v k → D ≤ k ∧ k < w14.heap.size from fun k hk => ⟨(unhide HFD k hk).1, by have := (unhide HFD k hk).2; have := h1214.size; omega⟩)
  clear hb14 h1214 HSM HB1213 HB13 HP12 HR12 HD12 HFD
  have HCF := hide (pconfirm_any (fun q => S ≤ q ∧ q ≠ b ∧ ¬ Fd d v q) w14 p mp 130 1 0 [(1, g)] (fun _ => A) (unhide HP14) (unhide HPW) (unhide HK2 w14 (unhide HB14)).1 (unhide HK2 w14 (unhide HB14)).2.1 W1)
  have hcf := cf_kept (unhide HPW) 1 g (by simp) (by decide)
  rw [unhide HW1', pm_f, pm_n] at hcf
  rw [hcf] at HCF
  unfold CfQ at HCF
  clear hcf
  go_wp2_with fail
  refine (unhide HCF).mono ?_
  rintro e w15 ⟨rfl, hP15, ho15⟩
  change PrF (fun q => S ≤ q ∧ q ≠ b ∧ ¬ Fd d v q) w15 p mp 130 1 1 [(1, g)] (fun _ => A) at hP15
  have HB15 := hide ((unhide HB14).trans (ho15.hi (unhide HK2 w14 (unhide HB14)).2.2.2 (fun k q => ((unhide HP14).kp k q).1)))
  have HR15 := hide (show Rp w15 b 1 A from (unhide HR14).only ho15 (fun q => ((unhide HP14).kp b q).2.1 rfl) (fun k c q => (unhide HP14).not9 k c q))
  have HD15 := hide (show Dk w15 D d v sd from (unhide HD14).only ho15 (fun k hk q => ((unhide HP14).kp k q).2.2 hk))
  have HP15 := hide hP15
  have HZ15 := hide (show ∀ k, Fd d v k → D ≤ k ∧ k < w15.heap.size from fun k hk => ⟨(unhide HZ14 k hk).1, by have := (unhide HZ14 k hk).2; have := ho15.size; omega⟩)
  have HPW1 := hide (show PW 130 1 1 [(1, g)] (fun _ => A) from by
    have := (unhide HPW).known 1 ⟨g, by simp⟩
    rwa [pm_f] at this)
  clear hP15 ho15 HCF HP14 HR14 HD14 HZ14 HPW
  have HE2 := hide (unhide HED2 w15 (unhide HK2 w15 (unhide HB15)).2.2.1 S 130 (some ⟨gA, 0, none⟩) (unhide HAB w15 (unhide HB15)) (unhide HK2 w15 (unhide HB15)).2.2.2)
  go_wp2_with fail
  refine (unhide HE2).mono ?_
  rintro e w16 ⟨gB, rfl, hgB, hkB, hb16⟩
  obtain ⟨S2, hS2⟩ : ∃ q, w16.heap.size = q := ⟨_, rfl⟩
  have HB16 := hide ((unhide HB15).trans (hb16.mono (unhide HK2 w15 (unhide HB15)).2.2.2))
  have HP16 := hide (show PrF (fun q => S ≤ q ∧ q ≠ b ∧ ¬ Fd d v q ∧ q ≠ gB) w16 p mp 130 1 1 [(1, g)] (fun _ => A) from ((unhide HP15).imp (fun q h1 h2 => ⟨h1.1, h1.2.1, h1.2.2, by omega⟩)).below hb16)
  have HR16 := hide ((unhide HR15).below hb16)
  have HD16 := hide ((unhide HD15).below hb16)
  have HZ16 := hide (show (∀ k, Fd d v k → D ≤ k ∧ k < w16.heap.size) ∧ gB < w16.heap.size ∧ b < gB from ⟨fun k hk => ⟨(unhide HZ15 k hk).1, by have := (unhide HZ15 k hk).2; have := hb16.size; omega⟩, hkB.lt, by have := (unhide HR15).lt; omega⟩)
  have HKB := hide hkB
  clear hgB hkB hb16 HE2 HED2 HP15 HR15 HD15 HZ15 hS2 S2
  have HNO := hide (pnote_any (fun q => S ≤ q ∧ q ≠ b ∧ ¬ Fd d v q ∧ q ≠ gB) w16 p mp 130 1 1 [(1, g)] (fun _ => A) (unhide HP16) (unhide HPW1) B 130 w16.heap.size (some ⟨gB, 0, none⟩) (unhide HBI).1 (unhide HBI).2 (Blk.sb (unhide HKB)) (Nat.le_refl _) (by decide) (fun q hq => ⟨by have := (unhide HK2 w16 (unhide HB16)).2.2.2; omega, by have := (unhide HR16).lt; omega, fun h => by have := ((unhide HZ16).1 q h).2; omega, by have := (unhide HZ16).2.1; omega⟩))
  go_wp2_with fail
  refine (unhide HNO).mono ?_
  rintro e w17 ⟨g', rfl, hP17, ho17⟩
  rw [pm_l] at hP17
  have hPW17 : PW 130 2 1 [(1, g), (2, g')] (nwI 1 B (fun _ => A)) := by
    have := (unhide HPW1).note (by decide) B (unhide HBI).1 (unhide HBI).2 g'
    rwa [pm_l] at this
  have hor : ∀ k, k = p ∨ k = mp → (S ≤ k ∧ k ≠ b ∧ ¬ Fd d v k ∧ k ≠ gB) := fun k q => (unhide HP16).kp k (by rcases q with q | q; exact .inl q; exact .inr (.inl q))
  have HB17 := hide ((unhide HB16).trans (ho17.hi (unhide HK2 w16 (unhide HB16)).2.2.2 (fun k q => (hor k q).1)))
  have HR17 := hide (show Rp w17 b 1 A from (unhide HR16).only ho17 (fun q => (hor b q).2.1 rfl) (fun k c q => (unhide HP16).not9 k c (by rcases q with q | q; exact .inl q; exact .inr (.inl q))))
  have HD17 := hide (show Dk w17 D d v sd from (unhide HD16).only ho17 (fun k hk q => (hor k q).2.2.1 hk))
  have HK17 := hide (show Blk w17 gB (strs B).toArray 9 from (unhide HKB).only ho17 (fun q => (hor gB q).2.2.2 rfl))
  obtain ⟨im, him⟩ : ∃ q, nwI 1 B (fun _ => A) = q := ⟨_, rfl⟩
  have HIM := hide (show im ((1 : Nat) : Int) = A ∧ im ((2 : Nat) : Int) = B from by rw [← him]; exact ⟨rfl, rfl⟩)
  rw [him] at hP17 hPW17
  have HP17 := hide hP17
  have HPW17 := hide hPW17
  clear ho17 hP17 hPW17 hor him HNO HP16 HR16 HD16 HKB HPW1
  have HFR := hide (pframesF_any (fun q => S ≤ q ∧ q ≠ b ∧ ¬ Fd d v q ∧ q ≠ gB) w17 p mp 130 2 1 1 [(1, g), (2, g')] im (unhide HP17) (unhide HPW17) (unhide HK2 w17 (unhide HB17)).1 rfl)
  rw [pm_k] at HFR
  obtain ⟨s1, hs1⟩ : ∃ q, fmT 130 im 1 2 = q := ⟨_, rfl⟩
  rw [show frms 130 im 1 [2] = [fmT 130 im 1 2] from rfl, hs1] at HFR
  have HT := hide (show s1.size ≤ 264243 ∧ tkA 1 A s1 = (wdB 1 2 (rt B), 0, 2, B) from by
    have i1 := (unhide HIM).1
    have i2 := (unhide HIM).2
    have hz : 128 ≤ 130 ∧ 130 ≤ 1024 := by decide
    have h1 : (im ((1 : Nat) : Int)).length = 130 := by rw [i1]; exact (unhide HAI).1
    have h2 : (im ((2 : Nat) : Int)).length = 130 ∧ imB (im ((2 : Nat) : Int)) = true := by rw [i2]; exact unhide HBI
    refine ⟨by rw [← hs1]; exact fmT_size hz 1 2 (by decide) (by decide) h2 (fun _ => h1), ?_⟩
    have := tk_chain hz 1 2 (by decide) (by decide) h2 (fun _ => h1) 1 A (by decide) (fun _ => ⟨rfl, i1.symm⟩)
    rw [hs1, i2] at this
    exact this)
  clear hs1
  go_wp2_with fail
  refine (unhide HFR).mono ?_
  rintro e w18 ⟨v18, rfl, hr18, _, ho18⟩
  obtain ⟨pf, cf, rfl, hcf⟩ := yr_form hr18
  have hor : ∀ k, KPt [(1, g), (2, g')] k → (S ≤ k ∧ k ≠ b ∧ ¬ Fd d v k ∧ k ≠ gB) := fun k q => (unhide HP17).kp k (.inr (.inr q))
  have HB18 := hide ((unhide HB17).trans (ho18.hi (unhide HK2 w17 (unhide HB17)).2.2.2 (fun k q => (hor k q).1)))
  have HR18 := hide (show Rp w18 b 1 A from (unhide HR17).only ho18 (fun q => (hor b q).2.1 rfl) (fun k c q => (unhide HP17).not9 k c (.inr (.inr q))))
  have HD18 := hide (show Dk w18 D d v sd from (unhide HD17).only ho18 (fun k hk q => (hor k q).2.2.1 hk))
  have HK18 := hide (show Blk w18 gB (strs B).toArray 9 from (unhide HK17).only ho18 (fun q => (hor gB q).2.2.2 rfl))
  obtain ⟨gf2, of2, hpf2, _, c1⟩ := own_sb (L := [s1]) rfl hr18 0 (by simp)
  subst hpf2
  have c1 : w18.cell? ⟨gf2, of2, none⟩ = some (.string s1) := c1
  clear hr18 ho18 hor hcf HFR HP17 HR17 HD17 HK17
  obtain ⟨W2, hW2⟩ : ∃ q, wdB 1 2 (rt B) = q := ⟨_, rfl⟩
  have HT2 := hide (ytake_any w18 b 1 A (unhide HR18) (by decide) s1 (by have := (unhide HT).1; omega) (unhide HK2 w18 (unhide HB18)).2.1 (unhide HK2 w18 (unhide HB18)).1 (imB_sht (unhide HAI).2) (by rw [(unhide HAI).1]; decide))
  rw [(unhide HT).2, hW2] at HT2
  unfold TkQ at HT2
  clear hW2 HT
  go_wp2_with fail
  refine (unhide HT2).mono ?_
  rintro e w19 ⟨rfl, hR19, ho19⟩
  change Rp w19 b 2 B at hR19
  have HR19 := hide hR19
  have HB19 := hide ((unhide HB18).trans (ho19.hi (unhide HK2 w18 (unhide HB18)).2.2.2 (fun k q => by have := unhide HBS; omega)))
  have HD19 := hide (show Dk w19 D d v sd from (unhide HD18).only ho19 (fun k hk q => by have := ((unhide HZ16).1 k hk).1; have := (unhide HSD).2; omega))
  have HK19 := hide (show Blk w19 gB (strs B).toArray 9 from (unhide HK18).only ho19 (fun q => by have := (unhide HZ16).2.2; omega))
  clear hR19 ho19 HT2 c1 HR18 HD18 HK18
  have HIG := hide (yimage_any w19 b 2 B (unhide HR19) (by rw [(unhide HBI).1]; decide))
  rw [(unhide HBI).1] at HIG
  go_wp2_with fail
  refine (unhide HIG).mono ?_
  rintro e w20 ⟨hb20, _, h20⟩
  obtain ⟨py, cy, rfl, hy⟩ := h20 (by decide)
  have HB20 := hide ((unhide HB19).trans (hb20.mono (unhide HK2 w19 (unhide HB19)).2.2.2))
  have HRD := hide (read_any w20 D d v sd ((unhide HD19).below hb20) (unhide HDS2).2.2 (i : Int))
  rw [(unhide HDS2).1, (unhide HDS2).2.1] at HRD
  have HSM := hide (same22 w20 B 130 w20.heap.size w20.heap.size cy 130 py (some ⟨gB, 0, none⟩) (unhide HBI).1 (own_sb (unhide HBI).1 hy) (Blk.sb ((unhide HK19).below hb20 (unhide HK19).lt)) (by decide))
  clear hb20 h20 hy HIG HB19 HR19 HD19 HK19
  go_wp2_with fail
  refine (unhide HRD).mono ?_
  rintro e w21 ⟨rfl, h21⟩
  subst w21
  clear HRD
  go_wp2_with fail
  refine (unhide HSM).mono ?_
  rintro e w22 ⟨rfl, hb22⟩
  have HB22 := hide ((unhide HB20).trans (hb22.mono (unhide HK2 w20 (unhide HB20)).2.2.2))
  clear hb22 HSM HB20
  go_wp2_with fail
  refine (unhide HFL _).mono ?_
  rintro e w23 ⟨rfl, hb23⟩
  have HB23 := hide ((unhide HB22).trans (hb23.mono (unhide HK2 w22 (unhide HB22)).2.2.2))
  clear hb23 HFL HB22
  go_wp2
  go_ret
  exact ⟨rfl, (unhide HK2 w23 (unhide HB23)).2.2.1⟩
end Go.Proofs.YtnfdedolgfcmfaaGreatDoor
