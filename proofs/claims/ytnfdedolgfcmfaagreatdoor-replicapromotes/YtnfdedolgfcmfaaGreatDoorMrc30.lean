import Derived.Test.YtnfdedolgfcmfaaGreatDoorMrc21
import Derived.Test.YtnfdedolgfcmfaaGreatDoorMrc29
namespace Go.Proofs.YtnfdedolgfcmfaaGreatDoor
open Go.RowKit
set_option maxRecDepth 100000
theorem Only.hi {P : Nat → Prop} {w w' : World} {B : Nat} (h : Only P w w') (hB : B ≤ w.heap.size) (hp : ∀ k, P k → B ≤ k) : Below B w w' := h.below hB (fun k hk q => by have := hp k q; omega)
/-- Frames, of a primary whose blocks are all of one kind -/
theorem pframesF_any (F : Nat → Prop) (w : World) (p mp z N B n : Nat) (l : Tx) (im : Int → List ByteArray) (hP : PrF F w p mp z N B l im) (hW : PW z N B l im) (hK : KTab w) (hn : (ntsP B l).length = n) :
    Calls Tryz.prog 15 #[.pointer (some ⟨p, 0, none⟩)] w fun e w' => ∃ v, e = .returned v ∧ w'.ownsRow w.heap.size 9 1 v n (strs (frms z im B (ntsP B l))) ∧ PrF F w' p mp z N B l im ∧ Only (KPt l) w w' := by
  obtain ⟨G, hG, h2⟩ := hP
  refine (pframes_any w p mp z N B n l im G hG hW hK hn).mono ?_
  rintro e w' ⟨v, q1, q2, q3, q4⟩
  exact ⟨v, q1, q2, ⟨G, q3, h2⟩, q4⟩
theorem PrF.kp {F : Nat → Prop} {w : World} {p mp z N B : Nat} {l : Tx} {im : Int → List ByteArray} (h : PrF F w p mp z N B l im) : ∀ q, (q = p ∨ q = mp ∨ KPt l q) → F q := fun q hq => by
  obtain ⟨G, h1, h2, h3, h4⟩ := h
  rcases hq with rfl | rfl | ⟨e, he, rfl⟩
  · exact h2
  · exact h3
  · exact (h4 e he).1
theorem PrF.imp {F F' : Nat → Prop} {w : World} {p mp z N B : Nat} {l : Tx} {im : Int → List ByteArray} (h : PrF F w p mp z N B l im) (hi : ∀ q, F q → q < w.heap.size → F' q) : PrF F' w p mp z N B l im := by
  obtain ⟨G, h1, h2, h3, h4⟩ := h
  exact ⟨G, h1, hi _ h2 h1.1.blk.lt, hi _ h3 h1.1.map.lt, fun e he => ⟨hi _ (h4 e he).1 (h1.1.sds e he).lt, hi _ (h4 e he).2 (h1.2 e he).lst.lt⟩⟩
theorem PrF.not9 {F : Nat → Prop} {w : World} {p mp z N B : Nat} {l : Tx} {im : Int → List ByteArray} (h : PrF F w p mp z N B l im) : ∀ k c, (k = p ∨ k = mp ∨ KPt l k) → ¬ Blk w k c 9 := fun k c hq hk => by
  rcases hq with rfl | rfl | ⟨e, he, rfl⟩
  · exact h.pr.blk.tyne hk (by decide) rfl
  · exact h.pr.map.not_blk hk rfl
  · exact (h.pr.sds e he).nine _ _ rfl hk
/-- a frame that leads on is taken -/
theorem tk_chain {z : Nat} {im : Int → List ByteArray} (hz : 128 ≤ z ∧ z ≤ 1024) (a t : Nat) (hat : a < t) (ht : t ≤ 65535) (hT : (im (t : Int)).length = z ∧ imB (im (t : Int)) = true) (hA : a ≠ 0 → (im (a : Int)).length = z) (N : Nat) (l : List ByteArray) (hN : N < t) (hl : a ≠ 0 → N = a ∧ l = im (a : Int)) : tkA N l (fmT z im a t) = (wdB 1 t (rt (im (t : Int))), 0, t, im (t : Int)) := by
  obtain ⟨q1, q2, q3, q4, q5, q6, q7⟩ := fmT_ok hz a t hat ht hT hA
  have hm := q7 l (fun e => (hl e).2)
  rw [tkA_yes q1 (by rw [q5]; omega) (fun q => ?_) (by rw [hm, q6]), q5, hm]
  by_cases e : a = 0
  · have := q.1
    rw [q2, if_pos e] at this
    exact absurd this (by decide)
  · have h1 := q.2
    rw [q4, q3, if_neg e] at h1
    obtain ⟨h2, h3⟩ := hl e
    exact h1 ⟨h2, by rw [h3]; exact hA e⟩
theorem fmT_size {z : Nat} {im : Int → List ByteArray} (hz : 128 ≤ z ∧ z ≤ 1024) (a t : Nat) (hat : a < t) (ht : t ≤ 65535) (hT : (im (t : Int)).length = z ∧ imB (im (t : Int)) = true) (hA : a ≠ 0 → (im (a : Int)).length = z) : (fmT z im a t).size ≤ 264243 := (fmT_ok hz a t hat ht hT hA).1.2.1
/-- the word of a number -/
theorem wd_is (n : Nat) (r : ByteArray) (hn : n < 4294967296) (hr : r.size = 32) : isWd (wdB 1 n r) ∧ rwK (wdB 1 n r) = 1 ∧ (rwN (wdB 1 n r)).toNat = n ∧ rwR (wdB 1 n r) = r := by
  obtain ⟨q1, q2, q3, q4, q5, q6⟩ := wdB_parts 1 n r (by decide) hn hr
  refine ⟨⟨q1, q2, ?_⟩, q4, by rw [q5]; omega, q6⟩
  unfold rwB
  rw [q3, q4]
  exact decide_eq_true ⟨rfl, .inl rfl⟩
theorem bl_kept {z N B : Nat} {l : Tx} {im : Int → List ByteArray} (h : PW z N B l im) (n g : Nat) (hg : ((n : Int), g) ∈ l) (hB : B ≤ n) : blA N B l im 1 n (rt (im (n : Int))) = (0, n, fgt 0 n l) := by
  have hk := h.key _ hg
  simp only at hk
  have hx := (at_some h.srt).2 hg
  unfold blA
  rw [if_neg (by decide), if_neg (by omega), if_neg (by omega), if_neg (by rw [hx]; exact fun q => by cases q), if_neg (fun q => q rfl)]
theorem cf_kept {z N B : Nat} {l : Tx} {im : Int → List ByteArray} (h : PW z N B l im) (n g : Nat) (hg : ((n : Int), g) ∈ l) (hB : B ≤ n) : cfA N B l im (wdB 1 n (rt (im (n : Int)))) = ((((ntsP n (fgt 0 n l)).length : Nat) : Int), 0, n, fgt 0 n l) := by
  have hk := h.key _ hg
  have hN := h.N2
  simp only at hk
  obtain ⟨q1, q2, q3, q4⟩ := wd_is n (rt (im (n : Int))) (by omega) (rt_size _)
  unfold cfA
  rw [if_pos q1, q2, q3, q4, bl_kept h n g hg hB]
  rfl
theorem Rp.hi {w w' : World} {b N : Nat} {l : List ByteArray} {B : Nat} (h : Rp w b N l) (hB : B ≤ b) (ho : Only (fun q => q = b) w w') : Below B w w' := ho.hi (by have := h.lt; omega) (fun k q => by omega)
theorem own_sb {w : World} {base n c : Nat} {p : Option Addr} {L : List ByteArray} (hn : L.length = n) (h : w.ownsRow base 9 1 (.slice p n c) n (strs L)) : SB w w.heap.size p L := fun j hj => by
  rcases h.2 with ⟨h1, h0⟩ | ⟨g, cap, cur, h1, hb, hg, hn2, hc, hs, hx⟩
  · omega
  · have e0 : p = some ⟨g, 0, none⟩ := by injection h1
    have hB : Blk w g cur 9 := hg
    refine ⟨g, 0, e0, hB.lt, ?_⟩
    have h5 : (cur.toList.take (n * 1))[j]? = (strs L)[j]? := by rw [hx]
    rw [List.getElem?_take, if_pos (by omega), strs, List.getElem?_map, List.getElem?_eq_getElem hj] at h5
    rw [Nat.zero_add, hB.cell, ← Array.getElem?_toList, h5, List.getD_eq_getElem?_getD, List.getElem?_eq_getElem hj]
    rfl
theorem imB_blank (n : Nat) (h1 : 128 ≤ n) (h2 : n ≤ 1024) : imB (List.replicate n (zR 256)) = true := by
  unfold imB
  rw [decide_eq_true_iff, List.length_replicate]
  refine ⟨h1, h2, fun j hj => ?_⟩
  rw [List.getD_eq_getElem?_getD, List.getElem?_replicate, if_pos hj]
  exact zR_size 256
/-- the numbers of awake -/
theorem aw_l (g g' : Nat) : nwL 1 0 g' [(1, g)] = [(1, g), (2, g')] := rfl
theorem aw_f (g g' : Nat) : fgt 0 2 [(1, g), (2, g')] = [(2, g')] := rfl
theorem aw_n (g g' : Nat) : ntsP 0 [(1, g), (2, g')] = [1, 2] := rfl
theorem aw_m (g' : Nat) : ntsP 2 [(2, g')] = [] := rfl
set_option maxHeartbeats 16000000 in
theorem awake22 (w : World) (hK : KTab w) (hE : ETy w) : Calls Tryz.prog 8 #[] w fun e w' => e = .returned (.bool true) ∧ Below w.heap.size w w' := by
  have HK := hide (And.intro hK hE)
  have HB1 := hide (blank22 128 (by decide) w)
  obtain ⟨A, hA⟩ : ∃ q, List.replicate 128 (zR 256) = q := ⟨_, rfl⟩
  have HAI := hide (show A.length = 128 ∧ imB A = true from by rw [← hA]; exact ⟨List.length_replicate, imB_blank 128 (by decide) (by decide)⟩)
  rw [hA] at HB1
  obtain ⟨B, hB⟩ : ∃ q, edP A 128 [(5, 7)] 1 = q := ⟨_, rfl⟩
  have HBI := hide (show B.length = 128 ∧ imB B = true from by rw [← hB]; exact ⟨by rw [edP_len, (unhide HAI).1], edP_im _ _ _ (unhide HAI).2 _⟩)
  have HBE := hide hB
  clear hK hE hA hB
  go_enter Tryz.func8, Tryz.ntmps8
  go_wp2_with fail
  refine (unhide HB1).mono ?_
  rintro e w1 ⟨v1, rfl, hr1, hb1⟩
  obtain ⟨pa, ca, rfl, hca⟩ := yr_form hr1
  have hE1 := Blk.new w1 81 #[.int .i64 5, .int .i64 7]
  have HA1 := hide (own_sb (unhide HAI).1 hr1)
  have HED := hide (edited22 (w1.alloc (Obj.cells #[.int .i64 5, .int .i64 7] 81)) A 128 (unhide HAI).1 (by decide) (by decide) w1.heap.size ca pa ((own_sb (unhide HAI).1 hr1).below ((Below.refl _ _).alloc (Nat.le_refl _) _)) (by simp) [(5, 7)] 1 rfl (by decide) (w1.heap.size + 1) 1 (some ⟨w1.heap.size, 0, none⟩) (fun j hj => by
    have h0 : j = 0 := by simpa using hj
    subst h0
    exact ⟨w1.heap.size, 0, rfl, by omega, by rw [hE1.cell]; rfl, by rw [hE1.cell]; rfl⟩) (by simp) (fun j hj => by
    have h0 : j = 0 := by omega
    subst h0
    exact ⟨by unfold I64; decide, by unfold I64; decide⟩))
  rw [unhide HBE] at HED
  have HW1 := hide hb1
  have HS1 := hide hb1.size
  clear hr1 hb1 hE1 HB1 hca
  go_wp2_with fail
  refine (unhide HED).mono ?_
  rintro e w2 ⟨g2, rfl, hg2, hk2, hb2⟩
  obtain ⟨S, hS⟩ : ∃ q, w2.heap.size = q := ⟨_, rfl⟩
  have hb21 : Below w1.heap.size w1 w2 := ((Below.refl _ _).alloc (Nat.le_refl _) _).trans (hb2.mono (by simp))
  have HW2' := hide (show Below w.heap.size w w2 from (unhide HW1).trans (hb21.mono (unhide HS1)))
  have HK2 := hide (show ∀ y, Below S w2 y → KTab y ∧ ETy y from fun y hy => by
    have h1 : Below w.heap.size w y := (unhide HW2').trans (hy.mono (by have := (unhide HW2').size; omega))
    exact ⟨(unhide HK).1.below h1 (unhide HK).1.1, (unhide HK).2.below h1 (unhide HK).2.lt⟩)
  have HBB := hide (show ∀ y, Below S w2 y → SB y S (some ⟨g2, 0, none⟩) B from fun y hy => by
    have h1 : SB w2 w2.heap.size (some ⟨g2, 0, none⟩) B := Blk.sb hk2
    rw [hS] at h1
    exact h1.below hy)
  have HPN := hide (pnew_any (fun q => S ≤ q) w2 A 128 ca w1.heap.size pa (unhide HAI).1 ((unhide HA1).below hb21) hb21.size (fun q hq => by omega))
  clear hg2 hk2 hb2 hb21 HED HA1 HS1
  go_wp2_with fail
  refine (unhide HPN).mono ?_
  rintro e w3 ⟨hb3, _, h3⟩
  obtain ⟨p, mp, g, rfl, hp3, hP3⟩ := h3 (unhide HAI).2
  have HP3 := hide hP3
  have HB3 := hide (show Below S w2 w3 from by rw [← hS]; exact hb3)
  have HPW := hide (PW.new (unhide HAI).1 (unhide HAI).2 g)
  clear hb3 h3 hp3 hP3 HPN
  have HNR := hide (ynewReplica_any w3)
  go_wp2_with fail
  refine (unhide HNR).mono ?_
  rintro e w4 ⟨rfl, hR4, hb4⟩
  obtain ⟨b, hbe⟩ : ∃ q, w3.heap.size = q := ⟨_, rfl⟩
  have HB4 := hide (show Below S w2 w4 from (unhide HB3).trans (hb4.mono (by have := (unhide HB3).size; omega)))
  have HP4 := hide (show PrF (fun q => S ≤ q ∧ q ≠ b) w4 p mp 128 1 0 [(1, g)] (fun _ => A) from ((unhide HP3).imp (fun q h1 h2 => ⟨h1, by omega⟩)).below hb4)
  rw [hbe] at hR4 ⊢
  have HBS := hide (show S ≤ b from by have := (unhide HB3).size; omega)
  have HR4 := hide hR4
  clear hbe hR4 hb4 HNR
  have HNO := hide (pnote_any (fun q => S ≤ q ∧ q ≠ b) w4 p mp 128 1 0 [(1, g)] (fun _ => A) (unhide HP4) (unhide HPW) B 128 S (some ⟨g2, 0, none⟩) (unhide HBI).1 (unhide HBI).2 (unhide HBB w4 (unhide HB4)) (by have := (unhide HB4).size; omega) (by decide) (fun q hq => by have h1 := (unhide HB4).size; have h2 := (unhide HR4).lt; exact ⟨by omega, by omega⟩))
  go_wp2_with fail
  refine (unhide HNO).mono ?_
  rintro e w5 ⟨g', rfl, hP5, ho5⟩
  rw [aw_l] at hP5
  have hPW5 : PW 128 2 0 [(1, g), (2, g')] (nwI 1 B (fun _ => A)) := by
    have := (unhide HPW).note (by decide) B (unhide HBI).1 (unhide HBI).2 g'
    rwa [aw_l] at this
  have h45 : Below S w4 w5 := ho5.hi (by have := (unhide HB4).size; omega) (fun k q => ((unhide HP4).kp k (by rcases q with q | q; exact .inl q; exact .inr (.inl q))).1)
  have HB5 := hide ((unhide HB4).trans h45)
  have HR5 := hide (show Rp w5 b 0 [] from (unhide HR4).only ho5 (fun q => ((unhide HP4).kp b (by rcases q with q | q; exact .inl q; exact .inr (.inl q))).2 rfl) (fun k c q => (unhide HP4).not9 k c (by rcases q with q | q; exact .inl q; exact .inr (.inl q))))
  obtain ⟨im, him⟩ : ∃ q, nwI 1 B (fun _ => A) = q := ⟨_, rfl⟩
  have HIM := hide (show im ((1 : Nat) : Int) = A ∧ im ((2 : Nat) : Int) = B from by rw [← him]; exact ⟨rfl, rfl⟩)
  rw [him] at hP5 hPW5
  have HP5 := hide hP5
  have HPW5 := hide hPW5
  clear ho5 hP5 hPW5 h45 him HNO HP3 HP4 HR4 HPW
  have HFR := hide (pframesF_any (fun q => S ≤ q ∧ q ≠ b) w5 p mp 128 2 0 2 [(1, g), (2, g')] im (unhide HP5) (unhide HPW5) (unhide HK2 w5 (unhide HB5)).1 rfl)
  rw [aw_n] at HFR
  obtain ⟨s0, hs0⟩ : ∃ q, fmT 128 im 0 1 = q := ⟨_, rfl⟩
  obtain ⟨s1, hs1⟩ : ∃ q, fmT 128 im 1 2 = q := ⟨_, rfl⟩
  rw [show frms 128 im 0 [1, 2] = [fmT 128 im 0 1, fmT 128 im 1 2] from rfl, hs0, hs1] at HFR
  have HT := hide (show s0.size ≤ 264243 ∧ s1.size ≤ 264243 ∧ tkA 0 [] s0 = (wdB 1 1 (rt A), 0, 1, A) ∧ tkA 1 A s1 = (wdB 1 2 (rt B), 0, 2, B) from by
    have i1 := (unhide HIM).1
    have i2 := (unhide HIM).2
    have hz : 128 ≤ 128 ∧ 128 ≤ 1024 := by decide
    have h1 : (im ((1 : Nat) : Int)).length = 128 ∧ imB (im ((1 : Nat) : Int)) = true := by rw [i1]; exact unhide HAI
    have h2 : (im ((2 : Nat) : Int)).length = 128 ∧ imB (im ((2 : Nat) : Int)) = true := by rw [i2]; exact unhide HBI
    refine ⟨by rw [← hs0]; exact fmT_size hz 0 1 (by decide) (by decide) h1 (fun q => absurd rfl q), by rw [← hs1]; exact fmT_size hz 1 2 (by decide) (by decide) h2 (fun _ => h1.1), ?_, ?_⟩
    · have := tk_chain hz 0 1 (by decide) (by decide) h1 (fun q => absurd rfl q) 0 [] (by decide) (fun q => absurd rfl q)
      rw [hs0, i1] at this
      exact this
    · have := tk_chain hz 1 2 (by decide) (by decide) h2 (fun _ => h1.1) 1 A (by decide) (fun _ => ⟨rfl, i1.symm⟩)
      rw [hs1, i2] at this
      exact this)
  clear hs0 hs1
  go_wp2_with fail
  refine (unhide HFR).mono ?_
  rintro e w6 ⟨v6, rfl, hr6, hP6, ho6⟩
  obtain ⟨pf, cf, rfl, hcf⟩ := yr_form hr6
  have h56 : Below S w5 w6 := ho6.hi (by have := (unhide HB5).size; omega) (fun k q => ((unhide HP5).kp k (.inr (.inr q))).1)
  have HB6 := hide ((unhide HB5).trans h56)
  have HR6 := hide (show Rp w6 b 0 [] from (unhide HR5).only ho6 (fun q => ((unhide HP5).kp b (.inr (.inr q))).2 rfl) (fun k c q => (unhide HP5).not9 k c (.inr (.inr q))))
  have HP6 := hide hP6
  have HRW := hide (show ∀ y, Only (fun q => q = b) w6 y → y.ownsRow w5.heap.size 9 1 (.slice pf 2 cf) 2 (strs [s0, s1]) from fun y hy => owns_only hr6 hy (fun k hk e => by
    have h1 := (hr6.lt k hk).1
    have h2 := (unhide HR5).lt
    omega))
  clear hr6 hP6 ho6 h56 hcf HFR HP5 HR5
  obtain ⟨W1, hW1⟩ : ∃ q, wdB 1 1 (rt A) = q := ⟨_, rfl⟩
  obtain ⟨W2, hW2⟩ : ∃ q, wdB 1 2 (rt B) = q := ⟨_, rfl⟩
  have HW2 := hide hW2
  have HT1 := hide (ytake_any w6 b 0 [] (unhide HR6) (by decide) s0 (by have := (unhide HT).1; omega) (unhide HK2 w6 (unhide HB6)).2 (unhide HK2 w6 (unhide HB6)).1 (fun j hj => absurd hj (by simp)) (by decide))
  rw [(unhide HT).2.2.1, hW1] at HT1
  obtain ⟨gf, of, hpf, _, c0⟩ := own_sb (L := [s0, s1]) rfl (unhide HRW w6 (Only.refl _ _)) 0 (by simp)
  subst hpf
  have c0 : w6.cell? ⟨gf, of, none⟩ = some (.string s0) := c0
  unfold TkQ at HT1
  go_wp2_with fail
  refine (unhide HT1).mono ?_
  rintro e w7 ⟨rfl, hR7, ho7⟩
  change Rp w7 b 1 A at hR7
  have HR7 := hide hR7
  have h67 : Below S w6 w7 := ho7.hi (by have := (unhide HB6).size; omega) (fun k q => by have := unhide HBS; omega)
  have HB7 := hide ((unhide HB6).trans h67)
  have HP7 := hide ((unhide HP6).keep ho7 (fun q e h => h.2 e))
  have HO7 := hide ho7
  clear hR7 ho7 h67 HT1 c0 HP6
  have HT2 := hide (ytake_any w7 b 1 A (unhide HR7) (by decide) s1 (by have := (unhide HT).2.1; omega) (unhide HK2 w7 (unhide HB7)).2 (unhide HK2 w7 (unhide HB7)).1 (imB_sht (unhide HAI).2) (by rw [(unhide HAI).1]; decide))
  rw [(unhide HT).2.2.2, hW2] at HT2
  obtain ⟨gf', of', hpf, _, c1⟩ := own_sb (L := [s0, s1]) rfl (unhide HRW w7 (unhide HO7)) 1 (by simp)
  obtain ⟨rfl, rfl⟩ : gf = gf' ∧ of = of' := by injection hpf with hpf; injection hpf with h1 h2; exact ⟨h1, h2⟩
  have c1 : w7.cell? ⟨gf, of + 1, none⟩ = some (.string s1) := c1
  unfold TkQ at HT2
  clear hW1 hW2
  go_wp2_with fail
  refine (unhide HT2).mono ?_
  rintro e w8 ⟨rfl, hR8, ho8⟩
  change Rp w8 b 2 B at hR8
  have HR8 := hide hR8
  have h78 : Below S w7 w8 := ho8.hi (by have := (unhide HB7).size; omega) (fun k q => by have := unhide HBS; omega)
  have HB8 := hide ((unhide HB7).trans h78)
  have HP8 := hide ((unhide HP7).keep ho8 (fun q e h => h.2 e))
  clear hR8 ho8 h78 HT2 c1 HP7 HRW HO7
  have HCF := hide (pconfirm_any (fun q => S ≤ q ∧ q ≠ b) w8 p mp 128 2 0 [(1, g), (2, g')] im (unhide HP8) (unhide HPW5) (unhide HK2 w8 (unhide HB8)).1 (unhide HK2 w8 (unhide HB8)).2 W2)
  have hcf := cf_kept (unhide HPW5) 2 g' (by simp) (by decide)
  rw [(unhide HIM).2, unhide HW2, aw_f, aw_m] at hcf
  rw [hcf] at HCF
  unfold CfQ at HCF
  clear hcf
  go_wp2_with fail
  refine (unhide HCF).mono ?_
  rintro e w9 ⟨rfl, hP9, ho9⟩
  have h89 : Below S w8 w9 := ho9.hi (by have := (unhide HB8).size; omega) (fun k q => ((unhide HP8).kp k q).1)
  have HB9 := hide ((unhide HB8).trans h89)
  have HR9 := hide (show Rp w9 b 2 B from (unhide HR8).only ho9 (fun q => ((unhide HP8).kp b q).2 rfl) (fun k c q => (unhide HP8).not9 k c q))
  clear hP9 ho9 h89 HCF HP8
  have HIG := hide (yimage_any w9 b 2 B (unhide HR9) (by rw [(unhide HBI).1]; decide))
  rw [(unhide HBI).1] at HIG
  go_wp2_with fail
  refine (unhide HIG).mono ?_
  rintro e w10 ⟨hb10, _, h10⟩
  obtain ⟨px, cx, rfl, hx⟩ := h10 (by decide)
  have HB10 := hide (show Below S w2 w10 from (unhide HB9).trans (hb10.mono (by have := (unhide HB9).size; omega)))
  have HNU := hide (ynumber_any w10 b 2 B ((unhide HR9).below hb10))
  have HSM := hide (same22 w10 B 128 w10.heap.size S cx 128 px (some ⟨g2, 0, none⟩) (unhide HBI).1 (own_sb (unhide HBI).1 hx) (unhide HBB w10 (unhide HB10)) (by decide))
  rw [if_neg (by decide)] at HNU
  clear hb10 h10 hx HIG
  go_wp2_with fail
  refine (unhide HNU).mono ?_
  rintro e w11 ⟨rfl, h11⟩
  subst w11
  clear HNU
  go_wp2_with fail
  refine (unhide HSM).mono ?_
  rintro e w12 ⟨rfl, hb12⟩
  have HB12 := hide (show Below w.heap.size w w12 from (unhide HW2').trans (((unhide HB10).trans (hb12.mono (by have := (unhide HB10).size; omega))).mono (by have := (unhide HW2').size; omega)))
  clear hb12 HSM
  go_wp2
  go_ret
  exact ⟨rfl, unhide HB12⟩
end Go.Proofs.YtnfdedolgfcmfaaGreatDoor

namespace Go.Proofs.YtnfdedolgfcmfaaGreatDoor
open Go.RowKit
set_option maxRecDepth 100000
end Go.Proofs.YtnfdedolgfcmfaaGreatDoor

namespace Go.Proofs.YtnfdedolgfcmfaaGreatDoor
open Go.RowKit
set_option maxRecDepth 100000
theorem edM_below {w w' : World} {B : Nat} {p : Option Addr} {E : List (Int × Int)} (h : EdM w B p E) (hb : Below B w w') : EdM w' B p E := fun j hj => by
  obtain ⟨g, o, e, hg, q1, q2⟩ := h j hj
  exact ⟨g, o, e, hg, (hb.cell (p := ⟨g, o + j * 2, none⟩) hg).trans q1, (hb.cell (p := ⟨g, o + j * 2 + 1, none⟩) hg).trans q2⟩
end Go.Proofs.YtnfdedolgfcmfaaGreatDoor
