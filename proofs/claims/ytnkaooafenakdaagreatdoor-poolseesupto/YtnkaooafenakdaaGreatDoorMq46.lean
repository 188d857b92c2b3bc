import Derived.Test.YtnkaooafenakdaaGreatDoorMq45
namespace Go.Proofs.YtnkaooafenakdaaGreatDoor
open Go.RowKit Go.Maps Go.Sort Go.Shelf
/-- Between two steps of a script. -/
structure SeR (w : World) (b jb pb gw gn : Nat) (S : PS) (L : List ByteArray) (A : List (Nat × Nat)) (hn : Nat) (Mw Mn : List ByteArray) (many k : Nat) (wr : World) : Prop where
  pk : PK w wr b jb pb S (fun x => x = gw ∨ x = gn)
  bw : Blk wr gw (strs Mw).toArray 9
  bn : Blk wr gn (strs Mn).toArray 9
  seen : Seen S L A hn Mw Mn
  many : S.op = true → S.tx.length ≤ many
  acts : A.length ≤ 2 + 38 * k
  low : w.heap.size ≤ gw ∧ w.heap.size ≤ gn ∧ gw ≠ gn
theorem SeR.below {w : World} {b jb pb gw gn : Nat} {S : PS} {L : List ByteArray} {A : List (Nat × Nat)} {hn : Nat} {Mw Mn : List ByteArray} {many k : Nat} {wr w' : World} (h : SeR w b jb pb gw gn S L A hn Mw Mn many k wr) (hb : Below wr.heap.size wr w') : SeR w b jb pb gw gn S L A hn Mw Mn many k w' :=
  ⟨h.pk.below hb, h.bw.below hb h.bw.lt, h.bn.below hb h.bn.lt, h.seen, h.many, h.acts, h.low⟩
theorem SeR.ne {w : World} {b jb pb gw gn : Nat} {S : PS} {L : List ByteArray} {A : List (Nat × Nat)} {hn : Nat} {Mw Mn : List ByteArray} {many k : Nat} {wr : World} (h : SeR w b jb pb gw gn S L A hn Mw Mn many k wr) : gw ≠ gn := h.low.2.2
theorem SeR.srt {w : World} {b jb pb gw gn : Nat} {S : PS} {L : List ByteArray} {A : List (Nat × Nat)} {hn : Nat} {Mw Mn : List ByteArray} {many k : Nat} {wr : World} (h : SeR w b jb pb gw gn S L A hn Mw Mn many k wr) : Srt S.tx := by
  obtain ⟨bw, bv, ov, K⟩ := h.pk
  exact K.tx.2
theorem SeR.t16 {w : World} {b jb pb gw gn : Nat} {S : PS} {L : List ByteArray} {A : List (Nat × Nat)} {hn : Nat} {Mw Mn : List ByteArray} {many k : Nat} {wr : World} (h : SeR w b jb pb gw gn S L A hn Mw Mn many k wr) : S.tx.length ≤ 16 := by
  obtain ⟨bw, bv, ov, K⟩ := h.pk
  exact K.t16
theorem SeR.tok {w : World} {b jb pb gw gn : Nat} {S : PS} {L : List ByteArray} {A : List (Nat × Nat)} {hn : Nat} {Mw Mn : List ByteArray} {many k : Nat} {wr : World} (h : SeR w b jb pb gw gn S L A hn Mw Mn many k wr) : ∀ p ∈ S.tx, 19 ≤ p.1 ∧ p.1 < 128 ∧ p.2.size = 256 := by
  obtain ⟨bw, bv, ov, K⟩ := h.pk
  intro p hp
  have := K.tok p hp
  rw [h.seen.rst.s, show (rs L A).last.length = 128 from h.seen.len] at this
  exact this
theorem cut_size (ss : ByteArray) : ((ss ++ ⟨#[122]⟩ : ByteArray).extract 0 1).size = 1 := by
  rw [ByteArray.size_extract, ByteArray.size_append]
  have : (⟨#[122]⟩ : ByteArray).size = 1 := rfl
  omega
def ZfI (w : World) (b jb pb g : Nat) (S : PS) (k : Nat) (wr : World) : Prop := PK w wr b jb pb S (fun x => x = g) ∧ Blk wr g (strs (zF k)).toArray 9 ∧ 19 ≤ k
set_option maxRecDepth 100000 in
set_option maxHeartbeats 8000000 in
theorem sees_walk (x0 : Int) (hx0 : I64 x0) (p : Option Addr) (c : Nat) (os : List Op6) (n : Nat) (hn : n = os.length) (w : World) (hg : ETy w) (ho : Ops6 w p os) (hwo : Wop os) (hz : n ≤ 209715) (hss : ∀ i, i < n → (os.getD i op60).s.size ≤ 1048576) :
    Calls Tryz.prog 4 #[.int .i64 x0, .slice p n c] w fun e w' => e = .returned (.bool true) ∧ Below w.heap.size w w' := by
  have HPK := hide (fun W => pick6_any x0 65 (by decide) hx0 65 rfl W)
  have hpl := pickP_lt x0 65 (by decide)
  generalize pickP x0 65 = keep at *
  have HFR := hide (pfresh_any keep (by omega) w hg)
  have HA := hide (And.intro hn (And.intro ho (And.intro hwo hss)))
  have HG := hide hg
  have hmk := run_make_s 128 (by decide)
  simp only [Int.cast_ofNat_Int] at hmk
  rw [← zF_start] at hmk
  have HMK := hide hmk
  clear hg hn ho hwo hss hx0 hmk
  go_enter Tryz.func4, Tryz.ntmps4
  go_wp2_with (go_at_call 10; refine (unhide HPK _).mono ?_; rintro e w' ⟨rfl, hw'⟩; subst w')
  refine (unhide HFR).mono ?_
  rintro e x1 ⟨b, jb, pb, rfl, K1⟩
  have hmk1 := unhide HMK x1
  obtain ⟨x2, hx2⟩ : ∃ x, x1.alloc (.cells (strs (zF 19)).toArray 9) = x := ⟨_, rfl⟩
  rw [hx2] at hmk1
  have hb2 : Below x1.heap.size x1 x2 := by rw [← hx2]; exact (Below.refl _ _).alloc (Nat.le_refl _) _
  have hB2 : Blk x2 x1.heap.size (strs (zF 19)).toArray 9 := by rw [← hx2]; exact Blk.new x1 _ _
  have hlow := K1.bel.size
  have K2 : PK w x2 b jb pb (freshP keep) (fun x => x = x1.heap.size) := K1.more hb2 (fun x hx => .inr (by rw [hx]; exact ⟨Nat.le_refl _, hB2.lt⟩))
  obtain ⟨gw, hgw⟩ : ∃ g, x1.heap.size = g := ⟨_, rfl⟩
  rw [hgw] at hmk1 hB2 K2 hlow
  have X0 := hide (show ZfI w b jb pb gw (freshP keep) 19 x2 from ⟨K2, hB2, Nat.le_refl _⟩)
  have HLO := hide hlow
  clear K1 K2 hb2 hB2 hx2 HFR HPK hlow
  replace hgw := hide hgw
  go_wp2
  go_loopw [8] (fun i wr => ∃ k : Nat, k ≤ 128 ∧ i = .int .i64 (k : Int) ∧ ZfI w b jb pb gw (freshP keep) k wr) (fun i _ => 128 - (intOf i).toNat)
  case atStart => exact ⟨19, by omega, rfl, unhide X0⟩
  case round =>
    obtain ⟨k, hk, rfl, h1, h2, h19⟩ := hrel
    obtain ⟨wo, rfl⟩ : ∃ wo, wo = wr := ⟨_, rfl⟩
    clear X0 hmk1
    by_cases hk128 : k < 128
    · have e1 : (k : Int) < 128 := by omega
      have i0 : (0 : Int) ≤ (k : Int) := by omega
      have HBY := hide (bytes6_any ⟨#[0]⟩ wo)
      rw [zero_rep] at HBY
      have HH := hide (And.intro h1 h2)
      clear h1 h2
      go_wp2_with fail
      refine (unhide HBY).mono ?_
      rintro e y1 ⟨rfl, hb1⟩
      have K1 := (unhide HH).1.below hb1
      have B1 := (unhide HH).2.below hb1 (unhide HH).2.lt
      have cz : y1.cell? ⟨gw, k, none⟩ = some (.string ((zF k).getD k ByteArray.empty)) := by rw [B1.cell]; simp [strs, List.getD_eq_getElem?_getD, zF_len, hk128]
      have fz : y1.frozen? ⟨gw, k, none⟩ = false := B1.frozen k
      have HRR := hide (show ZfI w b jb pb gw (freshP keep) (k + 1) (y1.setCell ⟨gw, k, none⟩ (.string zero256)) from by
        refine ⟨K1.poke (only1 y1 gw k _) (fun x q _ => q) (fun x q => by rw [q]; exact unhide HLO) (fun x hx => .inl hx), ?_, by omega⟩
        have := B1.set k (.string zero256)
        rw [strs_seti, zF_step k h19] at this
        exact this)
      generalize (zF k).getD k ByteArray.empty = old at *
      clear K1 B1 hb1 HH HBY
      go_wp2
      go_roundw
      case rel => exact ⟨k + 1, by omega, by go_num, unhide HRR⟩
      case measure => simp [intOf]; omega
    · have hk' : k = 128 := by omega
      subst hk'
      have e1 : ¬ ((128 : Nat) : Int) < 128 := by decide
      have hmk1 := unhide HMK wo
      obtain ⟨y2, hy2⟩ : ∃ x, wo.alloc (.cells (strs (zF 19)).toArray 9) = x := ⟨_, rfl⟩
      rw [hy2] at hmk1
      have hb2 : Below wo.heap.size wo y2 := by rw [← hy2]; exact (Below.refl _ _).alloc (Nat.le_refl _) _
      have hB2 : Blk y2 wo.heap.size (strs (zF 19)).toArray 9 := by rw [← hy2]; exact Blk.new wo _ _
      have hlow := h1.bel.size
      have K2 : PK w y2 b jb pb (freshP keep) (fun x => x = gw ∨ x = wo.heap.size) := h1.more hb2 (fun x hx => by
        rcases hx with q | q
        · exact .inl q
        · exact .inr (by rw [q]; exact ⟨Nat.le_refl _, hB2.lt⟩))
      have hBw := h2.below hb2 h2.lt
      have hne : wo.heap.size ≠ gw := by have := h2.lt; omega
      obtain ⟨gn, hgn⟩ : ∃ g, wo.heap.size = g := ⟨_, rfl⟩
      rw [hgn] at hmk1 hB2 K2 hlow hne
      obtain ⟨y3, hcp, hB3, hO3⟩ := copy128 hB2 hBw (zF_len 19) (zF_len 128) 3
      have X1 := hide (show SeR w b jb pb gw gn (freshP keep) L0 A0 0 (zF 128) (zF 128) 0 0 y3 from ⟨K2.poke hO3 (fun x q _ => .inr q) (fun x q => by rw [q]; exact hlow) (fun x hx => .inl hx), hBw.only hO3 (fun q => hne q.symm), hB3, seen0 keep, fun q => (by cases q), by decide, ⟨unhide HLO, hlow, fun q => hne q.symm⟩⟩)
      clear h1 h2 h19 hb2 hB2 K2 hBw hne hy2 hB3 hO3 hlow hk128 hk HMK
      replace hgn := hide hgn
      go_wp2
      go_loopw [6, 10, 11, 12] (fun p6 o10 m11 i12 wr => ∃ k : Nat, k ≤ n + 3 ∧ i12 = .int .i64 ((k : Int) - 3) ∧ ∃ jb pb S L A hn Mw Mn many, p6 = .pointer (some ⟨pb, 0, none⟩) ∧ o10 = .bool S.op ∧ m11 = .int .i64 ((many : Nat) : Int) ∧ many ≤ k ∧ SeR w b jb pb gw gn S L A hn Mw Mn many k wr) (fun _ _ _ i _ => ((n : Int) - intOf i).toNat)
      case atStart => exact ⟨0, by omega, rfl, jb, pb, _, _, _, _, _, _, 0, rfl, rfl, rfl, Nat.le_refl _, unhide X1⟩
      case round =>
        obtain ⟨k, hk, rfl, jb', pb', S, L, A, hn, Mw, Mn, many, rfl, rfl, rfl, hmk, R⟩ := hrel
        obtain ⟨wo', rfl⟩ : ∃ wo', wo' = wr := ⟨_, rfl⟩
        clear X1 hmk1 hcp
        obtain ⟨j, hj⟩ : ∃ j : Int, (k : Int) - 3 = j := ⟨_, rfl⟩
        rw [hj]
        have HJ := hide hj
        have j0 : -3 ≤ j := by omega
        have j1 : j ≤ 1048576 := by omega
        by_cases hjn : j < (n : Int)
        · obtain ⟨r, hr⟩ : ∃ r : Nat, (j + 3).tmod 3 = (r : Int) ∧ r < 3 := ⟨k % 3, by rw [Int.tmod_eq_emod_of_nonneg (by omega)]; omega, Nat.mod_lt _ (by decide)⟩
          have hr1 := hr.1
          have hr2 : (r : Int) < 3 := by have := hr.2; omega
          have hr3 : (0 : Int) ≤ (r : Int) := by omega
          obtain ⟨kd0, hkd0⟩ : ∃ z : Int, (#[Value.int .i64 1, .int .i64 3, .int .i64 5] : Array Value)[r]? = some (.int .i64 z) ∧ I64 z := by
            have h3 := hr.2
            match r, h3 with
            | 0, _ => exact ⟨1, rfl, by decide, by decide⟩
            | 1, _ => exact ⟨3, rfl, by decide, by decide⟩
            | 2, _ => exact ⟨5, rfl, by decide, by decide⟩
          have ck : (wo'.alloc (.cells #[.int .i64 1, .int .i64 3, .int .i64 5] 3)).cell? ⟨wo'.heap.size, r, none⟩ = some (.int .i64 kd0) := ((Blk.new wo' 3 #[.int .i64 1, .int .i64 3, .int .i64 5]).cell r).trans hkd0.1
          have HR := hide R
          have HMK := hide hmk
          clear hr hkd0 R hj hmk hk
          by_cases hj0 : 0 ≤ j
          · obtain ⟨jn, hjn'⟩ : ∃ m : Nat, j = (m : Int) := ⟨j.toNat, by omega⟩
            subst hjn'
            have hji : jn < n := by omega
            have R0 := unhide HR
            obtain ⟨go, oo, lv, hpo, hgo, d0, d1, d2, d3, sp, sl, sc, hlv⟩ := (unhide HA).2.1.below R0.pk.bel (Nat.le_refl _) jn (by have := (unhide HA).1; omega)
            subst hpo hlv
            have hne1 : ¬ (go = wo'.heap.size) := by omega
            have hne2 : ¬ (go = wo'.heap.size + 1) := by omega
            have HW := hide (And.intro ((unhide HA).2.2.1 jn).2 ((unhide HA).2.2.2 jn hji))
            obtain ⟨kd, hkd⟩ : ∃ z, (os.getD jn op60).kind = z := ⟨_, rfl⟩
            obtain ⟨nn, hnn⟩ : ∃ z, (os.getD jn op60).n = z := ⟨_, rfl⟩
            obtain ⟨ss, hss⟩ : ∃ z, (os.getD jn op60).s = z := ⟨_, rfl⟩
            rw [hkd] at d0
            rw [hnn] at d1 HW
            rw [hss] at d2 HW
            have up : ∀ q v, wo'.cell? ⟨go, q, none⟩ = some v → ((wo'.alloc (.cells #[.int .i64 1, .int .i64 3, .int .i64 5] 3)).alloc (.cells #[.int .i64 kd0, .int .i64 5, .string ⟨#[113]⟩, .slice none 0 0] 39)).cell? ⟨go, q, none⟩ = some v := fun q v h => by
              rw [World.cell?_alloc_old _ _ _ (by show go ≠ _; simp; omega), World.cell?_alloc_old _ _ _ (by show go ≠ _; omega)]
              exact h
            have e0 := up _ _ d0
            have e1 := up _ _ d1
            have e2 := up _ _ d2
            have e3 := up _ _ d3
            clear up d0 d1 d2 d3 hkd hnn hss R0 hne1 hne2 hgo
            go_wp2_with fail
            have BX0 : Blk ((wo'.alloc (.cells #[.int .i64 1, .int .i64 3, .int .i64 5] 3)).alloc (.cells #[.int .i64 kd, .int .i64 nn, .string ss, .slice sp sl sc] 39)) (wo'.heap.size + 1) #[.int .i64 kd, .int .i64 nn, .string ss, .slice sp sl sc] 39 := by
              have := Blk.new (wo'.alloc (.cells #[.int .i64 1, .int .i64 3, .int .i64 5] 3)) 39 #[.int .i64 kd, .int .i64 nn, .string ss, .slice sp sl sc]
              rwa [show (wo'.alloc (.cells #[.int .i64 1, .int .i64 3, .int .i64 5] 3)).heap.size = wo'.heap.size + 1 by simp] at this
            have hbX : Below wo'.heap.size wo' ((wo'.alloc (.cells #[.int .i64 1, .int .i64 3, .int .i64 5] 3)).alloc (.cells #[.int .i64 kd, .int .i64 nn, .string ss, .slice sp sl sc] 39)) := ((Below.refl _ wo').alloc (Nat.le_refl _) _).alloc (by simp) _
            clear e0 e1 e2 e3
            generalize hXX : (wo'.alloc (.cells #[.int .i64 1, .int .i64 3, .int .i64 5] 3)).alloc (.cells #[.int .i64 kd, .int .i64 nn, .string ss, .slice sp sl sc] 39) = X at *
            have HX := hide ((unhide HR).below hbX)
            obtain ⟨g13, hg13⟩ : ∃ g, wo'.heap.size + 1 = g := ⟨_, rfl⟩
            rw [hg13] at BX0 ⊢
            have BX := hide BX0
            clear BX0 hbX hXX hg13 HR ck
            refine (home_any nn (unhide HW).1 X).mono ?_
            rintro e X' ⟨rfl, hX'⟩
            subst X'
            obtain ⟨hm, hhm⟩ : ∃ m : Nat, homeP nn = (m : Int) ∧ 19 ≤ m ∧ m < 128 := ⟨19 + pickP nn 20, by unfold homeP; omega, by omega, by have := pickP_lt nn 20 (by decide); omega⟩
            rw [hhm.1]
            have hm1 := hhm.2.1
            have hm2 := hhm.2.2
            clear hhm
            have c0 : X.cell? ⟨g13, 0, none⟩ = some (.int .i64 kd) := (unhide BX).cell 0
            by_cases k1 : kd = 1
            · subst k1
              as_aux_lemma =>
                have HB := hide (pbegin_any (unhide HX).pk)
                obtain ⟨b1, b2, b3, b4⟩ := (unhide HX).seen.begin
                rw [b1] at HB
                have HS := hide (And.intro b2 (And.intro b3 b4))
                clear b1 b2 b3 b4
                generalize beginS S = S2 at *
                cases hop : S.op with
                | true =>
                  rw [hop] at HB
                  simp only [if_true] at HB
                  have HO := hide hop
                  clear hop
                  go_wp2_with fail
                  refine (unhide HB).mono ?_
                  rintro e y ⟨rfl, K, hO⟩
                  have HRR := hide (show SeR w b jb' pb' gw gn S2 L A hn Mw Mn many (k + 1) y from by
                    obtain ⟨s1, s2, s3⟩ := unhide HS
                    have h := unhide HX
                    refine ⟨K, h.bw.only hO (fun q => q (.inl rfl)), h.bn.only hO (fun q => q (.inr rfl)), s1, fun _ => ?_, by have := h.acts; omega, h.low⟩
                    rw [s3]
                    exact h.many (unhide HO))
                  have HS2 := hide (unhide HS).2.1
                  clear K hO HB HS
                  go_wp2
                  go_roundw
                  case rel => exact ⟨k + 1, by have := unhide HJ; omega, by have := unhide HJ; simp; omega, jb', pb', S2, L, A, hn, Mw, Mn, many, rfl, by rw [unhide HS2], rfl, by have := unhide HMK; omega, unhide HRR⟩
                  case measure => simp [intOf]; omega
                | false =>
                  rw [hop] at HB
                  simp only [if_false, Bool.false_eq_true] at HB
                  have HO := hide hop
                  clear hop
                  go_wp2_with fail
                  refine (unhide HB).mono ?_
                  rintro e y ⟨rfl, K, hO⟩
                  have HRR := hide (show SeR w b jb' pb' gw gn S2 L A hn Mw Mn 0 (k + 1) y from by
                    obtain ⟨s1, s2, s3⟩ := unhide HS
                    have h := unhide HX
                    refine ⟨K, h.bw.only hO (fun q => q (.inl rfl)), h.bn.only hO (fun q => q (.inr rfl)), s1, fun _ => ?_, by have := h.acts; omega, h.low⟩
                    rw [s3]
                    rw [h.seen.cl (unhide HO)]; exact Nat.zero_le _)
                  have HS2 := hide (unhide HS).2.1
                  clear K hO HB HS
                  go_wp2
                  go_roundw
                  case rel => exact ⟨k + 1, by have := unhide HJ; omega, by have := unhide HJ; simp; omega, jb', pb', S2, L, A, hn, Mw, Mn, 0, rfl, by rw [unhide HS2], rfl, Nat.zero_le _, unhide HRR⟩
                  case measure => simp [intOf]; omega
            · have k1' : (kd == 1) = false := by simpa using k1
              by_cases k3 : kd = 3
              · subst k3
                as_aux_lemma =>
                  have c2 : X.cell? ⟨g13, 2, none⟩ = some (.string ss) := (unhide BX).cell 2
                  have hsz := (unhide HW).2
                  have hmb : many ≤ 300000 := by have := unhide HMK; have := unhide HJ; omega
                  have HBY := hide (bytes6_any ((ss ++ ⟨#[122]⟩).extract 0 1) X)
                  have hts : (bytesB ((ss ++ ⟨#[122]⟩).extract 0 1)).size = 256 := bytes1_size _ (cut_size ss)
                  generalize bytesB ((ss ++ ⟨#[122]⟩).extract 0 1) = t at *
                  go_wp2_with fail
                  refine (unhide HBY).mono ?_
                  rintro e y ⟨rfl, hby⟩
                  have HX2 := hide ((unhide HX).below hby)
                  have HWR := hide (pwrite_any (unhide HX2).pk (hm : Int) t (by rw [hts]; decide))
                  clear hby HBY c2
                  cases hop : S.op with
                  | false =>
                    obtain ⟨s1, s2⟩ := (unhide HX2).seen.shut hop hm hm1 hm2 t hts
                    rw [s1, s2] at HWR
                    have HO := hide hop
                    clear s1 s2 hop
                    go_wp2_with fail
                    refine (unhide HWR).mono ?_
                    rintro e z ⟨rfl, K, hO⟩
                    have HRR := hide (show SeR w b jb' pb' gw gn S L A hn Mw Mn many (k + 1) z from by
                      have h := unhide HX2
                      exact ⟨K, h.bw.only hO (fun q => q (.inl rfl)), h.bn.only hO (fun q => q (.inr rfl)), h.seen, h.many, by have := h.acts; omega, h.low⟩)
                    clear K hO HWR
                    go_wp2
                    go_roundw
                    case rel => exact ⟨k + 1, by have := unhide HJ; omega, by have := unhide HJ; simp; omega, jb', pb', S, L, A, hn, Mw, Mn, many, rfl, by rw [unhide HO], rfl, by have := unhide HMK; omega, unhide HRR⟩
                    case measure => simp [intOf]; omega
                  | true =>
                    cases hr : roomB S (hm : Int) with
                    | true =>
                      obtain ⟨s1, s2, s3, s4⟩ := (unhide HX2).seen.write (unhide HX2).srt hop hm hm1 hm2 t hts hr
                      rw [s1] at HWR
                      have HS := hide (And.intro s2 (And.intro s3 s4))
                      have HO := hide hop
                      clear s1 s2 s3 s4 hop hr
                      generalize writeP S (hm : Int) t = S2 at *
                      go_wp2_with fail
                      refine (unhide HWR).mono ?_
                      rintro e z ⟨rfl, K, hO⟩
                      have hBn := (unhide HX2).bn.only hO (fun q => q (.inr rfl))
                      have cz : z.cell? ⟨gn, hm, none⟩ = some (.string (Mn.getD hm ByteArray.empty)) := by rw [hBn.cell]; simp [strs, List.getD_eq_getElem?_getD, (unhide HX2).seen.ln, hm2]
                      have fz : z.frozen? ⟨gn, hm, none⟩ = false := hBn.frozen hm
                      have HRR := hide (show SeR w b jb' pb' gw gn S2 L A hn Mw (Mn.set hm t) (many + 1) (k + 1) (z.setCell ⟨gn, hm, none⟩ (.string t)) from by
                        obtain ⟨s1, s2, s3⟩ := unhide HS
                        have h := unhide HX2
                        have hBw := h.bw.only hO (fun q => q (.inl rfl))
                        refine ⟨K.poke (only1 z gn hm _) (fun x q _ => .inr q) (fun x q => by rw [q]; exact h.low.2.1) (fun x hx => .inl hx), hBw.other ⟨gn, hm, none⟩ _ (fun q => h.ne q.symm), ?_, s1, fun _ => ?_, by have := h.acts; omega, h.low⟩
                        · have := hBn.set hm (.string t)
                          rw [strs_seti] at this
                          exact this
                        · rw [s3, put_len h.srt]
                          have := h.many (unhide HO)
                          split <;> omega)
                      have HS2 := hide (unhide HS).2.1
                      generalize Mn.getD hm ByteArray.empty = old at *
                      have i0 : (0 : Int) ≤ (hm : Int) := by omega
                      have i1 : (hm : Int) < 128 := by omega
                      clear K hO HWR hBn HS
                      go_wp2
                      go_roundw
                      case rel => exact ⟨k + 1, by have := unhide HJ; omega, by have := unhide HJ; simp; omega, jb', pb', S2, L, A, hn, Mw, Mn.set hm t, many + 1, rfl, by rw [unhide HS2], by simp, by have := unhide HMK; omega, unhide HRR⟩
                      case measure => simp [intOf]; omega
                    | false =>
                      obtain ⟨s1, s2, s3⟩ := (unhide HX2).seen.full hop hm hm1 hm2 t hts hr
                      rw [s1, s2] at HWR
                      have hm16 : (16 : Int) ≤ (many : Int) := by have := (unhide HX2).many hop; omega
                      have HO := hide hop
                      clear s1 s2 s3 hop hr
                      go_wp2_with fail
                      refine (unhide HWR).mono ?_
                      rintro e z ⟨rfl, K, hO⟩
                      have HRR := hide (show SeR w b jb' pb' gw gn S L A hn Mw Mn many (k + 1) z from by
                        have h := unhide HX2
                        exact ⟨K, h.bw.only hO (fun q => q (.inl rfl)), h.bn.only hO (fun q => q (.inr rfl)), h.seen, h.many, by have := h.acts; omega, h.low⟩)
                      clear K hO HWR
                      go_wp2
                      go_roundw
                      case rel => exact ⟨k + 1, by have := unhide HJ; omega, by have := unhide HJ; simp; omega, jb', pb', S, L, A, hn, Mw, Mn, many, rfl, by rw [unhide HO], rfl, by have := unhide HMK; omega, unhide HRR⟩
                      case measure => simp [intOf]; omega
              · have k3' : (kd == 3) = false := by simpa using k3
                by_cases k5 : kd = 5
                · subst k5
                  as_aux_lemma =>
                    have hak : A.length ≤ 9000000 := by have := (unhide HX).acts; have := unhide HJ; omega
                    have HC := hide (pcommit_any (unhide HX).pk (by rw [(unhide HX).seen.rst.nx]; omega) (by rw [(unhide HX).seen.rst.s]; exact Nat.zero_le _) (by rw [(unhide HX).seen.rst.s]; show A.length ≤ _; omega))
                    cases hop : S.op with
                    | false =>
                      obtain ⟨s1, s2, _, _⟩ := (unhide HX).seen.none hop
                      rw [s1, s2] at HC
                      have HO := hide hop
                      clear s1 s2 hop
                      go_wp2_with fail
                      refine (unhide HC).mono ?_
                      rintro e z ⟨rfl, K, hO⟩
                      have HRR := hide (show SeR w b jb' pb' gw gn S L A hn Mw Mn many (k + 1) z from by
                        have h := unhide HX
                        exact ⟨K, h.bw.only hO (fun q => q (.inl rfl)), h.bn.only hO (fun q => q (.inr rfl)), h.seen, h.many, by have := h.acts; omega, h.low⟩)
                      clear K hO HC
                      go_wp2
                      go_roundw
                      case rel => exact ⟨k + 1, by have := unhide HJ; omega, by have := unhide HJ; simp; omega, jb', pb', S, L, A, hn, Mw, Mn, many, rfl, by rw [unhide HO], rfl, by have := unhide HMK; omega, unhide HRR⟩
                      case measure => simp [intOf]; omega
                    | true =>
                      obtain ⟨s1, s2, s3⟩ := (unhide HX).seen.commit hop (unhide HX).srt (unhide HX).t16 (unhide HX).tok
                      rw [s1] at HC
                      have HS := hide (And.intro s2 s3)
                      have hl16 := (unhide HX).t16
                      have HCA := hide (show (A ++ comA S.tx).length = A.length + 38 from by rw [List.length_append, comA_len S.tx hl16])
                      clear s1 s2 s3 hop hl16
                      generalize comL L ((hn + 1) % 4294967296) S.tx = L2 at *
                      generalize A ++ comA S.tx = A2 at *
                      generalize commitPS S = S2 at *
                      go_wp2_with fail
                      refine (unhide HC).mono ?_
                      rintro e z ⟨rfl, K, hO⟩
                      have hBw := (unhide HX).bw.only hO (fun q => q (.inl rfl))
                      have hBn := (unhide HX).bn.only hO (fun q => q (.inr rfl))
                      obtain ⟨z2, hcp, hB2, hO2⟩ := copy128 hBw hBn (unhide HX).seen.lw (unhide HX).seen.ln 3
                      have HRR := hide (show SeR w b jb' pb' gw gn S2 L2 A2 ((hn + 1) % 4294967296) Mn Mn many (k + 1) z2 from by
                        have h := unhide HX
                        refine ⟨K.poke hO2 (fun x q _ => .inl q) (fun x q => by rw [q]; exact h.low.1) (fun x hx => .inl hx), hB2, hBn.only hO2 (fun q => h.ne q.symm), (unhide HS).1, fun q => ?_, by have := h.acts; have := unhide HCA; omega, h.low⟩
                        rw [(unhide HS).2] at q
                        cases q)
                      have HS2 := hide (unhide HS).2
                      clear K hO HC hBw hBn hB2 hO2 HS
                      go_wp2
                      go_roundw
                      case rel => exact ⟨k + 1, by have := unhide HJ; omega, by have := unhide HJ; simp; omega, jb', pb', S2, L2, A2, (hn + 1) % 4294967296, Mn, Mn, many, rfl, by rw [unhide HS2], rfl, by have := unhide HMK; omega, unhide HRR⟩
                      case measure => simp [intOf]; omega
                · have k5' : (kd == 5) = false := by simpa using k5
                  by_cases k6 : kd = 6
                  · subst k6
                    as_aux_lemma =>
                      have HC := hide (pabort_any (unhide HX).pk)
                      have hS2 : ∃ S2, abortS S = S2 ∧ S2.op = false ∧ S2.tx = [] ∧ Rst S2 L A ((hn + 1) % 4294967296) ∧ Hok S2.h L := by
                        have h := (unhide HX).seen
                        cases hop : S.op with
                        | true => exact ⟨endS S, by simp [abortS, hop], rfl, rfl, end_rest h.rst, h.hok⟩
                        | false => exact ⟨S, by simp [abortS, hop], hop, h.cl hop, h.rst, h.hok⟩
                      obtain ⟨S2, s1, s2, s3, s4, s5⟩ := hS2
                      rw [s1] at HC
                      have HS := hide (And.intro s2 (And.intro s3 (And.intro s4 s5)))
                      have hae : abortE S = if S.op then 0 else 61 := rfl
                      rw [hae] at HC
                      clear s1 s2 s3 s4 s5 hae
                      cases hop : S.op with
                      | true =>
                        rw [hop] at HC
                        simp only [if_true] at HC
                        clear hop
                        go_wp2_with fail
                        refine (unhide HC).mono ?_
                        rintro e z ⟨rfl, K, hO⟩
                        have hBw := (unhide HX).bw.only hO (fun q => q (.inl rfl))
                        have hBn := (unhide HX).bn.only hO (fun q => q (.inr rfl))
                        obtain ⟨z2, hcp, hB2, hO2⟩ := copy128 hBn hBw (unhide HX).seen.ln (unhide HX).seen.lw 3
                        have HRR := hide (show SeR w b jb' pb' gw gn S2 L A hn Mw Mw many (k + 1) z2 from by
                          have h := unhide HX
                          obtain ⟨s2, s3, s4, s5⟩ := unhide HS
                          refine ⟨K.poke hO2 (fun x q _ => .inr q) (fun x q => by rw [q]; exact h.low.2.1) (fun x hx => .inl hx), hBw.only hO2 (fun q => h.ne q), hB2, h.seen.back S2 s4 s3 s5, fun q => ?_, by have := h.acts; omega, h.low⟩
                          rw [s2] at q
                          cases q)
                        have HS2 := hide (unhide HS).1
                        clear K hO HC hBw hBn hB2 hO2 HS
                        go_wp2
                        go_roundw
                        case rel => exact ⟨k + 1, by have := unhide HJ; omega, by have := unhide HJ; simp; omega, jb', pb', S2, L, A, hn, Mw, Mw, many, rfl, by rw [unhide HS2], rfl, by have := unhide HMK; omega, unhide HRR⟩
                        case measure => simp [intOf]; omega
                      | false =>
                        rw [hop] at HC
                        simp only [if_false, Bool.false_eq_true] at HC
                        clear hop
                        go_wp2_with fail
                        refine (unhide HC).mono ?_
                        rintro e z ⟨rfl, K, hO⟩
                        have hBw := (unhide HX).bw.only hO (fun q => q (.inl rfl))
                        have hBn := (unhide HX).bn.only hO (fun q => q (.inr rfl))
                        obtain ⟨z2, hcp, hB2, hO2⟩ := copy128 hBn hBw (unhide HX).seen.ln (unhide HX).seen.lw 3
                        have HRR := hide (show SeR w b jb' pb' gw gn S2 L A hn Mw Mw many (k + 1) z2 from by
                          have h := unhide HX
                          obtain ⟨s2, s3, s4, s5⟩ := unhide HS
                          refine ⟨K.poke hO2 (fun x q _ => .inr q) (fun x q => by rw [q]; exact h.low.2.1) (fun x hx => .inl hx), hBw.only hO2 (fun q => h.ne q), hB2, h.seen.back S2 s4 s3 s5, fun q => ?_, by have := h.acts; omega, h.low⟩
                          rw [s2] at q
                          cases q)
                        have HS2 := hide (unhide HS).1
                        clear K hO HC hBw hBn hB2 hO2 HS
                        go_wp2
                        go_roundw
                        case rel => exact ⟨k + 1, by have := unhide HJ; omega, by have := unhide HJ; simp; omega, jb', pb', S2, L, A, hn, Mw, Mw, many, rfl, by rw [unhide HS2], rfl, by have := unhide HMK; omega, unhide HRR⟩
                        case measure => simp [intOf]; omega
                  · have k6' : (kd == 6) = false := by simpa using k6
                    by_cases k9 : kd = 9
                    · subst k9
                      as_aux_lemma =>
                        have c1 : X.cell? ⟨g13, 1, none⟩ = some (.int .i64 nn) := (unhide BX).cell 1
                        have hak : A.length ≤ 9000000 := by have := (unhide HX).acts; have := unhide HJ; omega
                        have HPI := hide (pick6_any nn 65 (by decide) (unhide HW).1 65 rfl X)
                        have hpp := pickP_lt nn 65 (by decide)
                        generalize pickP nn 65 = kp at *
                        have HC := hide (popenP (unhide HX).pk (unhide HX).seen.rst.s ((unhide HG).below (unhide HX).pk.bel (unhide HG).lt) hn (unhide HX).seen.hn (by rw [(unhide HX).seen.len]; decide) (unhide HX).seen.hd (by omega) kp (by omega))
                        go_wp2_with (go_at_call 10; refine (unhide HPI).mono ?_; rintro e w' ⟨rfl, hw'⟩; subst w')
                        refine (unhide HC).mono ?_
                        rintro e z ⟨jb2, pb2, rfl, K, hO⟩
                        have hBw := (unhide HX).bw.only hO (fun q => q (.inl rfl))
                        have hBn := (unhide HX).bn.only hO (fun q => q (.inr rfl))
                        obtain ⟨z2, hcp, hB2, hO2⟩ := copy128 hBn hBw (unhide HX).seen.ln (unhide HX).seen.lw 3
                        have HRR := hide (show SeR w b jb2 pb2 gw gn (restP L A ((hn + 1) % 4294967296) kp) L A hn Mw Mw many (k + 1) z2 from by
                          have h := unhide HX
                          exact ⟨K.poke hO2 (fun x q _ => .inr q) (fun x q => by rw [q]; exact h.low.2.1) (fun x hx => .inl hx), hBw.only hO2 (fun q => h.ne q), hB2, h.seen.back _ ⟨rfl, rfl, rfl, rfl⟩ rfl (fun p hp => by cases hp), fun q => (by cases q), by have := h.acts; omega, h.low⟩)
                        clear K hO HC hBw hBn hB2 hO2 HPI c1
                        go_wp2
                        go_roundw
                        case rel => exact ⟨k + 1, by have := unhide HJ; omega, by have := unhide HJ; simp; omega, jb2, pb2, _, L, A, hn, Mw, Mw, many, rfl, rfl, rfl, by have := unhide HMK; omega, unhide HRR⟩
                        case measure => simp [intOf]; omega
                    · have k9' : (kd == 9) = false := by simpa using k9
                      as_aux_lemma =>
                        obtain ⟨s1, s2, s3, s4, s5⟩ := (unhide HX).seen.read hm hm1 hm2
                        have HC := hide (pread_any (unhide HX).pk (hm : Int) (readT_rest (unhide HX).seen.rst hm (by rw [(unhide HX).seen.len]; exact hm2) (unhide HX).seen.siz))
                        rw [s1, s2] at HC
                        have HS := hide (And.intro s3 (And.intro s4 s5))
                        clear s1 s2 s3 s4 s5
                        generalize (readP S (hm : Int)).2.2 = S2 at *
                        go_wp2_with fail
                        refine (unhide HC).mono ?_
                        rintro e z ⟨rfl, K, hO⟩
                        have hBn := (unhide HX).bn.only hO (fun q => q (.inr rfl))
                        have cz : z.cell? ⟨gn, hm, none⟩ = some (.string (Mn.getD hm ByteArray.empty)) := by rw [hBn.cell]; simp [strs, List.getD_eq_getElem?_getD, (unhide HX).seen.ln, hm2]
                        have HRR := hide (show SeR w b jb' pb' gw gn S2 L A hn Mw Mn many (k + 1) z from by
                          have h := unhide HX
                          obtain ⟨s3, s4, s5⟩ := unhide HS
                          exact ⟨K, h.bw.only hO (fun q => q (.inl rfl)), hBn, s3, by rw [s4, s5]; exact h.many, by have := h.acts; omega, h.low⟩)
                        have HS2 := hide (unhide HS).2.1
                        generalize Mn.getD hm ByteArray.empty = t at *
                        have i0 : (0 : Int) ≤ (hm : Int) := by omega
                        have i1 : (hm : Int) < 128 := by omega
                        have hee : (t.toList == t.toList) = true := by simp
                        clear K hO HC hBn HS
                        go_wp2
                        go_roundw
                        case rel => exact ⟨k + 1, by have := unhide HJ; omega, by have := unhide HJ; simp; omega, jb', pb', S2, L, A, hn, Mw, Mn, many, rfl, by rw [unhide HS2], rfl, by have := unhide HMK; omega, unhide HRR⟩
                        case measure => simp [intOf]; omega
          · have HW := hide (show I64 5 ∧ (⟨#[113]⟩ : ByteArray).size ≤ 1048576 from ⟨⟨by decide, by decide⟩, by decide⟩)
            go_wp2_with fail
            obtain ⟨nn, hnn⟩ : ∃ z : Int, (5 : Int) = z := ⟨_, rfl⟩
            obtain ⟨ss, hss⟩ : ∃ z : ByteArray, (⟨#[113]⟩ : ByteArray) = z := ⟨_, rfl⟩
            obtain ⟨kd, hkd⟩ : ∃ z : Int, kd0 = z := ⟨_, rfl⟩
            have BX0 : Blk ((wo'.alloc (.cells #[.int .i64 1, .int .i64 3, .int .i64 5] 3)).alloc (.cells #[.int .i64 kd0, .int .i64 5, .string ⟨#[113]⟩, .slice none 0 0] 39)) (wo'.heap.size + 1) #[.int .i64 kd0, .int .i64 5, .string ⟨#[113]⟩, .slice none 0 0] 39 := by
              have := Blk.new (wo'.alloc (.cells #[.int .i64 1, .int .i64 3, .int .i64 5] 3)) 39 #[.int .i64 kd0, .int .i64 5, .string ⟨#[113]⟩, .slice none 0 0]
              rwa [show (wo'.alloc (.cells #[.int .i64 1, .int .i64 3, .int .i64 5] 3)).heap.size = wo'.heap.size + 1 by simp] at this
            have hbX : Below wo'.heap.size wo' ((wo'.alloc (.cells #[.int .i64 1, .int .i64 3, .int .i64 5] 3)).alloc (.cells #[.int .i64 kd0, .int .i64 5, .string ⟨#[113]⟩, .slice none 0 0] 39)) := ((Below.refl _ wo').alloc (Nat.le_refl _) _).alloc (by simp) _
            generalize hXX : (wo'.alloc (.cells #[.int .i64 1, .int .i64 3, .int .i64 5] 3)).alloc (.cells #[.int .i64 kd0, .int .i64 5, .string ⟨#[113]⟩, .slice none 0 0] 39) = X at *
            rw [hnn, hss, hkd] at BX0
            rw [hnn, hss] at HW
            rw [hnn]
            have HX := hide ((unhide HR).below hbX)
            obtain ⟨g13, hg13⟩ : ∃ g, wo'.heap.size + 1 = g := ⟨_, rfl⟩
            rw [hg13] at BX0 ⊢
            have BX := hide BX0
            clear BX0 hbX hXX hnn hss hkd hg13 HR ck
            refine (home_any nn (unhide HW).1 X).mono ?_
            rintro e X' ⟨rfl, hX'⟩
            subst X'
            obtain ⟨hm, hhm⟩ : ∃ m : Nat, homeP nn = (m : Int) ∧ 19 ≤ m ∧ m < 128 := ⟨19 + pickP nn 20, by unfold homeP; omega, by omega, by have := pickP_lt nn 20 (by decide); omega⟩
            rw [hhm.1]
            have hm1 := hhm.2.1
            have hm2 := hhm.2.2
            clear hhm
            have c0 : X.cell? ⟨g13, 0, none⟩ = some (.int .i64 kd) := (unhide BX).cell 0
            by_cases k1 : kd = 1
            · subst k1
              as_aux_lemma =>
                have HB := hide (pbegin_any (unhide HX).pk)
                obtain ⟨b1, b2, b3, b4⟩ := (unhide HX).seen.begin
                rw [b1] at HB
                have HS := hide (And.intro b2 (And.intro b3 b4))
                clear b1 b2 b3 b4
                generalize beginS S = S2 at *
                cases hop : S.op with
                | true =>
                  rw [hop] at HB
                  simp only [if_true] at HB
                  have HO := hide hop
                  clear hop
                  go_wp2_with fail
                  refine (unhide HB).mono ?_
                  rintro e y ⟨rfl, K, hO⟩
                  have HRR := hide (show SeR w b jb' pb' gw gn S2 L A hn Mw Mn many (k + 1) y from by
                    obtain ⟨s1, s2, s3⟩ := unhide HS
                    have h := unhide HX
                    refine ⟨K, h.bw.only hO (fun q => q (.inl rfl)), h.bn.only hO (fun q => q (.inr rfl)), s1, fun _ => ?_, by have := h.acts; omega, h.low⟩
                    rw [s3]
                    exact h.many (unhide HO))
                  have HS2 := hide (unhide HS).2.1
                  clear K hO HB HS
                  go_wp2
                  go_roundw
                  case rel => exact ⟨k + 1, by have := unhide HJ; omega, by have := unhide HJ; simp; omega, jb', pb', S2, L, A, hn, Mw, Mn, many, rfl, by rw [unhide HS2], rfl, by have := unhide HMK; omega, unhide HRR⟩
                  case measure => simp [intOf]; omega
                | false =>
                  rw [hop] at HB
                  simp only [if_false, Bool.false_eq_true] at HB
                  have HO := hide hop
                  clear hop
                  go_wp2_with fail
                  refine (unhide HB).mono ?_
                  rintro e y ⟨rfl, K, hO⟩
                  have HRR := hide (show SeR w b jb' pb' gw gn S2 L A hn Mw Mn 0 (k + 1) y from by
                    obtain ⟨s1, s2, s3⟩ := unhide HS
                    have h := unhide HX
                    refine ⟨K, h.bw.only hO (fun q => q (.inl rfl)), h.bn.only hO (fun q => q (.inr rfl)), s1, fun _ => ?_, by have := h.acts; omega, h.low⟩
                    rw [s3]
                    rw [h.seen.cl (unhide HO)]; exact Nat.zero_le _)
                  have HS2 := hide (unhide HS).2.1
                  clear K hO HB HS
                  go_wp2
                  go_roundw
                  case rel => exact ⟨k + 1, by have := unhide HJ; omega, by have := unhide HJ; simp; omega, jb', pb', S2, L, A, hn, Mw, Mn, 0, rfl, by rw [unhide HS2], rfl, Nat.zero_le _, unhide HRR⟩
                  case measure => simp [intOf]; omega
            · have k1' : (kd == 1) = false := by simpa using k1
              by_cases k3 : kd = 3
              · subst k3
                as_aux_lemma =>
                  have c2 : X.cell? ⟨g13, 2, none⟩ = some (.string ss) := (unhide BX).cell 2
                  have hsz := (unhide HW).2
                  have hmb : many ≤ 300000 := by have := unhide HMK; have := unhide HJ; omega
                  have HBY := hide (bytes6_any ((ss ++ ⟨#[122]⟩).extract 0 1) X)
                  have hts : (bytesB ((ss ++ ⟨#[122]⟩).extract 0 1)).size = 256 := bytes1_size _ (cut_size ss)
                  generalize bytesB ((ss ++ ⟨#[122]⟩).extract 0 1) = t at *
                  go_wp2_with fail
                  refine (unhide HBY).mono ?_
                  rintro e y ⟨rfl, hby⟩
                  have HX2 := hide ((unhide HX).below hby)
                  have HWR := hide (pwrite_any (unhide HX2).pk (hm : Int) t (by rw [hts]; decide))
                  clear hby HBY c2
                  cases hop : S.op with
                  | false =>
                    obtain ⟨s1, s2⟩ := (unhide HX2).seen.shut hop hm hm1 hm2 t hts
                    rw [s1, s2] at HWR
                    have HO := hide hop
                    clear s1 s2 hop
                    go_wp2_with fail
                    refine (unhide HWR).mono ?_
                    rintro e z ⟨rfl, K, hO⟩
                    have HRR := hide (show SeR w b jb' pb' gw gn S L A hn Mw Mn many (k + 1) z from by
                      have h := unhide HX2
                      exact ⟨K, h.bw.only hO (fun q => q (.inl rfl)), h.bn.only hO (fun q => q (.inr rfl)), h.seen, h.many, by have := h.acts; omega, h.low⟩)
                    clear K hO HWR
                    go_wp2
                    go_roundw
                    case rel => exact ⟨k + 1, by have := unhide HJ; omega, by have := unhide HJ; simp; omega, jb', pb', S, L, A, hn, Mw, Mn, many, rfl, by rw [unhide HO], rfl, by have := unhide HMK; omega, unhide HRR⟩
                    case measure => simp [intOf]; omega
                  | true =>
                    cases hr : roomB S (hm : Int) with
                    | true =>
                      obtain ⟨s1, s2, s3, s4⟩ := (unhide HX2).seen.write (unhide HX2).srt hop hm hm1 hm2 t hts hr
                      rw [s1] at HWR
                      have HS := hide (And.intro s2 (And.intro s3 s4))
                      have HO := hide hop
                      clear s1 s2 s3 s4 hop hr
                      generalize writeP S (hm : Int) t = S2 at *
                      go_wp2_with fail
                      refine (unhide HWR).mono ?_
                      rintro e z ⟨rfl, K, hO⟩
                      have hBn := (unhide HX2).bn.only hO (fun q => q (.inr rfl))
                      have cz : z.cell? ⟨gn, hm, none⟩ = some (.string (Mn.getD hm ByteArray.empty)) := by rw [hBn.cell]; simp [strs, List.getD_eq_getElem?_getD, (unhide HX2).seen.ln, hm2]
                      have fz : z.frozen? ⟨gn, hm, none⟩ = false := hBn.frozen hm
                      have HRR := hide (show SeR w b jb' pb' gw gn S2 L A hn Mw (Mn.set hm t) (many + 1) (k + 1) (z.setCell ⟨gn, hm, none⟩ (.string t)) from by
                        obtain ⟨s1, s2, s3⟩ := unhide HS
                        have h := unhide HX2
                        have hBw := h.bw.only hO (fun q => q (.inl rfl))
                        refine ⟨K.poke (only1 z gn hm _) (fun x q _ => .inr q) (fun x q => by rw [q]; exact h.low.2.1) (fun x hx => .inl hx), hBw.other ⟨gn, hm, none⟩ _ (fun q => h.ne q.symm), ?_, s1, fun _ => ?_, by have := h.acts; omega, h.low⟩
                        · have := hBn.set hm (.string t)
                          rw [strs_seti] at this
                          exact this
                        · rw [s3, put_len h.srt]
                          have := h.many (unhide HO)
                          split <;> omega)
                      have HS2 := hide (unhide HS).2.1
                      generalize Mn.getD hm ByteArray.empty = old at *
                      have i0 : (0 : Int) ≤ (hm : Int) := by omega
                      have i1 : (hm : Int) < 128 := by omega
                      clear K hO HWR hBn HS
                      go_wp2
                      go_roundw
                      case rel => exact ⟨k + 1, by have := unhide HJ; omega, by have := unhide HJ; simp; omega, jb', pb', S2, L, A, hn, Mw, Mn.set hm t, many + 1, rfl, by rw [unhide HS2], by simp, by have := unhide HMK; omega, unhide HRR⟩
                      case measure => simp [intOf]; omega
                    | false =>
                      obtain ⟨s1, s2, s3⟩ := (unhide HX2).seen.full hop hm hm1 hm2 t hts hr
                      rw [s1, s2] at HWR
                      have hm16 : (16 : Int) ≤ (many : Int) := by have := (unhide HX2).many hop; omega
                      have HO := hide hop
                      clear s1 s2 s3 hop hr
                      go_wp2_with fail
                      refine (unhide HWR).mono ?_
                      rintro e z ⟨rfl, K, hO⟩
                      have HRR := hide (show SeR w b jb' pb' gw gn S L A hn Mw Mn many (k + 1) z from by
                        have h := unhide HX2
                        exact ⟨K, h.bw.only hO (fun q => q (.inl rfl)), h.bn.only hO (fun q => q (.inr rfl)), h.seen, h.many, by have := h.acts; omega, h.low⟩)
                      clear K hO HWR
                      go_wp2
                      go_roundw
                      case rel => exact ⟨k + 1, by have := unhide HJ; omega, by have := unhide HJ; simp; omega, jb', pb', S, L, A, hn, Mw, Mn, many, rfl, by rw [unhide HO], rfl, by have := unhide HMK; omega, unhide HRR⟩
                      case measure => simp [intOf]; omega
              · have k3' : (kd == 3) = false := by simpa using k3
                by_cases k5 : kd = 5
                · subst k5
                  as_aux_lemma =>
                    have hak : A.length ≤ 9000000 := by have := (unhide HX).acts; have := unhide HJ; omega
                    have HC := hide (pcommit_any (unhide HX).pk (by rw [(unhide HX).seen.rst.nx]; omega) (by rw [(unhide HX).seen.rst.s]; exact Nat.zero_le _) (by rw [(unhide HX).seen.rst.s]; show A.length ≤ _; omega))
                    cases hop : S.op with
                    | false =>
                      obtain ⟨s1, s2, _, _⟩ := (unhide HX).seen.none hop
                      rw [s1, s2] at HC
                      have HO := hide hop
                      clear s1 s2 hop
                      go_wp2_with fail
                      refine (unhide HC).mono ?_
                      rintro e z ⟨rfl, K, hO⟩
                      have HRR := hide (show SeR w b jb' pb' gw gn S L A hn Mw Mn many (k + 1) z from by
                        have h := unhide HX
                        exact ⟨K, h.bw.only hO (fun q => q (.inl rfl)), h.bn.only hO (fun q => q (.inr rfl)), h.seen, h.many, by have := h.acts; omega, h.low⟩)
                      clear K hO HC
                      go_wp2
                      go_roundw
                      case rel => exact ⟨k + 1, by have := unhide HJ; omega, by have := unhide HJ; simp; omega, jb', pb', S, L, A, hn, Mw, Mn, many, rfl, by rw [unhide HO], rfl, by have := unhide HMK; omega, unhide HRR⟩
                      case measure => simp [intOf]; omega
                    | true =>
                      obtain ⟨s1, s2, s3⟩ := (unhide HX).seen.commit hop (unhide HX).srt (unhide HX).t16 (unhide HX).tok
                      rw [s1] at HC
                      have HS := hide (And.intro s2 s3)
                      have hl16 := (unhide HX).t16
                      have HCA := hide (show (A ++ comA S.tx).length = A.length + 38 from by rw [List.length_append, comA_len S.tx hl16])
                      clear s1 s2 s3 hop hl16
                      generalize comL L ((hn + 1) % 4294967296) S.tx = L2 at *
                      generalize A ++ comA S.tx = A2 at *
                      generalize commitPS S = S2 at *
                      go_wp2_with fail
                      refine (unhide HC).mono ?_
                      rintro e z ⟨rfl, K, hO⟩
                      have hBw := (unhide HX).bw.only hO (fun q => q (.inl rfl))
                      have hBn := (unhide HX).bn.only hO (fun q => q (.inr rfl))
                      obtain ⟨z2, hcp, hB2, hO2⟩ := copy128 hBw hBn (unhide HX).seen.lw (unhide HX).seen.ln 3
                      have HRR := hide (show SeR w b jb' pb' gw gn S2 L2 A2 ((hn + 1) % 4294967296) Mn Mn many (k + 1) z2 from by
                        have h := unhide HX
                        refine ⟨K.poke hO2 (fun x q _ => .inl q) (fun x q => by rw [q]; exact h.low.1) (fun x hx => .inl hx), hB2, hBn.only hO2 (fun q => h.ne q.symm), (unhide HS).1, fun q => ?_, by have := h.acts; have := unhide HCA; omega, h.low⟩
                        rw [(unhide HS).2] at q
                        cases q)
                      have HS2 := hide (unhide HS).2
                      clear K hO HC hBw hBn hB2 hO2 HS
                      go_wp2
                      go_roundw
                      case rel => exact ⟨k + 1, by have := unhide HJ; omega, by have := unhide HJ; simp; omega, jb', pb', S2, L2, A2, (hn + 1) % 4294967296, Mn, Mn, many, rfl, by rw [unhide HS2], rfl, by have := unhide HMK; omega, unhide HRR⟩
                      case measure => simp [intOf]; omega
                · have k5' : (kd == 5) = false := by simpa using k5
                  by_cases k6 : kd = 6
                  · subst k6
                    as_aux_lemma =>
                      have HC := hide (pabort_any (unhide HX).pk)
                      have hS2 : ∃ S2, abortS S = S2 ∧ S2.op = false ∧ S2.tx = [] ∧ Rst S2 L A ((hn + 1) % 4294967296) ∧ Hok S2.h L := by
                        have h := (unhide HX).seen
                        cases hop : S.op with
                        | true => exact ⟨endS S, by simp [abortS, hop], rfl, rfl, end_rest h.rst, h.hok⟩
                        | false => exact ⟨S, by simp [abortS, hop], hop, h.cl hop, h.rst, h.hok⟩
                      obtain ⟨S2, s1, s2, s3, s4, s5⟩ := hS2
                      rw [s1] at HC
                      have HS := hide (And.intro s2 (And.intro s3 (And.intro s4 s5)))
                      have hae : abortE S = if S.op then 0 else 61 := rfl
                      rw [hae] at HC
                      clear s1 s2 s3 s4 s5 hae
                      cases hop : S.op with
                      | true =>
                        rw [hop] at HC
                        simp only [if_true] at HC
                        clear hop
                        go_wp2_with fail
                        refine (unhide HC).mono ?_
                        rintro e z ⟨rfl, K, hO⟩
                        have hBw := (unhide HX).bw.only hO (fun q => q (.inl rfl))
                        have hBn := (unhide HX).bn.only hO (fun q => q (.inr rfl))
                        obtain ⟨z2, hcp, hB2, hO2⟩ := copy128 hBn hBw (unhide HX).seen.ln (unhide HX).seen.lw 3
                        have HRR := hide (show SeR w b jb' pb' gw gn S2 L A hn Mw Mw many (k + 1) z2 from by
                          have h := unhide HX
                          obtain ⟨s2, s3, s4, s5⟩ := unhide HS
                          refine ⟨K.poke hO2 (fun x q _ => .inr q) (fun x q => by rw [q]; exact h.low.2.1) (fun x hx => .inl hx), hBw.only hO2 (fun q => h.ne q), hB2, h.seen.back S2 s4 s3 s5, fun q => ?_, by have := h.acts; omega, h.low⟩
                          rw [s2] at q
                          cases q)
                        have HS2 := hide (unhide HS).1
                        clear K hO HC hBw hBn hB2 hO2 HS
                        go_wp2
                        go_roundw
                        case rel => exact ⟨k + 1, by have := unhide HJ; omega, by have := unhide HJ; simp; omega, jb', pb', S2, L, A, hn, Mw, Mw, many, rfl, by rw [unhide HS2], rfl, by have := unhide HMK; omega, unhide HRR⟩
                        case measure => simp [intOf]; omega
                      | false =>
                        rw [hop] at HC
                        simp only [if_false, Bool.false_eq_true] at HC
                        clear hop
                        go_wp2_with fail
                        refine (unhide HC).mono ?_
                        rintro e z ⟨rfl, K, hO⟩
                        have hBw := (unhide HX).bw.only hO (fun q => q (.inl rfl))
                        have hBn := (unhide HX).bn.only hO (fun q => q (.inr rfl))
                        obtain ⟨z2, hcp, hB2, hO2⟩ := copy128 hBn hBw (unhide HX).seen.ln (unhide HX).seen.lw 3
                        have HRR := hide (show SeR w b jb' pb' gw gn S2 L A hn Mw Mw many (k + 1) z2 from by
                          have h := unhide HX
                          obtain ⟨s2, s3, s4, s5⟩ := unhide HS
                          refine ⟨K.poke hO2 (fun x q _ => .inr q) (fun x q => by rw [q]; exact h.low.2.1) (fun x hx => .inl hx), hBw.only hO2 (fun q => h.ne q), hB2, h.seen.back S2 s4 s3 s5, fun q => ?_, by have := h.acts; omega, h.low⟩
                          rw [s2] at q
                          cases q)
                        have HS2 := hide (unhide HS).1
                        clear K hO HC hBw hBn hB2 hO2 HS
                        go_wp2
                        go_roundw
                        case rel => exact ⟨k + 1, by have := unhide HJ; omega, by have := unhide HJ; simp; omega, jb', pb', S2, L, A, hn, Mw, Mw, many, rfl, by rw [unhide HS2], rfl, by have := unhide HMK; omega, unhide HRR⟩
                        case measure => simp [intOf]; omega
                  · have k6' : (kd == 6) = false := by simpa using k6
                    by_cases k9 : kd = 9
                    · subst k9
                      as_aux_lemma =>
                        have c1 : X.cell? ⟨g13, 1, none⟩ = some (.int .i64 nn) := (unhide BX).cell 1
                        have hak : A.length ≤ 9000000 := by have := (unhide HX).acts; have := unhide HJ; omega
                        have HPI := hide (pick6_any nn 65 (by decide) (unhide HW).1 65 rfl X)
                        have hpp := pickP_lt nn 65 (by decide)
                        generalize pickP nn 65 = kp at *
                        have HC := hide (popenP (unhide HX).pk (unhide HX).seen.rst.s ((unhide HG).below (unhide HX).pk.bel (unhide HG).lt) hn (unhide HX).seen.hn (by rw [(unhide HX).seen.len]; decide) (unhide HX).seen.hd (by omega) kp (by omega))
                        go_wp2_with (go_at_call 10; refine (unhide HPI).mono ?_; rintro e w' ⟨rfl, hw'⟩; subst w')
                        refine (unhide HC).mono ?_
                        rintro e z ⟨jb2, pb2, rfl, K, hO⟩
                        have hBw := (unhide HX).bw.only hO (fun q => q (.inl rfl))
                        have hBn := (unhide HX).bn.only hO (fun q => q (.inr rfl))
                        obtain ⟨z2, hcp, hB2, hO2⟩ := copy128 hBn hBw (unhide HX).seen.ln (unhide HX).seen.lw 3
                        have HRR := hide (show SeR w b jb2 pb2 gw gn (restP L A ((hn + 1) % 4294967296) kp) L A hn Mw Mw many (k + 1) z2 from by
                          have h := unhide HX
                          exact ⟨K.poke hO2 (fun x q _ => .inr q) (fun x q => by rw [q]; exact h.low.2.1) (fun x hx => .inl hx), hBw.only hO2 (fun q => h.ne q), hB2, h.seen.back _ ⟨rfl, rfl, rfl, rfl⟩ rfl (fun p hp => by cases hp), fun q => (by cases q), by have := h.acts; omega, h.low⟩)
                        clear K hO HC hBw hBn hB2 hO2 HPI c1
                        go_wp2
                        go_roundw
                        case rel => exact ⟨k + 1, by have := unhide HJ; omega, by have := unhide HJ; simp; omega, jb2, pb2, _, L, A, hn, Mw, Mw, many, rfl, rfl, rfl, by have := unhide HMK; omega, unhide HRR⟩
                        case measure => simp [intOf]; omega
                    · have k9' : (kd == 9) = false := by simpa using k9
                      as_aux_lemma =>
                        obtain ⟨s1, s2, s3, s4, s5⟩ := (unhide HX).seen.read hm hm1 hm2
                        have HC := hide (pread_any (unhide HX).pk (hm : Int) (readT_rest (unhide HX).seen.rst hm (by rw [(unhide HX).seen.len]; exact hm2) (unhide HX).seen.siz))
                        rw [s1, s2] at HC
                        have HS := hide (And.intro s3 (And.intro s4 s5))
                        clear s1 s2 s3 s4 s5
                        generalize (readP S (hm : Int)).2.2 = S2 at *
                        go_wp2_with fail
                        refine (unhide HC).mono ?_
                        rintro e z ⟨rfl, K, hO⟩
                        have hBn := (unhide HX).bn.only hO (fun q => q (.inr rfl))
                        have cz : z.cell? ⟨gn, hm, none⟩ = some (.string (Mn.getD hm ByteArray.empty)) := by rw [hBn.cell]; simp [strs, List.getD_eq_getElem?_getD, (unhide HX).seen.ln, hm2]
                        have HRR := hide (show SeR w b jb' pb' gw gn S2 L A hn Mw Mn many (k + 1) z from by
                          have h := unhide HX
                          obtain ⟨s3, s4, s5⟩ := unhide HS
                          exact ⟨K, h.bw.only hO (fun q => q (.inl rfl)), hBn, s3, by rw [s4, s5]; exact h.many, by have := h.acts; omega, h.low⟩)
                        have HS2 := hide (unhide HS).2.1
                        generalize Mn.getD hm ByteArray.empty = t at *
                        have i0 : (0 : Int) ≤ (hm : Int) := by omega
                        have i1 : (hm : Int) < 128 := by omega
                        have hee : (t.toList == t.toList) = true := by simp
                        clear K hO HC hBn HS
                        go_wp2
                        go_roundw
                        case rel => exact ⟨k + 1, by have := unhide HJ; omega, by have := unhide HJ; simp; omega, jb', pb', S2, L, A, hn, Mw, Mn, many, rfl, by rw [unhide HS2], rfl, by have := unhide HMK; omega, unhide HRR⟩
                        case measure => simp [intOf]; omega
        · have HR := hide R
          clear R hj hmk hk
          go_wp2
          go_loopw [24] (fun i wr => ∃ q : Nat, 19 ≤ q ∧ q ≤ 40 ∧ i = .int .i64 (q : Int) ∧ ∃ S, SeR w b jb' pb' gw gn S L A hn Mw Mn many k wr) (fun i _ => 40 - (intOf i).toNat)
          case atStart => exact ⟨19, by omega, by omega, rfl, S, unhide HR⟩
          case round =>
            obtain ⟨q, q19, q40, rfl, S3, R3⟩ := hrel
            obtain ⟨X, rfl⟩ : ∃ X, X = wr := ⟨_, rfl⟩
            have HX := hide R3
            clear R3 HR
            by_cases hq : q < 40
            · have e1 : (q : Int) < 40 := by omega
              have hm2 : q < 128 := by omega
              obtain ⟨s1, s2, s3, s4, s5⟩ := (unhide HX).seen.read q q19 hm2
              have HC := hide (pread_any (unhide HX).pk (q : Int) (readT_rest (unhide HX).seen.rst q (by rw [(unhide HX).seen.len]; exact hm2) (unhide HX).seen.siz))
              rw [s1, s2] at HC
              have HS := hide (And.intro s3 (And.intro s4 s5))
              clear s1 s2 s3 s4 s5
              generalize (readP S3 (q : Int)).2.2 = S2 at *
              go_wp2_with fail
              refine (unhide HC).mono ?_
              rintro e z ⟨rfl, K, hO⟩
              have hBn := (unhide HX).bn.only hO (fun q => q (.inr rfl))
              have cz : z.cell? ⟨gn, q, none⟩ = some (.string (Mn.getD q ByteArray.empty)) := by rw [hBn.cell]; simp [strs, List.getD_eq_getElem?_getD, (unhide HX).seen.ln, hm2]
              have HRR := hide (show SeR w b jb' pb' gw gn S2 L A hn Mw Mn many k z from by
                have h := unhide HX
                obtain ⟨s3, s4, s5⟩ := unhide HS
                exact ⟨K, h.bw.only hO (fun q => q (.inl rfl)), hBn, s3, by rw [s4, s5]; exact h.many, h.acts, h.low⟩)
              generalize Mn.getD q ByteArray.empty = t at *
              have i0 : (0 : Int) ≤ (q : Int) := by omega
              have i1 : (q : Int) < 128 := by omega
              have hee : (t.toList == t.toList) = true := by simp
              clear K hO HC hBn HS
              go_wp2
              go_roundw
              case rel => exact ⟨q + 1, by omega, by omega, by go_num, S2, unhide HRR⟩
              case measure => simp [intOf]; omega
            · have e1 : ¬ (q : Int) < 40 := by omega
              have HF := hide (unhide HX).pk.bel
              clear HX
              go_wp2
              go_ret
              exact ⟨rfl, unhide HF⟩
end Go.Proofs.YtnkaooafenakdaaGreatDoor
