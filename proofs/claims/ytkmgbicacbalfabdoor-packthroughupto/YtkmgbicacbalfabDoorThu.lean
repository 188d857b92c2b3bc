import Derived.Test.YtkmgbicacbalfabDoorTht
import Derived.Deep.RegionHeld3
namespace Go.Proofs.YtkmgbicacbalfabDoor
open Go.RowKit
theorem inl_one (x : World) (z : Int) : Inl (x.alloc (Obj.cells #[.int .i64 z] 3)) (some ⟨x.heap.size, 0, none⟩) [z] := by
  refine .inr ⟨_, 0, rfl, (Blk.new x 3 #[.int .i64 z]).lt, fun j hj => ?_⟩
  obtain rfl : j = 0 := by simpa using hj
  rw [Nat.zero_add, (Blk.new x 3 #[.int .i64 z]).cell 0]
  rfl
theorem TI.drew {w wr : World} {b tot : Nat} {rest : List Int} (h : TI w b rest tot wr) : TI w b rest tot wr.drew := h.below ((Below.refl _ wr).drew)
theorem TW.start {w x1 : World} (hR : Wtr x1 w.heap.size w.heap.size (.slice none 0 0) [] 0) (hB : Below w.heap.size w x1) : TW w [] x1 := ⟨_, hR, hB⟩
theorem gout1 (N : Nat) (L : List Int) (T : ByteArray) : gOut 1 N L T = outN N L := rfl
theorem gout2 (N : Nat) (L : List Int) (T : ByteArray) : gOut 2 N L T = digN (L.getD 0 0).toNat := rfl
theorem gout3 (N : Nat) (L : List Int) (T : ByteArray) : gOut 3 N L T = nums T := rfl
theorem gout4 (N : Nat) (L : List Int) (T : ByteArray) : gOut 4 N L T = digN T.size ++ nums T := rfl
theorem num258 : numB 258 2 = [1, 2] := by decide
set_option maxRecDepth 100000 in
set_option maxHeartbeats 8000000 in
theorem through_walk (pa : Option Addr) (len cap : Nat) (hlen : len ≤ 1048576) (KD NN : Nat → Int) (PP : Nat → Option Addr) (LN CC : Nat → Nat) (ZZ : Nat → Nat → Int) (TT : Nat → ByteArray) (w : World) (hg : ETy w) (hops : Ops3 w pa len KD NN PP LN CC ZZ TT) :
    Calls Tryd.prog 3 #[.slice pa len cap] w fun e w' => e = .returned (.bool true) ∧ Below w.heap.size w w' := by
  obtain ⟨f, hf⟩ : ∃ f : Nat → List Int, f = fun i => gOut (1 + pickP (KD i) 4) (1 + pickP (NN i) 8) (gL (1 + pickP (KD i) 4) (1 + pickP (NN i) 8) (ZZ i) (min (LN i) 6)) (gS (TT i)) := ⟨_, rfl⟩
  have hgood : ∀ i, i < len → ∃ (K N : Nat) (L : List Int) (T : ByteArray), GoodP K N L T ∧ gOut K N L T = f i ∧
      ∀ W, Below w.heap.size w W → Calls Tryd.prog 10 #[.agg #[.int .i64 (KD i), .int .i64 (NN i), .slice (PP i) (LN i) (CC i), .string (TT i)]] W fun e w' => ∃ p c, Inl w' p L ∧ (∀ k o, p = some ⟨k, o, none⟩ → W.heap.size ≤ k) ∧ e = .returned (.agg #[.int .i64 (K : Int), .int .i64 (N : Int), .slice p L.length c, .string T]) ∧ Below W.heap.size W w' := fun i hi => by
    rw [hf]
    exact hops.good i hi
  have hlenf : ∀ i, i < len → (f i).length ≤ 309 := fun i hi => by
    obtain ⟨K, N, L, T, h1, h2, _⟩ := hgood i hi
    rw [← h2]
    exact h1.out_len
  have hmemf : ∀ i, i < len → Bym (f i) := fun i hi => by
    obtain ⟨K, N, L, T, h1, h2, _⟩ := hgood i hi
    rw [← h2]
    exact h1.out_mem
  have hlenP : ∀ j, j ≤ len → (outP f j).length ≤ 309 * j := fun j hj => outP_len f 309 j (fun i hi => hlenf i (by omega))
  have HF := hide hgood
  have HL := hide hlenP
  have HM := hide hmemf
  have HC := hide hops.cell
  have HG := hide hg
  have HNW := hide (fun W => newWriter_any W)
  clear hf hgood hlenf hmemf hlenP hops hg
  go_enter Tryd.func3, Tryd.ntmps3
  go_wp2_with fail
  refine (unhide HNW _).mono ?_
  rintro e x1 ⟨rfl, hR1, hB1, hz1⟩
  have X1 := hide (TW.start hR1 hB1)
  clear hR1 hB1 HNW hz1
  go_wp2_with fail
  refine ((unhide X1).num ((Below.refl _ x1).alloc (Nat.le_refl _) _) 2 (by decide) (by decide) [258] (fun z hz => by simp at hz; subst hz; exact ⟨by decide, by decide⟩) _ 1 (inl_one x1 258) (fun k o q => by cases q; exact Nat.le_refl _) (by decide)).mono ?_
  rintro e x2 ⟨rfl, h2⟩
  have X2 := hide (show TW w ([1, 2] ++ outP f 0) x2 from h2)
  clear h2 X1
  go_wp2
  go_loopw [4] (fun i wr => ∃ j : Nat, j ≤ len ∧ i = .int .i64 (j : Int) ∧ TW w ([1, 2] ++ outP f j) wr) (fun i _ => len - (intOf i).toNat)
  case atStart => exact ⟨0, by omega, rfl, unhide X2⟩
  case round =>
    obtain ⟨j, hj, rfl, hI⟩ := hrel
    obtain ⟨wo, rfl⟩ : ∃ wo, wo = wr := ⟨_, rfl⟩
    have Xwo := hide hI
    clear hI X2
    by_cases hjl : j < len
    · obtain ⟨pb, po, hpa, hpb, c0, c1, c2, c3⟩ := unhide HC j hjl
      subst hpa
      rw [← (unhide Xwo).bel.cell (p := ⟨pb, po + j * 4, none⟩) hpb] at c0
      rw [← (unhide Xwo).bel.cell (p := ⟨pb, po + j * 4 + 1, none⟩) hpb] at c1
      rw [← (unhide Xwo).bel.cell (p := ⟨pb, po + j * 4 + 2, none⟩) hpb] at c2
      rw [← (unhide Xwo).bel.cell (p := ⟨pb, po + j * 4 + 3, none⟩) hpb] at c3
      obtain ⟨K, N, L, T, hGP, hout, hcall⟩ := unhide HF j hjl
      have hcl := hcall wo (unhide Xwo).bel
      have HGP := hide hGP
      have HOU := hide hout
      have hK1 := hGP.k1
      have hK4 := hGP.k4
      have hN1 := hGP.n1
      have hN8 := hGP.n8
      clear hGP hout hcall
      generalize KD j = kd at *
      generalize NN j = nn at *
      generalize PP j = pp at *
      generalize LN j = ln at *
      generalize CC j = cc at *
      generalize TT j = tt at *
      obtain ⟨n, hn⟩ : ∃ n, L.length = n := ⟨_, rfl⟩
      have hn6 : n ≤ 6 := hn ▸ (unhide HGP).len
      have HN := hide hn
      rw [hn] at hcl
      have HCL := hide hcl
      clear hn hcl
      go_wp2_with fail
      refine (unhide HCL).mono ?_
      rintro e x3 ⟨p, c, hI3, hp3, rfl, hB3⟩
      have X3 := hide ((unhide Xwo).below hB3)
      have B3 := hide hB3
      have I3 := hide hI3
      have P3 := hide hp3
      have hBo : Below wo.heap.size wo (x3.alloc (Obj.cells #[.int .i64 (K : Int), .int .i64 (N : Int), .slice p n c, .string T] 28)) := hB3.alloc hB3.size _
      have BO := hide hBo
      have OB := hide (Blk.new x3 28 #[.int .i64 (K : Int), .int .i64 (N : Int), .slice p n c, .string T])
      have IO := hide (show Inl (x3.alloc (Obj.cells #[.int .i64 (K : Int), .int .i64 (N : Int), .slice p n c, .string T] 28)) p L from hI3.only ((Only.refl (fun _ => False) x3).alloc _) (fun _ _ _ _ q => q))
      have hlp := unhide HL j hj
      clear hB3 hI3 hp3 hBo HCL c0 c1 c2 c3
      obtain hK | hK | hK | hK : K = 1 ∨ K = 2 ∨ K = 3 ∨ K = 4 := by omega
      · subst hK
        have hsz : ([1, 2] ++ outP f j).length + 8 * L.length ≤ 140737488355328 := by rw [List.length_append, unhide HN]; have hl2 : ([1, 2] : List Int).length = 2 := rfl; omega
        have hcl := (unhide Xwo).num (unhide BO) N hN1 hN8 L ((unhide HGP).fit rfl) p c (unhide IO) (unhide P3) hsz
        rw [unhide HN] at hcl
        have HCL := hide hcl
        clear hcl hsz
        go_wp2_with fail
        refine (unhide HCL).mono ?_
        rintro e x4 ⟨rfl, h4⟩
        have XR := hide (show TW w ([1, 2] ++ outP f (j + 1)) x4 from by rw [outP_succ, ← List.append_assoc, ← unhide HOU, gout1]; exact h4)
        clear h4 HCL IO OB BO P3 I3 B3 X3 Xwo
        go_wp2
        go_roundw
        case rel => exact ⟨j + 1, by omega, by go_num, unhide XR⟩
        case measure => simp [intOf]; omega
      · subst hK
        obtain ⟨V, hV⟩ : ∃ V, L.getD 0 0 = V := ⟨_, rfl⟩
        have hV0 := (unhide HGP).hd
        have hfc := first3_any _ L p c (unhide IO)
        rw [unhide HN, hV] at hfc
        rw [hV] at hV0
        obtain ⟨hV1, hV2⟩ := hV0
        have HVH := hide hV
        have HFC := hide hfc
        have hcl := ((unhide Xwo).below (unhide BO)).var V hV1 hV2 (by rw [List.length_append]; have hl2 : ([1, 2] : List Int).length = 2 := rfl; omega)
        have HCL := hide hcl
        clear hcl hfc hV
        go_wp2_with fail
        refine (unhide HFC).mono ?_
        rintro e x5 ⟨rfl, rfl⟩
        go_wp2_with fail
        refine (unhide HCL).mono ?_
        rintro e x4 ⟨rfl, h4⟩
        have XR := hide (show TW w ([1, 2] ++ outP f (j + 1)) x4 from by rw [outP_succ, ← List.append_assoc, ← unhide HOU, gout2, unhide HVH]; exact h4)
        clear h4 HCL HFC IO OB BO P3 I3 B3 X3 Xwo
        go_wp2
        go_roundw
        case rel => exact ⟨j + 1, by omega, by go_num, unhide XR⟩
        case measure => simp [intOf]; omega
      · subst hK
        have hT := (unhide HGP).txt
        have hcl := ((unhide Xwo).below (unhide BO)).raw T (by rw [List.length_append]; have hl2 : ([1, 2] : List Int).length = 2 := rfl; omega)
        have HCL := hide hcl
        clear hcl
        go_wp2_with fail
        refine (unhide HCL).mono ?_
        rintro e x4 ⟨rfl, h4⟩
        have XR := hide (show TW w ([1, 2] ++ outP f (j + 1)) x4 from by rw [outP_succ, ← List.append_assoc, ← unhide HOU, gout3]; exact h4)
        clear h4 HCL IO OB BO P3 I3 B3 X3 Xwo
        go_wp2
        go_roundw
        case rel => exact ⟨j + 1, by omega, by go_num, unhide XR⟩
        case measure => simp [intOf]; omega
      · subst hK
        have hT := (unhide HGP).txt
        have hcl := ((unhide Xwo).below (unhide BO)).text T hT (by rw [List.length_append]; have hl2 : ([1, 2] : List Int).length = 2 := rfl; omega)
        have HCL := hide hcl
        clear hcl
        go_wp2_with fail
        refine (unhide HCL).mono ?_
        rintro e x4 ⟨rfl, h4⟩
        have XR := hide (show TW w ([1, 2] ++ outP f (j + 1)) x4 from by rw [outP_succ, ← List.append_assoc, ← unhide HOU, gout4]; exact h4)
        clear h4 HCL IO OB BO P3 I3 B3 X3 Xwo
        go_wp2
        go_roundw
        case rel => exact ⟨j + 1, by omega, by go_num, unhide XR⟩
        case measure => simp [intOf]; omega
    · have hj' : j = len := by omega
      subst hj'
      clear hjl
      obtain ⟨tot, htot⟩ : ∃ tot, ([1, 2] ++ outP f j).length = tot := ⟨_, rfl⟩
      have hlp := unhide HL j hj
      have htl : tot ≤ 1000000000 := by rw [← htot, List.length_append]; have hl2 : ([1, 2] : List Int).length = 2 := rfl; omega
      have ht2 : 2 ≤ tot := by rw [← htot, List.length_append]; have hl2 : ([1, 2] : List Int).length = 2 := rfl; omega
      have hbym : Bym ([1, 2] ++ outP f j) := Bym.app (by intro x hx; simp at hx; omega) (by rw [← outR_all]; exact outR_mem f j 0 (unhide HM))
      have hss : (strOfNums ([1, 2] ++ outP f j)).size = tot := by rw [strOfNums_size]; exact htot
      have hcl := (unhide Xwo).done
      obtain ⟨S, hS⟩ : ∃ S, strOfNums ([1, 2] ++ outP f j) = S := ⟨_, rfl⟩
      rw [hS] at hcl hss
      have HS := hide hS
      have HCL := hide hcl
      have HBY := hide hbym
      have HT := hide htot
      have HNR := hide (fun W => newReader_any S W)
      clear hcl hS hbym htot hlp HL
      go_wp2_with fail
      refine (unhide HCL).mono ?_
      rintro e x6 ⟨rfl, h6⟩
      have B6 := hide h6
      clear h6 HCL Xwo
      go_wp2_with fail
      refine (unhide HNR _).mono ?_
      rintro e x7 ⟨rfl, hR7, hB7, hz7⟩
      have X7 := hide (show TI w x6.heap.size (numB 258 2 ++ outR f j 0) tot x7 from by
        rw [num258, outR_all, ← unhide HT]
        rw [← unhide HS] at hR7
        exact TI.start (((unhide HG).below (unhide B6) (unhide HG).lt).below hB7 ((unhide HG).below (unhide B6) (unhide HG).lt).lt) (unhide B6) hR7 hB7)
      obtain ⟨rb, hrb⟩ : ∃ rb, x6.heap.size = rb := ⟨_, rfl⟩
      rw [hrb] at X7 ⊢
      have hby2 : Bym (numB 258 2 ++ outR f j 0) := by rw [num258, outR_all]; exact unhide HBY
      have hle2 : (numB 258 2 ++ outR f j 0).length ≤ tot := by rw [num258, outR_all, unhide HT]; exact Nat.le_refl _
      have HN7 := hide (thNum 258 2 (outR f j 0) (unhide X7) hby2 hle2 (by omega) (by decide) (by decide) ⟨by decide, by decide⟩ (by decide))
      have HLE := hide (show ∀ i, i ≤ j → (outR f j i).length ≤ tot from fun i hi => by
        have h1 : (outR f j i).length ≤ (outP f j).length := by
          rw [← outR_all]
          unfold outR
          rw [Nat.sub_zero, show List.range' 0 j = List.range' 0 i ++ List.range' i (j - i) from by have h := List.range'_append_1 (s := 0) (m := i) (n := j - i); rw [Nat.zero_add, show i + (j - i) = j by omega] at h; exact h.symm, List.flatMap_append, List.length_append]
          omega
        have h2 := unhide HT
        rw [List.length_append] at h2
        omega)
      clear hR7 hB7 hz7 HNR B6 hrb hby2 hle2 X7 HS HT HBY
      go_wp2_with fail
      refine (unhide HN7).mono ?_
      rintro e x8 ⟨rfl, h8, _⟩
      have X8 := hide h8
      clear h8 HN7
      go_wp2
      go_loopw [9] (fun i wr => ∃ k : Nat, k ≤ j ∧ i = .int .i64 (k : Int) ∧ TI w rb (outR f j k) tot wr) (fun i _ => j - (intOf i).toNat)
      case atStart => exact ⟨0, by omega, rfl, unhide X8⟩
      case round =>
        obtain ⟨m, hm, rfl, hI⟩ := hrel
        obtain ⟨wo, rfl⟩ : ∃ wo, wo = wr := ⟨_, rfl⟩
        have Xwo := hide hI
        clear hI X8
        by_cases hjl : m < j
        · obtain ⟨pb, po, hpa, hpb, c0, c1, c2, c3⟩ := unhide HC m hjl
          subst hpa
          rw [← (unhide Xwo).bel.cell (p := ⟨pb, po + m * 4, none⟩) hpb] at c0
          rw [← (unhide Xwo).bel.cell (p := ⟨pb, po + m * 4 + 1, none⟩) hpb] at c1
          rw [← (unhide Xwo).bel.cell (p := ⟨pb, po + m * 4 + 2, none⟩) hpb] at c2
          rw [← (unhide Xwo).bel.cell (p := ⟨pb, po + m * 4 + 3, none⟩) hpb] at c3
          obtain ⟨K, N, L, T, hGP, hout, hcall⟩ := unhide HF m hjl
          have hcl := hcall wo (unhide Xwo).bel
          have HGP := hide hGP
          have HOU := hide hout
          have hK1 := hGP.k1
          have hK4 := hGP.k4
          have hN1 := hGP.n1
          have hN8 := hGP.n8
          clear hGP hout hcall
          generalize KD m = kd at *
          generalize NN m = nn at *
          generalize PP m = pp at *
          generalize LN m = ln at *
          generalize CC m = cc at *
          generalize TT m = tt at *
          obtain ⟨n, hn⟩ : ∃ n, L.length = n := ⟨_, rfl⟩
          have hn6 : n ≤ 6 := hn ▸ (unhide HGP).len
          have HN := hide hn
          rw [hn] at hcl
          have HCL := hide hcl
          clear hn hcl
          go_wp2_with fail
          refine (unhide HCL).mono ?_
          rintro e x3 ⟨p, c, hI3, hp3, rfl, hB3⟩
          have X3 := hide ((unhide Xwo).below hB3)
          have I3 := hide hI3
          have OB := hide (Blk.new x3 28 #[.int .i64 (K : Int), .int .i64 (N : Int), .slice p n c, .string T])
          have hlo : x3.heap.size ≠ rb := fun q => by have := (unhide X3).rd.lt; omega
          have IO := hide (show Inl (x3.alloc (Obj.cells #[.int .i64 (K : Int), .int .i64 (N : Int), .slice p n c, .string T] 28)) p L from hI3.only ((Only.refl (fun _ => False) x3).alloc _) (fun _ _ _ _ q => q))
          have PRB := hide (show ∀ k o, p = some ⟨k, o, none⟩ → k ≠ rb from fun k o q e => by have := hp3 k o q; have := (unhide Xwo).rd.lt; omega)
          have XO := hide ((unhide X3).alloc (Obj.cells #[.int .i64 (K : Int), .int .i64 (N : Int), .slice p n c, .string T] 28))
          have hbm := outR_mem f j m (unhide HM)
          have hle := unhide HLE m hm
          have hst := outR_step f j m hjl
          rw [← unhide HOU] at hst
          have HBM := hide hbm
          have HST := hide hst
          clear hB3 hI3 hp3 HCL c0 c1 c2 c3 hbm hst Xwo X3
          obtain hK | hK | hK | hK : K = 1 ∨ K = 2 ∨ K = 3 ∨ K = 4 := by omega
          · subst hK
            have XS := hide (show TI w rb (outN N (L.drop 0) ++ outR f j (m + 1)) tot (x3.alloc (Obj.cells #[.int .i64 ((1 : Nat) : Int), .int .i64 (N : Int), .slice p n c, .string T] 28)) from by have := unhide XO; rw [unhide HST, gout1] at this; exact this)
            have BS := hide (show ∀ k, k ≤ n → Bym (outN N (L.drop k) ++ outR f j (m + 1)) ∧ (outN N (L.drop k) ++ outR f j (m + 1)).length ≤ tot from fun k hk => by
              have hq := unhide HBM
              rw [unhide HST, gout1] at hq
              refine ⟨Bym.app (outN_mem _ _) hq.right, ?_⟩
              rw [unhide HST, gout1, List.length_append, outN_len] at hle
              rw [List.length_append, outN_len]
              have : N * (L.drop k).length ≤ N * L.length := Nat.mul_le_mul_left _ (by rw [List.length_drop]; omega)
              omega)
            have OI := hide (show ∀ k, k < n → ∃ lb lo, p = some ⟨lb, lo, none⟩ ∧ lb ≠ rb ∧ lb < (x3.alloc (Obj.cells #[.int .i64 ((1 : Nat) : Int), .int .i64 (N : Int), .slice p n c, .string T] 28)).heap.size ∧ (x3.alloc (Obj.cells #[.int .i64 ((1 : Nat) : Int), .int .i64 (N : Int), .slice p n c, .string T] 28)).cell? ⟨lb, lo + k, none⟩ = some (.int .i64 (L.getD k 0)) from fun k hk => by
              rcases unhide IO with q | ⟨lb, lo, e1, e2, e3⟩
              · rw [← unhide HN, q] at hk; cases hk
              · exact ⟨lb, lo, e1, unhide PRB lb lo e1, e2, e3 k (by rw [unhide HN]; exact hk)⟩)
            obtain ⟨x9, hx9⟩ : ∃ x, x = x3.alloc (Obj.cells #[.int .i64 ((1 : Nat) : Int), .int .i64 (N : Int), .slice p n c, .string T] 28) := ⟨_, rfl⟩
            obtain ⟨ob, hob⟩ : ∃ b, b = x3.heap.size := ⟨_, rfl⟩
            rw [← hx9, ← hob] at OB
            rw [← hx9] at XS OI
            have hx9' : x3.alloc (Obj.cells #[.int .i64 1, .int .i64 (N : Int), .slice p n c, .string T] 28) = x9 := hx9.symm
            have hob' : x3.heap.size = ob := hob.symm
            rw [hob'] at hlo
            replace hx9' := hide hx9'
            replace hob' := hide hob'
            clear hx9 hob IO XO
            go_wp2_with fail
            simp only [unhide hx9', unhide hob']
            have o0 : x9.cell? ⟨ob, 0, none⟩ = some (.int .i64 1) := by rw [(unhide OB).cell 0]; rfl
            have o1 : x9.cell? ⟨ob, 1, none⟩ = some (.int .i64 (N : Int)) := by rw [(unhide OB).cell 1]; rfl
            have o2 : x9.cell? ⟨ob, 2, none⟩ = some (.slice p n c) := by rw [(unhide OB).cell 2]; rfl
            go_wp2
            go_loopw [11, 12] (fun u i wr => ∃ k : Nat, k ≤ n ∧ u = .bool true ∧ i = .int .i64 (k : Int) ∧ TI w rb (outN N (L.drop k) ++ outR f j (m + 1)) tot wr ∧ Only (fun q => q = rb) x9 wr) (fun _ i _ => n - (intOf i).toNat)
            case atStart => exact ⟨0, by omega, rfl, rfl, unhide XS, Only.refl _ _⟩
            case round =>
              obtain ⟨k, hk, rfl, rfl, hT, hO⟩ := hrel
              obtain ⟨wi, rfl⟩ : ∃ wi, wi = wr := ⟨_, rfl⟩
              have OBi := (unhide OB).only hO hlo
              have o1 : wi.cell? ⟨ob, 1, none⟩ = some (.int .i64 (N : Int)) := by rw [OBi.cell 1]; rfl
              have o2 : wi.cell? ⟨ob, 2, none⟩ = some (.slice p n c) := by rw [OBi.cell 2]; rfl
              have XO := hide hO
              have XT := hide hT
              clear OBi hO hT XS
              by_cases hkn : k < n
              · have hkl : k < L.length := by rw [unhide HN]; exact hkn
                obtain ⟨lb, lo, rfl, l1, l2, l3⟩ := unhide OI k hkn
                have hst := outN_drop N L k hkl
                have hTs := unhide XT
                obtain ⟨hb1, hb2⟩ := unhide BS k (by omega)
                rw [hst, List.append_assoc] at hTs hb1 hb2
                have HNC := hide (thNum (L.getD k 0) N (outN N (L.drop (k + 1)) ++ outR f j (m + 1)) hTs hb1 hb2 (by omega) hN1 hN8 ((unhide HGP).fit rfl _ (getD_mem L k hkl)) ((unhide HGP).pos _ (getD_mem L k hkl)).2)
                obtain ⟨z, hz⟩ : ∃ z, L.getD k 0 = z := ⟨_, rfl⟩
                rw [hz] at HNC l3
                clear hst hTs hb1 hb2 hz
                go_wp2_with fail
                refine (unhide HNC).mono ?_
                rintro e x5 ⟨rfl, hT5, hO5⟩
                have hO9 := (unhide XO).trans hO5 (fun _ _ q => q)
                have OB5 := (unhide OB).only hO9 hlo
                have p2 : x5.cell? ⟨ob, 2, none⟩ = some (.slice (some ⟨lb, lo, none⟩) n c) := by rw [OB5.cell 2]; rfl
                have p3 : x5.cell? ⟨lb, lo + k, none⟩ = some (.int .i64 z) := (World.cell?_of_block (a := ⟨lb, lo + k, none⟩) (hO9.2 lb l2 l1)).trans l3
                have X5 := hide (And.intro hT5 hO9)
                have i0 : 0 ≤ (k : Int) := by omega
                have i1 : (k : Int) < (n : Int) := by omega
                clear hT5 hO5 hO9 OB5 HNC o1 o2
                go_wp2
                go_roundw
                case rel => exact ⟨k + 1, by omega, rfl, by go_num, (unhide X5).1, (unhide X5).2⟩
                case measure => simp [intOf]; omega
              · have hk' : k = n := by omega
                subst hk'
                have XR := hide (show TI w rb (outR f j (m + 1)) tot wi from by
                  have := unhide XT
                  rw [← unhide HN, List.drop_length] at this
                  exact this)
                clear XT XO
                go_wp2
                go_roundw
                case rel => exact ⟨m + 1, by omega, by go_num, unhide XR⟩
                case measure => simp [intOf]; omega
          · subst hK
            have hTs := (unhide XO).drew
            have hbm := unhide HBM
            rw [unhide HST, gout2] at hTs hbm hle
            have HCR := hide (thVar (L.getD 0 0).toNat (outR f j (m + 1)) hTs hbm hle (by omega) (by have := (unhide HGP).hd; omega))
            have HFC := hide (fun (W : World) (hI : Inl W p L) => first3_any W L p c hI)
            rw [unhide HN] at HFC
            obtain ⟨V, hV⟩ : ∃ V, L.getD 0 0 = V := ⟨_, rfl⟩
            have hVn : (((L.getD 0 0).toNat : Nat) : Int) = V := by have := (unhide HGP).hd; omega
            rw [hVn] at HCR
            rw [hV] at HFC
            clear hV hVn
            obtain ⟨x9, hx9⟩ : ∃ x, x = x3.alloc (Obj.cells #[.int .i64 ((2 : Nat) : Int), .int .i64 (N : Int), .slice p n c, .string T] 28) := ⟨_, rfl⟩
            obtain ⟨ob, hob⟩ : ∃ b, b = x3.heap.size := ⟨_, rfl⟩
            rw [← hx9, ← hob] at OB
            rw [← hx9] at HCR IO
            have hx9' : x3.alloc (Obj.cells #[.int .i64 2, .int .i64 (N : Int), .slice p n c, .string T] 28) = x9 := hx9.symm
            have hob' : x3.heap.size = ob := hob.symm
            rw [hob'] at hlo
            replace hx9' := hide hx9'
            replace hob' := hide hob'
            clear hx9 hob XO hTs hbm
            go_wp2_with fail
            simp only [unhide hx9', unhide hob']
            have hq : x9.cell? ⟨ob, 2, none⟩ = some (.slice p n c) ∧ x9.cell? ⟨ob, 3, none⟩ = some (.string T) := ⟨by rw [(unhide OB).cell 2]; rfl, by rw [(unhide OB).cell 3]; rfl⟩
            have o0 : x9.cell? ⟨ob, 0, none⟩ = some (.int .i64 2) := by rw [(unhide OB).cell 0]; rfl
            go_wp2_with fail
            refine wp_region_held_drew (S := fun w' => w'.cell? ⟨ob, 2, none⟩ = some (.slice p n c) ∧ w'.cell? ⟨ob, 3, none⟩ = some (.string T)) (by kernel_rfl) hq ?_
            intro hS
            refine wpAnyH_takeD 0 (some 123) (.pointer (some ⟨rb, 0, none⟩)) rfl rfl (by kernel_rfl) (by kernel_rfl) (by kernel_rfl) (fun _ _ _ h => h) (Or.inl ⟨by rfl, fun w hSw => by obtain ⟨q2, q3⟩ := hSw; go_simp⟩) hS ?_
            simp only [Act.put, List.setIfInBounds_toArray, List.set_cons_zero, List.set_cons_succ]
            refine wpAnyH_takeD 2 (some 125) (.pointer (some ⟨ob, 2, none⟩)) rfl rfl (by kernel_rfl) (by kernel_rfl) (by kernel_rfl) (fun _ _ _ h => h) (Or.inl ⟨by rfl, fun w hSw => by obtain ⟨q2, q3⟩ := hSw; go_simp⟩) hS ?_
            simp only [Act.put, List.setIfInBounds_toArray, List.set_cons_zero, List.set_cons_succ]
            refine wpAnyH_takeD 3 (some 126) (.slice p n c) rfl rfl (by kernel_rfl) (by kernel_rfl) (by kernel_rfl) (fun _ _ _ h => h) (Or.inl ⟨by rfl, fun w hSw => by obtain ⟨q2, q3⟩ := hSw; go_simp⟩) hS ?_
            simp only [Act.put, List.setIfInBounds_toArray, List.set_cons_zero, List.set_cons_succ]
            refine wpAnyH_ready (rs := [1]) (by kernel_rfl) (by simp) ?_
            refine AllReadyH.cons rfl (fun K hK => ?_) AllReadyH.nil
            simp only [List.getElem_toArray, List.getElem_cons_succ, List.getElem_cons_zero]
            go_simp
            refine (unhide HCR).mono ?_
            rintro e x5 ⟨rfl, hT5, hO5⟩
            have OB5 := (show Blk x9.drew ob _ _ from unhide OB).only hO5 hlo
            have hq5 : x5.cell? ⟨ob, 2, none⟩ = some (.slice p n c) ∧ x5.cell? ⟨ob, 3, none⟩ = some (.string T) := ⟨by rw [OB5.cell 2]; rfl, by rw [OB5.cell 3]; rfl⟩
            have XR := hide hT5
            have IO5 := hide ((show Inl x9.drew p L from unhide IO).only hO5 (fun _ k o q e => unhide PRB k o q e))
            clear hT5 hO5 OB5
            refine hK.out _ _ hq5 (fun hS => ?_)
            clear hK K
            refine wpAnyH_ready (rs := [4]) (by kernel_rfl) (by simp) ?_
            refine AllReadyH.cons rfl (fun K hK => ?_) AllReadyH.nil
            simp only [List.getElem_toArray, List.getElem_cons_succ, List.getElem_cons_zero]
            go_simp
            refine (unhide HFC _ (unhide IO5)).mono ?_
            rintro e x6 ⟨rfl, rfl⟩
            refine hK.out _ _ hq5 (fun hS => ?_)
            clear hK K
            refine wpAnyH_takeD 5 (some 128) (.bool true) rfl rfl (by kernel_rfl) (by kernel_rfl) (by kernel_rfl) (fun _ _ _ h => h) (Or.inl ⟨by rfl, fun w hSw => by obtain ⟨q2, q3⟩ := hSw; go_simp⟩) hS ?_
            simp only [Act.put, List.setIfInBounds_toArray, List.set_cons_zero, List.set_cons_succ]
            refine wpAnyH_takeD 6 (some 11) (.bool true) rfl rfl (by kernel_rfl) (by kernel_rfl) (by kernel_rfl) (fun _ _ _ h => h) (Or.inl ⟨by rfl, fun w hSw => by obtain ⟨q2, q3⟩ := hSw; go_simp⟩) hS ?_
            simp only [Act.put, List.setIfInBounds_toArray, List.set_cons_zero, List.set_cons_succ]
            refine wpAnyH_done (by kernel_rfl) ?_ _
            go_wp2
            go_roundw
            case rel => exact ⟨m + 1, by omega, by go_num, unhide XR⟩
            case measure => simp [intOf]; omega
          · subst hK
            have hTs := (unhide XO).drew
            have hbm := unhide HBM
            rw [unhide HST, gout3] at hTs hbm hle
            have HCR := hide (thRaw T (outR f j (m + 1)) hTs hle (by omega))
            obtain ⟨tn, htn⟩ : ∃ tn, T.size = tn := ⟨_, rfl⟩
            rw [htn] at HCR
            obtain ⟨x9, hx9⟩ : ∃ x, x = x3.alloc (Obj.cells #[.int .i64 ((3 : Nat) : Int), .int .i64 (N : Int), .slice p n c, .string T] 28) := ⟨_, rfl⟩
            obtain ⟨ob, hob⟩ : ∃ b, b = x3.heap.size := ⟨_, rfl⟩
            rw [← hx9, ← hob] at OB
            rw [← hx9] at HCR IO
            have hx9' : x3.alloc (Obj.cells #[.int .i64 3, .int .i64 (N : Int), .slice p n c, .string T] 28) = x9 := hx9.symm
            have hob' : x3.heap.size = ob := hob.symm
            rw [hob'] at hlo
            replace hx9' := hide hx9'
            replace hob' := hide hob'
            clear hx9 hob XO hTs hbm
            go_wp2_with fail
            simp only [unhide hx9', unhide hob']
            have hq : x9.cell? ⟨ob, 2, none⟩ = some (.slice p n c) ∧ x9.cell? ⟨ob, 3, none⟩ = some (.string T) := ⟨by rw [(unhide OB).cell 2]; rfl, by rw [(unhide OB).cell 3]; rfl⟩
            have o0 : x9.cell? ⟨ob, 0, none⟩ = some (.int .i64 3) := by rw [(unhide OB).cell 0]; rfl
            go_wp2_with fail
            refine wp_region_held_drew (S := fun w' => w'.cell? ⟨ob, 2, none⟩ = some (.slice p n c) ∧ w'.cell? ⟨ob, 3, none⟩ = some (.string T)) (by kernel_rfl) hq ?_
            intro hS
            refine wpAnyH_takeD 0 (some 131) (.pointer (some ⟨rb, 0, none⟩)) rfl rfl (by kernel_rfl) (by kernel_rfl) (by kernel_rfl) (fun _ _ _ h => h) (Or.inl ⟨by rfl, fun w hSw => by obtain ⟨q2, q3⟩ := hSw; go_simp⟩) hS ?_
            simp only [Act.put, List.setIfInBounds_toArray, List.set_cons_zero, List.set_cons_succ]
            refine wpAnyH_takeD 1 (some 132) (.pointer (some ⟨ob, 3, none⟩)) rfl rfl (by kernel_rfl) (by kernel_rfl) (by kernel_rfl) (fun _ _ _ h => h) (Or.inl ⟨by rfl, fun w hSw => by obtain ⟨q2, q3⟩ := hSw; go_simp⟩) hS ?_
            simp only [Act.put, List.setIfInBounds_toArray, List.set_cons_zero, List.set_cons_succ]
            refine wpAnyH_takeD 2 (some 133) (.string T) rfl rfl (by kernel_rfl) (by kernel_rfl) (by kernel_rfl) (fun _ _ _ h => h) (Or.inl ⟨by rfl, fun w hSw => by obtain ⟨q2, q3⟩ := hSw; go_simp⟩) hS ?_
            simp only [Act.put, List.setIfInBounds_toArray, List.set_cons_zero, List.set_cons_succ]
            refine wpAnyH_takeD 3 (some 134) (.int .i64 (tn : Int)) rfl rfl (by kernel_rfl) (by kernel_rfl) (by kernel_rfl) (fun _ _ _ h => h) (Or.inl ⟨by rfl, fun w hSw => by obtain ⟨q2, q3⟩ := hSw; go_simp⟩) hS ?_
            simp only [Act.put, List.setIfInBounds_toArray, List.set_cons_zero, List.set_cons_succ]
            refine wpAnyH_takeD 5 (some 136) (.pointer (some ⟨ob, 3, none⟩)) rfl rfl (by kernel_rfl) (by kernel_rfl) (by kernel_rfl) (fun _ _ _ h => h) (Or.inl ⟨by rfl, fun w hSw => by obtain ⟨q2, q3⟩ := hSw; go_simp⟩) hS ?_
            simp only [Act.put, List.setIfInBounds_toArray, List.set_cons_zero, List.set_cons_succ]
            refine wpAnyH_takeD 6 (some 137) (.string T) rfl rfl (by kernel_rfl) (by kernel_rfl) (by kernel_rfl) (fun _ _ _ h => h) (Or.inl ⟨by rfl, fun w hSw => by obtain ⟨q2, q3⟩ := hSw; go_simp⟩) hS ?_
            simp only [Act.put, List.setIfInBounds_toArray, List.set_cons_zero, List.set_cons_succ]
            refine wpAnyH_ready (rs := [4]) (by kernel_rfl) (by simp) ?_
            refine AllReadyH.cons rfl (fun K hK => ?_) AllReadyH.nil
            simp only [List.getElem_toArray, List.getElem_cons_succ, List.getElem_cons_zero]
            go_simp
            refine (unhide HCR).mono ?_
            rintro e x5 ⟨rfl, hT5, hO5⟩
            have OB5 := (show Blk x9.drew ob _ _ from unhide OB).only hO5 hlo
            have hq5 : x5.cell? ⟨ob, 2, none⟩ = some (.slice p n c) ∧ x5.cell? ⟨ob, 3, none⟩ = some (.string T) := ⟨by rw [OB5.cell 2]; rfl, by rw [OB5.cell 3]; rfl⟩
            have XR := hide hT5
            have IO5 := hide ((show Inl x9.drew p L from unhide IO).only hO5 (fun _ k o q e => unhide PRB k o q e))
            clear hT5 hO5 OB5
            refine hK.out _ _ hq5 (fun hS => ?_)
            clear hK K
            refine wpAnyH_takeD 7 (some 138) (.bool true) rfl rfl (by kernel_rfl) (by kernel_rfl) (by kernel_rfl) (fun _ _ _ h => h) (Or.inl ⟨by rfl, fun w hSw => by obtain ⟨q2, q3⟩ := hSw; go_simp⟩) hS ?_
            simp only [Act.put, List.setIfInBounds_toArray, List.set_cons_zero, List.set_cons_succ]
            refine wpAnyH_takeD 8 (some 11) (.bool true) rfl rfl (by kernel_rfl) (by kernel_rfl) (by kernel_rfl) (fun _ _ _ h => h) (Or.inl ⟨by rfl, fun w hSw => by obtain ⟨q2, q3⟩ := hSw; go_simp⟩) hS ?_
            simp only [Act.put, List.setIfInBounds_toArray, List.set_cons_zero, List.set_cons_succ]
            refine wpAnyH_done (by kernel_rfl) ?_ _
            go_wp2
            go_roundw
            case rel => exact ⟨m + 1, by omega, by go_num, unhide XR⟩
            case measure => simp [intOf]; omega
          · subst hK
            have hTs := (unhide XO).drew
            have hbm := unhide HBM
            rw [unhide HST, gout4] at hTs hbm hle
            have HCR := hide (thText T (outR f j (m + 1)) hTs hbm hle (by omega) (unhide HGP).txt)
            obtain ⟨x9, hx9⟩ : ∃ x, x = x3.alloc (Obj.cells #[.int .i64 ((4 : Nat) : Int), .int .i64 (N : Int), .slice p n c, .string T] 28) := ⟨_, rfl⟩
            obtain ⟨ob, hob⟩ : ∃ b, b = x3.heap.size := ⟨_, rfl⟩
            rw [← hx9, ← hob] at OB
            rw [← hx9] at HCR IO
            have hx9' : x3.alloc (Obj.cells #[.int .i64 4, .int .i64 (N : Int), .slice p n c, .string T] 28) = x9 := hx9.symm
            have hob' : x3.heap.size = ob := hob.symm
            rw [hob'] at hlo
            replace hx9' := hide hx9'
            replace hob' := hide hob'
            clear hx9 hob XO hTs hbm
            go_wp2_with fail
            simp only [unhide hx9', unhide hob']
            have hq : x9.cell? ⟨ob, 2, none⟩ = some (.slice p n c) ∧ x9.cell? ⟨ob, 3, none⟩ = some (.string T) := ⟨by rw [(unhide OB).cell 2]; rfl, by rw [(unhide OB).cell 3]; rfl⟩
            have o0 : x9.cell? ⟨ob, 0, none⟩ = some (.int .i64 4) := by rw [(unhide OB).cell 0]; rfl
            go_wp2_with fail
            refine wp_region_held_drew (S := fun w' => w'.cell? ⟨ob, 2, none⟩ = some (.slice p n c) ∧ w'.cell? ⟨ob, 3, none⟩ = some (.string T)) (by kernel_rfl) hq ?_
            intro hS
            refine wpAnyH_takeD 0 (some 141) (.pointer (some ⟨rb, 0, none⟩)) rfl rfl (by kernel_rfl) (by kernel_rfl) (by kernel_rfl) (fun _ _ _ h => h) (Or.inl ⟨by rfl, fun w hSw => by obtain ⟨q2, q3⟩ := hSw; go_simp⟩) hS ?_
            simp only [Act.put, List.setIfInBounds_toArray, List.set_cons_zero, List.set_cons_succ]
            refine wpAnyH_takeD 2 (some 143) (.pointer (some ⟨ob, 3, none⟩)) rfl rfl (by kernel_rfl) (by kernel_rfl) (by kernel_rfl) (fun _ _ _ h => h) (Or.inl ⟨by rfl, fun w hSw => by obtain ⟨q2, q3⟩ := hSw; go_simp⟩) hS ?_
            simp only [Act.put, List.setIfInBounds_toArray, List.set_cons_zero, List.set_cons_succ]
            refine wpAnyH_takeD 3 (some 144) (.string T) rfl rfl (by kernel_rfl) (by kernel_rfl) (by kernel_rfl) (fun _ _ _ h => h) (Or.inl ⟨by rfl, fun w hSw => by obtain ⟨q2, q3⟩ := hSw; go_simp⟩) hS ?_
            simp only [Act.put, List.setIfInBounds_toArray, List.set_cons_zero, List.set_cons_succ]
            refine wpAnyH_ready (rs := [1]) (by kernel_rfl) (by simp) ?_
            refine AllReadyH.cons rfl (fun K hK => ?_) AllReadyH.nil
            simp only [List.getElem_toArray, List.getElem_cons_succ, List.getElem_cons_zero]
            go_simp
            refine (unhide HCR).mono ?_
            rintro e x5 ⟨rfl, hT5, hO5⟩
            have OB5 := (show Blk x9.drew ob _ _ from unhide OB).only hO5 hlo
            have hq5 : x5.cell? ⟨ob, 2, none⟩ = some (.slice p n c) ∧ x5.cell? ⟨ob, 3, none⟩ = some (.string T) := ⟨by rw [OB5.cell 2]; rfl, by rw [OB5.cell 3]; rfl⟩
            have XR := hide hT5
            have IO5 := hide ((show Inl x9.drew p L from unhide IO).only hO5 (fun _ k o q e => unhide PRB k o q e))
            clear hT5 hO5 OB5
            refine hK.out _ _ hq5 (fun hS => ?_)
            clear hK K
            refine wpAnyH_takeD 4 (some 145) (.bool true) rfl rfl (by kernel_rfl) (by kernel_rfl) (by kernel_rfl) (fun _ _ _ h => h) (Or.inl ⟨by rfl, fun w hSw => by obtain ⟨q2, q3⟩ := hSw; go_simp⟩) hS ?_
            simp only [Act.put, List.setIfInBounds_toArray, List.set_cons_zero, List.set_cons_succ]
            refine wpAnyH_takeD 5 (some 11) (.bool true) rfl rfl (by kernel_rfl) (by kernel_rfl) (by kernel_rfl) (fun _ _ _ h => h) (Or.inl ⟨by rfl, fun w hSw => by obtain ⟨q2, q3⟩ := hSw; go_simp⟩) hS ?_
            simp only [Act.put, List.setIfInBounds_toArray, List.set_cons_zero, List.set_cons_succ]
            refine wpAnyH_done (by kernel_rfl) ?_ _
            go_wp2
            go_roundw
            case rel => exact ⟨m + 1, by omega, by go_num, unhide XR⟩
            case measure => simp [intOf]; omega
        · have hj' : m = j := by omega
          subst hj'
          have XE := unhide Xwo
          rw [outR_end] at XE
          have HD := hide (thDone XE)
          clear XE Xwo
          go_wp2_with fail
          refine (unhide HD).mono ?_
          rintro e y1 ⟨rfl, hy⟩
          have Y := hide hy
          clear hy
          go_wp2
          go_ret
          exact ⟨rfl, unhide Y⟩
end Go.Proofs.YtkmgbicacbalfabDoor
