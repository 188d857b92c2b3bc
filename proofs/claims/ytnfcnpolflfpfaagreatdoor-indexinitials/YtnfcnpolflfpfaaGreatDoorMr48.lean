import Derived.Test.YtnfcnpolflfpfaaGreatDoorMr47
import Derived.Test.YtnfcnpolflfpfaaGreatDoorMr06
import Derived.StillTailTactics
import Derived.BigRegion
namespace Go.Proofs.YtnfcnpolflfpfaaGreatDoor
open Go.RowKit
set_option maxRecDepth 100000 in
set_option maxHeartbeats 2000000 in
theorem rmake_any (kind number : Int) (body : ByteArray) (w : World) :
    Calls Tryz.prog 116 #[.agg #[.int .i64 kind, .int .i64 number, .string body]] w fun e w' => e = .returned (.tuple #[.string (makeB kind number body), .int .i64 (errM kind number body.size)]) ∧ Below w.heap.size w w' := by
  by_cases hok : fitsP kind 1 ∧ fitsP number 4
  · obtain ⟨hk, hn⟩ := hok
    have hk' := (fits1 kind).1 hk
    have hn' := (fits4 number).1 hn
    obtain ⟨K, rfl⟩ := Int.eq_ofNat_of_zero_le hk'.1
    obtain ⟨N, rfl⟩ := Int.eq_ofNat_of_zero_le hn'.1
    by_cases hb : body.size ≤ 244
    · have hE : errM (K : Int) (N : Int) body.size = 0 := by rw [errM, if_neg (by simp [hk, hn]), if_neg (by omega)]
      rw [makeB, if_pos hE, hE]
      exact rmake_ok K N body (by omega) (by omega) hb w
    · have hE : errM (K : Int) (N : Int) body.size = 32 := by rw [errM, if_neg (by simp [hk, hn]), if_pos (by omega)]
      rw [makeB, if_neg (by rw [hE]; decide), hE]
      have hb' : 244 < body.size := by omega
      have hk255 : K ≤ 255 := by omega
      have hn255 : N ≤ 4294967295 := by omega
      clear hk hn hE hk' hn'
      go_enter Tryz.func116, Tryz.ntmps116
      go_wp2
      go_ret2
      exact ⟨rfl, (Below.refl _ w).alloc (Nat.le_refl _) _⟩
  · have hE : errM kind number body.size = 1 := by rw [errM, if_pos (by by_cases hk : fitsP kind 1 <;> by_cases hn : fitsP number 4 <;> simp_all)]
    rw [makeB, if_neg (by rw [hE]; decide), hE]
    rw [fits1, fits4] at hok
    clear hE
    by_cases h1 : kind < 0
    · clear hok
      go_enter Tryz.func116, Tryz.ntmps116
      go_wp2
      go_ret2
      exact ⟨rfl, (Below.refl _ w).alloc (Nat.le_refl _) _⟩
    · by_cases h2 : 255 < kind
      · clear hok
        go_enter Tryz.func116, Tryz.ntmps116
        go_wp2
        go_ret2
        exact ⟨rfl, (Below.refl _ w).alloc (Nat.le_refl _) _⟩
      · by_cases h3 : number < 0
        · clear hok
          go_enter Tryz.func116, Tryz.ntmps116
          go_wp2
          go_ret2
          exact ⟨rfl, (Below.refl _ w).alloc (Nat.le_refl _) _⟩
        · have h4 : 4294967295 < number := by omega
          clear hok
          go_enter Tryz.func116, Tryz.ntmps116
          go_wp2
          go_ret2
          exact ⟨rfl, (Below.refl _ w).alloc (Nat.le_refl _) _⟩
/-- The number that stands at a page's bytes 4 to 7, as far as it was read. -/
def nm4 (s : ByteArray) (j : Nat) : Int := beN (((nums s).drop 4).take j)
theorem nm4_step (s : ByteArray) (j : Nat) (h : 4 + j < s.size) : nm4 s (j + 1) = 256 * nm4 s j + (nums s).getD (4 + j) 0 := by
  unfold nm4
  rw [be_take _ _ (by rw [List.length_drop, nums_len]; omega)]
  congr 1
  rw [List.getD_eq_getElem?_getD, List.getElem?_drop, ← List.getD_eq_getElem?_getD]
theorem nm4_bound (s : ByteArray) (j : Nat) : 0 ≤ nm4 s j ∧ nm4 s j < 256 ^ j := by
  have : Bytes ((nums s).drop 4) := Bytes.of_mem (fun x hx => (nums_bytes s).mem (List.mem_of_mem_drop hx))
  exact be_bound _ this j
set_option maxRecDepth 100000 in
set_option maxHeartbeats 4000000 in
theorem rparse_any (s : ByteArray) (w : World) :
    Calls Tryz.prog 184 #[.string s] w fun e w' => ParsePost s w e w' := by
  by_cases hs : s.size = 256
  · have hix := fun (i : Nat) (hi : i < 256) (W : World) => index_str s i (by omega) W
    have hb3 := nums_bytes s 3
    have hb2 := nums_bytes s 2
    have i2 := hix 2 (by omega)
    have i3 := hix 3 (by omega)
    obtain ⟨n, hn⟩ := Int.eq_ofNat_of_zero_le hb3.1
    obtain ⟨kd, hk⟩ := Int.eq_ofNat_of_zero_le hb2.1
    rw [hn] at i3
    rw [hk] at i2
    have i3' : ∀ W : World, (Instr.index 9 (.string s) (.int .i64 3)).run Tryz.prog W = .ok (.int .u8 (n : Int)) W := i3
    have i2' : ∀ W : World, (Instr.index 9 (.string s) (.int .i64 2)).run Tryz.prog W = .ok (.int .u8 (kd : Int)) W := i2
    have hszi : ((s.size : Int) != 256) = false := by rw [hs]; rfl
    have hnl : n < 256 := by omega
    have hkl : kd < 256 := by omega
    have hwn : IntKind.i64.wrap (n : Int) = (n : Int) := wrapI_eq _ (by omega) (by omega)
    have hwk : IntKind.i64.wrap (kd : Int) = (kd : Int) := wrapI_eq _ (by omega) (by omega)
    by_cases hn4 : n ≤ 244
    · have hbe : pbd s = s.extract 8 (8 + n) := pbd_eq s n (by omega) hn
      have hke : pkd s = (kd : Int) := by rw [(ps2_eq s (by omega)).1, hk]
      have hne : pnm s = nm4 s 4 := (ps4_eq s (by omega)).1
      obtain ⟨bd, hbd⟩ : ∃ b, s.extract 8 (8 + n) = b := ⟨_, rfl⟩
      have hbz : bd.size = n := by rw [← hbd]; simp; omega
      have hfit : fitsP (kd : Int) 1 := (fits1 _).2 ⟨by omega, by omega⟩
      have h44 := nm4_bound s 4
      have h256 : (256 : Int) ^ 4 = 4294967296 := by decide
      have hfit4 : fitsP (nm4 s 4) 4 := (fits4 _).2 ⟨by omega, by omega⟩
      have hEE : errM (kd : Int) (nm4 s 4) bd.size = 0 := by rw [errM, if_neg (by simp [hfit, hfit4]), if_neg (by omega)]
      have HMK := hide (fun W => rmake_any (kd : Int) (nm4 s 4) bd W)
      rw [hEE] at HMK
      rw [hbd] at hbe
      have HPK := hide (And.intro hke (And.intro hne hbe))
      have HEE := hide hEE
      have HBD := hide hbd
      have HIX := hide hix
      have hw : IntKind.i64.wrap (8 + (n : Int)) = 8 + (n : Int) := wrapI_eq _ (by omega) (by omega)
      have ht8 : (8 + (n : Int)).toNat = 8 + n := by omega
      have hb8 : (8 + (n : Int)) ≤ 256 := by omega
      have hb88 : (8 : Int) ≤ 8 + (n : Int) := by omega
      have hcv3 : ¬ 244 < n := by omega
      clear hix hb3 hb2 i2 i3 hn hk hfit hfit4 h44 h256 hEE hke hne hbe
      have hsB : (s.size : Int) = 256 := by omega
      have BX := hide (show Below w.heap.size w (w.alloc (Obj.cells #[.int .i64 0, .int .i64 0, .string ⟨#[]⟩] 54)) from (Below.refl _ w).alloc (Nat.le_refl _) _)
      go_enter Tryz.func184, Tryz.ntmps184
      go_wp2
      go_region
      all_goals go_wp2
      go_loopw [5] (fun u wr => ∃ j : Nat, j ≤ 4 ∧ u = .int .i64 (4 + (j : Int)) ∧ Blk wr (w.heap.size + 1) #[.int .i64 (kd : Int), .int .i64 (nm4 s j), .string bd] 54 ∧ Blk wr w.heap.size #[.int .i64 0, .int .i64 0, .string ⟨#[]⟩] 54 ∧ Below w.heap.size w wr) (fun u _ => 8 - (intOf u).toNat)
      case atStart =>
        refine ⟨0, by omega, rfl, ?_, ?_, ?_⟩
        · have h := Blk.new (w.alloc (Obj.cells #[.int .i64 0, .int .i64 0, .string ⟨#[]⟩] 54)) 54 #[.int .i64 (kd : Int), .int .i64 0, .string bd]
          have e : (w.alloc (Obj.cells #[.int .i64 0, .int .i64 0, .string ⟨#[]⟩] 54)).heap.size = w.heap.size + 1 := by simp
          rw [e] at h
          exact h
        · exact (Blk.new w 54 #[.int .i64 0, .int .i64 0, .string ⟨#[]⟩]).alloc _
        · exact ((unhide BX).alloc (by simp) _).drew
      case round =>
        obtain ⟨j, hj, rfl, hC, hA, hBe⟩ := hrel
        obtain ⟨wo, rfl⟩ : ∃ wo, wo = wr := ⟨_, rfl⟩
        clear BX
        by_cases hj4 : j < 4
        · have hmb := nm4_bound s j
          have hp : (256 : Int) ^ j ≤ 256 ^ 3 := by
            have h1 : (256 : Nat) ^ j ≤ 256 ^ 3 := Nat.pow_le_pow_right (by decide) (by omega)
            exact_mod_cast h1
          have h3 : (256 : Int) ^ 3 = 16777216 := by decide
          obtain ⟨M, hM⟩ := Int.eq_ofNat_of_zero_le hmb.1
          have hMl : M < 16777216 := by omega
          have hix := unhide HIX (4 + j) (by omega)
          have hdb := nums_bytes s (4 + j)
          obtain ⟨d, hd⟩ := Int.eq_ofNat_of_zero_le hdb.1
          rw [hd, show ((4 + j : Nat) : Int) = 4 + (j : Int) by omega] at hix
          have hdl : d < 256 := by omega
          have HST := hide (show nm4 s (j + 1) = ((256 * M + d : Nat) : Int) by rw [nm4_step s j (by omega), hM, hd]; omega)
          have c1 : wo.cell? ⟨w.heap.size + 1, 1, none⟩ = some (.int .i64 (M : Int)) := by rw [hC.cell 1, hM]; rfl
          have f1 := hC.frozen 1
          have w1 : IntKind.i64.wrap (256 * (M : Int)) = 256 * (M : Int) := wrapI_eq _ (by omega) (by omega)
          have w2 : IntKind.i64.wrap (256 * (M : Int) + (d : Int)) = 256 * (M : Int) + (d : Int) := wrapI_eq _ (by omega) (by omega)
          have wd : IntKind.i64.wrap (d : Int) = (d : Int) := wrapI_eq _ (by omega) (by omega)
          have HC := hide hC
          have HA := hide hA
          have HB := hide hBe
          have hj8 : 4 + (j : Int) < 8 := by omega
          clear hC hA hBe hmb hp h3 hM hd hdb
          go_wp2
          go_still_tail 9, (by kernel_rfl)
          change wpList _ _ _ _ _ wo.drew
          go_wp2
          go_roundw
          case rel =>
            refine ⟨j + 1, by omega, by go_num, ?_, (unhide HA).other _ _ (by simp), ((unhide HB).setCell (by simp) _).drew⟩
            rw [unhide HST, show (((256 * M + d : Nat) : Int)) = 256 * (M : Int) + (d : Int) by omega]
            exact (unhide HC).set 1 _
          case measure => simp [intOf]; omega
        · have hj' : j = 4 := by omega
          subst hj'
          have c0 : wo.cell? ⟨w.heap.size + 1, 0, none⟩ = some (.int .i64 (kd : Int)) := by rw [hC.cell 0]; rfl
          have c1 : wo.cell? ⟨w.heap.size + 1, 1, none⟩ = some (.int .i64 (nm4 s 4)) := by rw [hC.cell 1]; rfl
          have c2 : wo.cell? ⟨w.heap.size + 1, 2, none⟩ = some (.string bd) := by rw [hC.cell 2]; rfl
          have hlc := hC.lt
          have HC := hide hC
          have HA := hide hA
          have HB := hide hBe
          obtain ⟨nm, hnm⟩ : ∃ m, nm4 s 4 = m := ⟨_, rfl⟩
          obtain ⟨mb, hmb⟩ : ∃ m, makeB (kd : Int) nm bd = m := ⟨_, rfl⟩
          rw [hnm] at c1 HMK HC
          rw [hmb] at HMK
          have hpk : pkd s = (kd : Int) ∧ pnm s = nm ∧ pbd s = bd := ⟨(unhide HPK).1, (unhide HPK).2.1.trans hnm, (unhide HPK).2.2⟩
          have hee : errM (kd : Int) nm bd.size = 0 := by rw [← hnm]; exact unhide HEE
          have HOK := hide (show prOk s ↔ mb = s by
            unfold prOk
            rw [hpk.1, hpk.2.1, hpk.2.2, hmb]
            exact ⟨fun q => q.2, fun q => ⟨hee, q⟩⟩)
          have HPK2 := hide hpk
          clear hC hA hBe hnm hmb hpk hee HPK
          go_wp2_with fail
          refine (unhide HMK _).mono ?_
          rintro ev x1 ⟨rfl, hB1⟩
          have hA1 := (unhide HA).below hB1 (by omega)
          have hC1 := (unhide HC).below hB1 hlc
          have a0 : x1.cell? ⟨w.heap.size, 0, none⟩ = some (.int .i64 0) := by rw [hA1.cell 0]; rfl
          have a1 : x1.cell? ⟨w.heap.size, 1, none⟩ = some (.int .i64 0) := by rw [hA1.cell 1]; rfl
          have a2 : x1.cell? ⟨w.heap.size, 2, none⟩ = some (.string ⟨#[]⟩) := by rw [hA1.cell 2]; rfl
          have f0 := hA1.frozen 0
          have f1 := hA1.frozen 1
          have f2 := hA1.frozen 2
          have d0 : x1.cell? ⟨w.heap.size + 1, 0, none⟩ = some (.int .i64 (kd : Int)) := by rw [hC1.cell 0]; rfl
          have d1 : x1.cell? ⟨w.heap.size + 1, 1, none⟩ = some (.int .i64 nm) := by rw [hC1.cell 1]; rfl
          have d2 : x1.cell? ⟨w.heap.size + 1, 2, none⟩ = some (.string bd) := by rw [hC1.cell 2]; rfl
          have HA1 := hide hA1
          have HB1 := hide (show Below w.heap.size w x1 from (unhide HB).trans (hB1.mono (by omega)))
          clear hA1 hC1 hB1 c0 c1 c2
          by_cases hms : mb = s
          · have hq : (mb.toList == s.toList) = true := by rw [hms]; simp
            have HMS := hide hms
            clear hms
            go_wp2
            have hA7 := (((unhide HA1).set 0 (.int .i64 (kd : Int))).set 1 (.int .i64 nm)).set 2 (.string bd)
            refine bodyPost_ret (v := .tuple #[.agg #[.int .i64 (kd : Int), .int .i64 nm, .string bd], .int .i64 0]) ?_ rfl ?_
            · exact results_pair (p := 2) (q := 3) (ty := 54) rfl _ _ _ ⟨w.heap.size, 0, none⟩ (by rfl) _ (load_page _ _ _ _ _ hA7) _ (by rfl)
            · refine ⟨.inl ⟨(unhide HOK).2 (unhide HMS), ?_⟩, (((unhide HB1).setCell (p := ⟨w.heap.size, 0, none⟩) (Nat.le_refl _) _).setCell (p := ⟨w.heap.size, 1, none⟩) (Nat.le_refl _) _).setCell (p := ⟨w.heap.size, 2, none⟩) (Nat.le_refl _) _⟩
              rw [(unhide HPK2).1, (unhide HPK2).2.1, (unhide HPK2).2.2]
          · have hq : (mb.toList == s.toList) = false := str_ne hms
            have HMS := hide hms
            clear hms
            go_wp2
            have hA7 := (((unhide HA1).set 0 (.int .i64 0)).set 1 (.int .i64 0)).set 2 (.string ⟨#[]⟩)
            refine bodyPost_ret (v := .tuple #[.agg #[.int .i64 0, .int .i64 0, .string ⟨#[]⟩], .int .i64 35]) ?_ rfl ?_
            · exact results_pair (p := 2) (q := 3) (ty := 54) rfl _ _ _ ⟨w.heap.size, 0, none⟩ (by rfl) _ (load_page _ _ _ _ _ hA7) _ (by rfl)
            · exact ⟨.inr ⟨fun q => unhide HMS ((unhide HOK).1 q), rfl⟩, (((unhide HB1).setCell (p := ⟨w.heap.size, 0, none⟩) (Nat.le_refl _) _).setCell (p := ⟨w.heap.size, 1, none⟩) (Nat.le_refl _) _).setCell (p := ⟨w.heap.size, 2, none⟩) (Nat.le_refl _) _⟩
    · have hbad : ¬ prOk s := fun q => by
        have := (prOk_size s q).2
        rw [hn] at this
        omega
      have HBAD := hide hbad
      have hn5 : 244 < n := by omega
      have hA := (((Blk.new w 54 #[.int .i64 0, .int .i64 0, .string ⟨#[]⟩]).set 0 (.int .i64 0)).set 1 (.int .i64 0)).set 2 (.string ⟨#[]⟩)
      have HA := hide hA
      clear hix hb3 hb2 i2 i3 hn hk hbad hA
      go_enter Tryz.func184, Tryz.ntmps184
      go_wp2
      refine bodyPost_ret (v := .tuple #[.agg #[.int .i64 0, .int .i64 0, .string ⟨#[]⟩], .int .i64 35]) ?_ rfl ?_
      · exact results_pair (p := 2) (q := 3) (ty := 54) rfl _ _ _ ⟨w.heap.size, 0, none⟩ (by rfl) _ (load_page _ _ _ _ _ (Blk.new w _ _)) _ (by rfl)
      · exact ⟨.inr ⟨unhide HBAD, rfl⟩, (Below.refl _ w).alloc (Nat.le_refl _) _⟩
  · have hbad : ¬ prOk s := fun q => hs (prOk_size s q).1
    have HBAD := hide hbad
    have hszi : ((s.size : Int) != 256) = true := by simp; omega
    clear hbad
    go_enter Tryz.func184, Tryz.ntmps184
    go_wp2
    refine bodyPost_ret (v := .tuple #[.agg #[.int .i64 0, .int .i64 0, .string ⟨#[]⟩], .int .i64 35]) ?_ rfl ?_
    · exact results_pair (p := 2) (q := 3) (ty := 54) rfl _ _ _ ⟨w.heap.size, 0, none⟩ (by rfl) _ (load_page _ _ _ _ _ (Blk.new w _ _)) _ (by rfl)
    · exact ⟨.inr ⟨unhide HBAD, rfl⟩, (Below.refl _ w).alloc (Nat.le_refl _) _⟩
end Go.Proofs.YtnfcnpolflfpfaaGreatDoor
