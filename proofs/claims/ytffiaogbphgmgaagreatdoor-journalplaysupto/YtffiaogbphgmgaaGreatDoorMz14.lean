import Derived.Test.YtffiaogbphgmgaaGreatDoorMz13
import Derived.Test.YtffiaogbphgmgaaGreatDoorMz12
import Derived.StillTailTactics
import Derived.BigRegion
import Derived.Test.YtffiaogbphgmgaaGreatDoorMz05
namespace Go.Proofs.YtffiaogbphgmgaaGreatDoor
open Go.RowKit
set_option maxRecDepth 100000 in
set_option maxHeartbeats 2000000 in
theorem rmake_any (kind number : Int) (body : ByteArray) (w : World) :
    Calls Tryz.prog 81 #[.agg #[.int .i64 kind, .int .i64 number, .string body]] w fun e w' => e = .returned (.tuple #[.string (makeB kind number body), .int .i64 (errM kind number body.size)]) ∧ Below w.heap.size w w' := by
  by_cases hok : fitsP kind 1 ∧ fitsP number 4
  · obtain ⟨hk, hn⟩ := hok
    have hk' := (fits1 kind).1 hk
    have hn' := (fits4 number).1 hn
    obtain ⟨K, rfl⟩ := Int.eq_ofNat_of_zero_le hk'.1
    obtain ⟨N, rfl⟩ := Int.eq_ofNat_of_zero_le hn'.1
    by_cases hb : body.size ≤ 244
    · have hE : errM (K : Int) (N : Int) body.size = 0 := by rw [errM, if_neg (by simp [hk, hn]), if_neg (by omega)]
      rw [makeB, if_pos hE, hE]
      exact rmake_ok K N body (by omega) (by omega) hb w
    · have hE : errM (K : Int) (N : Int) body.size = 32 := by rw [errM, if_neg (by simp [hk, hn]), if_pos (by omega)]
      rw [makeB, if_neg (by rw [hE]; decide), hE]
      have hb' : 244 < body.size := by omega
      have hk255 : K ≤ 255 := by omega
      have hn255 : N ≤ 4294967295 := by omega
      clear hk hn hE hk' hn'
      go_enter Tryz.func81, Tryz.ntmps81
      go_wp2
      go_ret2
      exact ⟨rfl, (Below.refl _ w).alloc (Nat.le_refl _) _⟩
  · have hE : errM kind number body.size = 1 := by rw [errM, if_pos (by by_cases hk : fitsP kind 1 <;> by_cases hn : fitsP number 4 <;> simp_all)]
    rw [makeB, if_neg (by rw [hE]; decide), hE]
    rw [fits1, fits4] at hok
    clear hE
    by_cases h1 : kind < 0
    · clear hok
      go_enter Tryz.func81, Tryz.ntmps81
      go_wp2
      go_ret2
      exact ⟨rfl, (Below.refl _ w).alloc (Nat.le_refl _) _⟩
    · by_cases h2 : 255 < kind
      · clear hok
        go_enter Tryz.func81, Tryz.ntmps81
        go_wp2
        go_ret2
        exact ⟨rfl, (Below.refl _ w).alloc (Nat.le_refl _) _⟩
      · by_cases h3 : number < 0
        · clear hok
          go_enter Tryz.func81, Tryz.ntmps81
          go_wp2
          go_ret2
          exact ⟨rfl, (Below.refl _ w).alloc (Nat.le_refl _) _⟩
        · have h4 : 4294967295 < number := by omega
          clear hok
          go_enter Tryz.func81, Tryz.ntmps81
          go_wp2
          go_ret2
          exact ⟨rfl, (Below.refl _ w).alloc (Nat.le_refl _) _⟩
/-- The number that stands at a page's bytes 4 to 7, as far as it was read. -/
def nm4 (s : ByteArray) (j : Nat) : Int := beN (((nums s).drop 4).take j)
theorem nm4_step (s : ByteArray) (j : Nat) (h : 4 + j < s.size) : nm4 s (j + 1) = 256 * nm4 s j + (nums s).getD (4 + j) 0 := by
  unfold nm4
  rw [be_take _ _ (by rw [List.length_drop, nums_len]; omega)]
  congr 1
  rw [List.getD_eq_getElem?_getD, List.getElem?_drop, ← List.getD_eq_getElem?_getD]
theorem nm4_bound (s : ByteArray) (j : Nat) : 0 ≤ nm4 s j ∧ nm4 s j < 256 ^ j := by
  have : Bytes ((nums s).drop 4) := Bytes.of_mem (fun x hx => (nums_bytes s).mem (List.mem_of_mem_drop hx))
  exact be_bound _ this j
set_option maxRecDepth 100000 in
set_option maxHeartbeats 4000000 in
theorem rparse_any (s : ByteArray) (w : World) :
    Calls Tryz.prog 74 #[.string s] w fun e w' => ParsePost s w e w' := by
  by_cases hs : s.size = 256
  · have hix := fun (i : Nat) (hi : i < 256) (W : World) => index_str s i (by omega) W
    have hb3 := nums_bytes s 3
    have hb2 := nums_bytes s 2
    have i2 := hix 2 (by omega)
    have i3 := hix 3 (by omega)
    obtain ⟨n, hn⟩ := Int.eq_ofNat_of_zero_le hb3.1
    obtain ⟨kd, hk⟩ := Int.eq_ofNat_of_zero_le hb2.1
    rw [hn] at i3
    rw [hk] at i2
    have i3' : ∀ W : World, (Instr.index 9 (.string s) (.int .i64 3)).run Tryz.prog W = .ok (.int .u8 (n : Int)) W := i3
    have i2' : ∀ W : World, (Instr.index 9 (.string s) (.int .i64 2)).run Tryz.prog W = .ok (.int .u8 (kd : Int)) W := i2
    have hszi : ((s.size : Int) != 256) = false := by rw [hs]; rfl
    have hnl : n < 256 := by omega
    have hkl : kd < 256 := by omega
    have hwn : IntKind.i64.wrap (n : Int) = (n : Int) := wrapI_eq _ (by omega) (by omega)
    have hwk : IntKind.i64.wrap (kd : Int) = (kd : Int) := wrapI_eq _ (by omega) (by omega)
    by_cases hn4 : n ≤ 244
    · have hbe : pbd s = s.extract 8 (8 + n) := pbd_eq s n (by omega) hn
      have hke : pkd s = (kd : Int) := by rw [(ps2_eq s (by omega)).1, hk]
      have hne : pnm s = nm4 s 4 := (ps4_eq s (by omega)).1
      obtain ⟨bd, hbd⟩ : ∃ b, s.extract 8 (8 + n) = b := ⟨_, rfl⟩
      have hbz : bd.size = n := by rw [← hbd]; simp; omega
      have hfit : fitsP (kd : Int) 1 := (fits1 _).2 ⟨by omega, by omega⟩
      have h44 := nm4_bound s 4
      have h256 : (256 : Int) ^ 4 = 4294967296 := by decide
      have hfit4 : fitsP (nm4 s 4) 4 := (fits4 _).2 ⟨by omega, by omega⟩
      have hEE : errM (kd : Int) (nm4 s 4) bd.size = 0 := by rw [errM, if_neg (by simp [hfit, hfit4]), if_neg (by omega)]
      have HMK := hide (fun W => rmake_any (kd : Int) (nm4 s 4) bd W)
      rw [hEE] at HMK
      rw [hbd] at hbe
      have HPK := hide (And.intro hke (And.intro hne hbe))
      have HEE := hide hEE
      have HBD := hide hbd
      have HIX := hide hix
      have hw : IntKind.i64.wrap (8 + (n : Int)) = 8 + (n : Int) := wrapI_eq _ (by omega) (by omega)
      have ht8 : (8 + (n : Int)).toNat = 8 + n := by omega
      have hb8 : (8 + (n : Int)) ≤ 256 := by omega
      have hb88 : (8 : Int) ≤ 8 + (n : Int) := by omega
      have hcv3 : ¬ 244 < n := by omega
      clear hix hb3 hb2 i2 i3 hn hk hfit hfit4 h44 h256 hEE hke hne hbe
      have hsB : (s.size : Int) = 256 := by omega
      have BX := hide (show Below w.heap.size w (w.alloc (Obj.cells #[.int .i64 0, .int .i64 0, .string ⟨#[]⟩] 123)) from (Below.refl _ w).alloc (Nat.le_refl _) _)
      go_enter Tryz.func74, Tryz.ntmps74
      go_wp2
      go_region
      all_goals go_wp2
      go_loopw [5] (fun u wr => ∃ j : Nat, j ≤ 4 ∧ u = .int .i64 (4 + (j : Int)) ∧ Blk wr (w.heap.size + 1) #[.int .i64 (kd : Int), .int .i64 (nm4 s j), .string bd] 123 ∧ Blk wr w.heap.size #[.int .i64 0, .int .i64 0, .string ⟨#[]⟩] 123 ∧ Below w.heap.size w wr) (fun u _ => 8 - (intOf u).toNat)
      case atStart =>
        refine ⟨0, by omega, rfl, ?_, ?_, ?_⟩
        · have h := Blk.new (w.alloc (Obj.cells #[.int .i64 0, .int .i64 0, .string ⟨#[]⟩] 123)) 123 #[.int .i64 (kd : Int), .int .i64 0, .string bd]
          have e : (w.alloc (Obj.cells #[.int .i64 0, .int .i64 0, .string ⟨#[]⟩] 123)).heap.size = w.heap.size + 1 := by simp
          rw [e] at h
          exact h
        · exact (Blk.new w 123 #[.int .i64 0, .int .i64 0, .string ⟨#[]⟩]).alloc _
        · exact ((unhide BX).alloc (by simp) _).drew
      case round =>
        obtain ⟨j, hj, rfl, hC, hA, hBe⟩ := hrel
        obtain ⟨wo, rfl⟩ : ∃ wo, wo = wr := ⟨_, rfl⟩
        clear BX
        by_cases hj4 : j < 4
        · have hmb := nm4_bound s j
          have hp : (256 : Int) ^ j ≤ 256 ^ 3 := by
            have h1 : (256 : Nat) ^ j ≤ 256 ^ 3 := Nat.pow_le_pow_right (by decide) (by omega)
            exact_mod_cast h1
          have h3 : (256 : Int) ^ 3 = 16777216 := by decide
          obtain ⟨M, hM⟩ := Int.eq_ofNat_of_zero_le hmb.1
          have hMl : M < 16777216 := by omega
          have hix := unhide HIX (4 + j) (by omega)
          have hdb := nums_bytes s (4 + j)
          obtain ⟨d, hd⟩ := Int.eq_ofNat_of_zero_le hdb.1
          rw [hd, show ((4 + j : Nat) : Int) = 4 + (j : Int) by omega] at hix
          have hdl : d < 256 := by omega
          have HST := hide (show nm4 s (j + 1) = ((256 * M + d : Nat) : Int) by rw [nm4_step s j (by omega), hM, hd]; omega)
          have c1 : wo.cell? ⟨w.heap.size + 1, 1, none⟩ = some (.int .i64 (M : Int)) := by rw [hC.cell 1, hM]; rfl
          have f1 := hC.frozen 1
          have w1 : IntKind.i64.wrap (256 * (M : Int)) = 256 * (M : Int) := wrapI_eq _ (by omega) (by omega)
          have w2 : IntKind.i64.wrap (256 * (M : Int) + (d : Int)) = 256 * (M : Int) + (d : Int) := wrapI_eq _ (by omega) (by omega)
          have wd : IntKind.i64.wrap (d : Int) = (d : Int) := wrapI_eq _ (by omega) (by omega)
          have HC := hide hC
          have HA := hide hA
          have HB := hide hBe
          have hj8 : 4 + (j : Int) < 8 := by omega
          clear hC hA hBe hmb hp h3 hM hd hdb
          go_wp2
          go_still_tail 9, (by kernel_rfl)
          change wpList _ _ _ _ _ wo.drew
          go_wp2
          go_roundw
          case rel =>
            refine ⟨j + 1, by omega, by go_num, ?_, (unhide HA).other _ _ (by simp), ((unhide HB).setCell (by simp) _).drew⟩
            rw [unhide HST, show (((256 * M + d : Nat) : Int)) = 256 * (M : Int) + (d : Int) by omega]
            exact (unhide HC).set 1 _
          case measure => simp [intOf]; omega
        · have hj' : j = 4 := by omega
          subst hj'
          have c0 : wo.cell? ⟨w.heap.size + 1, 0, none⟩ = some (.int .i64 (kd : Int)) := by rw [hC.cell 0]; rfl
          have c1 : wo.cell? ⟨w.heap.size + 1, 1, none⟩ = some (.int .i64 (nm4 s 4)) := by rw [hC.cell 1]; rfl
          have c2 : wo.cell? ⟨w.heap.size + 1, 2, none⟩ = some (.string bd) := by rw [hC.cell 2]; rfl
          have hlc := hC.lt
          have HC := hide hC
          have HA := hide hA
          have HB := hide hBe
          obtain ⟨nm, hnm⟩ : ∃ m, nm4 s 4 = m := ⟨_, rfl⟩
          obtain ⟨mb, hmb⟩ : ∃ m, makeB (kd : Int) nm bd = m := ⟨_, rfl⟩
          rw [hnm] at c1 HMK HC
          rw [hmb] at HMK
          have hpk : pkd s = (kd : Int) ∧ pnm s = nm ∧ pbd s = bd := ⟨(unhide HPK).1, (unhide HPK).2.1.trans hnm, (unhide HPK).2.2⟩
          have hee : errM (kd : Int) nm bd.size = 0 := by rw [← hnm]; exact unhide HEE
          have HOK := hide (show prOk s ↔ mb = s by
            unfold prOk
            rw [hpk.1, hpk.2.1, hpk.2.2, hmb]
            exact ⟨fun q => q.2, fun q => ⟨hee, q⟩⟩)
          have HPK2 := hide hpk
          clear hC hA hBe hnm hmb hpk hee HPK
          go_wp2_with fail
          refine (unhide HMK _).mono ?_
          rintro ev x1 ⟨rfl, hB1⟩
          have hA1 := (unhide HA).below hB1 (by omega)
          have hC1 := (unhide HC).below hB1 hlc
          have a0 : x1.cell? ⟨w.heap.size, 0, none⟩ = some (.int .i64 0) := by rw [hA1.cell 0]; rfl
          have a1 : x1.cell? ⟨w.heap.size, 1, none⟩ = some (.int .i64 0) := by rw [hA1.cell 1]; rfl
          have a2 : x1.cell? ⟨w.heap.size, 2, none⟩ = some (.string ⟨#[]⟩) := by rw [hA1.cell 2]; rfl
          have f0 := hA1.frozen 0
          have f1 := hA1.frozen 1
          have f2 := hA1.frozen 2
          have d0 : x1.cell? ⟨w.heap.size + 1, 0, none⟩ = some (.int .i64 (kd : Int)) := by rw [hC1.cell 0]; rfl
          have d1 : x1.cell? ⟨w.heap.size + 1, 1, none⟩ = some (.int .i64 nm) := by rw [hC1.cell 1]; rfl
          have d2 : x1.cell? ⟨w.heap.size + 1, 2, none⟩ = some (.string bd) := by rw [hC1.cell 2]; rfl
          have HA1 := hide hA1
          have HB1 := hide (show Below w.heap.size w x1 from (unhide HB).trans (hB1.mono (by omega)))
          clear hA1 hC1 hB1 c0 c1 c2
          by_cases hms : mb = s
          · have hq : (mb.toList == s.toList) = true := by rw [hms]; simp
            have HMS := hide hms
            clear hms
            go_wp2
            have hA7 := (((unhide HA1).set 0 (.int .i64 (kd : Int))).set 1 (.int .i64 nm)).set 2 (.string bd)
            refine bodyPost_ret (v := .tuple #[.agg #[.int .i64 (kd : Int), .int .i64 nm, .string bd], .int .i64 0]) ?_ rfl ?_
            · exact results_pair (p := 2) (q := 3) (ty := 123) rfl _ _ _ ⟨w.heap.size, 0, none⟩ (by rfl) _ (load_page _ _ _ _ _ hA7) _ (by rfl)
            · refine ⟨.inl ⟨(unhide HOK).2 (unhide HMS), ?_⟩, (((unhide HB1).setCell (p := ⟨w.heap.size, 0, none⟩) (Nat.le_refl _) _).setCell (p := ⟨w.heap.size, 1, none⟩) (Nat.le_refl _) _).setCell (p := ⟨w.heap.size, 2, none⟩) (Nat.le_refl _) _⟩
              rw [(unhide HPK2).1, (unhide HPK2).2.1, (unhide HPK2).2.2]
          · have hq : (mb.toList == s.toList) = false := str_ne hms
            have HMS := hide hms
            clear hms
            go_wp2
            have hA7 := (((unhide HA1).set 0 (.int .i64 0)).set 1 (.int .i64 0)).set 2 (.string ⟨#[]⟩)
            refine bodyPost_ret (v := .tuple #[.agg #[.int .i64 0, .int .i64 0, .string ⟨#[]⟩], .int .i64 35]) ?_ rfl ?_
            · exact results_pair (p := 2) (q := 3) (ty := 123) rfl _ _ _ ⟨w.heap.size, 0, none⟩ (by rfl) _ (load_page _ _ _ _ _ hA7) _ (by rfl)
            · exact ⟨.inr ⟨fun q => unhide HMS ((unhide HOK).1 q), rfl⟩, (((unhide HB1).setCell (p := ⟨w.heap.size, 0, none⟩) (Nat.le_refl _) _).setCell (p := ⟨w.heap.size, 1, none⟩) (Nat.le_refl _) _).setCell (p := ⟨w.heap.size, 2, none⟩) (Nat.le_refl _) _⟩
    · have hbad : ¬ prOk s := fun q => by
        have := (prOk_size s q).2
        rw [hn] at this
        omega
      have HBAD := hide hbad
      have hn5 : 244 < n := by omega
      have hA := (((Blk.new w 123 #[.int .i64 0, .int .i64 0, .string ⟨#[]⟩]).set 0 (.int .i64 0)).set 1 (.int .i64 0)).set 2 (.string ⟨#[]⟩)
      have HA := hide hA
      clear hix hb3 hb2 i2 i3 hn hk hbad hA
      go_enter Tryz.func74, Tryz.ntmps74
      go_wp2
      refine bodyPost_ret (v := .tuple #[.agg #[.int .i64 0, .int .i64 0, .string ⟨#[]⟩], .int .i64 35]) ?_ rfl ?_
      · exact results_pair (p := 2) (q := 3) (ty := 123) rfl _ _ _ ⟨w.heap.size, 0, none⟩ (by rfl) _ (load_page _ _ _ _ _ (Blk.new w _ _)) _ (by rfl)
      · exact ⟨.inr ⟨unhide HBAD, rfl⟩, (Below.refl _ w).alloc (Nat.le_refl _) _⟩
  · have hbad : ¬ prOk s := fun q => hs (prOk_size s q).1
    have HBAD := hide hbad
    have hszi : ((s.size : Int) != 256) = true := by simp; omega
    clear hbad
    go_enter Tryz.func74, Tryz.ntmps74
    go_wp2
    refine bodyPost_ret (v := .tuple #[.agg #[.int .i64 0, .int .i64 0, .string ⟨#[]⟩], .int .i64 35]) ?_ rfl ?_
    · exact results_pair (p := 2) (q := 3) (ty := 123) rfl _ _ _ ⟨w.heap.size, 0, none⟩ (by rfl) _ (load_page _ _ _ _ _ (Blk.new w _ _)) _ (by rfl)
    · exact ⟨.inr ⟨unhide HBAD, rfl⟩, (Below.refl _ w).alloc (Nat.le_refl _) _⟩
end Go.Proofs.YtffiaogbphgmgaaGreatDoor

namespace Go.Proofs.YtffiaogbphgmgaaGreatDoor
open Go.RowKit
theorem below_growJ {B : Nat} {w0 w : World} (h : Below B w0 w) (hB : B ≤ w.heap.size) (os : Array Obj) : Below B w0 (Go.Sort.grow w os) :=
  ⟨h.os, h.tape, h.output, by have := h.size; simp [Go.Sort.grow]; omega, fun k hk => by
    have : (Go.Sort.grow w os).heap[k]? = w.heap[k]? := by
      show (w.heap ++ os)[k]? = _
      rw [Array.getElem?_append_left (by omega)]
    rw [this]
    exact h.block k hk⟩
theorem holds_blk {w : World} {g : Nat} {L : List Int} (h : Blk w g (L.map (Value.int .i64)).toArray 3) : Go.Sort.Holds (Value.int .i64) w g 0 L.toArray := fun j hj => by
  have hj' : j < L.length := by simpa using hj
  refine ⟨?_, h.frozen _⟩
  rw [Nat.zero_add, h.cell]
  simp [hj']
set_option maxRecDepth 100000 in
set_option maxHeartbeats 2000000 in
theorem refusal_any (w : World) (p : Option Addr) (c : Nat) (l : List Wr1) (n : Nat) (hn : n = l.length) (hl : Wls w p l) (size : Int) :
    Calls Tryz.prog 44 #[.slice p n c, .int .i64 size] w fun e w' => e = .returned (.int .i64 (refE l size)) ∧ Below w.heap.size w w' := by
  have HB0 := hide ((Below.refl w.heap.size w).alloc (Nat.le_refl _) (Obj.cells #[.int .i64 size] 3))
  by_cases h16 : 16 < n
  · have hr : refE l size = 50 := by rw [refE, if_pos (by omega)]
    rw [hr]
    have h16' : (16 : Int) < (n : Int) := by omega
    clear hr hl hn
    go_enter Tryz.func44, Tryz.ntmps44
    go_wp2
    go_ret
    exact ⟨rfl, unhide HB0⟩
  · have HR := hide (show refE l size = if l.any (freeP size) then 52 else if ¬ (secs l).Nodup then 51 else if l.any longP then 42 else 0 from by rw [refE, if_neg (by omega)])
    have eg1 : ∀ args w, (callFunc 84 args).run Tryz.prog w = .ok (.enter 84 args) w := enters_of Tryz.func84 (by kernel_rfl) rfl
    have eg2 : ∀ args w, (callFunc 89 args).run Tryz.prog w = .ok (.enter 89 args) w := enters_of Tryz.func89 (by kernel_rfl) rfl
    obtain ⟨x0, hx0⟩ : ∃ x, x = w.alloc (Obj.cells #[.int .i64 size] 3) := ⟨_, rfl⟩
    have hs0 : x0.heap.size = w.heap.size + 1 := by rw [hx0]; simp
    rw [← hx0] at HB0
    have hc0 : x0.cell? ⟨w.heap.size, 0, none⟩ = some (.int .i64 size) := by rw [hx0, (Blk.new w 3 #[.int .i64 size]).cell 0]; rfl
    have hl0 : Wls x0 p l := hl.below (unhide HB0)
    have HC1 := hide (contf_any x0 p c l n hn hl0 (by omega) _ _ (freeP size) eg1 (pred1_any size w.heap.size x0 (by omega) hc0))
    have HL := hide hl
    have HN := hide hn
    have HZ := hide hs0
    have hln : l.length ≤ 1000000 := by omega
    have HLN := hide hln
    have h16' : ¬ (16 : Int) < (n : Int) := by omega
    clear hl hn hs0 hc0 hl0 hln eg1
    have E2 := hide eg2
    clear eg2
    go_enter Tryz.func44, Tryz.ntmps44
    go_wp2_with fail
    rw [← hx0]
    replace hx0 := hide hx0
    refine (unhide HC1).mono ?_
    rintro e x1 ⟨rfl, hb1⟩
    have HB1 := hide ((unhide HB0).trans (hb1.mono (by have := unhide HZ; omega)))
    clear hb1 HC1
    cases h1 : l.any (freeP size) with
    | true =>
      have hr : refE l size = 52 := by rw [unhide HR, h1]; rfl
      have HRR := hide hr
      clear hr h1
      go_wp2
      go_ret
      exact ⟨(congrArg (fun z => Ending.returned (.int .i64 z)) (unhide HRR)).symm, unhide HB1⟩
    | false =>
      have HR2 := hide (show refE l size = if ¬ (secs l).Nodup then 51 else if l.any longP then 42 else 0 from by rw [unhide HR, h1]; rfl)
      have HC2 := hide (sectorsOf_any x1 p c l n (unhide HN) ((unhide HL).below (unhide HB1)) (unhide HLN))
      clear HR h1
      go_wp2_with fail
      refine (unhide HC2).mono ?_
      rintro e x2 ⟨rfl, hB2, hb2⟩
      have HB2 := hide ((unhide HB1).trans (hb2.mono (unhide HB1).size))
      have hH2 := holds_blk hB2
      have hlt2 : x1.heap.size < x2.heap.size := hB2.lt
      have hsl : (secs l).length = n := by rw [unhide HN]; simp [secs]
      have hcS := Tryz.slices_Sort_int x1.heap.size 0 n (secs l) x2 hH2 hlt2 (by omega)
      rw [hsl] at hcS
      have HCS := hide hcS
      have HH2 := hide (And.intro hH2 hlt2)
      have HSL := hide hsl
      have hge : w.heap.size ≤ x1.heap.size := (unhide HB1).size
      have HGE := hide hge
      clear hB2 hb2 hH2 hlt2 hcS HC2 hsl hge
      go_wp2_with fail
      refine (unhide HCS).mono ?_
      rintro e x3 ⟨rfl, k3, os3, hx3⟩
      have hms : ((secs l).mergeSort fun x y => decide (x ≤ y)).length = n := by rw [(List.mergeSort_perm _ _).length_eq, unhide HSL]
      have hH3 : Go.Sort.Holds (Value.int .i64) x3 x1.heap.size 0 ((secs l).mergeSort fun x y => decide (x ≤ y)).toArray := by
        rw [hx3]
        refine Go.Sort.holds_grow _ _ _ _ _ _ ?_ (Go.Sort.holds_putRow _ _ _ _ (secs l).toArray _ (unhide HH2).1 (by simp [hms, unhide HSL]))
        have : (Go.Sort.putRow (Value.int .i64) (Go.Sort.ahead x2 k3) x1.heap.size 0 ((secs l).mergeSort fun x y => decide (x ≤ y)).toArray).heap.size = x2.heap.size := by simp [Go.Sort.putRow, Go.Sort.mapBlock, Go.Sort.ahead]
        rw [this]
        exact (unhide HH2).2
      have hb3 : Below w.heap.size w x3 := by
        rw [hx3]
        refine below_growJ (Go.Lib.below_putRow (unhide HB2) (unhide HGE)) ?_ _
        have : (Go.Sort.putRow (Value.int .i64) (Go.Sort.ahead x2 k3) x1.heap.size 0 ((secs l).mergeSort fun x y => decide (x ≤ y)).toArray).heap.size = x2.heap.size := by simp [Go.Sort.putRow, Go.Sort.mapBlock, Go.Sort.ahead]
        rw [this]
        exact (unhide HB2).size
      have hcm := compact_nodup (secs l)
      have hcC := Tryz.slices_Compact_int x1.heap.size 0 n ((secs l).mergeSort fun x y => decide (x ≤ y)) x3 hH3 (by omega) (by omega)
      rw [hms] at hcC
      rw [unhide HSL] at hcm
      generalize ((secs l).mergeSort fun x y => decide (x ≤ y)) = S at *
      have HCC := hide hcC
      have HCM := hide hcm
      have HB3 := hide hb3
      clear hx3 hms hH3 hb3 hcC hcm HCS
      go_wp2_with fail
      refine (unhide HCC).mono ?_
      rintro e x4 ⟨rfl, q4, hx4⟩
      have HB4 := hide (show Below w.heap.size w x4 from by rw [hx4]; exact Go.Lib.below_putRow (unhide HB3) (unhide HGE))
      have hcm := unhide HCM
      generalize (Lib.compact S).length = m at *
      clear hx4 HCC HCM
      by_cases hd : m < n
      · have hr : refE l size = 51 := by rw [unhide HR2, if_pos (hcm.1 hd)]
        have HRR := hide hr
        have hd' : (m : Int) < (n : Int) := by omega
        clear hr hcm
        go_wp2
        go_ret
        exact ⟨(congrArg (fun z => Ending.returned (.int .i64 z)) (unhide HRR)).symm, unhide HB4⟩
      · have HR3 := hide (show refE l size = if l.any longP then 42 else 0 from by rw [unhide HR2, if_neg (fun q => hd (hcm.2 q))])
        have HC3 := hide (contf_any x4 p c l n (unhide HN) ((unhide HL).below (unhide HB4)) (unhide HLN) _ _ longP (unhide E2) (pred2_any x4))
        have hd' : ¬ (m : Int) < (n : Int) := by omega
        clear hcm HR2
        go_wp2_with fail
        refine (unhide HC3).mono ?_
        rintro e x5 ⟨rfl, hb5⟩
        have HB5 := hide ((unhide HB4).trans (hb5.mono (unhide HB4).size))
        clear hb5 HC3
        cases h5 : l.any longP with
        | true =>
          have hr : refE l size = 42 := by rw [unhide HR3, h5]; rfl
          have HRR := hide hr
          clear hr h5
          go_wp2
          go_ret
          exact ⟨(congrArg (fun z => Ending.returned (.int .i64 z)) (unhide HRR)).symm, unhide HB5⟩
        | false =>
          have hr : refE l size = 0 := by rw [unhide HR3, h5]; rfl
          have HRR := hide hr
          clear hr h5
          go_wp2
          go_ret
          exact ⟨(congrArg (fun z => Ending.returned (.int .i64 z)) (unhide HRR)).symm, unhide HB5⟩
end Go.Proofs.YtffiaogbphgmgaaGreatDoor
