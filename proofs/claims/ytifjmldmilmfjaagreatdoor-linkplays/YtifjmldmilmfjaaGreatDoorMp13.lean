import Derived.Test.YtifjmldmilmfjaaGreatDoorMp07
import Derived.Test.YtifjmldmilmfjaaGreatDoorMp09
import Derived.Test.YtifjmldmilmfjaaGreatDoorMp10
import Derived.Test.YtifjmldmilmfjaaGreatDoorMp12
namespace Go.Proofs.YtifjmldmilmfjaaGreatDoor
open Go.RowKit
set_option maxRecDepth 100000
/-- a text's Mac, a text with its tag -/
def mcB (k s : ByteArray) : ByteArray := strOfNums (macP (nums k) (nums s))
theorem mcB_size (k s : ByteArray) : (mcB k s).size = 32 := by
  rw [← nums_len, mcB, nums_strOfNums _ (mac_bytes _ _), mac_len]
def tgB (k s : ByteArray) : ByteArray := s ++ (mcB k s).extract 0 16
theorem tgB_size (k s : ByteArray) : (tgB k s).size = s.size + 16 := by
  rw [tgB, ByteArray.size_append, ByteArray.size_extract, mcB_size]
  omega
def sdB (i : Nat) : ByteArray := strOfNums [(i : Int)]
theorem sdB_size (i : Nat) : (sdB i).size = 1 := rfl
def lhB : ByteArray := ⟨#[76, 72]⟩
def lmB : ByteArray := ⟨#[76, 77]⟩
def lkB : ByteArray := ⟨#[108, 105, 110, 107]⟩
/-- a hello -/
def heB (k : ByteArray) (i : Nat) (n : ByteArray) : ByteArray := tgB k (lhB ++ sdB i ++ n)
theorem heB_size (k : ByteArray) (i : Nat) (n : ByteArray) : (heB k i n).size = 19 + n.size := by
  rw [heB, tgB_size, ByteArray.size_append, ByteArray.size_append, sdB_size]
  show 2 + 1 + n.size + 16 = 19 + n.size
  omega
/-- a number by eight bytes -/
def nuB (n : Int) : ByteArray := strOfNums (numB n 8)
theorem nuB_size (n : Int) : (nuB n).size = 8 := by rw [← nums_len, nuB, nums_strOfNums _ (numB_bytes _ _), numB_len]
/-- a message hidden -/
def hdB (h : ByteArray) (n : Int) (m : ByteArray) : ByteArray := xorB (mcB h (nuB n)) 0 m
/-- a frame -/
def frB (h s : ByteArray) (n : Int) (m : ByteArray) : ByteArray := tgB s (lmB ++ nuB n ++ hdB h n m)
/-- the keys of what a side sends -/
def drB (k a b : ByteArray) (i : Nat) : ByteArray := strOfNums ((outP (nums k) (nums (lkB ++ a ++ b ++ sdB i)) ((64 + 31) / 32)).take 64)
theorem drB_size (k a b : ByteArray) (i : Nat) : (drB k a b i).size = 64 := by
  rw [← nums_len, drB, nums_strOfNums, List.length_take, outP_len]
  · rfl
  · intro j
    have := outP_bytes (nums k) (nums (lkB ++ a ++ b ++ sdB i)) ((64 + 31) / 32) j
    simp only [List.getD_eq_getElem?_getD, List.getElem?_take] at this ⊢
    split
    · exact this
    · simp
def hiB (k a b : ByteArray) (i : Nat) : ByteArray := (drB k a b i).extract 0 32
def seB (k a b : ByteArray) (i : Nat) : ByteArray := (drB k a b i).extract 32 64
theorem hiB_size (k a b : ByteArray) (i : Nat) : (hiB k a b i).size = 32 := by rw [hiB, ByteArray.size_extract, drB_size]; rfl
theorem seB_size (k a b : ByteArray) (i : Nat) : (seB k a b i).size = 32 := by rw [seB, ByteArray.size_extract, drB_size]; rfl
theorem conv_oneL (W : World) (a : Int) : (convert 86 9 (.slice (some ⟨W.heap.size, 0, none⟩) 1 1)).run Tryz.prog (W.alloc (Obj.cells #[.int .u8 a] 5)) = .ok (.string (strOfNums [a])) (W.alloc (Obj.cells #[.int .u8 a] 5)) :=
  run_convert_bytes_arg (P := Tryz.prog) _ 86 5 Tryz.underlying86 Tryz.underlying5 W.heap.size 0 1 1 [a] rfl (fun i hi => (arr_new W .u8 [a] 5 _ rfl).get i (by simpa using hi)) 9 Tryz.underlying9
set_option maxHeartbeats 1000000 in
theorem tagged_any (k s : ByteArray) (hk : k.size ≤ 140737488355000) (hs : s.size ≤ 140737488355000) (w : World) (hK : KTab w) : Calls Tryz.prog 43 #[.string k, .string s] w fun e w' => e = .returned (.string (tgB k s)) ∧ Below w.heap.size w w' := by
  have HM := hide (mac_any k s (by omega) (by omega) w hK)
  rw [show strOfNums (macP (nums k) (nums s)) = mcB k s from rfl] at HM
  unfold tgB
  have hz := mcB_size k s
  generalize mcB k s = d at *
  have hx : (d.extract 0 16).size = 16 := by rw [ByteArray.size_extract]; omega
  clear hK
  go_enter Tryz.func43, Tryz.ntmps43
  go_wp2_with fail
  refine (unhide HM).mono ?_
  rintro e y ⟨rfl, hb⟩
  have HB := hide hb
  clear hb
  go_wp2
  go_ret
  exact ⟨rfl, unhide HB⟩
set_option maxHeartbeats 1000000 in
theorem sideText_any (i : Nat) (hi : i < 256) (w : World) : Calls Tryz.prog 58 #[.int .i64 (i : Int)] w fun e w' => e = .returned (.string (sdB i)) ∧ Below w.heap.size w w' := by
  have HB := hide (show Below w.heap.size w (w.alloc (Obj.cells #[.int .u8 (i : Int)] 5)) from (Below.refl _ _).alloc (Nat.le_refl _) _)
  have hc := conv_oneL w (i : Int)
  have hw : IntKind.u8.wrap (i : Int) = (i : Int) := by rw [IntKind.wrap_u8]; omega
  rw [show strOfNums [(i : Int)] = sdB i from rfl] at hc
  generalize sdB i = d at *
  go_enter Tryz.func58, Tryz.ntmps58
  go_wp2
  go_ret
  exact ⟨rfl, unhide HB⟩
set_option maxHeartbeats 1000000 in
theorem helloOf_any (k : ByteArray) (i : Nat) (n : ByteArray) (hk : k.size ≤ 140737488355000) (hi : i < 256) (hn : n.size ≤ 140737488354000) (w : World) (hK : KTab w) : Calls Tryz.prog 36 #[.string k, .int .i64 (i : Int), .string n] w fun e w' => e = .returned (.string (heB k i n)) ∧ Below w.heap.size w w' := by
  obtain ⟨h, hh⟩ : ∃ h, w.heap.size = h := ⟨_, rfl⟩
  have HS := hide (sideText_any i hi w)
  have hz := sdB_size i
  have HT := hide (fun W (hW : Below w.heap.size w W) => tagged_any k (lhB ++ sdB i ++ n) hk (by rw [ByteArray.size_append, ByteArray.size_append, sdB_size]; show 2 + 1 + n.size ≤ _; omega) W (hK.below hW hK.1))
  rw [show tgB k (lhB ++ sdB i ++ n) = heB k i n from rfl] at HT
  generalize heB k i n = r at *
  have e0 : (⟨#[76, 72]⟩ : ByteArray) ++ sdB i ++ n = lhB ++ sdB i ++ n := rfl
  have ez : ((⟨#[76, 72]⟩ : ByteArray) ++ sdB i).size = 3 := by rw [ByteArray.size_append, hz]; rfl
  have e2 : (⟨#[76, 72]⟩ : ByteArray).size = 2 := rfl
  generalize sdB i = d at *
  rw [← e0] at HT
  clear e0 hK
  go_enter Tryz.func36, Tryz.ntmps36
  go_wp2_with fail
  refine (unhide HS).mono ?_
  rintro e y ⟨rfl, hb⟩
  have HB := hide hb
  clear hb
  go_wp2_with fail
  refine (unhide HT _ (unhide HB)).mono ?_
  rintro e y2 ⟨rfl, hb⟩
  have HB2 := hide ((unhide HB).trans (hb.mono (unhide HB).size))
  clear hb
  go_wp2
  go_ret
  exact ⟨rfl, unhide HB2⟩
set_option maxHeartbeats 1000000 in
theorem numberText_any (n : Nat) (hn : n < 9223372036854775808) (w : World) : Calls Tryz.prog 44 #[.int .i64 (n : Int)] w fun e w' => e = .returned (.string (nuB (n : Int))) ∧ Below w.heap.size w w' := by
  obtain ⟨h, hh⟩ : ∃ h, w.heap.size = h := ⟨_, rfl⟩
  have HNW := hide (newWriter_any w)
  rw [hh] at HNW ⊢
  have hE : errN 8 [(n : Int)] = 0 := by
    rw [errN, if_neg (by omega), if_pos]
    intro m hm
    rw [List.mem_singleton.1 hm]
    refine ⟨by omega, ?_⟩
    have h9 : (2 : Int) ^ (8 * (8 : Int).toNat) = 18446744073709551616 := by decide
    rw [h9]
    exact Int.ediv_eq_zero_of_lt (by omega) (by omega)
  have hO : outN (8 : Int).toNat [(n : Int)] = numB (n : Int) 8 := by simp [outN]
  obtain ⟨r, hr⟩ : ∃ r, nuB (n : Int) = r := ⟨_, rfl⟩
  rw [hr]
  go_enter Tryz.func44, Tryz.ntmps44
  go_wp2_with fail
  refine (unhide HNW).mono ?_
  rintro e y1 ⟨rfl, hw1, hb1, hs1⟩
  have HW := hide (show WPost h h (.slice none 0 0) [] 0 y1 y1 from ⟨_, hw1, Only.refl _ _, fun k hk => .inl hk⟩)
  have HN := hide (numK (unhide HW) (by omega) 8 [(n : Int)] _ rfl (by simp) 1 rfl)
  rw [hE, hO, wl_good, we_good, List.nil_append] at HN
  have HB := hide hb1
  have HS := hide hs1
  have HL := hide hw1.lt
  clear hw1 hb1 hs1 hE hO HNW HW
  go_wp2_with fail
  refine (unhide HN).mono ?_
  rintro e y2 ⟨rfl, hp⟩
  have HD := hide (doneK hp)
  clear hp HN
  rw [show strOfNums (numB (n : Int) 8) = r from hr] at HD
  go_wp2_with fail
  refine (unhide HD).mono ?_
  rintro e y3 ⟨rfl, hp⟩
  have HE := hide (show Below h w y3 from by
    obtain ⟨v1, _, h2, _⟩ := hp
    refine (unhide HB).trans (h2.below (by have := unhide HS; omega) (fun k hk hq => ?_))
    rcases hq with rfl | hq
    · omega
    · simp [Value.ownBlock] at hq)
  clear hp HD
  go_wp2
  go_ret
  exact ⟨rfl, unhide HE⟩
end Go.Proofs.YtifjmldmilmfjaaGreatDoor

namespace Go.Proofs.YtifjmldmilmfjaaGreatDoor
open Go.RowKit
set_option maxRecDepth 100000
set_option maxHeartbeats 1000000 in
theorem clone_txt (s : ByteArray) (hs : s.size ≤ 140737488355000) (w : World) : Calls Tryz.prog 33 #[.string s] w fun e w' => e = .returned (.string s) ∧ Below w.heap.size w w' := by
  have HC := hide (Tryz.stringslite_Clone s w (by omega))
  go_enter Tryz.func33, Tryz.ntmps33
  go_wp2_with fail
  refine (unhide HC).mono ?_
  rintro e y ⟨rfl, hb⟩
  have HB := hide hb
  clear hb HC
  go_wp2
  go_ret
  exact ⟨rfl, unhide HB⟩
set_option maxHeartbeats 1000000 in
theorem turned_any (hi se : ByteArray) (hh9 : hi.size ≤ 140737488355000) (n : Nat) (hn : n < 9223372036854775808) (m : ByteArray) (hm : m.size ≤ 140737488355000) (w : World) (hK : KTab w) : Calls Tryz.prog 45 #[.agg #[.string hi, .string se], .int .i64 (n : Int), .string m] w fun e w' => e = .returned (.string (hdB hi (n : Int) m)) ∧ Below w.heap.size w w' := by
  obtain ⟨h, hh⟩ : ∃ h, w.heap.size = h := ⟨_, rfl⟩
  obtain ⟨x1, hx1⟩ : ∃ q, w.alloc (.cells #[.string hi, .string se] 33) = q := ⟨_, rfl⟩
  obtain ⟨AT, hAT⟩ : ∃ AT : World → Prop, AT = fun y => Below (h + 1) x1 y ∧ h + 1 ≤ y.heap.size := ⟨_, rfl⟩
  have HZ1 := hide (show x1.heap.size = h + 1 from by rw [← hx1]; simp [hh])
  have HAB := hide (show ∀ y z, AT y → Below y.heap.size y z → AT z from fun y z hy hz => by
    rw [hAT] at hy ⊢
    exact ⟨hy.1.trans (hz.mono hy.2), Nat.le_trans hy.2 hz.size⟩)
  have HAK := hide (show ∀ y, AT y → KTab y from fun y hy => by
    rw [hAT] at hy
    exact (hK.below (show Below w.heap.size w x1 from by rw [← hx1]; exact (Below.refl _ _).alloc (Nat.le_refl _) _) hK.1).below (hy.1.mono (by omega : h ≤ h + 1)) (by rw [← hh]; exact hK.1))
  have HAW := hide (show ∀ y, AT y → Below h w y from fun y hy => by
    rw [hAT] at hy
    have h9 : Below h w x1 := by rw [← hx1, ← hh]; exact (Below.refl _ _).alloc (Nat.le_refl _) _
    exact h9.trans (hy.1.mono (by omega)))
  have HAC := hide (show ∀ y, AT y → y.cell? ⟨h, 0, none⟩ = some (.string hi) ∧ y.cell? ⟨h, 1, none⟩ = some (.string se) from fun y hy => by
    rw [hAT] at hy
    have hB : Blk x1 h #[.string hi, .string se] 33 := by rw [← hx1, ← hh]; exact Blk.new _ _ _
    have hB2 := hB.below hy.1 (by omega)
    exact ⟨hB2.cell 0, hB2.cell 1⟩)
  have HA0 := hide (show AT x1.drew from by rw [hAT]; exact ⟨(Below.refl _ _).drew, Nat.le_of_eq (unhide HZ1).symm⟩)
  clear hAT
  rw [hh]
  have HNT := hide (fun W => numberText_any n hn W)
  have HMC := hide (fun W (hW : KTab W) => mac_any hi (nuB (n : Int)) (by omega) (by rw [nuB_size]; omega) W hW)
  rw [show strOfNums (macP (nums hi) (nums (nuB (n : Int)))) = mcB hi (nuB (n : Int)) from rfl] at HMC
  have HXO := hide (fun W (hW : KTab W) => xor_any (mcB hi (nuB (n : Int))) 0 m ⟨by omega, by omega⟩ (by omega) W hW)
  rw [show xorB (mcB hi (nuB (n : Int))) 0 m = hdB hi (n : Int) m from rfl] at HXO
  generalize errP (mcB hi (nuB (n : Int))) 0 (m.size : Int) = er at *
  generalize hdB hi (n : Int) m = r at *
  generalize mcB hi (nuB (n : Int)) = mc at *
  generalize nuB (n : Int) = nu at *
  clear hK
  go_enter Tryz.func45, Tryz.ntmps45
  go_wp2_with fail
  refine wp_region_held_drew (S := fun W => AT W) (by kernel_rfl) (unhide HA0) ?_
  intro hS
  refine wpAnyH_takeD 0 (some 10) (.pointer (some ⟨h, 0, none⟩)) rfl rfl (by kernel_rfl) (by kernel_rfl) (by kernel_rfl) (fun _ _ _ h => h) (Or.inl ⟨by rfl, fun w hSw => by have hcx := unhide HAC w hSw; have hcx0 := hcx.1; have hcx1 := hcx.2; clear hSw hcx; go_simp; try omega⟩) hS ?_
  simp only [Act.put, List.setIfInBounds_toArray, List.set_cons_zero, List.set_cons_succ]
  refine wpAnyH_takeD 1 (some 11) (.string hi) rfl rfl (by kernel_rfl) (by kernel_rfl) (by kernel_rfl) (fun _ _ _ h => h) (Or.inl ⟨by rfl, fun w hSw => by have hcx := unhide HAC w hSw; have hcx0 := hcx.1; have hcx1 := hcx.2; clear hSw hcx; go_simp; try omega⟩) hS ?_
  simp only [Act.put, List.setIfInBounds_toArray, List.set_cons_zero, List.set_cons_succ]
  refine wpAnyH_takeD 2 (some 12) (.int .i64 (n : Int)) rfl rfl (by kernel_rfl) (by kernel_rfl) (by kernel_rfl) (fun _ _ _ h => h) (Or.inl ⟨by rfl, fun w hSw => by have hcx := unhide HAC w hSw; have hcx0 := hcx.1; have hcx1 := hcx.2; clear hSw hcx; go_simp; try omega⟩) hS ?_
  simp only [Act.put, List.setIfInBounds_toArray, List.set_cons_zero, List.set_cons_succ]
  refine wpAnyH_takeD 5 (some 15) (.string m) rfl rfl (by kernel_rfl) (by kernel_rfl) (by kernel_rfl) (fun _ _ _ h => h) (Or.inl ⟨by rfl, fun w hSw => by have hcx := unhide HAC w hSw; have hcx0 := hcx.1; have hcx1 := hcx.2; clear hSw hcx; go_simp; try omega⟩) hS ?_
  simp only [Act.put, List.setIfInBounds_toArray, List.set_cons_zero, List.set_cons_succ]
  refine wpAnyH_ready (rs := [3]) (by kernel_rfl) (by simp) ?_
  refine AllReadyH.cons rfl (fun K hK => ?_) AllReadyH.nil
  simp only [List.getElem_toArray, List.getElem_cons_succ, List.getElem_cons_zero]
  go_simp
  refine (unhide HNT _).mono ?_
  rintro e y1 ⟨rfl, hb⟩
  have hS9 : AT y1 := unhide HAB _ _ hS hb
  clear hb
  refine hK.out _ _ hS9 (fun hS => ?_)
  clear hK K
  refine wpAnyH_ready (rs := [4]) (by kernel_rfl) (by simp) ?_
  refine AllReadyH.cons rfl (fun K hK => ?_) AllReadyH.nil
  simp only [List.getElem_toArray, List.getElem_cons_succ, List.getElem_cons_zero]
  go_simp
  refine (unhide HMC _ (unhide HAK _ hS)).mono ?_
  rintro e y2 ⟨rfl, hb⟩
  have hS9 : AT y2 := unhide HAB _ _ hS hb
  clear hb
  refine hK.out _ _ hS9 (fun hS => ?_)
  clear hK K
  refine wpAnyH_ready (rs := [6]) (by kernel_rfl) (by simp) ?_
  refine AllReadyH.cons rfl (fun K hK => ?_) AllReadyH.nil
  simp only [List.getElem_toArray, List.getElem_cons_succ, List.getElem_cons_zero]
  go_simp
  refine (unhide HXO _ (unhide HAK _ hS)).mono ?_
  rintro e y3 ⟨rfl, hb⟩
  have hS9 : AT y3 := unhide HAB _ _ hS hb
  clear hb
  refine hK.out _ _ hS9 (fun hS => ?_)
  clear hK K
  refine wpAnyH_takeD 7 (some 9) (.tuple #[.string r, .int .i64 er]) rfl rfl (by kernel_rfl) (by kernel_rfl) (by kernel_rfl) (fun _ _ _ h => h) (Or.inl ⟨by rfl, fun w hSw => by have hcx := unhide HAC w hSw; have hcx0 := hcx.1; have hcx1 := hcx.2; clear hSw hcx; go_simp; try omega⟩) hS ?_
  simp only [Act.put, List.setIfInBounds_toArray, List.set_cons_zero, List.set_cons_succ]
  refine wpAnyH_takeD 8 (some 17) (.string r) rfl rfl (by kernel_rfl) (by kernel_rfl) (by kernel_rfl) (fun _ _ _ h => h) (Or.inl ⟨by rfl, fun w hSw => by have hcx := unhide HAC w hSw; have hcx0 := hcx.1; have hcx1 := hcx.2; clear hSw hcx; go_simp; try omega⟩) hS ?_
  simp only [Act.put, List.setIfInBounds_toArray, List.set_cons_zero, List.set_cons_succ]
  refine wpAnyH_takeD 9 (some 18) (.int .i64 er) rfl rfl (by kernel_rfl) (by kernel_rfl) (by kernel_rfl) (fun _ _ _ h => h) (Or.inl ⟨by rfl, fun w hSw => by have hcx := unhide HAC w hSw; have hcx0 := hcx.1; have hcx1 := hcx.2; clear hSw hcx; go_simp; try omega⟩) hS ?_
  simp only [Act.put, List.setIfInBounds_toArray, List.set_cons_zero, List.set_cons_succ]
  refine wpAnyH_takeD 10 (some 7) (.string r) rfl rfl (by kernel_rfl) (by kernel_rfl) (by kernel_rfl) (fun _ _ _ h => h) (Or.inl ⟨by rfl, fun w hSw => by have hcx := unhide HAC w hSw; have hcx0 := hcx.1; have hcx1 := hcx.2; clear hSw hcx; go_simp; try omega⟩) hS ?_
  simp only [Act.put, List.setIfInBounds_toArray, List.set_cons_zero, List.set_cons_succ]
  refine wpAnyH_takeD 11 (some 8) (.int .i64 er) rfl rfl (by kernel_rfl) (by kernel_rfl) (by kernel_rfl) (fun _ _ _ h => h) (Or.inl ⟨by rfl, fun w hSw => by have hcx := unhide HAC w hSw; have hcx0 := hcx.1; have hcx1 := hcx.2; clear hSw hcx; go_simp; try omega⟩) hS ?_
  simp only [Act.put, List.setIfInBounds_toArray, List.set_cons_zero, List.set_cons_succ]
  refine wpAnyH_done (by kernel_rfl) ?_ _
  have HE := hide (unhide HAW _ hS)
  clear hS HA0 HAB HAK HAW HAC
  go_wp2
  go_ret
  exact ⟨rfl, unhide HE⟩
set_option maxHeartbeats 1000000 in
theorem frame_any (hi se : ByteArray) (hh9 : hi.size ≤ 140737488355000) (hs9 : se.size ≤ 140737488355000) (n : Nat) (hn : n < 9223372036854775808) (m : ByteArray) (hm : m.size ≤ 65536) (hz9 : (hdB hi (n : Int) m).size ≤ 65536) (w : World) (hK : KTab w) : Calls Tryz.prog 28 #[.agg #[.string hi, .string se], .int .i64 (n : Int), .string m] w fun e w' => e = .returned (.string (frB hi se (n : Int) m)) ∧ Below w.heap.size w w' := by
  obtain ⟨h, hh⟩ : ∃ h, w.heap.size = h := ⟨_, rfl⟩
  obtain ⟨x1, hx1⟩ : ∃ q, w.alloc (.cells #[.string hi, .string se] 33) = q := ⟨_, rfl⟩
  obtain ⟨AT, hAT⟩ : ∃ AT : World → Prop, AT = fun y => Below (h + 1) x1 y ∧ h + 1 ≤ y.heap.size := ⟨_, rfl⟩
  have HZ1 := hide (show x1.heap.size = h + 1 from by rw [← hx1]; simp [hh])
  have HAB := hide (show ∀ y z, AT y → Below y.heap.size y z → AT z from fun y z hy hz => by
    rw [hAT] at hy ⊢
    exact ⟨hy.1.trans (hz.mono hy.2), Nat.le_trans hy.2 hz.size⟩)
  have HAK := hide (show ∀ y, AT y → KTab y from fun y hy => by
    rw [hAT] at hy
    exact (hK.below (show Below w.heap.size w x1 from by rw [← hx1]; exact (Below.refl _ _).alloc (Nat.le_refl _) _) hK.1).below (hy.1.mono (by omega : h ≤ h + 1)) (by rw [← hh]; exact hK.1))
  have HAW := hide (show ∀ y, AT y → Below h w y from fun y hy => by
    rw [hAT] at hy
    have h9 : Below h w x1 := by rw [← hx1, ← hh]; exact (Below.refl _ _).alloc (Nat.le_refl _) _
    exact h9.trans (hy.1.mono (by omega)))
  have HAC := hide (show ∀ y, AT y → y.cell? ⟨h, 0, none⟩ = some (.string hi) ∧ y.cell? ⟨h, 1, none⟩ = some (.string se) from fun y hy => by
    rw [hAT] at hy
    have hB : Blk x1 h #[.string hi, .string se] 33 := by rw [← hx1, ← hh]; exact Blk.new _ _ _
    have hB2 := hB.below hy.1 (by omega)
    exact ⟨hB2.cell 0, hB2.cell 1⟩)
  have HA0 := hide (show AT x1.drew from by rw [hAT]; exact ⟨(Below.refl _ _).drew, Nat.le_of_eq (unhide HZ1).symm⟩)
  clear hAT
  rw [hh]
  have HNT := hide (fun W => numberText_any n hn W)
  have HTU := hide (fun W (hW : KTab W) => turned_any hi se hh9 n hn m (by omega) W hW)
  have hnz := nuB_size (n : Int)
  have HTG := hide (fun W (hW : KTab W) => tagged_any se (lmB ++ nuB (n : Int) ++ hdB hi (n : Int) m) hs9 (by rw [ByteArray.size_append, ByteArray.size_append, hnz]; show 2 + 8 + _ ≤ _; omega) W hW)
  rw [show tgB se (lmB ++ nuB (n : Int) ++ hdB hi (n : Int) m) = frB hi se (n : Int) m from rfl] at HTG
  have e0 : (⟨#[76, 77]⟩ : ByteArray) ++ nuB (n : Int) ++ hdB hi (n : Int) m = lmB ++ nuB (n : Int) ++ hdB hi (n : Int) m := rfl
  rw [← e0] at HTG
  have ez : ((⟨#[76, 77]⟩ : ByteArray) ++ nuB (n : Int)).size = 10 := by rw [ByteArray.size_append, hnz]; rfl
  have e2 : (⟨#[76, 77]⟩ : ByteArray).size = 2 := rfl
  clear e0
  generalize frB hi se (n : Int) m = q at *
  generalize hdB hi (n : Int) m = r at *
  generalize nuB (n : Int) = nu at *
  clear hK
  go_enter Tryz.func28, Tryz.ntmps28
  go_wp2_with fail
  refine wp_region_held_drew (S := fun W => AT W) (by kernel_rfl) (unhide HA0) ?_
  intro hS
  refine wpAnyH_takeD 0 (some 7) (.pointer (some ⟨h, 1, none⟩)) rfl rfl (by kernel_rfl) (by kernel_rfl) (by kernel_rfl) (fun _ _ _ h => h) (Or.inl ⟨by rfl, fun w hSw => by have hcx := unhide HAC w hSw; have hcx0 := hcx.1; have hcx1 := hcx.2; clear hSw hcx; go_simp; try omega⟩) hS ?_
  simp only [Act.put, List.setIfInBounds_toArray, List.set_cons_zero, List.set_cons_succ]
  refine wpAnyH_takeD 1 (some 8) (.string se) rfl rfl (by kernel_rfl) (by kernel_rfl) (by kernel_rfl) (fun _ _ _ h => h) (Or.inl ⟨by rfl, fun w hSw => by have hcx := unhide HAC w hSw; have hcx0 := hcx.1; have hcx1 := hcx.2; clear hSw hcx; go_simp; try omega⟩) hS ?_
  simp only [Act.put, List.setIfInBounds_toArray, List.set_cons_zero, List.set_cons_succ]
  refine wpAnyH_takeD 2 (some 9) (.int .i64 (n : Int)) rfl rfl (by kernel_rfl) (by kernel_rfl) (by kernel_rfl) (fun _ _ _ h => h) (Or.inl ⟨by rfl, fun w hSw => by have hcx := unhide HAC w hSw; have hcx0 := hcx.1; have hcx1 := hcx.2; clear hSw hcx; go_simp; try omega⟩) hS ?_
  simp only [Act.put, List.setIfInBounds_toArray, List.set_cons_zero, List.set_cons_succ]
  refine wpAnyH_takeD 5 (some 12) (.agg #[.string hi, .string se]) rfl rfl (by kernel_rfl) (by kernel_rfl) (by kernel_rfl) (fun _ _ _ h => h) (Or.inl ⟨by rfl, fun w hSw => by have hcx := unhide HAC w hSw; have hcx0 := hcx.1; have hcx1 := hcx.2; clear hSw hcx; go_simp; try omega⟩) hS ?_
  simp only [Act.put, List.setIfInBounds_toArray, List.set_cons_zero, List.set_cons_succ]
  refine wpAnyH_takeD 6 (some 13) (.int .i64 (n : Int)) rfl rfl (by kernel_rfl) (by kernel_rfl) (by kernel_rfl) (fun _ _ _ h => h) (Or.inl ⟨by rfl, fun w hSw => by have hcx := unhide HAC w hSw; have hcx0 := hcx.1; have hcx1 := hcx.2; clear hSw hcx; go_simp; try omega⟩) hS ?_
  simp only [Act.put, List.setIfInBounds_toArray, List.set_cons_zero, List.set_cons_succ]
  refine wpAnyH_takeD 7 (some 14) (.string m) rfl rfl (by kernel_rfl) (by kernel_rfl) (by kernel_rfl) (fun _ _ _ h => h) (Or.inl ⟨by rfl, fun w hSw => by have hcx := unhide HAC w hSw; have hcx0 := hcx.1; have hcx1 := hcx.2; clear hSw hcx; go_simp; try omega⟩) hS ?_
  simp only [Act.put, List.setIfInBounds_toArray, List.set_cons_zero, List.set_cons_succ]
  refine wpAnyH_ready (rs := [3]) (by kernel_rfl) (by simp) ?_
  refine AllReadyH.cons rfl (fun K hK => ?_) AllReadyH.nil
  simp only [List.getElem_toArray, List.getElem_cons_succ, List.getElem_cons_zero]
  go_simp
  refine (unhide HNT _).mono ?_
  rintro e y1 ⟨rfl, hb⟩
  have hS9 : AT y1 := unhide HAB _ _ hS hb
  clear hb
  refine hK.out _ _ hS9 (fun hS => ?_)
  clear hK K
  refine wpAnyH_takeD 4 (some 11) (.string (⟨#[76, 77]⟩ ++ nu)) rfl rfl (by kernel_rfl) (by kernel_rfl) (by kernel_rfl) (fun _ _ _ h => h) (Or.inl ⟨by rfl, fun w hSw => by have hcx := unhide HAC w hSw; have hcx0 := hcx.1; have hcx1 := hcx.2; clear hSw hcx; go_simp; try omega⟩) hS ?_
  simp only [Act.put, List.setIfInBounds_toArray, List.set_cons_zero, List.set_cons_succ]
  refine wpAnyH_ready (rs := [8]) (by kernel_rfl) (by simp) ?_
  refine AllReadyH.cons rfl (fun K hK => ?_) AllReadyH.nil
  simp only [List.getElem_toArray, List.getElem_cons_succ, List.getElem_cons_zero]
  go_simp
  refine (unhide HTU _ (unhide HAK _ hS)).mono ?_
  rintro e y2 ⟨rfl, hb⟩
  have hS9 : AT y2 := unhide HAB _ _ hS hb
  clear hb
  refine hK.out _ _ hS9 (fun hS => ?_)
  clear hK K
  refine wpAnyH_takeD 9 (some 16) (.string (⟨#[76, 77]⟩ ++ nu ++ r)) rfl rfl (by kernel_rfl) (by kernel_rfl) (by kernel_rfl) (fun _ _ _ h => h) (Or.inl ⟨by rfl, fun w hSw => by have hcx := unhide HAC w hSw; have hcx0 := hcx.1; have hcx1 := hcx.2; clear hSw hcx; go_simp; try omega⟩) hS ?_
  simp only [Act.put, List.setIfInBounds_toArray, List.set_cons_zero, List.set_cons_succ]
  refine wpAnyH_ready (rs := [10]) (by kernel_rfl) (by simp) ?_
  refine AllReadyH.cons rfl (fun K hK => ?_) AllReadyH.nil
  simp only [List.getElem_toArray, List.getElem_cons_succ, List.getElem_cons_zero]
  go_simp
  refine (unhide HTG _ (unhide HAK _ hS)).mono ?_
  rintro e y3 ⟨rfl, hb⟩
  have hS9 : AT y3 := unhide HAB _ _ hS hb
  clear hb
  refine hK.out _ _ hS9 (fun hS => ?_)
  clear hK K
  refine wpAnyH_takeD 11 (some 6) (.string q) rfl rfl (by kernel_rfl) (by kernel_rfl) (by kernel_rfl) (fun _ _ _ h => h) (Or.inl ⟨by rfl, fun w hSw => by have hcx := unhide HAC w hSw; have hcx0 := hcx.1; have hcx1 := hcx.2; clear hSw hcx; go_simp; try omega⟩) hS ?_
  simp only [Act.put, List.setIfInBounds_toArray, List.set_cons_zero, List.set_cons_succ]
  refine wpAnyH_done (by kernel_rfl) ?_ _
  have HE := hide (unhide HAW _ hS)
  clear hS HA0 HAB HAK HAW HAC
  go_wp2
  go_ret
  exact ⟨rfl, unhide HE⟩
theorem isE {s : ByteArray} (h : s.size ≠ 0) : (s.toList == ([] : List UInt8)) = false := by
  have h1 : (s.toList == (⟨#[]⟩ : ByteArray).toList) = false := str_ne (fun e => h (by rw [e]; rfl))
  rw [show (⟨#[]⟩ : ByteArray).toList = [] from by rw [ByteArray.toList_eq]] at h1
  exact h1
set_option maxHeartbeats 1000000 in
theorem areThere_any (hi se : ByteArray) (b : Bool) (hb : b = true ∧ hi.size = 32 ∨ b = false ∧ hi = ⟨#[]⟩ ∧ se = ⟨#[]⟩) (w : World) : Calls Tryz.prog 42 #[.agg #[.string hi, .string se]] w fun e w' => e = .returned (.bool b) ∧ Below w.heap.size w w' := by
  have HB := hide (show Below w.heap.size w (w.alloc (.cells #[.string hi, .string se] 33)) from (Below.refl _ _).alloc (Nat.le_refl _) _)
  rcases hb with ⟨rfl, hz⟩ | ⟨rfl, rfl, rfl⟩
  · have h0 := isE (s := hi) (by omega)
    go_enter Tryz.func42, Tryz.ntmps42
    go_wp2
    go_ret
    exact ⟨rfl, unhide HB⟩
  · go_enter Tryz.func42, Tryz.ntmps42
    go_wp2
    go_ret
    exact ⟨rfl, unhide HB⟩
end Go.Proofs.YtifjmldmilmfjaaGreatDoor
