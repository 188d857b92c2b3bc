import Derived.Test.YtclgkgaobjcifaaGreatDoorMy21
import Derived.Test.YtclgkgaobjcifaaGreatDoorMy23
import Derived.Test.YtclgkgaobjcifaaGreatDoorMy02
import Derived.Test.YtclgkgaobjcifaaGreatDoorMy20
import Derived.Test.YtclgkgaobjcifaaGreatDoorMy08
import Derived.Deep.DeepCutAuto
import Derived.Test.YtclgkgaobjcifaaGreatDoorMy14
import Derived.Test.YtclgkgaobjcifaaGreatDoorMy16
import Derived.Test.YtclgkgaobjcifaaGreatDoorMy17
import Derived.BigQuiet
namespace Go.Proofs.YtclgkgaobjcifaaGreatDoor
open Go.RowKit
set_option maxRecDepth 100000
theorem lgL_3 (r : Rep) (V Pl : List Int) (h0 : 0 ≤ r.qu ∧ r.qu ≤ 65535) (h1 : 0 ≤ r.ch ∧ r.ch ≤ 65535) (h2 : voB V = true) : lgL 3 r V Pl = numB r.qu 2 ++ (numB r.ch 2 ++ (voL V ++ [])) := by
  have o0 : okG fQuo (exr fQuo r Prt.nil).2 V Pl = true := decide_eq_true h0
  have o1 : okG fCha (exr fCha (exr fQuo r Prt.nil).1 Prt.nil).2 V Pl = true := decide_eq_true h1
  have o2 : okG fVos (exr fVos (exr fCha (exr fQuo r Prt.nil).1 Prt.nil).1 Prt.nil).2 V Pl = true := h2
  unfold lgL
  rw [show rpF 3 = [fQuo, fCha, fVos] from rfl]
  simp only [layG, o0, o1, o2, if_true, Option.map_some]
  rfl
theorem lgL_6 (r : Rep) (V Pl : List Int) (h0 : voB V = true) : lgL 6 r V Pl = voL V ++ [] := by
  have o0 : okG fVos (exr fVos r Prt.nil).2 V Pl = true := h0
  unfold lgL
  rw [show rpF 6 = [fVos] from rfl]
  simp only [layG, o0, if_true, Option.map_some]
  rfl
theorem lgL_7 (r : Rep) (V Pl : List Int) (h0 : 0 ≤ r.qu ∧ r.qu ≤ 65535) (h1 : 0 ≤ r.ch ∧ r.ch ≤ 65535) : lgL 7 r V Pl = numB r.qu 2 ++ (numB r.ch 2 ++ []) := by
  have o0 : okG fQuo (exr fQuo r Prt.nil).2 V Pl = true := decide_eq_true h0
  have o1 : okG fCha (exr fCha (exr fQuo r Prt.nil).1 Prt.nil).2 V Pl = true := decide_eq_true h1
  unfold lgL
  rw [show rpF 7 = [fQuo, fCha] from rfl]
  simp only [layG, o0, o1, if_true, Option.map_some]
  rfl
theorem lgL_8 (r : Rep) (V Pl : List Int) (h0 : 0 ≤ r.no ∧ r.no ≤ 4294967295) (h1 : plB Pl = true) : lgL 8 r V Pl = numB r.no 4 ++ (outN 1 Pl ++ []) := by
  have o0 : okG fNon (exr fNon r Prt.nil).2 V Pl = true := decide_eq_true h0
  have o1 : okG fPla (exr fPla (exr fNon r Prt.nil).1 Prt.nil).2 V Pl = true := h1
  unfold lgL
  rw [show rpF 8 = [fNon, fPla] from rfl]
  simp only [layG, o0, o1, if_true, Option.map_some]
  rfl
theorem lgL_11 (r : Rep) (V Pl : List Int) (h0 : r.wr.size = 48) (h1 : r.da.size = 256) : lgL 11 r V Pl = nums r.wr ++ (nums r.da ++ []) := by
  have o0 : okG fWra (exr fWra r Prt.nil).2 V Pl = true := decide_eq_true h0
  have o1 : okG fDat (exr fDat (exr fWra r Prt.nil).1 Prt.nil).2 V Pl = true := decide_eq_true h1
  unfold lgL
  rw [show rpF 11 = [fWra, fDat] from rfl]
  simp only [layG, o0, o1, if_true, Option.map_some]
  rfl
theorem voB_small {V : List Int} (h : voB V = true) : V.length ≤ 8 ∧ ∀ j, j < V.length → 0 ≤ V.getD j 0 ∧ V.getD j 0 ≤ 255 := by
  rw [voB, Bool.and_eq_true] at h
  have hA := of_decide_eq_true (show decide (∀ k, k < V.length → (1 ≤ V.getD k 0 ∧ V.getD k 0 ≤ 99) ∧ (0 < k → V.getD (k - 1) 0 < V.getD k 0)) = true from h.2)
  exact ⟨of_decide_eq_true h.1, fun j hj => by have := (hA j hj).1; omega⟩
theorem nil_small {V : List Int} (h : V.length = 0) : V.length ≤ 8 ∧ ∀ j, j < V.length → 0 ≤ V.getD j 0 ∧ V.getD j 0 ≤ 255 := ⟨by omega, fun j hj => absurd hj (by omega)⟩
theorem blank_vm {r : Rep} {b1 b3 b4 : Bool} (h : blankB r b1 false b3 b4 = true) : r.vm = 0 := by
  unfold blankB blankE at h
  simp only [Bool.and_eq_true, Bool.false_or, beq_iff_eq] at h
  omega
theorem sap2 (a b : List Int) : strOfNums a ++ strOfNums b = strOfNums (a ++ b) := (strOfNums_app a b).symm
set_option maxHeartbeats 4000000 in
theorem laid_not (k : Nat) (hk : k ≤ 12) (r : Rep) (hfull : fullP (k : Int) r.st = false) (w : World) : Calls Tryz.prog 48 #[.int .i64 (k : Int), .agg r.cl.toArray] w fun e w' => e = .returned (.string (strOfNums (List.replicate (szF (rpF (k : Int))) 0))) ∧ Below w.heap.size w w' := by
  obtain ⟨g, hg⟩ : ∃ g, w.heap.size = g := ⟨_, rfl⟩
  obtain ⟨x2, hx2⟩ : ∃ Z, w.alloc (.cells r.cl.toArray 34) = Z := ⟨_, rfl⟩
  have B : Blk x2 g r.cl.toArray 34 := by rw [← hx2, ← hg]; exact Blk.new w _ _
  have hb : Below g w x2 := by rw [← hx2, ← hg]; exact (Below.refl _ w).alloc (Nat.le_refl _) _
  have HB2 := hide (And.intro hb (Nat.le_of_lt B.lt))
  have d0 : x2.cell? ⟨g, 0, none⟩ = some (.int .i64 r.st) := by rw [B.cell]; rfl
  have HW := hide (rwhole_any (k : Int) r.st)
  rw [hfull] at HW
  have HRO := hide (fun W => room_any (k : Int) ⟨by omega, by omega⟩ W)
  have hsz : szF (rpF (k : Int)) ≤ 1000 := by
    unfold rpF
    (repeat' split) <;> decide
  have HZE := hide (fun W => rzeros_m (szF (rpF (k : Int))) hsz W)
  obtain ⟨R, hR⟩ : ∃ R, strOfNums (List.replicate (szF (rpF (k : Int))) 0) = R := ⟨_, rfl⟩
  rw [hR] at HZE ⊢
  generalize szF (rpF (k : Int)) = Z at *
  clear B hb hfull hR hsz
  rw [hg]
  generalize r.cl = rl at *
  generalize r.st = st at *
  go_enter Tryz.func48, Tryz.ntmps48
  go_wp2_with (first | (go_at_call 74; refine (unhide HW _).mono ?_; rintro e y ⟨rfl, hy⟩; subst y))
  refine (unhide HRO _).mono ?_
  rintro e y1 ⟨rfl, hy1⟩
  have H1 := hide (show Below g w y1 from (unhide HB2).1.trans (hy1.mono (unhide HB2).2))
  have h1 : g ≤ y1.heap.size := Nat.le_trans (unhide HB2).2 hy1.size
  clear hy1 d0
  go_wp2_with fail
  refine (unhide HZE _).mono ?_
  rintro e y2 ⟨rfl, hy2⟩
  have H2 := hide (show Below g w y2 from (unhide H1).trans (hy2.mono h1))
  clear hy2 h1
  go_wp2
  go_ret
  exact ⟨rfl, unhide H2⟩
theorem rlaid_any (k : Nat) (hk : k ≤ 12) (r : Rep) (V Pl : List Int) (hvm : V.length = r.vm) (hpm : Pl.length = r.pm) (hB : lyB (k : Int) r V Pl = true) (w : World) (hLV : Lst w w.heap.size r.vp V) (hLP : Lst w w.heap.size r.pp Pl) : Calls Tryz.prog 48 #[.int .i64 (k : Int), .agg r.cl.toArray] w fun e w' => e = .returned (.string (strOfNums (lyL (k : Int) r V Pl))) ∧ Below w.heap.size w w' := by
  by_cases hf : fullP (k : Int) r.st = true
  · rw [lyB, if_pos hf] at hB
    rw [lyL, if_pos hf]
    rcases rpF_kinds hk with rfl | rfl | rfl | rfl | rfl | ⟨e, n3, n6, n7, n8, n11⟩
    · have hB' := (lgB_3 r V Pl).symm.trans hB
      simp only [Bool.and_eq_true, decide_eq_true_eq] at hB'
      obtain ⟨⟨hb, h0, h1⟩, h2⟩ := hB'
      obtain ⟨v8, vf⟩ := voB_small h2
      have hS := lgL_3 r V Pl h0 h1 h2
      obtain ⟨st, qu, ch, vp, vm, vc, no, pp, pm, pc, wr, da⟩ := r
      simp only at *
      obtain ⟨qu', rfl⟩ : ∃ q : Nat, qu = (q : Int) := ⟨qu.toNat, by omega⟩
      obtain ⟨ch', rfl⟩ : ∃ q : Nat, ch = (q : Int) := ⟨ch.toNat, by omega⟩
      refine (laid_3 st qu' ch' no vp vm vc pp pm pc wr da (by omega) (by omega) V hvm (by omega) (fun j hj => vf j (by omega)) hf w hLV).mono ?_
      rintro e w' ⟨rfl, hw⟩
      refine ⟨?_, hw⟩
      show Ending.returned (.string _) = Ending.returned (.string (strOfNums (lgL 3 _ V Pl)))
      rw [hS]
      simp only [sap2]
      congr 2
      simp only [voL, hvm, List.append_assoc, List.append_nil]
    · have hB' := (lgB_6 r V Pl).symm.trans hB
      simp only [Bool.and_eq_true] at hB'
      obtain ⟨hb, h0⟩ := hB'
      obtain ⟨v8, vf⟩ := voB_small h0
      have hS := lgL_6 r V Pl h0
      obtain ⟨st, qu, ch, vp, vm, vc, no, pp, pm, pc, wr, da⟩ := r
      simp only at *
      refine (laid_6 st  qu ch no vp vm vc pp pm pc wr da  V hvm (by omega) (fun j hj => vf j (by omega)) hf w hLV).mono ?_
      rintro e w' ⟨rfl, hw⟩
      refine ⟨?_, hw⟩
      show Ending.returned (.string _) = Ending.returned (.string (strOfNums (lgL 6 _ V Pl)))
      rw [hS]
      simp only [sap2]
      congr 2
      simp only [voL, hvm, List.append_assoc, List.append_nil]
    · have hB' := (lgB_7 r V Pl).symm.trans hB
      simp only [Bool.and_eq_true, decide_eq_true_eq] at hB'
      obtain ⟨hb, h0, h1⟩ := hB'
      obtain ⟨v8, vf⟩ := nil_small (V := V) (by have := blank_vm hb; omega)
      have hS := lgL_7 r V Pl h0 h1
      obtain ⟨st, qu, ch, vp, vm, vc, no, pp, pm, pc, wr, da⟩ := r
      simp only at *
      obtain ⟨qu', rfl⟩ : ∃ q : Nat, qu = (q : Int) := ⟨qu.toNat, by omega⟩
      obtain ⟨ch', rfl⟩ : ∃ q : Nat, ch = (q : Int) := ⟨ch.toNat, by omega⟩
      refine (laid_7 st qu' ch' no vp vm vc pp pm pc wr da (by omega) (by omega) V hvm (by omega) (fun j hj => vf j (by omega)) hf w hLV).mono ?_
      rintro e w' ⟨rfl, hw⟩
      refine ⟨?_, hw⟩
      show Ending.returned (.string _) = Ending.returned (.string (strOfNums (lgL 7 _ V Pl)))
      rw [hS]
      simp only [sap2]
      congr 2
      skip
    · have hB' := (lgB_8 r V Pl).symm.trans hB
      simp only [Bool.and_eq_true, decide_eq_true_eq] at hB'
      obtain ⟨⟨hb, h0⟩, h1⟩ := hB'
      obtain ⟨v8, vf⟩ := nil_small (V := V) (by have := blank_vm hb; omega)
      have hpl := of_decide_eq_true (show decide (Pl.length = 8 ∧ ∀ k, k < Pl.length → 0 ≤ Pl.getD k 0 ∧ Pl.getD k 0 ≤ 255) = true from h1)
      have hS := lgL_8 r V Pl h0 h1
      obtain ⟨st, qu, ch, vp, vm, vc, no, pp, pm, pc, wr, da⟩ := r
      simp only at *
      obtain ⟨no', rfl⟩ : ∃ q : Nat, no = (q : Int) := ⟨no.toNat, by omega⟩
      refine (laid_8 st no' qu ch vp vm vc pp pm pc wr da (by omega) Pl hpm (by omega) (fun j hj => hpl.2 j (by omega)) V hvm (by omega) (fun j hj => vf j (by omega)) hf w hLV hLP).mono ?_
      rintro e w' ⟨rfl, hw⟩
      refine ⟨?_, hw⟩
      show Ending.returned (.string _) = Ending.returned (.string (strOfNums (lgL 8 _ V Pl)))
      rw [hS]
      simp only [sap2]
      congr 2
      rw [show 8 - pm = 0 by omega]
      rfl
    · have hB' := (lgB_11 r V Pl).symm.trans hB
      simp only [Bool.and_eq_true, beq_iff_eq] at hB'
      obtain ⟨⟨hb, h0⟩, h1⟩ := hB'
      have h0 : r.wr.size = 48 := by omega
      have h1 : r.da.size = 256 := by omega
      obtain ⟨v8, vf⟩ := nil_small (V := V) (by have := blank_vm hb; omega)
      have hS := lgL_11 r V Pl h0 h1
      obtain ⟨st, qu, ch, vp, vm, vc, no, pp, pm, pc, wr, da⟩ := r
      simp only at *
      refine (laid_11 st  qu ch no vp vm vc pp pm pc wr da (by omega) (by omega) V hvm (by omega) (fun j hj => vf j (by omega)) hf w hLV).mono ?_
      rintro e w' ⟨rfl, hw⟩
      refine ⟨?_, hw⟩
      show Ending.returned (.string _) = Ending.returned (.string (strOfNums (lgL 11 _ V Pl)))
      rw [hS]
      rw [List.append_nil, strOfNums_app, strOfNums_nums, strOfNums_nums]
    · have hb := (lgB_o _ e r V Pl).symm.trans hB
      obtain ⟨v8, vf⟩ := nil_small (V := V) (by have := blank_vm hb; omega)
      have hS : lgL (k : Int) r V Pl = [] := by
        unfold lgL
        rw [e]
        rfl
      obtain ⟨st, qu, ch, vp, vm, vc, no, pp, pm, pc, wr, da⟩ := r
      simp only at *
      refine (laid_o (k : Int) (by simpa using n3) (by simpa using n6) (by simpa using n7) (by simpa using n8) (by simpa using n11) st qu ch no vp vm vc pp pm pc wr da V hvm (by omega) (fun j hj => vf j (by omega)) hf w hLV).mono ?_
      rintro e w' ⟨rfl, hw⟩
      exact ⟨by rw [hS]; rfl, hw⟩
  · rw [lyL, if_neg hf]
    exact laid_not k hk r (by simpa using hf) w
set_option maxHeartbeats 4000000 in
theorem renc_kind (kd : Int) (h : ¬ (0 ≤ kd ∧ kd ≤ 12)) (r : Rep) (w : World) : Calls Tryz.prog 19 #[.int .i64 kd, .agg r.cl.toArray] w fun e w' => e = .returned (.tuple #[.string ⟨#[]⟩, .int .i64 120]) ∧ Below w.heap.size w w' := by
  obtain ⟨g, hg⟩ : ∃ g, w.heap.size = g := ⟨_, rfl⟩
  obtain ⟨x2, hx2⟩ : ∃ Z, w.alloc (.cells r.cl.toArray 34) = Z := ⟨_, rfl⟩
  have B : Blk x2 g r.cl.toArray 34 := by rw [← hx2, ← hg]; exact Blk.new w _ _
  have hb : Below g w x2 := by rw [← hx2, ← hg]; exact (Below.refl _ w).alloc (Nat.le_refl _) _
  have HB2 := hide hb
  clear B hb
  rw [hg]
  generalize r.cl = rl at *
  by_cases h0 : kd < 0
  · have h1 : decide (kd < 0) = true := by simpa using h0
    clear h h0
    go_enter Tryz.func19, Tryz.ntmps19
    go_wp2
    go_ret2
    exact ⟨rfl, unhide HB2⟩
  · have h1 : decide (kd < 0) = false := by simpa using h0
    have h2 : decide (kd > 12) = true := by simp; omega
    clear h h0
    go_enter Tryz.func19, Tryz.ntmps19
    go_wp2
    go_ret2
    exact ⟨rfl, unhide HB2⟩
set_option maxHeartbeats 4000000 in
theorem renc_no (k : Nat) (hk : k ≤ 12) (r : Rep) (V Pl : List Int) (hvm : V.length = r.vm) (hpm : Pl.length = r.pm) (hm9 : r.vm ≤ 9000000000000000000 ∧ r.pm ≤ 9000000000000000000) (hB : (decide (0 ≤ r.st ∧ r.st ≤ 13) && lyB (k : Int) r V Pl) = false) (w : World) (hLV : Lst w w.heap.size r.vp V) (hLP : Lst w w.heap.size r.pp Pl) : Calls Tryz.prog 19 #[.int .i64 (k : Int), .agg r.cl.toArray] w fun e w' => e = .returned (.tuple #[.string ⟨#[]⟩, .int .i64 122]) ∧ Below w.heap.size w w' := by
  obtain ⟨g, hg⟩ : ∃ g, w.heap.size = g := ⟨_, rfl⟩
  obtain ⟨x2, hx2⟩ : ∃ Z, w.alloc (.cells r.cl.toArray 34) = Z := ⟨_, rfl⟩
  have B : Blk x2 g r.cl.toArray 34 := by rw [← hx2, ← hg]; exact Blk.new w _ _
  have hb : Below g w x2 := by rw [← hx2, ← hg]; exact (Below.refl _ w).alloc (Nat.le_refl _) _
  have HG := hide (rgood_any k hk r V Pl hvm hpm hm9 x2 ((hLV.below (hg ▸ hb)).mono (by rw [hg]; exact Nat.le_of_lt B.lt)) ((hLP.below (hg ▸ hb)).mono (by rw [hg]; exact Nat.le_of_lt B.lt)))
  rw [hB] at HG
  have HB2 := hide (And.intro hb (Nat.le_of_lt B.lt))
  have HRG := hide (show x2.rangeAt g 0 r.cl from blk_range B)
  have HSZ := hide (show (Tryz.prog.info? 34).map (·.size) = some r.cl.length from size_rep)
  have h2 : ¬ (12 : Int) < (k : Int) := by omega
  clear B hb hB hvm hpm hm9 hLV hLP
  rw [hg]
  generalize r.cl = rl at *
  go_enter Tryz.func19, Tryz.ntmps19
  go_wp2_with (first | refine wpList_load_mid rfl 34 (.tmp 3) rfl g 0 rfl rl _ (unhide HRG) Tryz.underlying34 rfl (unhide HSZ) ?_)
  refine (unhide HG).mono ?_
  rintro e x3 ⟨rfl, hx3⟩
  have HX3 := hide (show Below g w x3 from (unhide HB2).1.trans (hx3.mono (unhide HB2).2))
  clear hx3
  go_wp2
  go_ret2
  exact ⟨rfl, unhide HX3⟩
set_option maxHeartbeats 4000000 in
theorem renc_ok (k : Nat) (hk : k ≤ 12) (r : Rep) (V Pl : List Int) (hvm : V.length = r.vm) (hpm : Pl.length = r.pm) (hm9 : r.vm ≤ 9000000000000000000 ∧ r.pm ≤ 9000000000000000000) (hst : 0 ≤ r.st ∧ r.st ≤ 13) (hB : lyB (k : Int) r V Pl = true) (w : World) (hLV : Lst w w.heap.size r.vp V) (hLP : Lst w w.heap.size r.pp Pl) : Calls Tryz.prog 19 #[.int .i64 (k : Int), .agg r.cl.toArray] w fun e w' => e = .returned (.tuple #[.string (strOfNums (eyL (k : Int) r V Pl) ++ strOfNums (le4 (chkN ((k : Int) :: eyL (k : Int) r V Pl)))), .int .i64 0]) ∧ Below w.heap.size w w' := by
  obtain ⟨g, hg⟩ : ∃ g, w.heap.size = g := ⟨_, rfl⟩
  obtain ⟨x2, hx2⟩ : ∃ Z, w.alloc (.cells r.cl.toArray 34) = Z := ⟨_, rfl⟩
  have B : Blk x2 g r.cl.toArray 34 := by rw [← hx2, ← hg]; exact Blk.new w _ _
  have hb : Below g w x2 := by rw [← hx2, ← hg]; exact (Below.refl _ w).alloc (Nat.le_refl _) _
  have HG := hide (rgood_any k hk r V Pl hvm hpm hm9 x2 ((hLV.below (hg ▸ hb)).mono (by rw [hg]; exact Nat.le_of_lt B.lt)) ((hLP.below (hg ▸ hb)).mono (by rw [hg]; exact Nat.le_of_lt B.lt)))
  rw [decide_eq_true hst, hB] at HG
  have HLA := hide (fun W (q : Below x2.heap.size x2 W) => rlaid_any k hk r V Pl hvm hpm hB W ((hLV.below (hg ▸ (hb.trans (q.mono (Nat.le_of_lt B.lt))))).mono (by have h1 := B.lt; have h2 := q.size; omega)) ((hLP.below (hg ▸ (hb.trans (q.mono (Nat.le_of_lt B.lt))))).mono (by have h1 := B.lt; have h2 := q.size; omega)))
  have HB2 := hide (And.intro hb (Nat.le_of_lt B.lt))
  have HRG := hide (show x2.rangeAt g 0 r.cl from blk_range B)
  have HSZ := hide (show (Tryz.prog.info? 34).map (·.size) = some r.cl.length from size_rep)
  have h2 : ¬ (12 : Int) < (k : Int) := by omega
  have HBX := hide B
  obtain ⟨st, hst'⟩ : ∃ q : Nat, r.st = (q : Int) := ⟨r.st.toNat, by omega⟩
  have HNS := hide (fun W => rnum_of st 1 (by omega) (by decide) W)
  have HNK := hide (fun W => rnum_of k 1 (by omega) (by decide) W)
  have hel := (lyL_len (k : Int) r V Pl)
  have e1 : eyL (k : Int) r V Pl = numB (st : Int) 1 ++ lyL (k : Int) r V Pl := by rw [eyL, hst']
  have hE : strOfNums (numB (st : Int) 1) ++ strOfNums (lyL (k : Int) r V Pl) = strOfNums (eyL (k : Int) r V Pl) := by rw [e1, strOfNums_app]
  have hsE : (strOfNums (eyL (k : Int) r V Pl)).size ≤ 1025 := by rw [strOfNums_size, e1, List.length_append, numB_len]; omega
  have hK : strOfNums (numB (k : Int) 1) ++ strOfNums (eyL (k : Int) r V Pl) = strOfNums ((k : Int) :: eyL (k : Int) r V Pl) := by rw [← strOfNums_app, numB1 _ (by omega) (by omega)]; rfl
  have hkb : Bytes ((k : Int) :: eyL (k : Int) r V Pl) := by
    have h9 : Bytes (eyL (k : Int) r V Pl) := by rw [e1]; exact Bytes.app (numB_bytes _ _) hel.2
    intro j
    cases j with
    | zero => simp; omega
    | succ j => simpa using h9 j
  have hsK : (strOfNums ((k : Int) :: eyL (k : Int) r V Pl)).size ≤ 2000 := by rw [strOfNums_size] at hsE ⊢; rw [List.length_cons]; omega
  have HCK := hide (fun W => rcheck_any (strOfNums ((k : Int) :: eyL (k : Int) r V Pl)) (by omega) W)
  rw [nums_strOfNums _ hkb] at HCK
  have HLO := hide (fun W => low4_any (chkN ((k : Int) :: eyL (k : Int) r V Pl)) (chkN_lt _) W)
  have y1 : ¬ 9223372036854775807 < (strOfNums (numB (st : Int) 1)).size + (strOfNums (lyL (k : Int) r V Pl)).size := by rw [strOfNums_size, strOfNums_size, numB_len]; omega
  have y2 : ¬ 9223372036854775807 < (strOfNums (numB (k : Int) 1)).size + (strOfNums (eyL (k : Int) r V Pl)).size := by rw [strOfNums_size, numB_len]; omega
  have y3 : ¬ 9223372036854775807 < (strOfNums (eyL (k : Int) r V Pl)).size + (strOfNums (le4 (chkN ((k : Int) :: eyL (k : Int) r V Pl)))).size := by
    have h4 : (strOfNums (le4 (chkN ((k : Int) :: eyL (k : Int) r V Pl)))).size = 4 := by rw [strOfNums_size]; rfl
    omega
  have HQ0 := hide (show r.cl.toArray[0]? = some (.int .i64 (st : Int)) by rw [← hst']; rfl)
  obtain ⟨S4, hS4⟩ : ∃ Z, strOfNums (le4 (chkN ((k : Int) :: eyL (k : Int) r V Pl))) = Z := ⟨_, rfl⟩
  rw [hS4] at HLO y3 ⊢
  obtain ⟨SE, hSE⟩ : ∃ Z, strOfNums (eyL (k : Int) r V Pl) = Z := ⟨_, rfl⟩
  rw [hSE] at hE hK hsE y2 y3 ⊢
  generalize chkN ((k : Int) :: eyL (k : Int) r V Pl) = C at *
  generalize strOfNums ((k : Int) :: eyL (k : Int) r V Pl) = SK at *
  generalize strOfNums (lyL (k : Int) r V Pl) = SL at *
  generalize strOfNums (numB (st : Int) 1) = S1 at *
  generalize strOfNums (numB (k : Int) 1) = K1 at *
  clear B hb hB hvm hpm hm9 hLV hLP hst hst' hel e1 hsE hkb hsK hS4 hSE
  rw [hg]
  generalize r.cl = rl at *
  go_enter Tryz.func19, Tryz.ntmps19
  go_wp2_with (first | refine wpList_load_mid rfl 34 (.tmp 3) rfl g 0 rfl rl _ (unhide HRG) Tryz.underlying34 rfl (unhide HSZ) ?_)
  refine (unhide HG).mono ?_
  rintro e x3 ⟨rfl, hx3⟩
  have HP3 := hide hx3
  have HX3 := hide (show Below g w x3 from (unhide HB2).1.trans (hx3.mono (unhide HB2).2))
  have HS3 := hide ((unhide HBX).below hx3 (unhide HBX).lt)
  clear hx3
  go_wp2
  refine wp_region_held_drew (S := fun w' => Blk w' g rl.toArray 34) (by kernel_rfl) (unhide HS3) ?_
  intro hS
  refine wpAnyH_takeD 0 (some 19) (.pointer (some ⟨g, 0, none⟩)) rfl rfl (by kernel_rfl) (by kernel_rfl) (by kernel_rfl) (fun _ _ _ h => h) (Or.inl ⟨by rfl, fun w hSw => by have q0 : w.cell? ⟨g, 0, none⟩ = some (.int .i64 (st : Int)) := (Blk.cell hSw 0).trans (unhide HQ0); clear hSw; go_simp⟩) hS ?_
  simp only [Act.put, List.setIfInBounds_toArray, List.set_cons_zero, List.set_cons_succ]
  refine wpAnyH_takeD 1 (some 20) (.int .i64 (st : Int)) rfl rfl (by kernel_rfl) (by kernel_rfl) (by kernel_rfl) (fun _ _ _ h => h) (Or.inl ⟨by rfl, fun w hSw => by have q0 : w.cell? ⟨g, 0, none⟩ = some (.int .i64 (st : Int)) := (Blk.cell hSw 0).trans (unhide HQ0); clear hSw; go_simp⟩) hS ?_
  simp only [Act.put, List.setIfInBounds_toArray, List.set_cons_zero, List.set_cons_succ]
  refine wpAnyH_takeD 3 (some 22) (.int .i64 (k : Int)) rfl rfl (by kernel_rfl) (by kernel_rfl) (by kernel_rfl) (fun _ _ _ h => h) (Or.inl ⟨by rfl, fun w hSw => by have q0 : w.cell? ⟨g, 0, none⟩ = some (.int .i64 (st : Int)) := (Blk.cell hSw 0).trans (unhide HQ0); clear hSw; go_simp⟩) hS ?_
  simp only [Act.put, List.setIfInBounds_toArray, List.set_cons_zero, List.set_cons_succ]
  refine wpAnyH_takeD 4 (some 23) (.agg rl.toArray) rfl rfl (by kernel_rfl) (by kernel_rfl) (by kernel_rfl) (fun _ _ _ h => h) (yieldsIf_load_mid (by rfl) 34 (.tmp 3) rfl g 0 rfl _ _ (fun w hSw => blk_range hSw) Tryz.underlying34 rfl (unhide HSZ)) hS ?_
  simp only [Act.put, List.setIfInBounds_toArray, List.set_cons_zero, List.set_cons_succ]
  refine wpAnyH_ready (rs := [2]) (by kernel_rfl) (by simp) ?_
  refine AllReadyH.cons rfl (fun K hK => ?_) AllReadyH.nil
  simp only [List.getElem_toArray, List.getElem_cons_succ, List.getElem_cons_zero]
  go_simp
  refine (unhide HNS _).mono ?_
  rintro e x4 ⟨rfl, hbA⟩
  have HP4 := hide (show Below x3.heap.size x3 x4 from ((Below.refl _ x3).drew).trans hbA)
  have HS4 := hide ((unhide HS3).below (unhide HP4) (unhide HS3).lt)
  clear hbA
  refine hK.out _ _ (unhide HS4) (fun hS => ?_)
  clear hK K
  refine wpAnyH_ready (rs := [5]) (by kernel_rfl) (by simp) ?_
  refine AllReadyH.cons rfl (fun K hK => ?_) AllReadyH.nil
  simp only [List.getElem_toArray, List.getElem_cons_succ, List.getElem_cons_zero]
  go_simp
  refine (unhide HLA _ ((unhide HP3).trans ((unhide HP4).mono (unhide HP3).size))).mono ?_
  rintro e x5 ⟨rfl, hbA⟩
  have HP5 := hide (show Below x3.heap.size x3 x5 from (unhide HP4).trans (hbA.mono (unhide HP4).size))
  have HS5 := hide ((unhide HS3).below (unhide HP5) (unhide HS3).lt)
  clear hbA
  refine hK.out _ _ (unhide HS5) (fun hS => ?_)
  clear hK K
  refine wpAnyH_takeD 6 (some 25) (.string SE) rfl rfl (by kernel_rfl) (by kernel_rfl) (by kernel_rfl) (fun _ _ _ h => h) (Or.inl ⟨by rfl, fun w hSw => by have q0 : w.cell? ⟨g, 0, none⟩ = some (.int .i64 (st : Int)) := (Blk.cell hSw 0).trans (unhide HQ0); clear hSw; go_simp⟩) hS ?_
  simp only [Act.put, List.setIfInBounds_toArray, List.set_cons_zero, List.set_cons_succ]
  refine wpAnyH_takeD 7 (some 7) (.string SE) rfl rfl (by kernel_rfl) (by kernel_rfl) (by kernel_rfl) (fun _ _ _ h => h) (Or.inl ⟨by rfl, fun w hSw => by have q0 : w.cell? ⟨g, 0, none⟩ = some (.int .i64 (st : Int)) := (Blk.cell hSw 0).trans (unhide HQ0); clear hSw; go_simp⟩) hS ?_
  simp only [Act.put, List.setIfInBounds_toArray, List.set_cons_zero, List.set_cons_succ]
  refine wpAnyH_done (by kernel_rfl) ?_ _
  have HX5 := hide (show Below g w x5 from (unhide HX3).trans ((unhide HP5).mono (Nat.le_of_lt (unhide HS3).lt)))
  have hg5 : g ≤ x5.heap.size := Nat.le_of_lt (unhide HS5).lt
  go_wp2_with fail
  refine (unhide HNK _).mono ?_
  rintro e x6 ⟨rfl, hx6⟩
  have HX6 := hide (show Below g w x6 from (unhide HX5).trans (hx6.mono hg5))
  have hg6 : g ≤ x6.heap.size := Nat.le_trans hg5 hx6.size
  clear hx6
  go_wp2_with fail
  (try rw [hK])
  refine (unhide HCK _).mono ?_
  rintro e x7 ⟨rfl, hx7⟩
  subst x7
  go_wp2_with fail
  refine (unhide HLO _).mono ?_
  rintro e x8 ⟨rfl, hx8⟩
  have HX8 := hide (show Below g w x8 from (unhide HX6).trans (hx8.mono hg6))
  clear hx8
  go_wp2
  go_ret2
  exact ⟨rfl, unhide HX8⟩
end Go.Proofs.YtclgkgaobjcifaaGreatDoor

namespace Go.Proofs.YtclgkgaobjcifaaGreatDoor
open Go.RowKit
set_option maxRecDepth 100000
/-- a row in a box of its own behind a world -/
theorem boxv (x : World) (T : TypeId) (zs cs : Array Value) (g : Nat) (w : World) (hb : Below g w x) (hg : g ≤ x.heap.size) : Blk (x.alloc (.cells zs T)) x.heap.size zs T ∧ Blk ((x.alloc (.cells zs T)).setRow x.heap.size cs) x.heap.size cs T ∧ Below x.heap.size x ((x.alloc (.cells zs T)).setRow x.heap.size cs) ∧ Below g w ((x.alloc (.cells zs T)).setRow x.heap.size cs) := by
  have h1 := Blk.new x T zs
  have h3 : Below x.heap.size x ((x.alloc (.cells zs T)).setRow x.heap.size cs) := below_setRow ((Below.refl _ x).alloc (Nat.le_refl _) _) (Nat.le_refl _) _
  exact ⟨h1, blk_setRow h1, h3, hb.trans (h3.mono hg)⟩
end Go.Proofs.YtclgkgaobjcifaaGreatDoor

namespace Go.Proofs.YtclgkgaobjcifaaGreatDoor
open Go.RowKit
set_option maxRecDepth 100000
end Go.Proofs.YtclgkgaobjcifaaGreatDoor

namespace Go.Proofs.YtclgkgaobjcifaaGreatDoor
open Go.RowKit
set_option maxRecDepth 100000
set_option maxHeartbeats 1000000 in
theorem encodeReply_kind (kd : Int) (h : ¬ (0 ≤ kd ∧ kd ≤ 12)) (r : Rep) (w : World) : Calls Tryz.prog 12 #[.int .i64 kd, .agg r.cs] w fun e w' => e = .returned (.tuple #[.string ⟨#[]⟩, .int .i64 120]) ∧ Below w.heap.size w w' := by
  have HK := hide (isReplyKind_any kd)
  rw [decide_eq_false h] at HK
  obtain ⟨y, hy⟩ : ∃ Z, w.alloc (.cells r.cs 34) = Z := ⟨_, rfl⟩
  have HY := hide (show Below w.heap.size w y from by rw [← hy]; exact (Below.refl _ w).alloc (Nat.le_refl _) _)
  clear h
  generalize r.cs = rc at *
  go_enter Tryz.func12, Tryz.ntmps12
  go_wp2_with (first | (go_at_call 34; refine (unhide HK _).mono ?_; rintro e x ⟨rfl, hx⟩; subst x))
  go_ret2
  exact ⟨rfl, unhide HY⟩
set_option maxHeartbeats 1000000 in
theorem encodeReply_stat (k : Nat) (hk : k ≤ 12) (r : Rep) (hst : ¬ (0 ≤ r.st ∧ r.st ≤ 13)) (w : World) : Calls Tryz.prog 12 #[.int .i64 (k : Int), .agg r.cs] w fun e w' => e = .returned (.tuple #[.string ⟨#[]⟩, .int .i64 122]) ∧ Below w.heap.size w w' := by
  have HK := hide (isReplyKind_any (k : Int))
  have HS := hide (isStatus_any r.st)
  rw [decide_eq_true (show (0 : Int) ≤ (k : Int) ∧ (k : Int) ≤ 12 by omega)] at HK
  rw [decide_eq_false hst] at HS
  obtain ⟨g, hg⟩ : ∃ g, w.heap.size = g := ⟨_, rfl⟩
  obtain ⟨y, hy⟩ : ∃ Z, w.alloc (.cells r.cs 34) = Z := ⟨_, rfl⟩
  have HY := hide (show Below w.heap.size w y from by rw [← hy]; exact (Below.refl _ w).alloc (Nat.le_refl _) _)
  have BY : Blk y g r.cs 34 := by rw [← hy, ← hg]; exact Blk.new w _ _
  obtain ⟨st, hst'⟩ : ∃ q, r.st = q := ⟨_, rfl⟩
  have c0 : y.cell? ⟨g, 0, none⟩ = some (.int .i64 st) := by rw [BY.cell, ← hst']; rfl
  rw [hst'] at HS
  clear hst hst' BY
  generalize r.cs = rc at *
  go_enter Tryz.func12, Tryz.ntmps12
  go_wp2_with (first | (go_at_call 34; refine (unhide HK _).mono ?_; rintro e x ⟨rfl, hx⟩; subst x) | (go_at_call 35; refine (unhide HS _).mono ?_; rintro e x ⟨rfl, hx⟩; subst x))
  go_ret2
  exact ⟨rfl, unhide HY⟩
set_option maxHeartbeats 4000000 in
theorem encodeReply_no (k : Nat) (hk : k ≤ 12) (r : Rep) (V Pl : List Int) (hvm : V.length = r.vm) (hpm : Pl.length = r.pm) (hm9 : r.vm ≤ 9223372036854775807 ∧ r.pm ≤ 9223372036854775807) (hst : 0 ≤ r.st ∧ r.st ≤ 13) (hB : lyB (k : Int) r V Pl = false) (w : World) (hLV : Lst w w.heap.size r.vp V) (hLP : Lst w w.heap.size r.pp Pl) : Calls Tryz.prog 12 #[.int .i64 (k : Int), .agg r.cs] w fun e w' => e = .returned (.tuple #[.string ⟨#[]⟩, .int .i64 122]) ∧ Below w.heap.size w w' := by
  obtain ⟨g, hg⟩ : ∃ g, w.heap.size = g := ⟨_, rfl⟩
  have HL := hide (fun W (hW0 : Below w.heap.size w W) base b v l hW hb hB9 hl => layReplyA_any (k : Int) r V Pl hvm hpm hm9 w.heap.size W (hLV.below hW0) (hLP.below hW0) base b v l hW hb hB9 hl)
  have HK := hide (isReplyKind_any (k : Int))
  have HS := hide (isStatus_any r.st)
  rw [decide_eq_true (show (0 : Int) ≤ (k : Int) ∧ (k : Int) ≤ 12 by omega)] at HK
  rw [decide_eq_true hst] at HS
  have HFit := hide ((fits1 r.st).2 ⟨hst.1, by omega⟩)
  rw [hB] at HL
  obtain ⟨st, hst'⟩ : ∃ q, r.st = q := ⟨_, rfl⟩
  obtain ⟨y, hy⟩ : ∃ Z, w.alloc (.cells r.cs 34) = Z := ⟨_, rfl⟩
  have BY : Blk y g r.cs 34 := by rw [← hy, ← hg]; exact Blk.new w _ _
  have hby : Below g w y := by rw [← hy, ← hg]; exact (Below.refl _ w).alloc (Nat.le_refl _) _
  have hsy : y.heap.size = g + 1 := by rw [← hy, ← hg]; simp
  have c0 : y.cell? ⟨g, 0, none⟩ = some (.int .i64 st) := by rw [BY.cell, ← hst']; rfl
  have HY := hide (And.intro BY (And.intro hby hsy))
  have hrc : r.cs = r.cl.toArray := rfl
  have HSZ := hide (show (Tryz.prog.info? 34).map (·.size) = some r.cl.length from size_rep)
  rw [hrc] at hy HL HY ⊢
  rw [hst'] at HS HFit
  have hws : wrap64 st = st := wrap64_eq _ (by omega) (by omega)
  clear hrc hst' hst hB hk BY hby hsy hLV hLP hvm hpm hm9
  generalize lyL (k : Int) r V Pl = RL at *
  generalize r.cl = rl at *
  go_enter Tryz.func12, Tryz.ntmps12
  go_wp2_with (first | (go_at_call 34; refine (unhide HK _).mono ?_; rintro e x ⟨rfl, hx⟩; subst x) | (go_at_call 35; refine (unhide HS _).mono ?_; rintro e x ⟨rfl, hx⟩; subst x))
  refine (newWriter_any _).mono ?_
  rintro e x1 ⟨rfl, hW1, hb1, hs1⟩
  obtain ⟨BY, hby, hsy⟩ := unhide HY
  rw [hsy] at hW1 hb1 hs1 ⊢
  have B1 := BY.below hb1 (by omega)
  have hbw1 : Below g w x1 := hby.trans (hb1.mono (by omega))
  have d0 : x1.cell? ⟨g, 0, none⟩ = some (.int .i64 st) := by rw [B1.cell]; rw [← BY.cell]; exact c0
  have hWr := WPost.refl hW1
  have HN := hide (wnumK hWr (by omega) 1 (by decide) (by decide) st (unhide HFit) (by simp) 1 rfl _ rfl)
  have H1 := hide (And.intro B1 (And.intro hbw1 hs1))
  have HW1 := hide hW1
  clear BY hby hsy hW1 hb1 hs1 B1 hbw1 hWr c0 HY hy
  go_wp2_with fail
  refine (unhide HN).mono ?_
  rintro e x2 ⟨rfl, hp2⟩
  obtain ⟨B1, hbw1, hs1⟩ := unhide H1
  have hW1 := unhide HW1
  have B2 := hp2.blk B1 (fp_blk hW1 B1 (by decide) (by omega))
  have HRG := hide (show x2.rangeAt g 0 rl from blk_range B2)
  have hp2' := hp2
  obtain ⟨v1, hq1, hq2, hq3⟩ := hp2
  have HL2 := hide (unhide HL x2 (by rw [hg]; exact hbw1.trans ((hp2'.bel (w := x1) (Below.refl _ _) (by omega)).mono (by omega))) (g + 1) (g + 1) v1 _ hq1 (by have := hq2.size; omega) (by omega) (by rw [List.nil_append, numB_len]; omega))
  have HQ := hide (And.intro hq2 hq3)
  clear B1 hbw1 hs1 hW1 B2 hq1 hq2 hq3 d0
  go_wp2_with (refine wpList_load_mid rfl 34 (.tmp 3) rfl g 0 rfl rl _ (unhide HRG) Tryz.underlying34 rfl (unhide HSZ) ?_)
  refine (unhide HL2).mono ?_
  rintro e x3 ⟨l', rfl, hp3, hl'⟩
  have hb3 : Below g w x3 := by
    obtain ⟨hq2, hq3⟩ := unhide HQ
    obtain ⟨B1, hbw1, hs1⟩ := unhide H1
    have hp3' := WPost.trans hq2 hq3 hp3
    exact hbw1.trans ((hp3'.bel (w := x1) (Below.refl _ _) (by omega)).mono (by omega))
  have HB3 := hide hb3
  clear hp3 hl' hb3 HQ HL2
  go_wp2_with fail
  go_ret2
  exact ⟨rfl, by rw [hg]; exact unhide HB3⟩
end Go.Proofs.YtclgkgaobjcifaaGreatDoor

namespace Go.Proofs.YtclgkgaobjcifaaGreatDoor
open Go.RowKit
set_option maxRecDepth 100000
end Go.Proofs.YtclgkgaobjcifaaGreatDoor

namespace Go.Proofs.YtclgkgaobjcifaaGreatDoor
open Go.RowKit
set_option maxRecDepth 100000
set_option maxHeartbeats 1000000 in
theorem same12_any (w : World) (p1 p2 : Option Addr) (c1 c2 : Nat) (l1 l2 : List Int) (n1 n2 : Nat) (hn1 : n1 = l1.length) (hn2 : n2 = l2.length) (hz : n1 ≤ 9000000000000000000) (h1 : Lst w w.heap.size p1 l1) (h2 : Lst w w.heap.size p2 l2) : Calls Tryz.prog 20 #[.slice p1 n1 c1, .slice p2 n2 c2] w fun e w' => e = .returned (.bool (decide (l1 = l2))) ∧ Below w.heap.size w w' := by
  by_cases hne : n1 = n2
  · subst hne
    have HL := hide (And.intro hn1 (And.intro hn2 (And.intro h1 h2)))
    have hnn : ((n1 : Int) != (n1 : Int)) = false := by simp
    clear hn1 hn2 h1 h2
    go_enter Tryz.func20, Tryz.ntmps20
    go_wp2
    go_loopw [5] (fun i wr => ∃ k : Nat, k ≤ n1 ∧ i = .int .i64 (k : Int) ∧ (∀ j, j < k → l1.getD j 0 = l2.getD j 0) ∧ Below w.heap.size w wr) (fun i _ => n1 - (intOf i).toNat)
    case atStart => exact ⟨0, by omega, rfl, fun j hj => absurd hj (by omega), Below.refl _ _⟩
    case round =>
      obtain ⟨k, hk, rfl, hall, hb⟩ := hrel
      obtain ⟨wo, rfl⟩ : ∃ wo, wo = wr := ⟨_, rfl⟩
      have XB := hide hb
      have HA := hide hall
      clear hb hall
      by_cases hkn : k < n1
      · obtain ⟨g1, o1, rfl, q1, d1⟩ := (unhide HL).2.2.1 k (by have := (unhide HL).1; omega)
        obtain ⟨g2, o2, rfl, q2, d2⟩ := (unhide HL).2.2.2 k (by have := (unhide HL).2.1; omega)
        have e1 := ((unhide XB).cell (p := ⟨g1, o1 + k, none⟩) q1).trans d1
        have e2 := ((unhide XB).cell (p := ⟨g2, o2 + k, none⟩) q2).trans d2
        obtain ⟨z1, hz1⟩ : ∃ z, l1.getD k 0 = z := ⟨_, rfl⟩
        obtain ⟨z2, hz2⟩ : ∃ z, l2.getD k 0 = z := ⟨_, rfl⟩
        rw [hz1] at e1
        rw [hz2] at e2
        have HZ := hide (And.intro hz1 hz2)
        clear q1 q2 d1 d2 hz1 hz2
        have j0 : 0 ≤ (k : Int) := by omega
        have j1 : (k : Int) < (n1 : Int) := by omega
        by_cases hzz : z1 = z2
        · subst hzz
          have hq : (z1 != z1) = false := by simp
          go_wp2_with fail
          go_quiet (fail)
          go_wp2
          go_roundw
          case rel =>
            refine ⟨k + 1, by omega, by go_num, fun j hj => ?_, below_drewN (unhide XB) _⟩
            by_cases e : j = k
            · rw [e, (unhide HZ).1, (unhide HZ).2]
            · exact unhide HA j (by omega)
          case measure => simp [intOf]; omega
        · have hq : (z1 != z2) = true := by simpa using hzz
          have HD := hide (show decide (l1 = l2) = false from decide_eq_false (fun e => hzz (by rw [← (unhide HZ).1, ← (unhide HZ).2, e])))
          clear hzz
          go_wp2_with fail
          go_quiet (fail)
          go_wp2
          go_ret
          rw [unhide HD]
          exact ⟨rfl, below_drewN (unhide XB) _⟩
      · have e1 : ¬ (k : Int) < (n1 : Int) := by omega
        have HD := hide (show decide (l1 = l2) = true from decide_eq_true (by
          obtain ⟨a1, a2, _⟩ := unhide HL
          refine List.ext_getElem (by omega) (fun i b1 b2 => ?_)
          have := unhide HA i (by omega)
          rwa [List.getD_eq_getElem?_getD, List.getD_eq_getElem?_getD, List.getElem?_eq_getElem b1, List.getElem?_eq_getElem b2] at this))
        go_wp2
        go_ret
        rw [unhide HD]
        exact ⟨rfl, unhide XB⟩
  · have hnn : ((n1 : Int) != (n2 : Int)) = true := by simp; omega
    have HD := hide (show decide (l1 = l2) = false from decide_eq_false (fun e => hne (by rw [hn1, hn2, e])))
    clear hne hn1 hn2 h1 h2
    go_enter Tryz.func20, Tryz.ntmps20
    go_wp2
    go_ret
    rw [unhide HD]
    exact ⟨rfl, Below.refl _ _⟩
theorem same12_eq (w : World) (p1 p2 : Option Addr) (c1 c2 : Nat) (L : List Int) (n1 n2 : Nat) (hn1 : n1 = L.length) (hn2 : n2 = L.length) (hz : n1 ≤ 9000000000000000000) (h1 : Lst w w.heap.size p1 L) (h2 : Lst w w.heap.size p2 L) : Calls Tryz.prog 20 #[.slice p1 n1 c1, .slice p2 n2 c2] w fun e w' => e = .returned (.bool true) ∧ Below w.heap.size w w' := by
  refine (same12_any w p1 p2 c1 c2 L L n1 n2 hn1 hn2 hz h1 h2).mono ?_
  rintro e w' ⟨he, hb⟩
  rw [decide_eq_true (show L = L from rfl)] at he
  exact ⟨he, hb⟩
/-- two replies that say the same -/
structure Ali (r q : Rep) (w : World) (V Pl : List Int) : Prop where
  st : r.st = q.st
  qu : r.qu = q.qu
  ch : r.ch = q.ch
  no : r.no = q.no
  wr : r.wr = q.wr
  da : r.da = q.da
  v1 : r.vm = V.length ∧ Lst w w.heap.size r.vp V
  v2 : q.vm = V.length ∧ Lst w w.heap.size q.vp V
  p1 : r.pm = Pl.length ∧ Lst w w.heap.size r.pp Pl
  p2 : q.pm = Pl.length ∧ Lst w w.heap.size q.pp Pl
  m8 : V.length ≤ 8 ∧ Pl.length ≤ 8
set_option maxHeartbeats 4000000 in
theorem alike12_eq (r q : Rep) (w : World) (V Pl : List Int) (h : Ali r q w V Pl) : Calls Tryz.prog 18 #[.agg r.cs, .agg q.cs] w fun e w' => e = .returned (.bool true) ∧ Below w.heap.size w w' := by
  obtain ⟨B1, B2, hbl, hs2⟩ := two_boxes w r.cs q.cs 34 34
  obtain ⟨g, hg⟩ : ∃ g, w.heap.size = g := ⟨_, rfl⟩
  rw [hg] at B1 B2 hbl hs2 ⊢
  obtain ⟨y, hy⟩ : ∃ Z, (w.alloc (.cells r.cs 34)).alloc (.cells q.cs 34) = Z := ⟨_, rfl⟩
  rw [hy] at B1 B2 hbl hs2
  obtain ⟨rst, rqu, rch, rvp, rvm, rvc, rno, rpp, rpm, rpc, rwr, rda⟩ := r
  obtain ⟨qst, qqu, qch, qvp, qvm, qvc, qno, qpp, qpm, qpc, qwr, qda⟩ := q
  obtain ⟨e1, e2, e3, e4, e5, e6, v1, v2, p1, p2, m8⟩ := h
  simp only at e1 e2 e3 e4 e5 e6 v1 v2 p1 p2
  subst e1 e2 e3 e4 e5 e6
  have hLB : ∀ (p : Option Addr) (L : List Int) (W : World), Lst w w.heap.size p L → Below g w W → Lst W W.heap.size p L := fun p L W hl hb => ((hg ▸ hl).below hb).mono (by rw [← hg]; exact hb.size)
  have HV := hide (fun W (hb : Below g w W) => same12_eq W rvp qvp rvc qvc V rvm qvm v1.1 v2.1 (by omega) (hLB _ _ W v1.2 hb) (hLB _ _ W v2.2 hb))
  have HP := hide (fun W (hb : Below g w W) => same12_eq W rpp qpp rpc qpc Pl rpm qpm p1.1 p2.1 (by omega) (hLB _ _ W p1.2 hb) (hLB _ _ W p2.2 hb))
  have HY := hide (And.intro B1 (And.intro B2 hbl))
  have r3 : y.cell? ⟨g, 3, none⟩ = some (.slice rvp rvm rvc) := by rw [B1.cell]; rfl
  have q3 : y.cell? ⟨g + 1, 3, none⟩ = some (.slice qvp qvm qvc) := by rw [B2.cell]; rfl
  have hsz : y.heap.size = g + 2 := hs2
  clear B1 B2 hbl v1 v2 p1 p2 hLB m8
  go_enter Tryz.func18, Tryz.ntmps18
  go_wp2_with fail
  refine (unhide HV _ (unhide HY).2.2).mono ?_
  rintro e y1 ⟨rfl, hy1⟩
  obtain ⟨B1, B2, hbl⟩ := unhide HY
  have C1 := B1.below hy1 B1.lt
  have C2 := B2.below hy1 B2.lt
  have hb1 : Below g w y1 := hbl.trans (hy1.mono (by omega))
  have r5 : y1.cell? ⟨g, 5, none⟩ = some (.slice rpp rpm rpc) := by rw [C1.cell]; rfl
  have q5 : y1.cell? ⟨g + 1, 5, none⟩ = some (.slice qpp qpm qpc) := by rw [C2.cell]; rfl
  have hs1 : g + 2 ≤ y1.heap.size := by have := hy1.size; omega
  have HY1 := hide (And.intro C1 (And.intro C2 hb1))
  clear B1 B2 hbl C1 C2 hb1 hy1 HY r3 q3 hsz
  go_wp2_with fail
  refine (unhide HP _ (unhide HY1).2.2).mono ?_
  rintro e y2 ⟨rfl, hy2⟩
  obtain ⟨B1, B2, hbl⟩ := unhide HY1
  have C1 := B1.below hy2 B1.lt
  have C2 := B2.below hy2 B2.lt
  have HB2 := hide (show Below g w y2 from hbl.trans (hy2.mono (by omega)))
  have c0 : y2.cell? ⟨g, 0, none⟩ = some (.int .i64 rst) := by rw [C1.cell]; rfl
  have d0 : y2.cell? ⟨g + 1, 0, none⟩ = some (.int .i64 rst) := by rw [C2.cell]; rfl
  have c1 : y2.cell? ⟨g, 1, none⟩ = some (.int .i64 rqu) := by rw [C1.cell]; rfl
  have d1 : y2.cell? ⟨g + 1, 1, none⟩ = some (.int .i64 rqu) := by rw [C2.cell]; rfl
  have c2 : y2.cell? ⟨g, 2, none⟩ = some (.int .i64 rch) := by rw [C1.cell]; rfl
  have d2 : y2.cell? ⟨g + 1, 2, none⟩ = some (.int .i64 rch) := by rw [C2.cell]; rfl
  have c4 : y2.cell? ⟨g, 4, none⟩ = some (.int .i64 rno) := by rw [C1.cell]; rfl
  have d4 : y2.cell? ⟨g + 1, 4, none⟩ = some (.int .i64 rno) := by rw [C2.cell]; rfl
  have c6 : y2.cell? ⟨g, 6, none⟩ = some (.string rwr) := by rw [C1.cell]; rfl
  have d6 : y2.cell? ⟨g + 1, 6, none⟩ = some (.string rwr) := by rw [C2.cell]; rfl
  have c7 : y2.cell? ⟨g, 7, none⟩ = some (.string rda) := by rw [C1.cell]; rfl
  have d7 : y2.cell? ⟨g + 1, 7, none⟩ = some (.string rda) := by rw [C2.cell]; rfl
  clear B1 B2 hbl C1 C2 hy2 HY1 r5 q5 hs1
  go_wp2_with fail
  go_ret
  exact ⟨rfl, unhide HB2⟩
end Go.Proofs.YtclgkgaobjcifaaGreatDoor
