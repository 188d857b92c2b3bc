import Derived.Test.YtclgkgaobjcifaaGreatDoorMx24
import Derived.Test.YtclgkgaobjcifaaGreatDoorMx26
import Derived.Test.YtclgkgaobjcifaaGreatDoorMx02
namespace Go.Proofs.YtclgkgaobjcifaaGreatDoor
open Go.RowKit
set_option maxRecDepth 100000
theorem lgL_3 (r : Rep) (V Pl : List Int) (h0 : 0 ≤ r.qu ∧ r.qu ≤ 65535) (h1 : 0 ≤ r.ch ∧ r.ch ≤ 65535) (h2 : voB V = true) : lgL 3 r V Pl = numB r.qu 2 ++ (numB r.ch 2 ++ (voL V ++ [])) := by
  have o0 : okG fQuo (exr fQuo r Prt.nil).2 V Pl = true := decide_eq_true h0
  have o1 : okG fCha (exr fCha (exr fQuo r Prt.nil).1 Prt.nil).2 V Pl = true := decide_eq_true h1
  have o2 : okG fVos (exr fVos (exr fCha (exr fQuo r Prt.nil).1 Prt.nil).1 Prt.nil).2 V Pl = true := h2
  unfold lgL
  rw [show rpF 3 = [fQuo, fCha, fVos] from rfl]
  simp only [layG, o0, o1, o2, if_true, Option.map_some]
  rfl
theorem lgL_6 (r : Rep) (V Pl : List Int) (h0 : voB V = true) : lgL 6 r V Pl = voL V ++ [] := by
  have o0 : okG fVos (exr fVos r Prt.nil).2 V Pl = true := h0
  unfold lgL
  rw [show rpF 6 = [fVos] from rfl]
  simp only [layG, o0, if_true, Option.map_some]
  rfl
theorem lgL_7 (r : Rep) (V Pl : List Int) (h0 : 0 ≤ r.qu ∧ r.qu ≤ 65535) (h1 : 0 ≤ r.ch ∧ r.ch ≤ 65535) : lgL 7 r V Pl = numB r.qu 2 ++ (numB r.ch 2 ++ []) := by
  have o0 : okG fQuo (exr fQuo r Prt.nil).2 V Pl = true := decide_eq_true h0
  have o1 : okG fCha (exr fCha (exr fQuo r Prt.nil).1 Prt.nil).2 V Pl = true := decide_eq_true h1
  unfold lgL
  rw [show rpF 7 = [fQuo, fCha] from rfl]
  simp only [layG, o0, o1, if_true, Option.map_some]
  rfl
theorem lgL_8 (r : Rep) (V Pl : List Int) (h0 : 0 ≤ r.no ∧ r.no ≤ 4294967295) (h1 : plB Pl = true) : lgL 8 r V Pl = numB r.no 4 ++ (outN 1 Pl ++ []) := by
  have o0 : okG fNon (exr fNon r Prt.nil).2 V Pl = true := decide_eq_true h0
  have o1 : okG fPla (exr fPla (exr fNon r Prt.nil).1 Prt.nil).2 V Pl = true := h1
  unfold lgL
  rw [show rpF 8 = [fNon, fPla] from rfl]
  simp only [layG, o0, o1, if_true, Option.map_some]
  rfl
theorem lgL_11 (r : Rep) (V Pl : List Int) (h0 : r.wr.size = 48) (h1 : r.da.size = 256) : lgL 11 r V Pl = nums r.wr ++ (nums r.da ++ []) := by
  have o0 : okG fWra (exr fWra r Prt.nil).2 V Pl = true := decide_eq_true h0
  have o1 : okG fDat (exr fDat (exr fWra r Prt.nil).1 Prt.nil).2 V Pl = true := decide_eq_true h1
  unfold lgL
  rw [show rpF 11 = [fWra, fDat] from rfl]
  simp only [layG, o0, o1, if_true, Option.map_some]
  rfl
theorem voB_small {V : List Int} (h : voB V = true) : V.length ≤ 8 ∧ ∀ j, j < V.length → 0 ≤ V.getD j 0 ∧ V.getD j 0 ≤ 255 := by
  rw [voB, Bool.and_eq_true] at h
  have hA := of_decide_eq_true (show decide (∀ k, k < V.length → (1 ≤ V.getD k 0 ∧ V.getD k 0 ≤ 99) ∧ (0 < k → V.getD (k - 1) 0 < V.getD k 0)) = true from h.2)
  exact ⟨of_decide_eq_true h.1, fun j hj => by have := (hA j hj).1; omega⟩
theorem nil_small {V : List Int} (h : V.length = 0) : V.length ≤ 8 ∧ ∀ j, j < V.length → 0 ≤ V.getD j 0 ∧ V.getD j 0 ≤ 255 := ⟨by omega, fun j hj => absurd hj (by omega)⟩
theorem blank_vm {r : Rep} {b1 b3 b4 : Bool} (h : blankB r b1 false b3 b4 = true) : r.vm = 0 := by
  unfold blankB blankE at h
  simp only [Bool.and_eq_true, Bool.false_or, beq_iff_eq] at h
  omega
theorem sap2 (a b : List Int) : strOfNums a ++ strOfNums b = strOfNums (a ++ b) := (strOfNums_app a b).symm
set_option maxHeartbeats 4000000 in
theorem laid_not (k : Nat) (hk : k ≤ 12) (r : Rep) (hfull : fullP (k : Int) r.st = false) (w : World) : Calls Tryz.prog 48 #[.int .i64 (k : Int), .agg r.cl.toArray] w fun e w' => e = .returned (.string (strOfNums (List.replicate (szF (rpF (k : Int))) 0))) ∧ Below w.heap.size w w' := by
  obtain ⟨g, hg⟩ : ∃ g, w.heap.size = g := ⟨_, rfl⟩
  obtain ⟨x2, hx2⟩ : ∃ Z, w.alloc (.cells r.cl.toArray 34) = Z := ⟨_, rfl⟩
  have B : Blk x2 g r.cl.toArray 34 := by rw [← hx2, ← hg]; exact Blk.new w _ _
  have hb : Below g w x2 := by rw [← hx2, ← hg]; exact (Below.refl _ w).alloc (Nat.le_refl _) _
  have HB2 := hide (And.intro hb (Nat.le_of_lt B.lt))
  have d0 : x2.cell? ⟨g, 0, none⟩ = some (.int .i64 r.st) := by rw [B.cell]; rfl
  have HW := hide (rwhole_any (k : Int) r.st)
  rw [hfull] at HW
  have HRO := hide (fun W => room_any (k : Int) ⟨by omega, by omega⟩ W)
  have hsz : szF (rpF (k : Int)) ≤ 1000 := by
    unfold rpF
    (repeat' split) <;> decide
  have HZE := hide (fun W => rzeros_m (szF (rpF (k : Int))) hsz W)
  obtain ⟨R, hR⟩ : ∃ R, strOfNums (List.replicate (szF (rpF (k : Int))) 0) = R := ⟨_, rfl⟩
  rw [hR] at HZE ⊢
  generalize szF (rpF (k : Int)) = Z at *
  clear B hb hfull hR hsz
  rw [hg]
  generalize r.cl = rl at *
  generalize r.st = st at *
  go_enter Tryz.func48, Tryz.ntmps48
  go_wp2_with (first | (go_at_call 74; refine (unhide HW _).mono ?_; rintro e y ⟨rfl, hy⟩; subst y))
  refine (unhide HRO _).mono ?_
  rintro e y1 ⟨rfl, hy1⟩
  have H1 := hide (show Below g w y1 from (unhide HB2).1.trans (hy1.mono (unhide HB2).2))
  have h1 : g ≤ y1.heap.size := Nat.le_trans (unhide HB2).2 hy1.size
  clear hy1 d0
  go_wp2_with fail
  refine (unhide HZE _).mono ?_
  rintro e y2 ⟨rfl, hy2⟩
  have H2 := hide (show Below g w y2 from (unhide H1).trans (hy2.mono h1))
  clear hy2 h1
  go_wp2
  go_ret
  exact ⟨rfl, unhide H2⟩
theorem rlaid_any (k : Nat) (hk : k ≤ 12) (r : Rep) (V Pl : List Int) (hvm : V.length = r.vm) (hpm : Pl.length = r.pm) (hB : lyB (k : Int) r V Pl = true) (w : World) (hLV : Lst w w.heap.size r.vp V) (hLP : Lst w w.heap.size r.pp Pl) : Calls Tryz.prog 48 #[.int .i64 (k : Int), .agg r.cl.toArray] w fun e w' => e = .returned (.string (strOfNums (lyL (k : Int) r V Pl))) ∧ Below w.heap.size w w' := by
  by_cases hf : fullP (k : Int) r.st = true
  · rw [lyB, if_pos hf] at hB
    rw [lyL, if_pos hf]
    rcases rpF_kinds hk with rfl | rfl | rfl | rfl | rfl | ⟨e, n3, n6, n7, n8, n11⟩
    · have hB' := (lgB_3 r V Pl).symm.trans hB
      simp only [Bool.and_eq_true, decide_eq_true_eq] at hB'
      obtain ⟨⟨hb, h0, h1⟩, h2⟩ := hB'
      obtain ⟨v8, vf⟩ := voB_small h2
      have hS := lgL_3 r V Pl h0 h1 h2
      obtain ⟨st, qu, ch, vp, vm, vc, no, pp, pm, pc, wr, da⟩ := r
      simp only at *
      obtain ⟨qu', rfl⟩ : ∃ q : Nat, qu = (q : Int) := ⟨qu.toNat, by omega⟩
      obtain ⟨ch', rfl⟩ : ∃ q : Nat, ch = (q : Int) := ⟨ch.toNat, by omega⟩
      refine (laid_3 st qu' ch' no vp vm vc pp pm pc wr da (by omega) (by omega) V hvm (by omega) (fun j hj => vf j (by omega)) hf w hLV).mono ?_
      rintro e w' ⟨rfl, hw⟩
      refine ⟨?_, hw⟩
      show Ending.returned (.string _) = Ending.returned (.string (strOfNums (lgL 3 _ V Pl)))
      rw [hS]
      simp only [sap2]
      congr 2
      simp only [voL, hvm, List.append_assoc, List.append_nil]
    · have hB' := (lgB_6 r V Pl).symm.trans hB
      simp only [Bool.and_eq_true] at hB'
      obtain ⟨hb, h0⟩ := hB'
      obtain ⟨v8, vf⟩ := voB_small h0
      have hS := lgL_6 r V Pl h0
      obtain ⟨st, qu, ch, vp, vm, vc, no, pp, pm, pc, wr, da⟩ := r
      simp only at *
      refine (laid_6 st  qu ch no vp vm vc pp pm pc wr da  V hvm (by omega) (fun j hj => vf j (by omega)) hf w hLV).mono ?_
      rintro e w' ⟨rfl, hw⟩
      refine ⟨?_, hw⟩
      show Ending.returned (.string _) = Ending.returned (.string (strOfNums (lgL 6 _ V Pl)))
      rw [hS]
      simp only [sap2]
      congr 2
      simp only [voL, hvm, List.append_assoc, List.append_nil]
    · have hB' := (lgB_7 r V Pl).symm.trans hB
      simp only [Bool.and_eq_true, decide_eq_true_eq] at hB'
      obtain ⟨hb, h0, h1⟩ := hB'
      obtain ⟨v8, vf⟩ := nil_small (V := V) (by have := blank_vm hb; omega)
      have hS := lgL_7 r V Pl h0 h1
      obtain ⟨st, qu, ch, vp, vm, vc, no, pp, pm, pc, wr, da⟩ := r
      simp only at *
      obtain ⟨qu', rfl⟩ : ∃ q : Nat, qu = (q : Int) := ⟨qu.toNat, by omega⟩
      obtain ⟨ch', rfl⟩ : ∃ q : Nat, ch = (q : Int) := ⟨ch.toNat, by omega⟩
      refine (laid_7 st qu' ch' no vp vm vc pp pm pc wr da (by omega) (by omega) V hvm (by omega) (fun j hj => vf j (by omega)) hf w hLV).mono ?_
      rintro e w' ⟨rfl, hw⟩
      refine ⟨?_, hw⟩
      show Ending.returned (.string _) = Ending.returned (.string (strOfNums (lgL 7 _ V Pl)))
      rw [hS]
      simp only [sap2]
      congr 2
      skip
    · have hB' := (lgB_8 r V Pl).symm.trans hB
      simp only [Bool.and_eq_true, decide_eq_true_eq] at hB'
      obtain ⟨⟨hb, h0⟩, h1⟩ := hB'
      obtain ⟨v8, vf⟩ := nil_small (V := V) (by have := blank_vm hb; omega)
      have hpl := of_decide_eq_true (show decide (Pl.length = 8 ∧ ∀ k, k < Pl.length → 0 ≤ Pl.getD k 0 ∧ Pl.getD k 0 ≤ 255) = true from h1)
      have hS := lgL_8 r V Pl h0 h1
      obtain ⟨st, qu, ch, vp, vm, vc, no, pp, pm, pc, wr, da⟩ := r
      simp only at *
      obtain ⟨no', rfl⟩ : ∃ q : Nat, no = (q : Int) := ⟨no.toNat, by omega⟩
      refine (laid_8 st no' qu ch vp vm vc pp pm pc wr da (by omega) Pl hpm (by omega) (fun j hj => hpl.2 j (by omega)) V hvm (by omega) (fun j hj => vf j (by omega)) hf w hLV hLP).mono ?_
      rintro e w' ⟨rfl, hw⟩
      refine ⟨?_, hw⟩
      show Ending.returned (.string _) = Ending.returned (.string (strOfNums (lgL 8 _ V Pl)))
      rw [hS]
      simp only [sap2]
      congr 2
      rw [show 8 - pm = 0 by omega]
      rfl
    · have hB' := (lgB_11 r V Pl).symm.trans hB
      simp only [Bool.and_eq_true, beq_iff_eq] at hB'
      obtain ⟨⟨hb, h0⟩, h1⟩ := hB'
      have h0 : r.wr.size = 48 := by omega
      have h1 : r.da.size = 256 := by omega
      obtain ⟨v8, vf⟩ := nil_small (V := V) (by have := blank_vm hb; omega)
      have hS := lgL_11 r V Pl h0 h1
      obtain ⟨st, qu, ch, vp, vm, vc, no, pp, pm, pc, wr, da⟩ := r
      simp only at *
      refine (laid_11 st  qu ch no vp vm vc pp pm pc wr da (by omega) (by omega) V hvm (by omega) (fun j hj => vf j (by omega)) hf w hLV).mono ?_
      rintro e w' ⟨rfl, hw⟩
      refine ⟨?_, hw⟩
      show Ending.returned (.string _) = Ending.returned (.string (strOfNums (lgL 11 _ V Pl)))
      rw [hS]
      rw [List.append_nil, strOfNums_app, strOfNums_nums, strOfNums_nums]
    · have hb := (lgB_o _ e r V Pl).symm.trans hB
      obtain ⟨v8, vf⟩ := nil_small (V := V) (by have := blank_vm hb; omega)
      have hS : lgL (k : Int) r V Pl = [] := by
        unfold lgL
        rw [e]
        rfl
      obtain ⟨st, qu, ch, vp, vm, vc, no, pp, pm, pc, wr, da⟩ := r
      simp only at *
      refine (laid_o (k : Int) (by simpa using n3) (by simpa using n6) (by simpa using n7) (by simpa using n8) (by simpa using n11) st qu ch no vp vm vc pp pm pc wr da V hvm (by omega) (fun j hj => vf j (by omega)) hf w hLV).mono ?_
      rintro e w' ⟨rfl, hw⟩
      exact ⟨by rw [hS]; rfl, hw⟩
  · rw [lyL, if_neg hf]
    exact laid_not k hk r (by simpa using hf) w
set_option maxHeartbeats 4000000 in
theorem renc_kind (kd : Int) (h : ¬ (0 ≤ kd ∧ kd ≤ 12)) (r : Rep) (w : World) : Calls Tryz.prog 19 #[.int .i64 kd, .agg r.cl.toArray] w fun e w' => e = .returned (.tuple #[.string ⟨#[]⟩, .int .i64 120]) ∧ Below w.heap.size w w' := by
  obtain ⟨g, hg⟩ : ∃ g, w.heap.size = g := ⟨_, rfl⟩
  obtain ⟨x2, hx2⟩ : ∃ Z, w.alloc (.cells r.cl.toArray 34) = Z := ⟨_, rfl⟩
  have B : Blk x2 g r.cl.toArray 34 := by rw [← hx2, ← hg]; exact Blk.new w _ _
  have hb : Below g w x2 := by rw [← hx2, ← hg]; exact (Below.refl _ w).alloc (Nat.le_refl _) _
  have HB2 := hide hb
  clear B hb
  rw [hg]
  generalize r.cl = rl at *
  by_cases h0 : kd < 0
  · have h1 : decide (kd < 0) = true := by simpa using h0
    clear h h0
    go_enter Tryz.func19, Tryz.ntmps19
    go_wp2
    go_ret2
    exact ⟨rfl, unhide HB2⟩
  · have h1 : decide (kd < 0) = false := by simpa using h0
    have h2 : decide (kd > 12) = true := by simp; omega
    clear h h0
    go_enter Tryz.func19, Tryz.ntmps19
    go_wp2
    go_ret2
    exact ⟨rfl, unhide HB2⟩
set_option maxHeartbeats 4000000 in
theorem renc_no (k : Nat) (hk : k ≤ 12) (r : Rep) (V Pl : List Int) (hvm : V.length = r.vm) (hpm : Pl.length = r.pm) (hm9 : r.vm ≤ 9000000000000000000 ∧ r.pm ≤ 9000000000000000000) (hB : (decide (0 ≤ r.st ∧ r.st ≤ 13) && lyB (k : Int) r V Pl) = false) (w : World) (hLV : Lst w w.heap.size r.vp V) (hLP : Lst w w.heap.size r.pp Pl) : Calls Tryz.prog 19 #[.int .i64 (k : Int), .agg r.cl.toArray] w fun e w' => e = .returned (.tuple #[.string ⟨#[]⟩, .int .i64 122]) ∧ Below w.heap.size w w' := by
  obtain ⟨g, hg⟩ : ∃ g, w.heap.size = g := ⟨_, rfl⟩
  obtain ⟨x2, hx2⟩ : ∃ Z, w.alloc (.cells r.cl.toArray 34) = Z := ⟨_, rfl⟩
  have B : Blk x2 g r.cl.toArray 34 := by rw [← hx2, ← hg]; exact Blk.new w _ _
  have hb : Below g w x2 := by rw [← hx2, ← hg]; exact (Below.refl _ w).alloc (Nat.le_refl _) _
  have HG := hide (rgood_any k hk r V Pl hvm hpm hm9 x2 ((hLV.below (hg ▸ hb)).mono (by rw [hg]; exact Nat.le_of_lt B.lt)) ((hLP.below (hg ▸ hb)).mono (by rw [hg]; exact Nat.le_of_lt B.lt)))
  rw [hB] at HG
  have HB2 := hide (And.intro hb (Nat.le_of_lt B.lt))
  have HRG := hide (show x2.rangeAt g 0 r.cl from blk_range B)
  have HSZ := hide (show (Tryz.prog.info? 34).map (·.size) = some r.cl.length from size_rep)
  have h2 : ¬ (12 : Int) < (k : Int) := by omega
  clear B hb hB hvm hpm hm9 hLV hLP
  rw [hg]
  generalize r.cl = rl at *
  go_enter Tryz.func19, Tryz.ntmps19
  go_wp2_with (first | refine wpList_load_mid rfl 34 (.tmp 3) rfl g 0 rfl rl _ (unhide HRG) Tryz.underlying34 rfl (unhide HSZ) ?_)
  refine (unhide HG).mono ?_
  rintro e x3 ⟨rfl, hx3⟩
  have HX3 := hide (show Below g w x3 from (unhide HB2).1.trans (hx3.mono (unhide HB2).2))
  clear hx3
  go_wp2
  go_ret2
  exact ⟨rfl, unhide HX3⟩
set_option maxHeartbeats 4000000 in
theorem renc_ok (k : Nat) (hk : k ≤ 12) (r : Rep) (V Pl : List Int) (hvm : V.length = r.vm) (hpm : Pl.length = r.pm) (hm9 : r.vm ≤ 9000000000000000000 ∧ r.pm ≤ 9000000000000000000) (hst : 0 ≤ r.st ∧ r.st ≤ 13) (hB : lyB (k : Int) r V Pl = true) (w : World) (hLV : Lst w w.heap.size r.vp V) (hLP : Lst w w.heap.size r.pp Pl) : Calls Tryz.prog 19 #[.int .i64 (k : Int), .agg r.cl.toArray] w fun e w' => e = .returned (.tuple #[.string (strOfNums (eyL (k : Int) r V Pl) ++ strOfNums (le4 (chkN ((k : Int) :: eyL (k : Int) r V Pl)))), .int .i64 0]) ∧ Below w.heap.size w w' := by
  obtain ⟨g, hg⟩ : ∃ g, w.heap.size = g := ⟨_, rfl⟩
  obtain ⟨x2, hx2⟩ : ∃ Z, w.alloc (.cells r.cl.toArray 34) = Z := ⟨_, rfl⟩
  have B : Blk x2 g r.cl.toArray 34 := by rw [← hx2, ← hg]; exact Blk.new w _ _
  have hb : Below g w x2 := by rw [← hx2, ← hg]; exact (Below.refl _ w).alloc (Nat.le_refl _) _
  have HG := hide (rgood_any k hk r V Pl hvm hpm hm9 x2 ((hLV.below (hg ▸ hb)).mono (by rw [hg]; exact Nat.le_of_lt B.lt)) ((hLP.below (hg ▸ hb)).mono (by rw [hg]; exact Nat.le_of_lt B.lt)))
  rw [decide_eq_true hst, hB] at HG
  have HLA := hide (fun W (q : Below x2.heap.size x2 W) => rlaid_any k hk r V Pl hvm hpm hB W ((hLV.below (hg ▸ (hb.trans (q.mono (Nat.le_of_lt B.lt))))).mono (by have h1 := B.lt; have h2 := q.size; omega)) ((hLP.below (hg ▸ (hb.trans (q.mono (Nat.le_of_lt B.lt))))).mono (by have h1 := B.lt; have h2 := q.size; omega)))
  have HB2 := hide (And.intro hb (Nat.le_of_lt B.lt))
  have HRG := hide (show x2.rangeAt g 0 r.cl from blk_range B)
  have HSZ := hide (show (Tryz.prog.info? 34).map (·.size) = some r.cl.length from size_rep)
  have h2 : ¬ (12 : Int) < (k : Int) := by omega
  have HBX := hide B
  obtain ⟨st, hst'⟩ : ∃ q : Nat, r.st = (q : Int) := ⟨r.st.toNat, by omega⟩
  have HNS := hide (fun W => rnum_of st 1 (by omega) (by decide) W)
  have HNK := hide (fun W => rnum_of k 1 (by omega) (by decide) W)
  have hel := (lyL_len (k : Int) r V Pl)
  have e1 : eyL (k : Int) r V Pl = numB (st : Int) 1 ++ lyL (k : Int) r V Pl := by rw [eyL, hst']
  have hE : strOfNums (numB (st : Int) 1) ++ strOfNums (lyL (k : Int) r V Pl) = strOfNums (eyL (k : Int) r V Pl) := by rw [e1, strOfNums_app]
  have hsE : (strOfNums (eyL (k : Int) r V Pl)).size ≤ 1025 := by rw [strOfNums_size, e1, List.length_append, numB_len]; omega
  have hK : strOfNums (numB (k : Int) 1) ++ strOfNums (eyL (k : Int) r V Pl) = strOfNums ((k : Int) :: eyL (k : Int) r V Pl) := by rw [← strOfNums_app, numB1 _ (by omega) (by omega)]; rfl
  have hkb : Bytes ((k : Int) :: eyL (k : Int) r V Pl) := by
    have h9 : Bytes (eyL (k : Int) r V Pl) := by rw [e1]; exact Bytes.app (numB_bytes _ _) hel.2
    intro j
    cases j with
    | zero => simp; omega
    | succ j => simpa using h9 j
  have hsK : (strOfNums ((k : Int) :: eyL (k : Int) r V Pl)).size ≤ 2000 := by rw [strOfNums_size] at hsE ⊢; rw [List.length_cons]; omega
  have HCK := hide (fun W => rcheck_any (strOfNums ((k : Int) :: eyL (k : Int) r V Pl)) (by omega) W)
  rw [nums_strOfNums _ hkb] at HCK
  have HLO := hide (fun W => low4_any (chkN ((k : Int) :: eyL (k : Int) r V Pl)) (chkN_lt _) W)
  have y1 : ¬ 9223372036854775807 < (strOfNums (numB (st : Int) 1)).size + (strOfNums (lyL (k : Int) r V Pl)).size := by rw [strOfNums_size, strOfNums_size, numB_len]; omega
  have y2 : ¬ 9223372036854775807 < (strOfNums (numB (k : Int) 1)).size + (strOfNums (eyL (k : Int) r V Pl)).size := by rw [strOfNums_size, numB_len]; omega
  have y3 : ¬ 9223372036854775807 < (strOfNums (eyL (k : Int) r V Pl)).size + (strOfNums (le4 (chkN ((k : Int) :: eyL (k : Int) r V Pl)))).size := by
    have h4 : (strOfNums (le4 (chkN ((k : Int) :: eyL (k : Int) r V Pl)))).size = 4 := by rw [strOfNums_size]; rfl
    omega
  have HQ0 := hide (show r.cl.toArray[0]? = some (.int .i64 (st : Int)) by rw [← hst']; rfl)
  obtain ⟨S4, hS4⟩ : ∃ Z, strOfNums (le4 (chkN ((k : Int) :: eyL (k : Int) r V Pl))) = Z := ⟨_, rfl⟩
  rw [hS4] at HLO y3 ⊢
  obtain ⟨SE, hSE⟩ : ∃ Z, strOfNums (eyL (k : Int) r V Pl) = Z := ⟨_, rfl⟩
  rw [hSE] at hE hK hsE y2 y3 ⊢
  generalize chkN ((k : Int) :: eyL (k : Int) r V Pl) = C at *
  generalize strOfNums ((k : Int) :: eyL (k : Int) r V Pl) = SK at *
  generalize strOfNums (lyL (k : Int) r V Pl) = SL at *
  generalize strOfNums (numB (st : Int) 1) = S1 at *
  generalize strOfNums (numB (k : Int) 1) = K1 at *
  clear B hb hB hvm hpm hm9 hLV hLP hst hst' hel e1 hsE hkb hsK hS4 hSE
  rw [hg]
  generalize r.cl = rl at *
  go_enter Tryz.func19, Tryz.ntmps19
  go_wp2_with (first | refine wpList_load_mid rfl 34 (.tmp 3) rfl g 0 rfl rl _ (unhide HRG) Tryz.underlying34 rfl (unhide HSZ) ?_)
  refine (unhide HG).mono ?_
  rintro e x3 ⟨rfl, hx3⟩
  have HP3 := hide hx3
  have HX3 := hide (show Below g w x3 from (unhide HB2).1.trans (hx3.mono (unhide HB2).2))
  have HS3 := hide ((unhide HBX).below hx3 (unhide HBX).lt)
  clear hx3
  go_wp2
  refine wp_region_held_drew (S := fun w' => Blk w' g rl.toArray 34) (by kernel_rfl) (unhide HS3) ?_
  intro hS
  refine wpAnyH_takeD 0 (some 19) (.pointer (some ⟨g, 0, none⟩)) rfl rfl (by kernel_rfl) (by kernel_rfl) (by kernel_rfl) (fun _ _ _ h => h) (Or.inl ⟨by rfl, fun w hSw => by have q0 : w.cell? ⟨g, 0, none⟩ = some (.int .i64 (st : Int)) := (Blk.cell hSw 0).trans (unhide HQ0); clear hSw; go_simp⟩) hS ?_
  simp only [Act.put, List.setIfInBounds_toArray, List.set_cons_zero, List.set_cons_succ]
  refine wpAnyH_takeD 1 (some 20) (.int .i64 (st : Int)) rfl rfl (by kernel_rfl) (by kernel_rfl) (by kernel_rfl) (fun _ _ _ h => h) (Or.inl ⟨by rfl, fun w hSw => by have q0 : w.cell? ⟨g, 0, none⟩ = some (.int .i64 (st : Int)) := (Blk.cell hSw 0).trans (unhide HQ0); clear hSw; go_simp⟩) hS ?_
  simp only [Act.put, List.setIfInBounds_toArray, List.set_cons_zero, List.set_cons_succ]
  refine wpAnyH_takeD 3 (some 22) (.int .i64 (k : Int)) rfl rfl (by kernel_rfl) (by kernel_rfl) (by kernel_rfl) (fun _ _ _ h => h) (Or.inl ⟨by rfl, fun w hSw => by have q0 : w.cell? ⟨g, 0, none⟩ = some (.int .i64 (st : Int)) := (Blk.cell hSw 0).trans (unhide HQ0); clear hSw; go_simp⟩) hS ?_
  simp only [Act.put, List.setIfInBounds_toArray, List.set_cons_zero, List.set_cons_succ]
  refine wpAnyH_takeD 4 (some 23) (.agg rl.toArray) rfl rfl (by kernel_rfl) (by kernel_rfl) (by kernel_rfl) (fun _ _ _ h => h) (yieldsIf_load_mid (by rfl) 34 (.tmp 3) rfl g 0 rfl _ _ (fun w hSw => blk_range hSw) Tryz.underlying34 rfl (unhide HSZ)) hS ?_
  simp only [Act.put, List.setIfInBounds_toArray, List.set_cons_zero, List.set_cons_succ]
  refine wpAnyH_ready (rs := [2]) (by kernel_rfl) (by simp) ?_
  refine AllReadyH.cons rfl (fun K hK => ?_) AllReadyH.nil
  simp only [List.getElem_toArray, List.getElem_cons_succ, List.getElem_cons_zero]
  go_simp
  refine (unhide HNS _).mono ?_
  rintro e x4 ⟨rfl, hbA⟩
  have HP4 := hide (show Below x3.heap.size x3 x4 from ((Below.refl _ x3).drew).trans hbA)
  have HS4 := hide ((unhide HS3).below (unhide HP4) (unhide HS3).lt)
  clear hbA
  refine hK.out _ _ (unhide HS4) (fun hS => ?_)
  clear hK K
  refine wpAnyH_ready (rs := [5]) (by kernel_rfl) (by simp) ?_
  refine AllReadyH.cons rfl (fun K hK => ?_) AllReadyH.nil
  simp only [List.getElem_toArray, List.getElem_cons_succ, List.getElem_cons_zero]
  go_simp
  refine (unhide HLA _ ((unhide HP3).trans ((unhide HP4).mono (unhide HP3).size))).mono ?_
  rintro e x5 ⟨rfl, hbA⟩
  have HP5 := hide (show Below x3.heap.size x3 x5 from (unhide HP4).trans (hbA.mono (unhide HP4).size))
  have HS5 := hide ((unhide HS3).below (unhide HP5) (unhide HS3).lt)
  clear hbA
  refine hK.out _ _ (unhide HS5) (fun hS => ?_)
  clear hK K
  refine wpAnyH_takeD 6 (some 25) (.string SE) rfl rfl (by kernel_rfl) (by kernel_rfl) (by kernel_rfl) (fun _ _ _ h => h) (Or.inl ⟨by rfl, fun w hSw => by have q0 : w.cell? ⟨g, 0, none⟩ = some (.int .i64 (st : Int)) := (Blk.cell hSw 0).trans (unhide HQ0); clear hSw; go_simp⟩) hS ?_
  simp only [Act.put, List.setIfInBounds_toArray, List.set_cons_zero, List.set_cons_succ]
  refine wpAnyH_takeD 7 (some 7) (.string SE) rfl rfl (by kernel_rfl) (by kernel_rfl) (by kernel_rfl) (fun _ _ _ h => h) (Or.inl ⟨by rfl, fun w hSw => by have q0 : w.cell? ⟨g, 0, none⟩ = some (.int .i64 (st : Int)) := (Blk.cell hSw 0).trans (unhide HQ0); clear hSw; go_simp⟩) hS ?_
  simp only [Act.put, List.setIfInBounds_toArray, List.set_cons_zero, List.set_cons_succ]
  refine wpAnyH_done (by kernel_rfl) ?_ _
  have HX5 := hide (show Below g w x5 from (unhide HX3).trans ((unhide HP5).mono (Nat.le_of_lt (unhide HS3).lt)))
  have hg5 : g ≤ x5.heap.size := Nat.le_of_lt (unhide HS5).lt
  go_wp2_with fail
  refine (unhide HNK _).mono ?_
  rintro e x6 ⟨rfl, hx6⟩
  have HX6 := hide (show Below g w x6 from (unhide HX5).trans (hx6.mono hg5))
  have hg6 : g ≤ x6.heap.size := Nat.le_trans hg5 hx6.size
  clear hx6
  go_wp2_with fail
  (try rw [hK])
  refine (unhide HCK _).mono ?_
  rintro e x7 ⟨rfl, hx7⟩
  subst x7
  go_wp2_with fail
  refine (unhide HLO _).mono ?_
  rintro e x8 ⟨rfl, hx8⟩
  have HX8 := hide (show Below g w x8 from (unhide HX6).trans (hx8.mono hg6))
  clear hx8
  go_wp2
  go_ret2
  exact ⟨rfl, unhide HX8⟩
end Go.Proofs.YtclgkgaobjcifaaGreatDoor

namespace Go.Proofs.YtclgkgaobjcifaaGreatDoor
open Go.RowKit
set_option maxRecDepth 100000
/-- a row in a box of its own behind a world -/
theorem boxv (x : World) (T : TypeId) (zs cs : Array Value) (g : Nat) (w : World) (hb : Below g w x) (hg : g ≤ x.heap.size) : Blk (x.alloc (.cells zs T)) x.heap.size zs T ∧ Blk ((x.alloc (.cells zs T)).setRow x.heap.size cs) x.heap.size cs T ∧ Below x.heap.size x ((x.alloc (.cells zs T)).setRow x.heap.size cs) ∧ Below g w ((x.alloc (.cells zs T)).setRow x.heap.size cs) := by
  have h1 := Blk.new x T zs
  have h3 : Below x.heap.size x ((x.alloc (.cells zs T)).setRow x.heap.size cs) := below_setRow ((Below.refl _ x).alloc (Nat.le_refl _) _) (Nat.le_refl _) _
  exact ⟨h1, blk_setRow h1, h3, hb.trans (h3.mono hg)⟩
end Go.Proofs.YtclgkgaobjcifaaGreatDoor
