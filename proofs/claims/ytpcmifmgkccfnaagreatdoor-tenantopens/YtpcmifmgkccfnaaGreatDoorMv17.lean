import Derived.Test.YtpcmifmgkccfnaaGreatDoorMv16
import Derived.Test.YtpcmifmgkccfnaaGreatDoorMv15
import Derived.Test.YtpcmifmgkccfnaaGreatDoorMv06
import Derived.Test.YtpcmifmgkccfnaaGreatDoorMv14
namespace Go.Proofs.YtpcmifmgkccfnaaGreatDoor
open Go.RowKit
theorem below_growJ {B : Nat} {w0 w : World} (h : Below B w0 w) (hB : B ≤ w.heap.size) (os : Array Obj) : Below B w0 (Go.Sort.grow w os) :=
  ⟨h.os, h.tape, h.output, by have := h.size; simp [Go.Sort.grow]; omega, fun k hk => by
    have : (Go.Sort.grow w os).heap[k]? = w.heap[k]? := by
      show (w.heap ++ os)[k]? = _
      rw [Array.getElem?_append_left (by omega)]
    rw [this]
    exact h.block k hk⟩
theorem holds_blk {w : World} {g : Nat} {L : List Int} (h : Blk w g (L.map (Value.int .i64)).toArray 3) : Go.Sort.Holds (Value.int .i64) w g 0 L.toArray := fun j hj => by
  have hj' : j < L.length := by simpa using hj
  refine ⟨?_, h.frozen _⟩
  rw [Nat.zero_add, h.cell]
  simp [hj']
set_option maxRecDepth 100000 in
set_option maxHeartbeats 2000000 in
theorem refusal_any (w : World) (p : Option Addr) (c : Nat) (l : List Wr1) (n : Nat) (hn : n = l.length) (hl : Wls w p l) (size : Int) :
    Calls Tryz.prog 94 #[.slice p n c, .int .i64 size] w fun e w' => e = .returned (.int .i64 (refE l size)) ∧ Below w.heap.size w w' := by
  have HB0 := hide ((Below.refl w.heap.size w).alloc (Nat.le_refl _) (Obj.cells #[.int .i64 size] 3))
  by_cases h16 : 16 < n
  · have hr : refE l size = 50 := by rw [refE, if_pos (by omega)]
    rw [hr]
    have h16' : (16 : Int) < (n : Int) := by omega
    clear hr hl hn
    go_enter Tryz.func94, Tryz.ntmps94
    go_wp2
    go_ret
    exact ⟨rfl, unhide HB0⟩
  · have HR := hide (show refE l size = if l.any (freeP size) then 52 else if ¬ (secs l).Nodup then 51 else if l.any longP then 42 else 0 from by rw [refE, if_neg (by omega)])
    have eg1 : ∀ args w, (callFunc 141 args).run Tryz.prog w = .ok (.enter 141 args) w := enters_of Tryz.func141 (by kernel_rfl) rfl
    have eg2 : ∀ args w, (callFunc 146 args).run Tryz.prog w = .ok (.enter 146 args) w := enters_of Tryz.func146 (by kernel_rfl) rfl
    obtain ⟨x0, hx0⟩ : ∃ x, x = w.alloc (Obj.cells #[.int .i64 size] 3) := ⟨_, rfl⟩
    have hs0 : x0.heap.size = w.heap.size + 1 := by rw [hx0]; simp
    rw [← hx0] at HB0
    have hc0 : x0.cell? ⟨w.heap.size, 0, none⟩ = some (.int .i64 size) := by rw [hx0, (Blk.new w 3 #[.int .i64 size]).cell 0]; rfl
    have hl0 : Wls x0 p l := hl.below (unhide HB0)
    have HC1 := hide (contf_any x0 p c l n hn hl0 (by omega) _ _ (freeP size) eg1 (pred1_any size w.heap.size x0 (by omega) hc0))
    have HL := hide hl
    have HN := hide hn
    have HZ := hide hs0
    have hln : l.length ≤ 1000000 := by omega
    have HLN := hide hln
    have h16' : ¬ (16 : Int) < (n : Int) := by omega
    clear hl hn hs0 hc0 hl0 hln eg1
    have E2 := hide eg2
    clear eg2
    go_enter Tryz.func94, Tryz.ntmps94
    go_wp2_with fail
    rw [← hx0]
    replace hx0 := hide hx0
    refine (unhide HC1).mono ?_
    rintro e x1 ⟨rfl, hb1⟩
    have HB1 := hide ((unhide HB0).trans (hb1.mono (by have := unhide HZ; omega)))
    clear hb1 HC1
    cases h1 : l.any (freeP size) with
    | true =>
      have hr : refE l size = 52 := by rw [unhide HR, h1]; rfl
      have HRR := hide hr
      clear hr h1
      go_wp2
      go_ret
      exact ⟨(congrArg (fun z => Ending.returned (.int .i64 z)) (unhide HRR)).symm, unhide HB1⟩
    | false =>
      have HR2 := hide (show refE l size = if ¬ (secs l).Nodup then 51 else if l.any longP then 42 else 0 from by rw [unhide HR, h1]; rfl)
      have HC2 := hide (sectorsOf_any x1 p c l n (unhide HN) ((unhide HL).below (unhide HB1)) (unhide HLN))
      clear HR h1
      go_wp2_with fail
      refine (unhide HC2).mono ?_
      rintro e x2 ⟨rfl, hB2, hb2⟩
      have HB2 := hide ((unhide HB1).trans (hb2.mono (unhide HB1).size))
      have hH2 := holds_blk hB2
      have hlt2 : x1.heap.size < x2.heap.size := hB2.lt
      have hsl : (secs l).length = n := by rw [unhide HN]; simp [secs]
      have hcS := Tryz.slices_Sort_int x1.heap.size 0 n (secs l) x2 hH2 hlt2 (by omega)
      rw [hsl] at hcS
      have HCS := hide hcS
      have HH2 := hide (And.intro hH2 hlt2)
      have HSL := hide hsl
      have hge : w.heap.size ≤ x1.heap.size := (unhide HB1).size
      have HGE := hide hge
      clear hB2 hb2 hH2 hlt2 hcS HC2 hsl hge
      go_wp2_with fail
      refine (unhide HCS).mono ?_
      rintro e x3 ⟨rfl, k3, os3, hx3⟩
      have hms : ((secs l).mergeSort fun x y => decide (x ≤ y)).length = n := by rw [(List.mergeSort_perm _ _).length_eq, unhide HSL]
      have hH3 : Go.Sort.Holds (Value.int .i64) x3 x1.heap.size 0 ((secs l).mergeSort fun x y => decide (x ≤ y)).toArray := by
        rw [hx3]
        refine Go.Sort.holds_grow _ _ _ _ _ _ ?_ (Go.Sort.holds_putRow _ _ _ _ (secs l).toArray _ (unhide HH2).1 (by simp [hms, unhide HSL]))
        have : (Go.Sort.putRow (Value.int .i64) (Go.Sort.ahead x2 k3) x1.heap.size 0 ((secs l).mergeSort fun x y => decide (x ≤ y)).toArray).heap.size = x2.heap.size := by simp [Go.Sort.putRow, Go.Sort.mapBlock, Go.Sort.ahead]
        rw [this]
        exact (unhide HH2).2
      have hb3 : Below w.heap.size w x3 := by
        rw [hx3]
        refine below_growJ (Go.Lib.below_putRow (unhide HB2) (unhide HGE)) ?_ _
        have : (Go.Sort.putRow (Value.int .i64) (Go.Sort.ahead x2 k3) x1.heap.size 0 ((secs l).mergeSort fun x y => decide (x ≤ y)).toArray).heap.size = x2.heap.size := by simp [Go.Sort.putRow, Go.Sort.mapBlock, Go.Sort.ahead]
        rw [this]
        exact (unhide HB2).size
      have hcm := compact_nodup (secs l)
      have hcC := Tryz.slices_Compact_int x1.heap.size 0 n ((secs l).mergeSort fun x y => decide (x ≤ y)) x3 hH3 (by omega) (by omega)
      rw [hms] at hcC
      rw [unhide HSL] at hcm
      generalize ((secs l).mergeSort fun x y => decide (x ≤ y)) = S at *
      have HCC := hide hcC
      have HCM := hide hcm
      have HB3 := hide hb3
      clear hx3 hms hH3 hb3 hcC hcm HCS
      go_wp2_with fail
      refine (unhide HCC).mono ?_
      rintro e x4 ⟨rfl, q4, hx4⟩
      have HB4 := hide (show Below w.heap.size w x4 from by rw [hx4]; exact Go.Lib.below_putRow (unhide HB3) (unhide HGE))
      have hcm := unhide HCM
      generalize (Lib.compact S).length = m at *
      clear hx4 HCC HCM
      by_cases hd : m < n
      · have hr : refE l size = 51 := by rw [unhide HR2, if_pos (hcm.1 hd)]
        have HRR := hide hr
        have hd' : (m : Int) < (n : Int) := by omega
        clear hr hcm
        go_wp2
        go_ret
        exact ⟨(congrArg (fun z => Ending.returned (.int .i64 z)) (unhide HRR)).symm, unhide HB4⟩
      · have HR3 := hide (show refE l size = if l.any longP then 42 else 0 from by rw [unhide HR2, if_neg (fun q => hd (hcm.2 q))])
        have HC3 := hide (contf_any x4 p c l n (unhide HN) ((unhide HL).below (unhide HB4)) (unhide HLN) _ _ longP (unhide E2) (pred2_any x4))
        have hd' : ¬ (m : Int) < (n : Int) := by omega
        clear hcm HR2
        go_wp2_with fail
        refine (unhide HC3).mono ?_
        rintro e x5 ⟨rfl, hb5⟩
        have HB5 := hide ((unhide HB4).trans (hb5.mono (unhide HB4).size))
        clear hb5 HC3
        cases h5 : l.any longP with
        | true =>
          have hr : refE l size = 42 := by rw [unhide HR3, h5]; rfl
          have HRR := hide hr
          clear hr h5
          go_wp2
          go_ret
          exact ⟨(congrArg (fun z => Ending.returned (.int .i64 z)) (unhide HRR)).symm, unhide HB5⟩
        | false =>
          have hr : refE l size = 0 := by rw [unhide HR3, h5]; rfl
          have HRR := hide hr
          clear hr h5
          go_wp2
          go_ret
          exact ⟨(congrArg (fun z => Ending.returned (.int .i64 z)) (unhide HRR)).symm, unhide HB5⟩
end Go.Proofs.YtpcmifmgkccfnaaGreatDoor

namespace Go.Proofs.YtpcmifmgkccfnaaGreatDoor
open Go.RowKit
theorem wrv_take : ∀ (l : List Wr1) (k : Nat), (wrv l).take (k * 2) = wrv (l.take k)
  | [], k => by simp [wrv]
  | p :: r, 0 => by simp [wrv]
  | p :: r, k + 1 => by
    have := wrv_take r k
    rw [show (k + 1) * 2 = k * 2 + 1 + 1 by omega]
    simp [wrv, this]
theorem wrv_drop : ∀ (l : List Wr1) (k : Nat), (wrv l).drop (k * 2) = wrv (l.drop k)
  | [], k => by simp [wrv]
  | p :: r, 0 => by simp [wrv]
  | p :: r, k + 1 => by
    have := wrv_drop r k
    rw [show (k + 1) * 2 = k * 2 + 1 + 1 by omega]
    simp [wrv, this]
theorem wrv_one : ∀ (l : List Wr1) (v : Value), v ∈ wrv l → v.oneCell' = true
  | p :: r, v, h => by
    simp only [wrv, List.mem_cons] at h
    rcases h with rfl | rfl | h
    · rfl
    · rfl
    · exact wrv_one r v h
theorem run_copy_rowK (w : World) (dT sT ty elem : TypeId) (k g o dLen dCap : Nat) (a : Addr) (sLen sCap : Nat) (cur : Array Value) (t : TypeId) (cs : List Value) (n : Nat)
    (hu : Tryz.prog.underlying dT = some (.slice elem)) (hs : (Tryz.prog.info? elem).map (·.size) = some k)
    (hg : w.heap[g]? = some (.cells cur t (0, 0))) (hn : n = Nat.min sLen dLen) (hc : cs.length = n * k)
    (hsrc : ∀ j v, cs[j]? = some v → w.cell? (a.add j) = some v) (hfit : o + cs.length ≤ cur.size) (h1 : ∀ v ∈ cs, v.oneCell' = true) :
    (Builtin.copy_ #[dT, sT] ty #[.slice (some ⟨g, o, none⟩) dLen dCap, .slice (some a) sLen sCap]).run Tryz.prog w =
      .ok (goInt n) (w.setRow g (cur.toList.take o ++ cs ++ cur.toList.drop (o + cs.length)).toArray) := by
  have hl := run_loadCells_list (P := Tryz.prog) w a cs hsrc
  have hst := run_storeCells_at Tryz.prog g o t cs 0 cur w hg (by simpa using hfit) h1
  cases hq : Tryz.prog.info? elem with
  | none => simp [hq] at hs
  | some i =>
    have hi : i.size = k := by simpa [hq] using hs
    have hm : Nat.min sLen dLen * k = cs.length := by rw [← hn, hc]
    simp [Builtin.copy_, run_underlying hu, Builtin.lenOf, Builtin.firstCells, sizeOf, typeInfo, hq, hi, hm, hl, hst, hn]
theorem run_copy_zero (w : World) (dT sT ty elem : TypeId) (k g o dLen dCap : Nat) (p : Option Addr) (sCap : Nat) (hu : Tryz.prog.underlying dT = some (.slice elem)) (hs : (Tryz.prog.info? elem).map (·.size) = some k) :
    (Builtin.copy_ #[dT, sT] ty #[.slice (some ⟨g, o, none⟩) dLen dCap, .slice p 0 sCap]).run Tryz.prog w = .ok (goInt 0) w := by
  have hl : ∀ a, (loadCells a 0).run Tryz.prog w = .ok #[] w := fun a => rfl
  cases hq : Tryz.prog.info? elem with
  | none => simp [hq] at hs
  | some i =>
    cases p <;> simp [Builtin.copy_, run_underlying hu, Builtin.lenOf, Builtin.firstCells, sizeOf, typeInfo, hq, storeCells, hl]
theorem infoWs : (Tryz.prog.info? 111).map (·.size) = some 2 := by kernel_rfl
theorem wp_copy_w {o : Oper} {a : Act} {K : Act → World → Prop} {Q : Exit → Act → World → Prop} (d x : Operand) (hop : o.op = .call { callee := .builtin .copy, args := #[d, x], argTypes := #[61, 61] })
    {wr : World} {gd no : Nat} {D src : List Wr1} (hB : Blk wr gd (wrv D).toArray 111) (k : Nat) (hkl : k = src.length) (hfit : no + k ≤ D.length) (dLen dCap sLen sCap : Nat) (ad : Addr) (hd : a.eval d = .slice (some ⟨gd, no * 2, none⟩) dLen dCap) (hs : a.eval x = .slice (some ad) sLen sCap) (hk : k = Nat.min sLen dLen)
    (hsrc : ∀ j v, (wrv src)[j]? = some v → wr.cell? (ad.add j) = some v) (h : ∀ W', Blk W' gd (wrv (D.take no ++ src ++ D.drop (no + k))).toArray 111 → Only (fun q => q = gd) wr W' → K (a.put o.dst (.int .i64 (k : Int))) W') : o.wp Tryz.prog a wr K Q := by
  have hl : (wrv src).length = k * 2 := by rw [wrv_len, hkl]
  have hrun := run_copy_rowK wr 61 61 o.type 111 2 gd (no * 2) dLen dCap ad sLen sCap (wrv D).toArray 111 (wrv src) k Tryz.underlying61 infoWs hB hk hl hsrc (by rw [hl]; simp [wrv_len]; omega) (wrv_one src)
  have e : ((wrv D).toArray.toList.take (no * 2) ++ wrv src ++ (wrv D).toArray.toList.drop (no * 2 + (wrv src).length)) = wrv (D.take no ++ src ++ D.drop (no + k)) := by
    rw [hl, show no * 2 + k * 2 = (no + k) * 2 by omega]
    simp only [wrv_take, wrv_drop, wrv_app]
  rw [e] at hrun
  have hW := h _ (setRow_heap wr gd (wrv D).toArray _ 111 (0, 0) hB) (setRow_only wr gd _)
  unfold Oper.wp
  simp only [execOp, hop]
  simp only [resolve, invoke, builtin, Sem.run_bind, Sem.run_pure, Result.andThen_ok, List.map_toArray, List.map_cons, List.map_nil, hd, hs, hrun]
  exact hW
theorem wpList_copy_w {ops : Array Oper} {rest : List Oper} {o : Oper} {a : Act} {Q : Exit → Act → World → Prop} (hgd : o.guard = none) (d x : Operand) (hop : o.op = .call { callee := .builtin .copy, args := #[d, x], argTypes := #[61, 61] })
    {wr : World} {gd no : Nat} {D src : List Wr1} (hB : Blk wr gd (wrv D).toArray 111) (k : Nat) (hkl : k = src.length) (hfit : no + k ≤ D.length) (dLen dCap sLen sCap : Nat) (ad : Addr) (hd : a.eval d = .slice (some ⟨gd, no * 2, none⟩) dLen dCap) (hs : a.eval x = .slice (some ad) sLen sCap) (hk : k = Nat.min sLen dLen)
    (hsrc : ∀ j v, (wrv src)[j]? = some v → wr.cell? (ad.add j) = some v) (h : ∀ W', Blk W' gd (wrv (D.take no ++ src ++ D.drop (no + k))).toArray 111 → Only (fun q => q = gd) wr W' → wpList Tryz.prog ops Q rest (a.put o.dst (.int .i64 (k : Int))) W') : wpList Tryz.prog ops Q (o :: rest) a wr :=
  wpList_plain hgd fun _ hK => wp_copy_w d x hop hB k hkl hfit dLen dCap sLen sCap ad hd hs hk hsrc fun W' h1 h2 => hK _ _ (h W' h1 h2)
theorem wpList_copy_z {ops : Array Oper} {rest : List Oper} {o : Oper} {a : Act} {Q : Exit → Act → World → Prop} (hgd : o.guard = none) (d x : Operand) (hop : o.op = .call { callee := .builtin .copy, args := #[d, x], argTypes := #[61, 61] })
    {wr : World} (gd no dLen dCap sCap : Nat) (p : Option Addr) (hd : a.eval d = .slice (some ⟨gd, no, none⟩) dLen dCap) (hs : a.eval x = .slice p 0 sCap) (h : wpList Tryz.prog ops Q rest (a.put o.dst (.int .i64 0)) wr) : wpList Tryz.prog ops Q (o :: rest) a wr :=
  wpList_plain hgd fun K hK => by
    have hrun := run_copy_zero wr 61 61 o.type 111 2 gd no dLen dCap p sCap Tryz.underlying61 infoWs
    have hW := hK _ _ h
    unfold Oper.wp
    simp only [execOp, hop]
    simp only [resolve, invoke, builtin, Sem.run_bind, Sem.run_pure, Result.andThen_ok, List.map_toArray, List.map_cons, List.map_nil, hd, hs, hrun]
    exact hW
theorem wls_src {w : World} {g o : Nat} {l : List Wr1} (h : Wls w (some ⟨g, o, none⟩) l) (m : Nat) : ∀ j v, (wrv (l.take m))[j]? = some v → w.cell? (Addr.add ⟨g, o, none⟩ j) = some v := fun j v hv => by
  have hj := (List.getElem?_eq_some_iff.1 hv).1
  rw [wrv_len, List.length_take] at hj
  have hq : j / 2 < (l.take m).length := by rw [List.length_take]; omega
  have hql : j / 2 < l.length := by omega
  obtain ⟨g', o', e, _, h0, h1⟩ := h (j / 2) hql
  cases e
  obtain ⟨a1, a2⟩ := wrv_at (l.take m) (j / 2) hq
  have eg : (l.take m).getD (j / 2) wr0 = l.getD (j / 2) wr0 := by
    rw [List.getD_eq_getElem?_getD, List.getD_eq_getElem?_getD, List.getElem?_take, if_pos (by rw [List.length_take] at hq; omega)]
  rw [eg] at a1 a2
  rw [Addr.add_mid]
  by_cases hm : j % 2 = 0
  · rw [show j / 2 * 2 = j by omega] at a1 h0
    rw [h0, ← a1, hv]
  · rw [show j / 2 * 2 + 1 = j by omega] at a2
    rw [show o + j / 2 * 2 + 1 = o + j by omega] at h1
    rw [h1, ← a2, hv]
theorem rep_ok_z (w : World) : Calls Tryz.prog 46 #[.string ⟨#[0]⟩, .int .i64 256] w fun e w' => e = .returned (.string zero256) ∧ Below w.heap.size w w' := by
  have h := Tryz.strings_Repeat ⟨#[0]⟩ 256 w (by omega) (by show 1 * 256 ≤ _; omega)
  rw [rep_zero4] at h
  exact h
def halfW (x : Wr1) (n m : Nat) : List Wr1 := List.replicate n x ++ List.replicate (m - n) wr0
theorem halfW_len (x : Wr1) (n m : Nat) (h : n ≤ m) : (halfW x n m).length = m := by simp [halfW]; omega
theorem halfW_step (x : Wr1) (n k m : Nat) : (halfW x n m).take n ++ List.replicate k x ++ (halfW x n m).drop (n + k) = halfW x (n + k) m := by
  have e1 : (halfW x n m).take n = List.replicate n x := by simp [halfW]
  have e2 : (halfW x n m).drop (n + k) = List.replicate (m - (n + k)) wr0 := by
    simp only [halfW]
    rw [List.drop_append, List.drop_of_length_le (by simp), List.nil_append, List.drop_replicate]
    congr 1
    simp
    omega
  rw [e1, e2, halfW, List.replicate_append_replicate]
def RqI (w : World) (x : Wr1) (n m : Nat) (wr : World) : Prop := Blk wr w.heap.size (wrv (halfW x n m)).toArray 111 ∧ Below w.heap.size w wr
theorem rep_src {w : World} {g o : Nat} {x : Wr1} {k : Nat} (h : ∀ j, j < k → w.cell? ⟨g, o + j * 2, none⟩ = some (.int .i64 x.1) ∧ w.cell? ⟨g, o + j * 2 + 1, none⟩ = some (.string x.2)) : ∀ j v, (wrv (List.replicate k x))[j]? = some v → w.cell? (Addr.add ⟨g, o, none⟩ j) = some v := fun j v hv => by
  have hj := (List.getElem?_eq_some_iff.1 hv).1
  rw [wrv_len, List.length_replicate] at hj
  have hq : j / 2 < (List.replicate k x).length := by rw [List.length_replicate]; omega
  obtain ⟨a1, a2⟩ := wrv_at _ (j / 2) hq
  have eg : (List.replicate k x).getD (j / 2) wr0 = x := by
    rw [List.getD_eq_getElem?_getD, List.getElem?_replicate, if_pos (by omega)]
    rfl
  rw [eg] at a1 a2
  obtain ⟨h0, h1⟩ := h (j / 2) (by omega)
  rw [Addr.add_mid]
  by_cases hm : j % 2 = 0
  · rw [show j / 2 * 2 = j by omega] at a1 h0
    rw [h0, ← a1, hv]
  · rw [show j / 2 * 2 + 1 = j by omega] at a2
    rw [show o + j / 2 * 2 + 1 = o + j by omega] at h1
    rw [h1, ← a2, hv]
set_option maxRecDepth 100000 in
set_option maxHeartbeats 2000000 in
theorem wrepeat_any (x : Wr1) (m : Nat) (h1 : 1 ≤ m) (h2 : m ≤ 1024) (w : World) (g0 : Nat) (hg0 : g0 < w.heap.size) (hc0 : w.cell? ⟨g0, 0, none⟩ = some (.int .i64 x.1)) (hc1 : w.cell? ⟨g0, 1, none⟩ = some (.string x.2)) (mi : Int) (hmi : mi = (m : Int)) :
    Calls Tryz.prog 147 #[.slice (some ⟨g0, 0, none⟩) 1 1, .int .i64 mi] w fun e w' => e = .returned (.slice (some ⟨w.heap.size, 0, none⟩) m m) ∧ Blk w' w.heap.size (wrv (List.replicate m x)).toArray 111 ∧ Below w.heap.size w w' := by
  subst hmi
  have hmk := run_make_w m (by omega) w
  have X0 := hide (show RqI w x 0 m (w.alloc (.cells (wrv (List.replicate m wr0)).toArray 111)) from ⟨by simpa [halfW] using Blk.new w 111 (wrv (List.replicate m wr0)).toArray, (Below.refl _ _).alloc (Nat.le_refl _) _⟩)
  generalize hx2 : w.alloc (.cells (wrv (List.replicate m wr0)).toArray 111) = x2 at *
  clear hx2
  have HC := hide (And.intro hc0 hc1)
  have HM := hide hmk
  clear hc0 hc1 hmk
  go_enter Tryz.func147, Tryz.ntmps147
  go_wp2_with fail
  refine (Tryz.bits_Mul 1 m (by omega) (by omega) w).mono ?_
  rintro ev x1 ⟨rfl, rfl⟩
  rw [show (1 * m / 18446744073709551616 : Nat) = 0 by omega, show (1 * m % 18446744073709551616 : Nat) = m by omega]
  have hmk := unhide HM
  have wv : IntKind.i64.wrap (m : Int) = (m : Int) := wrapI_eq _ (by omega) (by omega)
  have HX := hide (show ∀ j, j < 1 → x2.cell? ⟨g0, 0 + j * 2, none⟩ = some (.int .i64 x.1) ∧ x2.cell? ⟨g0, 0 + j * 2 + 1, none⟩ = some (.string x.2) from fun j hj => by
    have hj0 : j = 0 := by omega
    subst hj0
    exact ⟨by rw [(unhide X0).2.cell (p := ⟨g0, 0 + 0 * 2, none⟩) hg0]; exact (unhide HC).1, by rw [(unhide X0).2.cell (p := ⟨g0, 0 + 0 * 2 + 1, none⟩) hg0]; exact (unhide HC).2⟩)
  go_wp2_with (refine wpList_copy_w rfl (.tmp 31) (.tmp 32) rfl (no := 0) (src := List.replicate 1 x) (unhide X0).1 1 rfl (by rw [halfW_len _ _ _ (by omega)]; omega) m m 1 1 ⟨g0, 0, none⟩ rfl rfl (by show 1 = min 1 m; omega) (rep_src (unhide HX)) ?_; intro W1 hI1 hO1; have X1 := hide (show RqI x1 x 1 m W1 from ⟨by have := halfW_step x 0 1 m; simp only [Nat.zero_add] at this hI1; rw [this] at hI1; exact hI1, (unhide X0).2.trans (hO1.below (unhide X0).2.size (fun k hk q => by have q : k = x1.heap.size := q; omega))⟩); clear hI1 hO1)
  clear X0 HX HC HM hmk
  go_loopw [8] (fun i wr => ∃ n : Nat, 1 ≤ n ∧ n ≤ m ∧ i = .int .i64 (n : Int) ∧ RqI x1 x n m wr) (fun i _ => m - (intOf i).toNat)
  case atStart => exact ⟨1, by omega, by omega, rfl, unhide X1⟩
  case round =>
    obtain ⟨n, hn1, hn, rfl, hI⟩ := hrel
    have XI := hide hI
    clear hI X1
    by_cases hnm : n < m
    · obtain ⟨k, hk⟩ : ∃ k, k = Nat.min n (m - n) := ⟨_, rfl⟩
      have hk1 : 1 ≤ k := by rw [hk]; simp only [Nat.min_def]; split <;> omega
      have hk2 : k ≤ n := by rw [hk]; exact Nat.min_le_left _ _
      have hk3 : n + k ≤ m := by have : k ≤ m - n := by rw [hk]; exact Nat.min_le_right _ _
                                 omega
      have HK := hide hk
      clear hk
      have i0 : 0 ≤ (n : Int) := by omega
      have i1 : (n : Int) ≤ (m : Int) := by omega
      have i2 : ¬ m = n := by omega
      have hw1 : IntKind.i64.wrap ((n : Int) + (k : Int)) = (n : Int) + (k : Int) := wrapI_eq _ (by omega) (by omega)
      go_wp2_with fail
      refine wp_region_held_drew (S := fun _ => True) (by kernel_rfl) trivial ?_
      intro hS
      refine wpAnyH_takeD 0 (some 38) (.int .i64 (n : Int)) rfl rfl (by kernel_rfl) (by kernel_rfl) (by kernel_rfl) (fun _ _ _ h => h) (Or.inl ⟨by rfl, fun w hSw => by go_simp⟩) hS ?_
      simp only [Act.put, List.setIfInBounds_toArray, List.set_cons_zero, List.set_cons_succ]
      refine wpAnyH_takeD 1 (some 39) (.slice (some ⟨x1.heap.size, 0, none⟩) m m) rfl rfl (by kernel_rfl) (by kernel_rfl) (by kernel_rfl) (fun _ _ _ h => h) (Or.inl ⟨by rfl, fun w hSw => by go_simp⟩) hS ?_
      simp only [Act.put, List.setIfInBounds_toArray, List.set_cons_zero, List.set_cons_succ]
      refine wpAnyH_takeD 2 (some 40) (.int .i64 (n : Int)) rfl rfl (by kernel_rfl) (by kernel_rfl) (by kernel_rfl) (fun _ _ _ h => h) (Or.inl ⟨by rfl, fun w hSw => by go_simp⟩) hS ?_
      simp only [Act.put, List.setIfInBounds_toArray, List.set_cons_zero, List.set_cons_succ]
      refine wpAnyH_takeD 3 (some 41) (.slice (some ⟨x1.heap.size, n * 2, none⟩) (m - n) (m - n)) rfl rfl (by kernel_rfl) (by kernel_rfl) (by kernel_rfl) (fun _ _ _ h => h) (Or.inl ⟨by rfl, fun w hSw => by go_simp⟩) hS ?_
      simp only [Act.put, List.setIfInBounds_toArray, List.set_cons_zero, List.set_cons_succ]
      refine wpAnyH_takeD 4 (some 42) (.slice (some ⟨x1.heap.size, 0, none⟩) m m) rfl rfl (by kernel_rfl) (by kernel_rfl) (by kernel_rfl) (fun _ _ _ h => h) (Or.inl ⟨by rfl, fun w hSw => by go_simp⟩) hS ?_
      simp only [Act.put, List.setIfInBounds_toArray, List.set_cons_zero, List.set_cons_succ]
      refine wpAnyH_takeD 5 (some 43) (.int .i64 (n : Int)) rfl rfl (by kernel_rfl) (by kernel_rfl) (by kernel_rfl) (fun _ _ _ h => h) (Or.inl ⟨by rfl, fun w hSw => by go_simp⟩) hS ?_
      simp only [Act.put, List.setIfInBounds_toArray, List.set_cons_zero, List.set_cons_succ]
      refine wpAnyH_takeD 6 (some 44) (.slice (some ⟨x1.heap.size, 0, none⟩) n m) rfl rfl (by kernel_rfl) (by kernel_rfl) (by kernel_rfl) (fun _ _ _ h => h) (Or.inl ⟨by rfl, fun w hSw => by go_simp⟩) hS ?_
      simp only [Act.put, List.setIfInBounds_toArray, List.set_cons_zero, List.set_cons_succ]
      refine wpAnyH_ready (rs := [7]) (by kernel_rfl) (by simp) ?_
      refine AllReadyH.cons rfl (fun K hK => ?_) AllReadyH.nil
      simp only [List.getElem_toArray, List.getElem_cons_succ, List.getElem_cons_zero]
      refine wp_copy_w (.tmp 41) (.tmp 44) rfl (no := n) (src := List.replicate k x) (show Blk wr.drew x1.heap.size (wrv (halfW x n m)).toArray 111 from (unhide XI).1) k (by simp) (by rw [halfW_len _ _ _ hn]; exact hk3) (m - n) (m - n) n m ⟨x1.heap.size, 0, none⟩ rfl rfl (unhide HK) (rep_src (fun j hj => by
        obtain ⟨a1, a2⟩ := wls_blk (unhide XI).1 j (by rw [halfW_len _ _ _ hn]; omega) |>.elim fun g h => h.elim fun o h => by
          obtain ⟨e, _, h0, h1⟩ := h
          cases e
          exact And.intro h0 h1
        have eg : (halfW x n m).getD j wr0 = x := by
          rw [halfW, List.getD_eq_getElem?_getD, List.getElem?_append_left (by simp; omega), List.getElem?_replicate, if_pos (by omega)]
          rfl
        rw [eg] at a1 a2
        exact ⟨a1, a2⟩)) ?_
      intro W2 hI2 hO2
      have X2 := hide (show RqI x1 x (n + k) m W2 from ⟨by rw [halfW_step] at hI2; exact hI2, (unhide XI).2.drew.trans (hO2.below (unhide XI).2.size (fun k hk q => by have q : k = x1.heap.size := q; omega))⟩)
      clear hI2 hO2
      refine hK.out _ _ trivial (fun hS => ?_)
      clear hK K
      simp only [Act.put, List.setIfInBounds_toArray, List.set_cons_zero, List.set_cons_succ]
      refine wpAnyH_takeD 8 (some 46) (.int .i64 ((n : Int) + (k : Int))) rfl rfl (by kernel_rfl) (by kernel_rfl) (by kernel_rfl) (fun _ _ _ h => h) (Or.inl ⟨by rfl, fun w hSw => by go_simp⟩) hS ?_
      simp only [Act.put, List.setIfInBounds_toArray, List.set_cons_zero, List.set_cons_succ]
      refine wpAnyH_takeD 9 (some 8) (.int .i64 ((n : Int) + (k : Int))) rfl rfl (by kernel_rfl) (by kernel_rfl) (by kernel_rfl) (fun _ _ _ h => h) (Or.inl ⟨by rfl, fun w hSw => by go_simp⟩) hS ?_
      simp only [Act.put, List.setIfInBounds_toArray, List.set_cons_zero, List.set_cons_succ]
      refine wpAnyH_done (by kernel_rfl) ?_ _
      clear hS
      go_wp2
      go_roundw
      case rel => exact ⟨n + k, by omega, by omega, by go_num, unhide X2⟩
      case measure => simp [intOf]; omega
    · obtain rfl : n = m := by omega
      clear hnm
      go_wp2
      go_ret
      refine ⟨rfl, ?_, (unhide XI).2⟩
      have := (unhide XI).1
      simpa [halfW] using this
/-- A list filled up to sixteen. -/
def fillW : Wr1 := (18, zero256)
def filled (l : List Wr1) : List Wr1 := l ++ List.replicate (16 - l.length) fillW
theorem filled_len (l : List Wr1) (h : l.length ≤ 16) : (filled l).length = 16 := by simp [filled]; omega
theorem filled_eq (l : List Wr1) (n : Nat) (hn : n = l.length) : (List.replicate 16 fillW).take 0 ++ l ++ (List.replicate 16 fillW).drop (0 + n) = filled l := by
  rw [List.take_zero, List.nil_append, List.drop_replicate, Nat.zero_add, hn, filled]
theorem wrepC (w : World) (g : Nat) (hB : Blk w g #[.int .i64 18, .string zero256] 111) : Calls Tryz.prog 147 #[.slice (some ⟨g, 0, none⟩) 1 1, .int .i64 16] w fun e w' => e = .returned (.slice (some ⟨w.heap.size, 0, none⟩) 16 16) ∧ Blk w' w.heap.size (wrv (List.replicate 16 fillW)).toArray 111 ∧ Below w.heap.size w w' :=
  wrepeat_any fillW 16 (by decide) (by decide) w g hB.lt (hB.cell 0) (hB.cell 1) 16 rfl
set_option maxRecDepth 100000 in
set_option maxHeartbeats 2000000 in
theorem filledUp_any (w : World) (p : Option Addr) (c : Nat) (l : List Wr1) (n : Nat) (hn : n = l.length) (hl : Wls w p l) (h16 : n ≤ 16) :
    Calls Tryz.prog 97 #[.slice p n c] w fun e w' => ∃ g, w.heap.size ≤ g ∧ e = .returned (.slice (some ⟨g, 0, none⟩) 16 16) ∧ Blk w' g (wrv (filled l)).toArray 111 ∧ Below w.heap.size w w' := by
  have hrep := rep_ok_z
  have HRP := hide (hrep w)
  have HL := hide hl
  have HN := hide hn
  have HWC := hide wrepC
  obtain ⟨z, hz⟩ : ∃ z, zero256 = z := ⟨_, rfl⟩
  rw [hz] at HRP HWC
  have HZ := hide hz
  clear hrep hl hn hz
  go_enter Tryz.func97, Tryz.ntmps97
  go_wp2_with fail
  refine (unhide HRP).mono ?_
  rintro e x1 ⟨rfl, hb1⟩
  obtain ⟨x2, hx2⟩ : ∃ x, x = (x1.alloc (Obj.cells #[.int .i64 18, .string z] 111)).alloc (Obj.cells #[.int .i64 18, .string z] 111) := ⟨_, rfl⟩
  have hb2 : Below w.heap.size w x2 := by rw [hx2]; exact (hb1.alloc hb1.size _).alloc (by have := hb1.size; simp; omega) _
  have hB2 : Blk x2 (x1.heap.size + 1) #[.int .i64 18, .string z] 111 := by
    rw [hx2]
    have := Blk.new (x1.alloc (Obj.cells #[.int .i64 18, .string z] 111)) 111 #[.int .i64 18, .string z]
    simpa using this
  have HB2 := hide (And.intro hb2 hB2)
  clear hb1 hb2 hB2
  go_wp2_with fail
  rw [← hx2]
  replace hx2 := hide hx2
  refine (unhide HWC _ _ (unhide HB2).2).mono ?_
  rintro e x3 ⟨rfl, hB3, hb3⟩
  have hge : w.heap.size ≤ x2.heap.size := (unhide HB2).1.size
  have hb3' : Below w.heap.size w x3 := (unhide HB2).1.trans (hb3.mono hge)
  have HB3 := hide (And.intro hB3 (And.intro hb3' hge))
  have HL3 := hide ((unhide HL).below hb3')
  obtain ⟨g, hg⟩ : ∃ g, x2.heap.size = g := ⟨_, rfl⟩
  rw [hg] at HB3 ⊢
  clear hB3 hb3 hb3' hg hge HB2
  obtain ⟨D, hD⟩ : ∃ D, List.replicate 16 fillW = D := ⟨_, rfl⟩
  rw [hD] at HB3
  have hDl : D.length = 16 := by rw [← hD, List.length_replicate]
  have HD := hide hD
  clear hD
  by_cases h0 : n = 0
  · subst h0
    have hfl : filled l = D := by
      have : l = [] := List.eq_nil_of_length_eq_zero (unhide HN).symm
      rw [this, ← unhide HD]
      rfl
    have HF := hide hfl
    clear hfl
    go_wp2_with (refine wpList_copy_z rfl (.tmp 10) (.tmp 11) rfl g 0 16 16 c p rfl rfl ?_)
    go_ret
    exact ⟨g, (unhide HB3).2.2, rfl, by rw [unhide HF]; exact (unhide HB3).1, (unhide HB3).2.1⟩
  · obtain ⟨gb, o, rfl⟩ : ∃ gb o, p = some ⟨gb, o, none⟩ := by
      obtain ⟨gb, o, e, _⟩ := unhide HL3 0 (by rw [← unhide HN]; omega)
      exact ⟨gb, o, e⟩
    have HSR := hide (wls_src (unhide HL3) l.length)
    rw [List.take_length] at HSR
    go_wp2_with (refine wpList_copy_w rfl (.tmp 10) (.tmp 11) rfl (no := 0) (src := l) (unhide HB3).1 n (unhide HN) (by omega) 16 16 n c ⟨gb, o, none⟩ rfl rfl (by show n = min n 16; omega) (unhide HSR) ?_; intro W1 hI1 hO1; have X1 := hide (show Blk W1 g (wrv (filled l)).toArray 111 ∧ Below w.heap.size w W1 from ⟨by rw [← unhide HD] at hI1; have e := filled_eq l n (unhide HN); rw [e] at hI1; exact hI1, (unhide HB3).2.1.trans (hO1.below (unhide HB3).2.1.size (fun k hk q => by have q : k = g := q; have := (unhide HB3).2.2; omega))⟩); clear hI1 hO1)
    go_ret
    exact ⟨g, (unhide HB3).2.2, rfl, (unhide X1).1, (unhide X1).2⟩
end Go.Proofs.YtpcmifmgkccfnaaGreatDoor
