import Derived.Test.YtabgcgdpeikieaaDoorPda
namespace Go.Proofs.YtabgcgdpeikieaaDoor
open Go.RowKit Go.Conc
set_option maxRecDepth 100000
theorem sizeChl : (Tryd.prog.info? 84).map (·.size) = some 13 := by kernel_rfl
/-- A challenge as a value. -/
structure IsC (v : Value) (x : Array Value) : Prop where
  val : v = .agg x
  size : x.size = 13
  one : x.all (·.oneCell') = true
/-- Those of the first k that stay. -/
def sf (keep : Nat → Bool) (l : List Value) : Nat → List Value
  | 0 => []
  | k + 1 => if keep k then sf keep l k ++ [l.getD k undef] else sf keep l k
theorem sf_len (keep : Nat → Bool) (l : List Value) : ∀ k, (sf keep l k).length ≤ k
  | 0 => Nat.le_refl _
  | k + 1 => by
    have := sf_len keep l k
    unfold sf
    split
    · rw [List.length_append, List.length_singleton]; omega
    · omega
set_option maxHeartbeats 400000 in
theorem sift_any {w : World} {b o c : Nat} {l : List Value} (hc : w.cell? ⟨b, o, none⟩ = some (.chan (some c))) (h : Ch w c l) (hl : l.length ≤ 4) (hv : ∀ k, k < l.length → ∃ x, IsC (l.getD k undef) x)
    (f : FuncId) (hcf : ∀ (av : Array Value) (W : World), (callFunc f av).run Tryd.prog W = .ok (.enter f av) W) (caps : Array Value) (keep : Nat → Bool) (I : Nat → World → Prop) (Own : Nat → Prop) (hOl : ∀ x, Own x → x < w.heap.size) (hOc : ¬ Own c) (hOb : ¬ Own b)
    (hI0 : I 0 w) (hst : ∀ k w1 w2, I k w1 → Only (fun x => x = c) w1 w2 → I k w2)
    (hf : ∀ k, k < l.length → ∀ W, I k W → Calls Tryd.prog f (#[l.getD k undef] ++ caps) W fun e w' => e = .returned (.bool (keep k)) ∧ I (k + 1) w' ∧ Only Own W w') :
    Calls Tryd.prog 37 #[.pointer (some ⟨b, o, none⟩), .func (.func f) #[] caps] w
      fun e w' => e = .returned (.tuple #[]) ∧ I l.length w' ∧ Ch w' c (sf keep l l.length) ∧ Only (fun x => x = c ∨ Own x) w w' := by
  have hbc := h.ne_cell hc
  have hln : (Builtin.len_ #[68] 3 #[.chan (some c)]).run Tryd.prog w = .ok (.int .i64 (l.length : Int)) w := run_len_chan h
  have HBC := hide hbc
  have HC := hide hc
  have HST := hide hst
  have HCF := hide hcf
  have HF := hide hf
  have HV := hide hv
  have HI0 := hide hI0
  have HH := hide h
  have HOc := hide hOc
  have HOl := hide hOl
  have HOb := hide hOb
  clear hcf hst hf hv hI0 h hOc hOb hOl hbc
  go_enter Tryd.func37, Tryd.ntmps37
  go_wp2
  clear hln hc
  go_loopw [10] (fun i wr => ∃ k : Nat, k ≤ l.length ∧ i = .int .i64 (k : Int) ∧ I k wr ∧ Ch wr c (l.drop k ++ sf keep l k) ∧ Only (fun x => x = c ∨ Own x) w wr) (fun i _ => l.length - (intOf i).toNat)
  case atStart => exact ⟨0, by omega, rfl, unhide HI0, by simpa [sf] using unhide HH, Only.refl _ _⟩
  case round =>
    obtain ⟨k, hk, rfl, hI, hC, hO⟩ := hrel
    by_cases hlt : k < l.length
    · have i1 : (k : Int) < (l.length : Int) := by omega
      have HI := hide hI
      have HC1 := hide hC
      have HO1 := hide hO
      have HK := hide hlt
      have HWS := hide hO.size
      have w0 : wr.cell? ⟨b, o, none⟩ = some (.chan (some c)) := only_cell hO (fun q => q.elim (unhide HBC) (unhide HOb)) (unhide HC)
      obtain ⟨x, hx⟩ := unhide HV k hlt
      obtain ⟨rst, hrst⟩ : ∃ rst, l.drop (k + 1) ++ sf keep l k = rst := ⟨_, rfl⟩
      have hcons : l.drop k ++ sf keep l k = l.getD k undef :: rst := by
        rw [List.drop_eq_getElem_cons hlt, List.cons_append, hrst]
        simp [hlt]
      have hrl : rst.length ≤ 3 := by
        rw [← hrst, List.length_append, List.length_drop]
        have := sf_len keep l k
        omega
      have HX := hide hx
      have HRL := hide hrl
      have HRS := hide hrst
      rw [hcons] at HC1
      have hvx : l.getD k undef = .agg x := hx.val
      have HVX := hide hvx
      rw [hvx] at HC1
      clear hI hC hO hcons hx hrl hrst hvx
      refine wp_seq_k (fun K1 hK1 => ?_)
      have HK1 := hide hK1
      clear hK1
      go_wp2
      refine unhide HK1 _ _ ?_
      clear HK1 K1
      refine wp_seq_k (fun K2 hK2 => ?_)
      have HK2 := hide hK2
      clear hK2
      go_wp2
      refine unhide HK2 _ _ ?_
      clear HK2 K2
      refine wp_seq_k (fun K3 hK3 => ?_)
      have HK3 := hide hK3
      clear hK3
      refine wp_block ?_
      refine wp_seq_k (fun K4 hK4 => ?_)
      have HK4 := hide hK4
      clear hK4
      refine wp_region_sops 4 3 (by simp only [List.length_cons, List.length_nil, Nat.reduceAdd]) ?_
      simp only [List.take_succ_cons, List.take_zero]
      iterate 4 still_step
      refine wpStill_nil ?_
      obtain ⟨s, r, hH⟩ := (unhide HC1 : Ch wr c (.agg x :: rst))
      refine sops_recv (c := c) (z := .agg #[.int .i64 0, .int .i64 0, .int .i64 0, .string ⟨#[]⟩, .string ⟨#[]⟩, .int .i64 0, .int .i64 0, .int .i64 0, .int .i64 0, .int .i64 0, .int .i64 0, .int .i64 0, .int .i64 0]) rfl rfl (by simp [execOp, rcase, Act.eval]) hH (by simp) ?_
      rw [drop1_arr, List.drop_one, List.tail_cons]
      have hz := only_chan wr c 4 rst.toArray false s (r + 1) false (P := fun x => x = c) rfl
      have hcz := ch_set (w := wr) (c := c) (unhide HC1).lt rst s (r + 1)
      have e0 : (Value.agg x :: rst).toArray.getD 0 undef = .agg x := by simp
      rw [e0]
      generalize wr.setChan c 4 rst.toArray false s (r + 1) false = z at *
      have HZ := hide hz
      have HCZ := hide hcz
      clear hz hcz hH e0 w0
      refine sops_drop 5 2 (by simp only [List.length_cons, List.length_nil, Nat.reduceAdd, Nat.reduceSub]) ?_
      simp only [List.drop_succ_cons, List.drop_zero, Act.put]
      have hB1 := Blk.new z 84 (#[.int .i64 0, .int .i64 0, .int .i64 0, .string ⟨#[]⟩, .string ⟨#[]⟩, .int .i64 0, .int .i64 0, .int .i64 0, .int .i64 0, .int .i64 0, .int .i64 0, .int .i64 0, .int .i64 0])
      have ho1 : Only (fun x => x = c) z (z.alloc (.cells (#[.int .i64 0, .int .i64 0, .int .i64 0, .string ⟨#[]⟩, .string ⟨#[]⟩, .int .i64 0, .int .i64 0, .int .i64 0, .int .i64 0, .int .i64 0, .int .i64 0, .int .i64 0, .int .i64 0]) 84)) := (Only.refl _ _).alloc _
      obtain ⟨z1, hz1⟩ : ∃ Z, z.alloc (.cells (#[.int .i64 0, .int .i64 0, .int .i64 0, .string ⟨#[]⟩, .string ⟨#[]⟩, .int .i64 0, .int .i64 0, .int .i64 0, .int .i64 0, .int .i64 0, .int .i64 0, .int .i64 0, .int .i64 0]) 84) = Z := ⟨_, rfl⟩
      obtain ⟨g, hg⟩ : ∃ g, z.heap.size = g := ⟨_, rfl⟩
      have hcg : c < z.heap.size := (unhide HCZ).lt
      have hcz1 := (unhide HCZ).alloc (.cells (#[.int .i64 0, .int .i64 0, .int .i64 0, .string ⟨#[]⟩, .string ⟨#[]⟩, .int .i64 0, .int .i64 0, .int .i64 0, .int .i64 0, .int .i64 0, .int .i64 0, .int .i64 0, .int .i64 0]) 84)
      rw [hz1] at hB1 ho1 hcz1
      have HCZ1 := hide hcz1
      clear hcz1
      rw [hg] at hB1 hcg
      have HTH := hide (blk_there hB1 13 rfl)
      have hx' := unhide HX
      have HS := hide hx'.size
      have H1 := hide hx'.one
      have HB1 := hide hB1
      have HO2 := hide ho1
      have HCG := hide hcg
      clear hB1 ho1 hcg hx'
      go_wp2_with (refine wpList_store_mid rfl 84 (.tmp 4) (.tmp 16) rfl g 0 x rfl rfl (by rw [unhide HS]; exact unhide HTH) (by rw [sizeChl, unhide HS]) (unhide H1) ?_)
      have hY : Only (fun x => x = c) wr (z1.setCells g 0 x.toList) :=
        ((unhide HZ).trans (unhide HO2) (fun _ _ q => q)).trans (only_cells g 0 x.toList (P := fun y => y = g) rfl) (fun j hj q => by
          have := (unhide HZ).size
          have e : j = g := q
          omega)
      have hBY : Blk (z1.setCells g 0 x.toList) g x 84 := by
        have := setCells_all (unhide HB1) x.toList (by rw [Array.length_toList, unhide HS]; rfl)
        simpa using this
      have hCY : Ch (z1.setCells g 0 x.toList) c rst := (unhide HCZ1).only (only_cells g 0 x.toList (P := fun y => y = g) rfl) (by have := unhide HCG; omega)
      have HGW := hide (show wr.heap.size ≤ g from by rw [← hg]; exact (unhide HZ).size)
      simp only [Act.put]
      generalize z1.setCells g 0 x.toList = y at *
      have HBY := hide hBY
      have HCY := hide hCY
      have HIY := hide (unhide HST k wr _ (unhide HI) hY)
      have HOY := hide ((unhide HO1).trans hY (fun _ _ q => .inl q))
      have HYS := hide hY.size
      clear hY hBY hCY HCZ1 HB1 HO2 HTH HZ HCZ hz1 hg HC1 HI HO1
      clear z1 z
      have HRG := hide (blk_range (show Blk y g x.toList.toArray 84 by simpa using unhide HBY))
      refine unhide HK4 _ _ ?_
      clear HK4 K4
      refine wp_seq_k (fun K5 hK5 => ?_)
      have HK5 := hide hK5
      clear hK5
      go_wp2_with (refine wpList_load_mid rfl 84 (.tmp 4) rfl g 0 rfl x.toList _ (unhide HRG) Tryd.underlying84 rfl (by rw [sizeChl, Array.length_toList, unhide HS]) ?_)
      rw [unhide HCF, Oper.upon_enter]
      rename_i K6 a6
      have hcall := unhide HF k hlt y (unhide HIY)
      rw [unhide HVX] at hcall
      refine hcall.mono ?_
      clear hcall
      rintro e y2 ⟨rfl, hI2, hO2⟩
      refine a6 _ _ ?_
      clear a6 K6
      have HI2 := hide hI2
      have hB2 := (unhide HBY).only hO2 (fun q => by have := unhide HOl _ q; have := unhide HGW; have := unhide HWS; omega)
      have HC2 := hide ((unhide HCY).only hO2 (unhide HOc))
      have y0 : y2.cell? ⟨b, o, none⟩ = some (.chan (some c)) := only_cell ((unhide HOY).trans hO2 (fun _ _ q => .inr q)) (fun q => q.elim (unhide HBC) (unhide HOb)) (unhide HC)
      have HO3 := hide ((unhide HOY).trans hO2 (fun _ _ q => .inr q))
      have HB2 := hide hB2
      clear hI2 hO2 hB2 HIY HOY HYS HBY HCY HRG HF HI0 HH HV
      clear y
      go_wp2
      refine unhide HK5 _ _ ?_
      clear HK5 K5
      by_cases hkp : keep k = true
      · rw [hkp]
        refine wp_cond_true rfl ?_
        have hld : (loadVar 84 ⟨g, 0, none⟩).run Tryd.prog y2.drew = .ok (.agg x) y2.drew := iload_blk _ _ (show Blk y2.drew g _ _ from (unhide HB2)) Tryd.underlying84 rfl (by rw [sizeChl, unhide HS])
        refine wp_region_sops_draw 5 (by simp only [List.length_cons, List.length_nil, Nat.reduceAdd]) (by kernel_rfl) (by kernel_rfl) ?_
        simp only [List.take_succ_cons, List.take_zero]
        iterate 4 still_step
        refine wpStill_load rfl _ (.tmp 4) rfl _ rfl hld ?_
        refine wpStill_nil ?_
        obtain ⟨s, r, hH⟩ := ((unhide HC2).drew : Ch y2.drew c rst)
        refine sops_send (c := c) (cap := 4) (s := s) (r := r) (tm := false) (v := .agg x) (z := .tuple #[]) rfl rfl (by simp [execOp, scase, Act.eval, Act.put]) hH (by rw [List.size_toArray]; have := unhide HRL; omega) ?_
        refine sops_nil ?_
        clear hld
        rw [push_arr]
        have hfin := ch_set (w := y2.drew) (c := c) (unhide HC2).lt (rst ++ [Value.agg x]) (s + 1) r
        have hon : Only (fun k => k = c) y2 (y2.drew.setChan c 4 (rst ++ [Value.agg x]).toArray false (s + 1) r false) := (Only.refl _ _).drew.trans (only_chan _ _ _ _ _ _ _ _ rfl (P := fun k => k = c)) (fun _ _ h => h)
        generalize y2.drew.setChan c 4 (rst ++ [Value.agg x]).toArray false (s + 1) r false = y3 at *
        have HF3 := hide hfin
        have HI3 := hide (unhide HST (k + 1) _ _ (unhide HI2) hon)
        have HO4 := hide ((unhide HO3).trans hon (fun _ _ q => .inl q))
        clear hfin hon hH y0
        simp only [Exit.inBlock, Exit.then, Act.put]
        refine unhide HK3 _ _ ?_
        clear HK3 K3
        go_wp2
        go_roundw
        case rel =>
          refine ⟨k + 1, by omega, by go_num, unhide HI3, ?_, unhide HO4⟩
          have e : l.drop (k + 1) ++ sf keep l (k + 1) = rst ++ [.agg x] := by
            rw [sf, if_pos hkp, ← List.append_assoc, unhide HRS, unhide HVX]
          rw [e]
          exact unhide HF3
        case measure => simp [intOf]; omega
      · rw [show keep k = false by simpa using hkp]
        refine wp_cond_false rfl ?_
        refine wp_skip ?_
        clear y0
        simp only [Exit.inBlock, Exit.then, Act.put]
        refine unhide HK3 _ _ ?_
        clear HK3 K3
        go_wp2
        go_roundw
        case rel =>
          refine ⟨k + 1, by omega, by go_num, unhide HI2, ?_, unhide HO3⟩
          have e : l.drop (k + 1) ++ sf keep l (k + 1) = rst := by
            rw [sf, if_neg hkp, unhide HRS]
          rw [e]
          exact unhide HC2
        case measure => simp [intOf]; omega
    · have hk' : k = l.length := by omega
      subst hk'
      have i1 : ¬ ((l.length : Int) < (l.length : Int)) := by omega
      have HI := hide hI
      have HC1 := hide hC
      have HO1 := hide hO
      clear hI hC hO hlt
      go_wp2
      go_end0
      refine ⟨rfl, unhide HI, ?_, unhide HO1⟩
      have := unhide HC1
      rwa [List.drop_length, List.nil_append] at this
end Go.Proofs.YtabgcgdpeikieaaDoor
