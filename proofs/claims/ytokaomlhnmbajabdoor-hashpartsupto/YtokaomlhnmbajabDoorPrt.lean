import Derived.Test.YtokaomlhnmbajabDoorPts
namespace Go.Proofs.YtokaomlhnmbajabDoor
open Go.RowKit
def tot (S : Nat → ByteArray) : Nat → Nat
  | 0 => 0
  | i + 1 => tot S i + (S i).size
theorem tot_mono (S : Nat → ByteArray) {i j : Nat} (h : i ≤ j) : tot S i ≤ tot S j := by
  induction j with
  | zero => have : i = 0 := by omega
            subst this; exact Nat.le_refl _
  | succ j ih =>
    rcases (show i = j + 1 ∨ i ≤ j by omega) with rfl | h1
    · exact Nat.le_refl _
    · have := ih h1; simp only [tot]; omega
theorem nums_cat (a b : ByteArray) : nums (a ++ b) = nums a ++ nums b := by simp [nums, ByteArray.data_append]
/-- What a round keeps. -/
structure PR (w : World) (T : Nat) (vh vt : Value) (bs : List Nat) (ts : List ByteArray) (wr : World) : Prop where
  inv : PtInv w vh vt bs (ts.map nums) ts wr
  len : bs.length = ts.length
  pos : 0 < ts.length
  few : ts.length ≤ 40
  size : ∀ j, j < ts.length → (ts.getD j ⟨#[]⟩).size ≤ T
theorem info24 : (Tryd.prog.info? 24).map (fun i => (i.zero, i.size, i.bytes)) = some (some (.pointer none), 1, 8) := by kernel_rfl
theorem info9 : (Tryd.prog.info? 9).map (fun i => (i.zero, i.size, i.bytes)) = some (some (.string ⟨#[]⟩), 1, 16) := by kernel_rfl
theorem wpList_appH (W : World) {ops : Array Oper} {rest : List Oper} {o : Oper} {a : Act} {Q : Exit → Act → World → Prop}
    (hg : o.guard = none) (s x : Operand) (hop : o.op = Op.call { callee := Callee.builtin Builtin.append, args := #[s, x], argTypes := #[26, 26] })
    {w : World} {gh n ch : Nat} {vt : Value} {bs : List Nat} {ls : List (List Int)} {ts : List ByteArray} (hP : PtInv w (.slice (some ⟨gh, 0, none⟩) n ch) vt bs ls ts W) (hn : bs.length = n) (hs : a.eval s = .slice (some ⟨gh, 0, none⟩) n ch)
    (g c : Nat) (hx : a.eval x = .slice (some ⟨g, 0, none⟩) 1 1) (hc : W.cell? ⟨g, 0, none⟩ = some (hp c)) (l : List Int) (hc0 : w.heap.size ≤ c) (hc1 : c < W.heap.size) (hcb : c ∉ bs) (hch : c ≠ gh) (hct : vt.ownBlock ≠ some c) (hcs : Hs W c l) (hsz : n < 100)
    (h : ∀ g' cap' W', PtInv w (.slice (some ⟨g', 0, none⟩) (n + 1) cap') vt (bs ++ [c]) (ls ++ [l]) ts W' → wpList Tryd.prog ops Q rest (a.put o.dst (.slice (some ⟨g', 0, none⟩) (n + 1) cap')) W') : wpList Tryd.prog ops Q (o :: rest) a W := by
  obtain ⟨i0, hi, hz0, hz1, hz2⟩ := info_parts info24
  subst hn
  refine wpList_append_lies W hg s x 26 hop w.heap.size 24 i0 (.pointer none) 1 8 Tryd.underlying26 hi hz0 hz1 hz2 rfl (by decide) _ bs.length (bs.map hp) hs hP.rh ⟨g, 0, none⟩ 1 1 [hp c] hx rfl (fun j u hu => ?_) (by simp [Value.oneCell', hp]) (by decide) (by unfold maxLen; omega) (by omega) hP.below.size W.heap.size rfl (fun g' cap' W' ho hgr hgg _ => ?_)
  · cases j with
    | zero => simp at hu; subst hu; rw [Addr.add_mid]; exact hc
    | succ j => simp at hu
  · exact h g' cap' W' (hP.pushH c l hc0 hc1 hcb hch hct hcs ho hgr (hgg.imp (fun e => by simpa [Value.ownBlock] using e.symm) id))
theorem wpList_appT (W : World) {ops : Array Oper} {rest : List Oper} {o : Oper} {a : Act} {Q : Exit → Act → World → Prop}
    (hg : o.guard = none) (s x : Operand) (hop : o.op = Op.call { callee := Callee.builtin Builtin.append, args := #[s, x], argTypes := #[27, 27] })
    {w : World} {gt n ct : Nat} {vh : Value} {bs : List Nat} {ls : List (List Int)} {ts : List ByteArray} (hP : PtInv w vh (.slice (some ⟨gt, 0, none⟩) n ct) bs ls ts W) (hn : ts.length = n) (hs : a.eval s = .slice (some ⟨gt, 0, none⟩) n ct)
    (g : Nat) (t : ByteArray) (hx : a.eval x = .slice (some ⟨g, 0, none⟩) 1 1) (hc : W.cell? ⟨g, 0, none⟩ = some (.string t)) (hsz : n < 100)
    (h : ∀ g' cap' W', PtInv w vh (.slice (some ⟨g', 0, none⟩) (n + 1) cap') bs ls (ts ++ [t]) W' → wpList Tryd.prog ops Q rest (a.put o.dst (.slice (some ⟨g', 0, none⟩) (n + 1) cap')) W') : wpList Tryd.prog ops Q (o :: rest) a W := by
  obtain ⟨i0, hi, hz0, hz1, hz2⟩ := info_parts info9
  subst hn
  refine wpList_append_lies W hg s x 27 hop w.heap.size 9 i0 (.string ⟨#[]⟩) 1 16 Tryd.underlying27 hi hz0 hz1 hz2 rfl (by decide) _ ts.length (ts.map Value.string) hs hP.rt ⟨g, 0, none⟩ 1 1 [.string t] hx rfl (fun j u hu => ?_) (by simp [Value.oneCell']) (by decide) (by unfold maxLen; omega) (by omega) hP.below.size W.heap.size rfl (fun g' cap' W' ho hgr hgg _ => ?_)
  · cases j with
    | zero => simp at hu; subst hu; rw [Addr.add_mid]; exact hc
    | succ j => simp at hu
  · exact h g' cap' W' (hP.pushT t ho hgr (hgg.imp (fun e => by simpa [Value.ownBlock] using e.symm) id))
theorem PtInv.all {w : World} {gh n ch gt m ct : Nat} {bs : List Nat} {ts : List ByteArray} (hK : KTab w) (k : Nat) (hk : k < bs.length) (hl : bs.length = ts.length) (W : World) (h : PtInv w (.slice (some ⟨gh, 0, none⟩) n ch) (.slice (some ⟨gt, 0, none⟩) m ct) bs (ts.map nums) ts W) :
    Hs W (bs.getD k 0) (nums (ts.getD k ⟨#[]⟩)) ∧ bs.getD k 0 < W.heap.size ∧ KTab W ∧ W.cell? ⟨gh, k, none⟩ = some (.pointer (some ⟨bs.getD k 0, 0, none⟩)) ∧ W.cell? ⟨gt, k, none⟩ = some (.string (ts.getD k ⟨#[]⟩)) := by
  refine ⟨?_, (h.blk _ (getD_mem hk)).2.2.2, hK.below h.below hK.1, h.ptrAt k hk, (h.txtAt k (by omega)).1⟩
  have := h.has k hk
  rwa [show (ts.map nums).getD k [] = nums (ts.getD k ⟨#[]⟩) by rw [List.getD_eq_getElem?_getD, List.getElem?_map, List.getD_eq_getElem?_getD, List.getElem?_eq_getElem (show k < ts.length by omega)]; rfl] at this
set_option maxRecDepth 100000 in
set_option maxHeartbeats 1000000 in
theorem parts_walk (pa : Option Addr) (len cap : Nat) (wh wa : Nat → Int) (S : Nat → ByteArray) (w : World) (hK : KTab w) (hlen : len ≤ 140737488355328)
    (hcell : ∀ i, i < len → ∃ pb po, pa = some ⟨pb, po, none⟩ ∧ pb < w.heap.size ∧ w.cell? ⟨pb, po + i * 3, none⟩ = some (.int .i64 (wh i)) ∧ w.cell? ⟨pb, po + i * 3 + 1, none⟩ = some (.int .i64 (wa i)) ∧ w.cell? ⟨pb, po + i * 3 + 2, none⟩ = some (.string (S i)))
    (hwf : ∀ i, i < len → (-9223372036854775808 ≤ wh i ∧ wh i ≤ 9223372036854775807) ∧ -9223372036854775808 ≤ wa i ∧ wa i ≤ 9223372036854775807) (hT : tot S len ≤ 1048576) :
    Calls Tryd.prog 3 #[.slice pa len cap] w fun e w' => e = .returned (.bool true) ∧ Below w.heap.size w w' := by
  have HK := hide hK
  have HC := hide hcell
  have HW := hide hwf
  have HT := hide hT
  clear hK hcell hwf hT
  go_enter Tryd.func3, Tryd.ntmps3
  go_wp2_with fail
  refine (known_any w (unhide HK)).mono ?_
  rintro e w1 ⟨rfl, hb1⟩
  have HB1 := hide hb1
  clear hb1
  go_wp2_with fail
  refine (new_any w1).mono ?_
  rintro e w2 ⟨rfl, hs2, hb2, hz2⟩
  have HS2 := hide hs2
  have HB2 := hide hb2
  have HZ2 := hide hz2
  clear hs2 hb2 hz2
  go_wp2
  go_loopw [5, 6, 7] (fun vh vt iv wr => ∃ (i : Nat) (bs : List Nat) (ts : List ByteArray), i ≤ len ∧ iv = .int .i64 (i : Int) ∧ PR w (tot S i) vh vt bs ts wr) (fun _ _ iv _ => len - (intOf iv).toNat)
  case atStart =>
    refine ⟨0, [w1.heap.size], [⟨#[]⟩], by omega, rfl, ⟨?_, rfl, by simp, by simp, fun j hj => ?_⟩⟩
    · have hz := unhide HZ2
      have hb := (unhide HB1).size
      have hx : Below w2.heap.size w2 ((w2.alloc (Obj.cells #[.pointer (some ⟨w1.heap.size, 0, none⟩)] 24)).alloc (Obj.cells #[.string ⟨#[]⟩] 9)) := ((Below.refl _ _).alloc (Nat.le_refl _) _).alloc (by simp) _
      have hw2 : Below w.heap.size w w2 := (unhide HB1).trans ((unhide HB2).mono hb)
      refine ⟨?_, ?_, rfl, ?_, fun i j hi hj _ => ?_, fun b hbm => ?_, fun j hj => ?_, ?_⟩
      · exact (World.ownsRow_lit w2 #[.pointer (some ⟨w1.heap.size, 0, none⟩)] 1 (by omega) (by decide) rfl).alloc _
      · have := World.ownsRow_lit (base := w.heap.size) (e := 9) (size := 1) (w2.alloc (Obj.cells #[.pointer (some ⟨w1.heap.size, 0, none⟩)] 24)) #[.string ⟨#[]⟩] 1 (by simp; omega) (by decide) rfl
        simpa using this
      · simp [Value.ownBlock]
      · simp at hi hj; omega
      · simp at hbm
        subst hbm
        refine ⟨by simp [Value.ownBlock]; omega, by simp [Value.ownBlock]; omega, hb, by simp; omega⟩
      · simp at hj
        subst hj
        exact (unhide HS2).below hx (by omega)
      · exact hw2.trans (hx.mono hw2.size)
    · simp at hj
      subst hj
      exact Nat.zero_le _
  case round =>
    clear HS2 HB2 HZ2 HB1
    obtain ⟨i, bs, ts, hi, rfl, hP⟩ := hrel
    obtain ⟨gh, ch, gt, ct, rfl, rfl⟩ := hP.inv.form (by have := hP.len; have := hP.pos; omega) hP.pos
    have hln := hP.len
    have hn0 := hP.pos
    have hn40 := hP.few
    rw [hln] at hP ⊢
    generalize hnn : ts.length = n at *
    by_cases hlt : i < len
    · obtain ⟨pb, po, hpa, hpb, c0, c1, c2⟩ := unhide HC i hlt
      subst hpa
      have hwi := unhide HW i hlt
      rw [← hP.inv.below.cell (p := ⟨pb, po + i * 3, none⟩) hpb] at c0
      rw [← hP.inv.below.cell (p := ⟨pb, po + i * 3 + 1, none⟩) hpb] at c1
      rw [← hP.inv.below.cell (p := ⟨pb, po + i * 3 + 2, none⟩) hpb] at c2
      have HP := hide hP
      have HWI := hide hwi
      have HLN := hide hln
      have HNN := hide hnn
      generalize hs : S i = s at *
      have HS := hide hs
      generalize wh i = x at *
      generalize wa i = y at *
      clear hP hwi hln hnn hs
      go_wp2_with fail
      refine (pick_any x (n : Int) (by omega) (unhide HWI).1.1 (unhide HWI).1.2 _).mono ?_
      rintro e w3 ⟨k, hk, rfl, rfl⟩
      have hkn : k < n := by omega
      go_wp2_with fail
      refine (pick_any y 3 (by omega) (unhide HWI).2.1 (unhide HWI).2.2 _).mono ?_
      rintro e w4 ⟨c, hc, rfl, rfl⟩
      have hkb : k < bs.length := by rw [unhide HLN]; exact hkn
      have HAll := hide (fun W => PtInv.all (w := w) (gh := gh) (n := n) (ch := ch) (gt := gt) (m := n) (ct := ct) (bs := bs) (ts := ts) (unhide HK) k hkb (by rw [unhide HNN]; exact unhide HLN) W)
      have cp := (unhide HAll w4 (unhide HP).inv).2.2.2.1
      have ct1 := (unhide HP).inv.txtAt k (by rw [unhide HNN]; exact hkn)
      have hbk := (unhide HP).inv.blk _ (getD_mem hkb)
      have hts := (unhide HP).size k (by rw [unhide HNN]; exact hkn)
      have htm := tot_mono S (show i + 1 ≤ len by omega)
      have hTL := unhide HT
      generalize hb : bs.getD k 0 = b at *
      generalize ht : ts.getD k ⟨#[]⟩ = t at *
      have HB := hide hb
      have HTT := hide ht
      have HBK := hide hbk
      simp only [tot] at htm
      rw [unhide HS] at htm
      have HTS := hide hts
      have htz : t.size ≤ 1048576 := by omega
      have hsz : s.size ≤ 1048576 := by omega
      have hsz2 : t.size + s.size ≤ 1048576 := by omega
      clear hb ht hbk hts htm hTL
      rcases (show c = 0 ∨ c = 1 ∨ c = 2 by omega) with rfl | rfl | rfl
      · go_wp2
        refine wp_region_held_drew (S := fun w' => w'.cell? ⟨gh, k, none⟩ = some (.pointer (some ⟨b, 0, none⟩)) ∧ w'.cell? ⟨pb, po + i * 3 + 2, none⟩ = some (.string s)) (by kernel_rfl) ⟨cp, c2⟩ ?_
        intro hS
        refine wpAnyH_takeD 0 (some 65) (.slice (some ⟨gh, 0, none⟩) n ch) rfl rfl (by kernel_rfl) (by kernel_rfl) (by kernel_rfl) (fun _ _ _ h => h) (Or.inl ⟨by rfl, fun w hSw => by go_simp⟩) hS ?_
        simp only [Act.put, List.setIfInBounds_toArray, List.set_cons_zero, List.set_cons_succ]
        refine wpAnyH_takeD 1 (some 66) (.int .i64 (k : Int)) rfl rfl (by kernel_rfl) (by kernel_rfl) (by kernel_rfl) (fun _ _ _ h => h) (Or.inl ⟨by rfl, fun w hSw => by go_simp⟩) hS ?_
        simp only [Act.put, List.setIfInBounds_toArray, List.set_cons_zero, List.set_cons_succ]
        refine wpAnyH_takeD 2 (some 67) (.pointer (some ⟨gh, k, none⟩)) rfl rfl (by kernel_rfl) (by kernel_rfl) (by kernel_rfl) (fun _ _ _ h => h) (Or.inl ⟨by rfl, fun w hSw => by go_simp⟩) hS ?_
        simp only [Act.put, List.setIfInBounds_toArray, List.set_cons_zero, List.set_cons_succ]
        refine wpAnyH_takeD 3 (some 68) (.pointer (some ⟨b, 0, none⟩)) rfl rfl (by kernel_rfl) (by kernel_rfl) (by kernel_rfl) (fun _ _ _ h => h) (Or.inl ⟨by rfl, fun w hSw => by have c := hSw.1; go_simp⟩) hS ?_
        simp only [Act.put, List.setIfInBounds_toArray, List.set_cons_zero, List.set_cons_succ]
        refine wpAnyH_takeD 4 (some 69) (.slice (some ⟨pb, po, none⟩) len cap) rfl rfl (by kernel_rfl) (by kernel_rfl) (by kernel_rfl) (fun _ _ _ h => h) (Or.inl ⟨by rfl, fun w hSw => by go_simp⟩) hS ?_
        simp only [Act.put, List.setIfInBounds_toArray, List.set_cons_zero, List.set_cons_succ]
        refine wpAnyH_takeD 5 (some 70) (.int .i64 (i : Int)) rfl rfl (by kernel_rfl) (by kernel_rfl) (by kernel_rfl) (fun _ _ _ h => h) (Or.inl ⟨by rfl, fun w hSw => by go_simp⟩) hS ?_
        simp only [Act.put, List.setIfInBounds_toArray, List.set_cons_zero, List.set_cons_succ]
        refine wpAnyH_takeD 6 (some 71) (.pointer (some ⟨pb, po + i * 3, none⟩)) rfl rfl (by kernel_rfl) (by kernel_rfl) (by kernel_rfl) (fun _ _ _ h => h) (Or.inl ⟨by rfl, fun w hSw => by go_simp⟩) hS ?_
        simp only [Act.put, List.setIfInBounds_toArray, List.set_cons_zero, List.set_cons_succ]
        refine wpAnyH_takeD 7 (some 72) (.pointer (some ⟨pb, po + i * 3 + 2, none⟩)) rfl rfl (by kernel_rfl) (by kernel_rfl) (by kernel_rfl) (fun _ _ _ h => h) (Or.inl ⟨by rfl, fun w hSw => by go_simp⟩) hS ?_
        simp only [Act.put, List.setIfInBounds_toArray, List.set_cons_zero, List.set_cons_succ]
        refine wpAnyH_takeD 8 (some 73) (.string s) rfl rfl (by kernel_rfl) (by kernel_rfl) (by kernel_rfl) (fun _ _ _ h => h) (Or.inl ⟨by rfl, fun w hSw => by have c := hSw.2; go_simp⟩) hS ?_
        simp only [Act.put, List.setIfInBounds_toArray, List.set_cons_zero, List.set_cons_succ]
        refine wpAnyH_ready (rs := [9]) (by kernel_rfl) (by simp) ?_
        refine AllReadyH.cons rfl (fun K hK => ?_) AllReadyH.nil
        simp only [List.getElem_toArray, List.getElem_cons_succ, List.getElem_cons_zero]
        go_simp
        obtain ⟨hx1, hx2, hx3, hx4⟩ := unhide HAll w4.drew (unhide HP).inv.drew
        refine (write_any w4.drew b (nums t) s hx1 (by have := (unhide HBK).2.2.1; have := (unhide HK).1; omega) hx2 hx3 (by rw [nums_len]; omega)).mono ?_
        rintro e w5 ⟨rfl, hs5, ht5⟩
        have hgb : gh ≠ b := fun e => (unhide HBK).1 (by rw [e]; rfl)
        have hgs : gh < w4.drew.heap.size := ((unhide HP).inv.drew.rh.lt gh rfl).2
        have hpb2 : pb ≠ b := by have := (unhide HBK).2.2.1; omega
        have hps : pb < w4.drew.heap.size := Nat.lt_of_lt_of_le hpb (unhide HP).inv.drew.below.size
        refine hK.out _ _ ⟨by rw [ht5.cell hgb hgs]; exact cp, by rw [ht5.cell hpb2 hps]; exact c2⟩ (fun hS => ?_)
        have HP5 := hide ((unhide HP).inv.drew.write k (by rw [unhide HLN]; exact hkn) (nums t ++ nums s) (by rw [unhide HB]; exact ht5) (by rw [unhide HB]; exact hs5))
        have c25 := hS.2
        clear hK K hS hx1 hx2 hx3 hx4 hs5 ht5 hgb hgs hpb2 hps cp c0 c1 c2 ct1
        refine wpAnyH_done (by kernel_rfl) ?_ _
        have ct5 := (unhide HP5).txtAt k (by rw [unhide HNN]; exact hkn)
        rw [unhide HTT] at ct5
        obtain ⟨ct6, cf6⟩ := ct5
        have j1 : (k : Int) < (n : Int) := by omega
        have j2 : (i : Int) < (len : Int) := by omega
        have hsz3 : ¬ 9223372036854775807 < t.size + s.size := by omega
        go_wp2
        go_still_tail 13, (by kernel_rfl)
        clear c25 j1 j2 hsz3
        change wpList _ _ _ _ _ w5.drew
        go_wp2
        have HP6 := hide ((unhide HP5).drew.store k (t ++ s))
        go_roundw
        case rel =>
          refine ⟨i + 1, bs, ts.set k (t ++ s), by omega, by go_num, ⟨?_, by rw [List.length_set, unhide HLN, unhide HNN], by rw [List.length_set, unhide HNN]; exact hn0, by rw [List.length_set, unhide HNN]; exact hn40, fun j hj => ?_⟩⟩
          · have := unhide HP6
            rw [List.map_set, nums_cat]
            exact this
          · rw [List.length_set] at hj
            have h1 := (unhide HP).size j hj
            have h2 := unhide HTS
            have h3 := unhide HS
            simp only [tot]
            rw [List.getD_eq_getElem?_getD, List.getElem?_set]
            split
            · rw [if_pos (by rw [unhide HNN]; exact hkn)]
              simp only [Option.getD_some, ByteArray.size_append]
              rw [h3]
              omega
            · rw [← List.getD_eq_getElem?_getD]
              omega
        case measure => simp [intOf]; omega
      · have HSum := hide (fun W h1 h2 h3 => msum_any W b (nums t) h1 h2 h3 (by rw [nums_len]; omega))
        have HRs := hide (fun W (_ : KTab W) => rsum_any t (by omega) W)
        generalize strOfNums (sha (nums t)) = D at *
        clear cp c0 c1 c2 ct1
        go_wp2
        refine wp_region_held_drew (S := fun w' => PtInv w (.slice (some ⟨gh, 0, none⟩) n ch) (.slice (some ⟨gt, 0, none⟩) n ct) bs (ts.map nums) ts w') (by kernel_rfl) (unhide HP).inv.drew ?_
        intro hS
        refine wpAnyH_takeD 0 (some 90) (.slice (some ⟨gh, 0, none⟩) n ch) rfl rfl (by kernel_rfl) (by kernel_rfl) (by kernel_rfl) (fun _ _ _ h => h) (Or.inl ⟨by rfl, fun w hSw => by go_simp⟩) hS ?_
        simp only [Act.put, List.setIfInBounds_toArray, List.set_cons_zero, List.set_cons_succ]
        refine wpAnyH_takeD 1 (some 91) (.int .i64 (k : Int)) rfl rfl (by kernel_rfl) (by kernel_rfl) (by kernel_rfl) (fun _ _ _ h => h) (Or.inl ⟨by rfl, fun w hSw => by go_simp⟩) hS ?_
        simp only [Act.put, List.setIfInBounds_toArray, List.set_cons_zero, List.set_cons_succ]
        refine wpAnyH_takeD 2 (some 92) (.pointer (some ⟨gh, k, none⟩)) rfl rfl (by kernel_rfl) (by kernel_rfl) (by kernel_rfl) (fun _ _ _ h => h) (Or.inl ⟨by rfl, fun w hSw => by go_simp⟩) hS ?_
        simp only [Act.put, List.setIfInBounds_toArray, List.set_cons_zero, List.set_cons_succ]
        refine wpAnyH_takeD 3 (some 93) (.pointer (some ⟨b, 0, none⟩)) rfl rfl (by kernel_rfl) (by kernel_rfl) (by kernel_rfl) (fun _ _ _ h => h) (Or.inl ⟨by rfl, fun w hSw => by have c := (unhide HAll _ hSw).2.2.2.1; go_simp⟩) hS ?_
        simp only [Act.put, List.setIfInBounds_toArray, List.set_cons_zero, List.set_cons_succ]
        refine wpAnyH_takeD 5 (some 95) (.slice (some ⟨gt, 0, none⟩) n ct) rfl rfl (by kernel_rfl) (by kernel_rfl) (by kernel_rfl) (fun _ _ _ h => h) (Or.inl ⟨by rfl, fun w hSw => by go_simp⟩) hS ?_
        simp only [Act.put, List.setIfInBounds_toArray, List.set_cons_zero, List.set_cons_succ]
        refine wpAnyH_takeD 6 (some 96) (.int .i64 (k : Int)) rfl rfl (by kernel_rfl) (by kernel_rfl) (by kernel_rfl) (fun _ _ _ h => h) (Or.inl ⟨by rfl, fun w hSw => by go_simp⟩) hS ?_
        simp only [Act.put, List.setIfInBounds_toArray, List.set_cons_zero, List.set_cons_succ]
        refine wpAnyH_takeD 7 (some 97) (.pointer (some ⟨gt, k, none⟩)) rfl rfl (by kernel_rfl) (by kernel_rfl) (by kernel_rfl) (fun _ _ _ h => h) (Or.inl ⟨by rfl, fun w hSw => by go_simp⟩) hS ?_
        simp only [Act.put, List.setIfInBounds_toArray, List.set_cons_zero, List.set_cons_succ]
        refine wpAnyH_takeD 8 (some 98) (.string t) rfl rfl (by kernel_rfl) (by kernel_rfl) (by kernel_rfl) (fun _ _ _ h => h) (Or.inl ⟨by rfl, fun w hSw => by have c := (unhide HAll _ hSw).2.2.2.2; go_simp⟩) hS ?_
        simp only [Act.put, List.setIfInBounds_toArray, List.set_cons_zero, List.set_cons_succ]
        refine wpAnyH_ready (rs := [4]) (by kernel_rfl) (by simp) ?_
        refine AllReadyH.cons rfl (fun K hK => ?_) AllReadyH.nil
        simp only [List.getElem_toArray, List.getElem_cons_succ, List.getElem_cons_zero]
        go_simp
        obtain ⟨hx1, hx2, hx3, _⟩ := unhide HAll _ hS
        refine ((unhide HSum _ hx1 hx2 hx3)).mono ?_
        rintro e w5 ⟨rfl, hb5⟩
        refine hK.out _ _ (hS.stays hb5) (fun hS => ?_)
        clear hK K hx1 hx2 hx3 hb5
        refine wpAnyH_ready (rs := [9]) (by kernel_rfl) (by simp) ?_
        refine AllReadyH.cons rfl (fun K hK => ?_) AllReadyH.nil
        simp only [List.getElem_toArray, List.getElem_cons_succ, List.getElem_cons_zero]
        go_simp
        obtain ⟨hx1, hx2, hx3, _⟩ := unhide HAll _ hS
        refine (unhide HRs _ hx3).mono ?_
        rintro e w6 ⟨rfl, hb6⟩
        refine hK.out _ _ (hS.stays hb6) (fun hS => ?_)
        clear hK K hx1 hx2 hx3 hb6
        refine wpAnyH_takeD 10 (some 100) (.bool false) rfl rfl (by kernel_rfl) (by kernel_rfl) (by kernel_rfl) (fun _ _ _ h => h) (Or.inl ⟨by rfl, fun w hSw => by go_simp⟩) hS ?_
        simp only [Act.put, List.setIfInBounds_toArray, List.set_cons_zero, List.set_cons_succ]
        refine wpAnyH_takeD 11 (some 101) (.bool false) rfl rfl (by kernel_rfl) (by kernel_rfl) (by kernel_rfl) (fun _ _ _ h => h) (Or.inl ⟨by rfl, fun w hSw => by go_simp⟩) hS ?_
        simp only [Act.put, List.setIfInBounds_toArray, List.set_cons_zero, List.set_cons_succ]
        refine wpAnyH_takeD 12 (some 102) (.slice (some ⟨gh, 0, none⟩) n ch) rfl rfl (by kernel_rfl) (by kernel_rfl) (by kernel_rfl) (fun _ _ _ h => h) (Or.inl ⟨by rfl, fun w hSw => by go_simp⟩) hS ?_
        simp only [Act.put, List.setIfInBounds_toArray, List.set_cons_zero, List.set_cons_succ]
        refine wpAnyH_takeD 13 (some 103) (.int .i64 (k : Int)) rfl rfl (by kernel_rfl) (by kernel_rfl) (by kernel_rfl) (fun _ _ _ h => h) (Or.inl ⟨by rfl, fun w hSw => by go_simp⟩) hS ?_
        simp only [Act.put, List.setIfInBounds_toArray, List.set_cons_zero, List.set_cons_succ]
        refine wpAnyH_takeD 14 (some 104) (.pointer (some ⟨gh, k, none⟩)) rfl rfl (by kernel_rfl) (by kernel_rfl) (by kernel_rfl) (fun _ _ _ h => h) (Or.inl ⟨by rfl, fun w hSw => by go_simp⟩) hS ?_
        simp only [Act.put, List.setIfInBounds_toArray, List.set_cons_zero, List.set_cons_succ]
        refine wpAnyH_takeD 15 (some 105) (.pointer (some ⟨b, 0, none⟩)) rfl rfl (by kernel_rfl) (by kernel_rfl) (by kernel_rfl) (fun _ _ _ h => h) (Or.inl ⟨by rfl, fun w hSw => by have c := (unhide HAll _ hSw).2.2.2.1; go_simp⟩) hS ?_
        simp only [Act.put, List.setIfInBounds_toArray, List.set_cons_zero, List.set_cons_succ]
        refine wpAnyH_takeD 17 (some 107) (.slice (some ⟨gt, 0, none⟩) n ct) rfl rfl (by kernel_rfl) (by kernel_rfl) (by kernel_rfl) (fun _ _ _ h => h) (Or.inl ⟨by rfl, fun w hSw => by go_simp⟩) hS ?_
        simp only [Act.put, List.setIfInBounds_toArray, List.set_cons_zero, List.set_cons_succ]
        refine wpAnyH_takeD 18 (some 108) (.int .i64 (k : Int)) rfl rfl (by kernel_rfl) (by kernel_rfl) (by kernel_rfl) (fun _ _ _ h => h) (Or.inl ⟨by rfl, fun w hSw => by go_simp⟩) hS ?_
        simp only [Act.put, List.setIfInBounds_toArray, List.set_cons_zero, List.set_cons_succ]
        refine wpAnyH_takeD 19 (some 109) (.pointer (some ⟨gt, k, none⟩)) rfl rfl (by kernel_rfl) (by kernel_rfl) (by kernel_rfl) (fun _ _ _ h => h) (Or.inl ⟨by rfl, fun w hSw => by go_simp⟩) hS ?_
        simp only [Act.put, List.setIfInBounds_toArray, List.set_cons_zero, List.set_cons_succ]
        refine wpAnyH_takeD 20 (some 110) (.string t) rfl rfl (by kernel_rfl) (by kernel_rfl) (by kernel_rfl) (fun _ _ _ h => h) (Or.inl ⟨by rfl, fun w hSw => by have c := (unhide HAll _ hSw).2.2.2.2; go_simp⟩) hS ?_
        simp only [Act.put, List.setIfInBounds_toArray, List.set_cons_zero, List.set_cons_succ]
        refine wpAnyH_takeD 21 (some 111) (.int .i64 (t.size : Int)) rfl rfl (by kernel_rfl) (by kernel_rfl) (by kernel_rfl) (fun _ _ _ h => h) (Or.inl ⟨by rfl, fun w hSw => by go_simp⟩) hS ?_
        simp only [Act.put, List.setIfInBounds_toArray, List.set_cons_zero, List.set_cons_succ]
        refine wpAnyH_ready (rs := [16]) (by kernel_rfl) (by simp) ?_
        refine AllReadyH.cons rfl (fun K hK => ?_) AllReadyH.nil
        simp only [List.getElem_toArray, List.getElem_cons_succ, List.getElem_cons_zero]
        go_simp
        refine (len_any _ b (nums t) (unhide HAll _ hS).1).mono ?_
        rintro e w7 ⟨rfl, rfl⟩
        rw [nums_len]
        refine hK.out _ _ hS (fun hS => ?_)
        clear hK K
        refine wpAnyH_takeD 22 (some 112) (.bool false) rfl rfl (by kernel_rfl) (by kernel_rfl) (by kernel_rfl) (fun _ _ _ h => h) (Or.inl ⟨by rfl, fun w hSw => by go_simp⟩) hS ?_
        simp only [Act.put, List.setIfInBounds_toArray, List.set_cons_zero, List.set_cons_succ]
        refine wpAnyH_takeD 23 (some 113) (.bool false) rfl rfl (by kernel_rfl) (by kernel_rfl) (by kernel_rfl) (fun _ _ _ h => h) (Or.inl ⟨by rfl, fun w hSw => by go_simp⟩) hS ?_
        simp only [Act.put, List.setIfInBounds_toArray, List.set_cons_zero, List.set_cons_succ]
        have HP7 := hide hS
        clear hS
        refine wpAnyH_done (by kernel_rfl) ?_ _
        go_wp2
        go_roundw
        case rel => exact ⟨i + 1, bs, ts, by omega, by go_num, unhide HP7, by rw [unhide HLN, unhide HNN], by rw [unhide HNN]; exact hn0, by rw [unhide HNN]; exact hn40, fun j hj => Nat.le_trans ((unhide HP).size j hj) (tot_mono S (by omega))⟩
        case measure => simp [intOf]; omega
      · clear c0 c1 c2
        by_cases h40 : n < 40
        · go_wp2_with fail
          refine (clone_any w4 b (nums t) (unhide HAll w4 (unhide HP).inv).1).mono ?_
          rintro e w5 ⟨rfl, hs5, hb5, hz5⟩
          have hba : Below w5.heap.size w5 (w5.alloc (Obj.cells #[.pointer (some ⟨w4.heap.size, 0, none⟩)] 24)) := (Below.refl _ _).alloc (Nat.le_refl _) _
          have HPa := hide (((unhide HP).inv.stays hb5).stays hba)
          have HSa := hide (hs5.below hba (by omega))
          have hghs := ((unhide HP).inv.rh.lt gh rfl).2
          have hgts := ((unhide HP).inv.rt.lt gt rfl).2
          have hws := (unhide HP).inv.below.size
          have HNB : Hid (w4.heap.size ∉ bs) := fun hm => by have := ((unhide HP).inv.blk _ hm).2.2.2; omega
          have hct5 : w5.cell? ⟨gt, k, none⟩ = some (.string t) := by rw [hb5.cell (p := ⟨gt, k, none⟩) hgts]; exact (unhide HAll w4 (unhide HP).inv).2.2.2.2
          have HCT := hide hct5
          have hz55 : w4.heap.size < w5.heap.size := by omega
          clear hs5 hb5 hba cp ct1 hct5 hz5
          go_wp2_with (first
            | (at_builtin; refine wpList_appH (w5.alloc (Obj.cells #[.pointer (some ⟨w4.heap.size, 0, none⟩)] 24)) rfl (.tmp 52) (.tmp 54) rfl (unhide HPa) (unhide HLN) rfl w5.heap.size w4.heap.size rfl (by simp [hp]) (nums t) hws (by simp; omega) (unhide HNB) (by omega) (by intro e; simp [Value.ownBlock] at e; omega) (unhide HSa) (by omega) ?_; intro gh2 ch2 w6 hP6; have hct6 : w6.cell? ⟨gt, k, none⟩ = some (.string t) := (by have := (hP6.txtAt k (by rw [unhide HNN]; exact hkn)).1; rw [unhide HTT] at this; exact this); have HP6 := hide (hP6.stays ((Below.refl w6.heap.size w6).alloc (Nat.le_refl _) (Obj.cells #[.string t] 9))); clear hP6)
            | (at_builtin; refine wpList_appT (w6.alloc (Obj.cells #[.string t] 9)) rfl (.tmp 56) (.tmp 61) rfl (unhide HP6) (unhide HNN) rfl w6.heap.size t rfl (by simp) (by omega) ?_; intro gt2 ct2 w7 hP7; have HP7 := hide hP7; clear hP7))
          go_roundw
          case rel =>
            refine ⟨i + 1, bs ++ [w4.heap.size], ts ++ [t], by omega, by go_num, ⟨?_, by simp [unhide HLN, unhide HNN], by simp, by simp [unhide HNN]; omega, fun j hj => ?_⟩⟩
            · have := unhide HP7
              rw [List.map_append]
              exact this
            · rw [List.length_append, List.length_singleton, unhide HNN] at hj
              have h2 := unhide HTS
              rw [getD_snoc, unhide HNN]
              simp only [tot]
              split
              · have h1 := (unhide HP).size j (by rw [unhide HNN]; assumption)
                omega
              · rw [if_pos (by omega)]
                omega
          case measure => simp [intOf]; omega
        · clear cp ct1
          go_wp2
          go_roundw
          case rel => exact ⟨i + 1, bs, ts, by omega, by go_num, (unhide HP).inv, by rw [unhide HLN, unhide HNN], by rw [unhide HNN]; exact hn0, by rw [unhide HNN]; exact hn40, fun j hj => Nat.le_trans ((unhide HP).size j hj) (tot_mono S (by omega))⟩
          case measure => simp [intOf]; omega
    · have HP := hide hP
      have HLN := hide hln
      have HNN := hide hnn
      have HTL := hide (Nat.le_trans (tot_mono S hi) (unhide HT))
      clear hP hln hnn
      obtain ⟨wo, rfl⟩ : ∃ wo : World, wo = wr := ⟨_, rfl⟩
      go_wp2
      go_loopw [10] (fun v wr => ∃ k : Nat, k ≤ n ∧ v = .int .i64 (k : Int) ∧ PtInv w (.slice (some ⟨gh, 0, none⟩) n ch) (.slice (some ⟨gt, 0, none⟩) n ct) bs (ts.map nums) ts wr) (fun v _ => n - (intOf v).toNat)
      case atStart => exact ⟨0, by omega, rfl, (unhide HP).inv⟩
      case round =>
        obtain ⟨k, hk, rfl, hI⟩ := hrel
        by_cases hkn : k < n
        · have hkb : k < bs.length := by rw [unhide HLN]; exact hkn
          have HAll := hide (fun W => PtInv.all (w := w) (gh := gh) (n := n) (ch := ch) (gt := gt) (m := n) (ct := ct) (bs := bs) (ts := ts) (unhide HK) k hkb (by rw [unhide HNN]; exact unhide HLN) W)
          have hts := (unhide HP).size k (by rw [unhide HNN]; exact hkn)
          have hTL := unhide HTL
          generalize bs.getD k 0 = b at *
          generalize ts.getD k ⟨#[]⟩ = t at *
          have htz : t.size ≤ 1048576 := by omega
          have HSum := hide (fun W h1 h2 h3 => msum_any W b (nums t) h1 h2 h3 (by rw [nums_len]; omega))
          have HRs := hide (fun W h3 => sum_any t W h3 (by omega))
          generalize strOfNums (sha (nums t)) = D at *
          have HI := hide hI
          clear hI hts hTL
          go_wp2
          refine wp_region_held_drew (S := fun w' => PtInv w (.slice (some ⟨gh, 0, none⟩) n ch) (.slice (some ⟨gt, 0, none⟩) n ct) bs (ts.map nums) ts w') (by kernel_rfl) (unhide HI).drew ?_
          intro hS
          refine wpAnyH_takeD 0 (some 120) (.slice (some ⟨gh, 0, none⟩) n ch) rfl rfl (by kernel_rfl) (by kernel_rfl) (by kernel_rfl) (fun _ _ _ h => h) (Or.inl ⟨by rfl, fun w hSw => by go_simp⟩) hS ?_
          simp only [Act.put, List.setIfInBounds_toArray, List.set_cons_zero, List.set_cons_succ]
          refine wpAnyH_takeD 1 (some 121) (.int .i64 (k : Int)) rfl rfl (by kernel_rfl) (by kernel_rfl) (by kernel_rfl) (fun _ _ _ h => h) (Or.inl ⟨by rfl, fun w hSw => by go_simp⟩) hS ?_
          simp only [Act.put, List.setIfInBounds_toArray, List.set_cons_zero, List.set_cons_succ]
          refine wpAnyH_takeD 2 (some 122) (.pointer (some ⟨gh, k, none⟩)) rfl rfl (by kernel_rfl) (by kernel_rfl) (by kernel_rfl) (fun _ _ _ h => h) (Or.inl ⟨by rfl, fun w hSw => by go_simp⟩) hS ?_
          simp only [Act.put, List.setIfInBounds_toArray, List.set_cons_zero, List.set_cons_succ]
          refine wpAnyH_takeD 3 (some 123) (.pointer (some ⟨b, 0, none⟩)) rfl rfl (by kernel_rfl) (by kernel_rfl) (by kernel_rfl) (fun _ _ _ h => h) (Or.inl ⟨by rfl, fun w hSw => by have c := (unhide HAll _ hSw).2.2.2.1; go_simp⟩) hS ?_
          simp only [Act.put, List.setIfInBounds_toArray, List.set_cons_zero, List.set_cons_succ]
          refine wpAnyH_takeD 5 (some 125) (.slice (some ⟨gt, 0, none⟩) n ct) rfl rfl (by kernel_rfl) (by kernel_rfl) (by kernel_rfl) (fun _ _ _ h => h) (Or.inl ⟨by rfl, fun w hSw => by go_simp⟩) hS ?_
          simp only [Act.put, List.setIfInBounds_toArray, List.set_cons_zero, List.set_cons_succ]
          refine wpAnyH_takeD 6 (some 126) (.int .i64 (k : Int)) rfl rfl (by kernel_rfl) (by kernel_rfl) (by kernel_rfl) (fun _ _ _ h => h) (Or.inl ⟨by rfl, fun w hSw => by go_simp⟩) hS ?_
          simp only [Act.put, List.setIfInBounds_toArray, List.set_cons_zero, List.set_cons_succ]
          refine wpAnyH_takeD 7 (some 127) (.pointer (some ⟨gt, k, none⟩)) rfl rfl (by kernel_rfl) (by kernel_rfl) (by kernel_rfl) (fun _ _ _ h => h) (Or.inl ⟨by rfl, fun w hSw => by go_simp⟩) hS ?_
          simp only [Act.put, List.setIfInBounds_toArray, List.set_cons_zero, List.set_cons_succ]
          refine wpAnyH_takeD 8 (some 128) (.string t) rfl rfl (by kernel_rfl) (by kernel_rfl) (by kernel_rfl) (fun _ _ _ h => h) (Or.inl ⟨by rfl, fun w hSw => by have c := (unhide HAll _ hSw).2.2.2.2; go_simp⟩) hS ?_
          simp only [Act.put, List.setIfInBounds_toArray, List.set_cons_zero, List.set_cons_succ]
          refine wpAnyH_ready (rs := [4]) (by kernel_rfl) (by simp) ?_
          refine AllReadyH.cons rfl (fun K hK => ?_) AllReadyH.nil
          simp only [List.getElem_toArray, List.getElem_cons_succ, List.getElem_cons_zero]
          go_simp
          obtain ⟨hx1, hx2, hx3, _⟩ := unhide HAll _ hS
          refine ((unhide HSum _ hx1 hx2 hx3)).mono ?_
          rintro e w5 ⟨rfl, hb5⟩
          refine hK.out _ _ (hS.stays hb5) (fun hS => ?_)
          clear hK K hx1 hx2 hx3 hb5
          refine wpAnyH_ready (rs := [9]) (by kernel_rfl) (by simp) ?_
          refine AllReadyH.cons rfl (fun K hK => ?_) AllReadyH.nil
          simp only [List.getElem_toArray, List.getElem_cons_succ, List.getElem_cons_zero]
          go_simp
          obtain ⟨hx1, hx2, hx3, _⟩ := unhide HAll _ hS
          refine (unhide HRs _ hx3).mono ?_
          rintro e w6 ⟨rfl, hb6⟩
          refine hK.out _ _ (hS.stays hb6) (fun hS => ?_)
          clear hK K hx1 hx2 hx3 hb6
          refine wpAnyH_takeD 10 (some 130) (.bool false) rfl rfl (by kernel_rfl) (by kernel_rfl) (by kernel_rfl) (fun _ _ _ h => h) (Or.inl ⟨by rfl, fun w hSw => by go_simp⟩) hS ?_
          simp only [Act.put, List.setIfInBounds_toArray, List.set_cons_zero, List.set_cons_succ]
          refine wpAnyH_takeD 11 (some 131) (.bool false) rfl rfl (by kernel_rfl) (by kernel_rfl) (by kernel_rfl) (fun _ _ _ h => h) (Or.inl ⟨by rfl, fun w hSw => by go_simp⟩) hS ?_
          simp only [Act.put, List.setIfInBounds_toArray, List.set_cons_zero, List.set_cons_succ]
          refine wpAnyH_takeD 12 (some 132) (.slice (some ⟨gh, 0, none⟩) n ch) rfl rfl (by kernel_rfl) (by kernel_rfl) (by kernel_rfl) (fun _ _ _ h => h) (Or.inl ⟨by rfl, fun w hSw => by go_simp⟩) hS ?_
          simp only [Act.put, List.setIfInBounds_toArray, List.set_cons_zero, List.set_cons_succ]
          refine wpAnyH_takeD 13 (some 133) (.int .i64 (k : Int)) rfl rfl (by kernel_rfl) (by kernel_rfl) (by kernel_rfl) (fun _ _ _ h => h) (Or.inl ⟨by rfl, fun w hSw => by go_simp⟩) hS ?_
          simp only [Act.put, List.setIfInBounds_toArray, List.set_cons_zero, List.set_cons_succ]
          refine wpAnyH_takeD 14 (some 134) (.pointer (some ⟨gh, k, none⟩)) rfl rfl (by kernel_rfl) (by kernel_rfl) (by kernel_rfl) (fun _ _ _ h => h) (Or.inl ⟨by rfl, fun w hSw => by go_simp⟩) hS ?_
          simp only [Act.put, List.setIfInBounds_toArray, List.set_cons_zero, List.set_cons_succ]
          refine wpAnyH_takeD 15 (some 135) (.pointer (some ⟨b, 0, none⟩)) rfl rfl (by kernel_rfl) (by kernel_rfl) (by kernel_rfl) (fun _ _ _ h => h) (Or.inl ⟨by rfl, fun w hSw => by have c := (unhide HAll _ hSw).2.2.2.1; go_simp⟩) hS ?_
          simp only [Act.put, List.setIfInBounds_toArray, List.set_cons_zero, List.set_cons_succ]
          refine wpAnyH_takeD 17 (some 137) (.slice (some ⟨gt, 0, none⟩) n ct) rfl rfl (by kernel_rfl) (by kernel_rfl) (by kernel_rfl) (fun _ _ _ h => h) (Or.inl ⟨by rfl, fun w hSw => by go_simp⟩) hS ?_
          simp only [Act.put, List.setIfInBounds_toArray, List.set_cons_zero, List.set_cons_succ]
          refine wpAnyH_takeD 18 (some 138) (.int .i64 (k : Int)) rfl rfl (by kernel_rfl) (by kernel_rfl) (by kernel_rfl) (fun _ _ _ h => h) (Or.inl ⟨by rfl, fun w hSw => by go_simp⟩) hS ?_
          simp only [Act.put, List.setIfInBounds_toArray, List.set_cons_zero, List.set_cons_succ]
          refine wpAnyH_takeD 19 (some 139) (.pointer (some ⟨gt, k, none⟩)) rfl rfl (by kernel_rfl) (by kernel_rfl) (by kernel_rfl) (fun _ _ _ h => h) (Or.inl ⟨by rfl, fun w hSw => by go_simp⟩) hS ?_
          simp only [Act.put, List.setIfInBounds_toArray, List.set_cons_zero, List.set_cons_succ]
          refine wpAnyH_takeD 20 (some 140) (.string t) rfl rfl (by kernel_rfl) (by kernel_rfl) (by kernel_rfl) (fun _ _ _ h => h) (Or.inl ⟨by rfl, fun w hSw => by have c := (unhide HAll _ hSw).2.2.2.2; go_simp⟩) hS ?_
          simp only [Act.put, List.setIfInBounds_toArray, List.set_cons_zero, List.set_cons_succ]
          refine wpAnyH_takeD 21 (some 141) (.int .i64 (t.size : Int)) rfl rfl (by kernel_rfl) (by kernel_rfl) (by kernel_rfl) (fun _ _ _ h => h) (Or.inl ⟨by rfl, fun w hSw => by go_simp⟩) hS ?_
          simp only [Act.put, List.setIfInBounds_toArray, List.set_cons_zero, List.set_cons_succ]
          refine wpAnyH_ready (rs := [16]) (by kernel_rfl) (by simp) ?_
          refine AllReadyH.cons rfl (fun K hK => ?_) AllReadyH.nil
          simp only [List.getElem_toArray, List.getElem_cons_succ, List.getElem_cons_zero]
          go_simp
          refine (len_any _ b (nums t) (unhide HAll _ hS).1).mono ?_
          rintro e w7 ⟨rfl, rfl⟩
          rw [nums_len]
          refine hK.out _ _ hS (fun hS => ?_)
          clear hK K
          refine wpAnyH_takeD 22 (some 142) (.bool false) rfl rfl (by kernel_rfl) (by kernel_rfl) (by kernel_rfl) (fun _ _ _ h => h) (Or.inl ⟨by rfl, fun w hSw => by go_simp⟩) hS ?_
          simp only [Act.put, List.setIfInBounds_toArray, List.set_cons_zero, List.set_cons_succ]
          refine wpAnyH_takeD 23 (some 143) (.bool false) rfl rfl (by kernel_rfl) (by kernel_rfl) (by kernel_rfl) (fun _ _ _ h => h) (Or.inl ⟨by rfl, fun w hSw => by go_simp⟩) hS ?_
          simp only [Act.put, List.setIfInBounds_toArray, List.set_cons_zero, List.set_cons_succ]
          have HP7 := hide hS
          clear hS
          refine wpAnyH_done (by kernel_rfl) ?_ _
          go_wp2
          go_roundw
          case rel => exact ⟨k + 1, by omega, by go_num, unhide HP7⟩
          case measure => simp [intOf]; omega
        · have HB := hide hI.below
          clear hI
          go_wp2
          go_ret
          exact ⟨rfl, unhide HB⟩
end Go.Proofs.YtokaomlhnmbajabDoor
