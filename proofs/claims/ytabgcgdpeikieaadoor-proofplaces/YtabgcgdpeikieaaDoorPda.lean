import Derived.Test.YtabgcgdpeikieaaDoorPba
import Derived.Test.YtabgcgdpeikieaaDoorCha
import Derived.BigQuiet
namespace Go.Proofs.YtabgcgdpeikieaaDoor
open Go.RowKit Go.Conc
set_option maxRecDepth 100000
/-- A channel with room for four, in which l lies, the eldest first. -/
def Ch (w : World) (c : Nat) (l : List Value) : Prop := ∃ s r, w.heap[c]? = some (.chan 4 l.toArray false s r false)
theorem Ch.lt {w : World} {c : Nat} {l : List Value} (h : Ch w c l) : c < w.heap.size := by
  obtain ⟨s, r, h⟩ := h
  exact (Array.getElem?_eq_some_iff.1 h).1
theorem Ch.kept {w w' : World} {c : Nat} {l : List Value} (h : Ch w c l) (e : w'.heap[c]? = w.heap[c]?) : Ch w' c l := by
  obtain ⟨s, r, h⟩ := h
  exact ⟨s, r, e.trans h⟩
theorem Ch.below {w w' : World} {B c : Nat} {l : List Value} (h : Ch w c l) (hb : Below B w w') (hB : c < B) : Ch w' c l := h.kept (hb.block c hB)
theorem Ch.alloc {w : World} {c : Nat} {l : List Value} (h : Ch w c l) (o : Obj) : Ch (w.alloc o) c l := h.below ((Below.refl _ _).alloc (Nat.le_refl _) o) h.lt
theorem Ch.drew {w : World} {c : Nat} {l : List Value} (h : Ch w c l) : Ch w.drew c l := h
theorem Ch.only {w w' : World} {c : Nat} {l : List Value} {P : Nat → Prop} (h : Ch w c l) (ho : Only P w w') (hp : ¬ P c) : Ch w' c l := h.kept (ho.2 c h.lt hp)
theorem Ch.ne_blk {w : World} {c b : Nat} {l : List Value} {cur : Array Value} {T : TypeId} (h : Ch w c l) (hb : Blk w b cur T) : c ≠ b := by
  rintro rfl
  obtain ⟨s, r, h⟩ := h
  rw [show w.heap[c]? = some (.cells cur T (0, 0)) from hb] at h
  cases h
theorem Ch.ne_cell {w : World} {c b o : Nat} {l : List Value} {v : Value} (h : Ch w c l) (hb : w.cell? ⟨b, o, none⟩ = some v) : b ≠ c := by
  rintro rfl
  obtain ⟨s, r, h⟩ := h
  simp [World.cell?, h] at hb
theorem only_chan (w : World) (c cap : Nat) (buf : Array Value) (cl : Bool) (s r : Nat) (tm : Bool) {P : Nat → Prop} (hP : P c) : Only P w (w.setChan c cap buf cl s r tm) :=
  ⟨below_setChan (Below.refl _ _) (Nat.zero_le _) _ _ _ _ _ _, fun k _ hk => by
    have hne : c ≠ k := fun e => hk (by rw [← e]; exact hP)
    simp only [World.setChan]
    rw [Array.getElem?_setIfInBounds_ne hne]⟩
theorem only_cell {w w' : World} {P : Nat → Prop} {b o : Nat} {v : Value} (ho : Only P w w') (hp : ¬ P b) (h : w.cell? ⟨b, o, none⟩ = some v) : w'.cell? ⟨b, o, none⟩ = some v := by
  have hlt : b < w.heap.size := by
    rcases Nat.lt_or_ge b w.heap.size with h' | h'
    · exact h'
    · simp [World.cell?, Array.getElem?_eq_none h'] at h
  have := ho.2 b hlt hp
  unfold World.cell? at h ⊢
  simp only [this]
  exact h
theorem run_getObj_chan {w : World} {c cap s r : Nat} {buf : Array Value} {cl tm : Bool} (h : w.heap[c]? = some (.chan cap buf cl s r tm)) : (getObj c).run Tryd.prog w = .ok (.chan cap buf cl s r tm) w := by
  simp [getObj, Sem.run, h]
theorem run_len_chan {w : World} {c : Nat} {l : List Value} (h : Ch w c l) : (Builtin.len_ #[68] 3 #[.chan (some c)]).run Tryd.prog w = .ok (.int .i64 (l.length : Int)) w := by
  obtain ⟨s, r, h⟩ := h
  simp [Builtin.len_, run_underlying Tryd.underlying68, run_getObj_chan h, goInt]
theorem run_cap_chan {w : World} {c : Nat} {l : List Value} (h : Ch w c l) : (Builtin.cap_ #[68] 3 #[.chan (some c)]).run Tryd.prog w = .ok (.int .i64 4) w := by
  obtain ⟨s, r, h⟩ := h
  simp [Builtin.cap_, run_underlying Tryd.underlying68, run_getObj_chan h, goInt]
theorem ch_set {w : World} {c : Nat} (hc : c < w.heap.size) (l : List Value) (s r : Nat) : Ch (w.setChan c 4 l.toArray false s r false) c l := ⟨s, r, heap_setChan _ _ _ _ _ _ _ _ hc⟩
theorem drop1_arr (l : List Value) : l.toArray.extract 1 l.toArray.size = (l.drop 1).toArray := by
  rw [List.size_toArray, List.extract_toArray, List.extract_eq_take_drop]
  congr 1
  exact List.take_of_length_le (by simp)
theorem push_arr (l : List Value) (v : Value) : l.toArray.push v = (l ++ [v]).toArray := by simp
/-- One challenge more in a channel; if it is full, the eldest gives way. -/
def pushC (l : List Value) (v : Value) : List Value := (if l.length = 4 then l.drop 1 else l) ++ [v]
set_option maxHeartbeats 2000000 in
theorem add_any {w : World} {b o c : Nat} {l : List Value} (hc : w.cell? ⟨b, o, none⟩ = some (.chan (some c))) (h : Ch w c l) (hl : l.length ≤ 4) (n v k : Int) (d q : ByteArray) (p : Nat → Int) :
    Calls Tryd.prog 34 #[.pointer (some ⟨b, o, none⟩), .agg #[.int .i64 n, .int .i64 v, .int .i64 k, .string d, .string q, .int .i64 (p 0), .int .i64 (p 1), .int .i64 (p 2), .int .i64 (p 3), .int .i64 (p 4), .int .i64 (p 5), .int .i64 (p 6), .int .i64 (p 7)]] w
      fun e w' => e = .returned (.tuple #[]) ∧ Ch w' c (pushC l (.agg #[.int .i64 n, .int .i64 v, .int .i64 k, .string d, .string q, .int .i64 (p 0), .int .i64 (p 1), .int .i64 (p 2), .int .i64 (p 3), .int .i64 (p 4), .int .i64 (p 5), .int .i64 (p 6), .int .i64 (p 7)])) ∧ Only (fun k => k = c) w w' := by
  have hbc := h.ne_cell hc
  have hB := Blk.new w 84 #[.int .i64 n, .int .i64 v, .int .i64 k, .string d, .string q, .int .i64 (p 0), .int .i64 (p 1), .int .i64 (p 2), .int .i64 (p 3), .int .i64 (p 4), .int .i64 (p 5), .int .i64 (p 6), .int .i64 (p 7)]
  have ho0 : Only (fun k => k = c) w (w.alloc (.cells #[.int .i64 n, .int .i64 v, .int .i64 k, .string d, .string q, .int .i64 (p 0), .int .i64 (p 1), .int .i64 (p 2), .int .i64 (p 3), .int .i64 (p 4), .int .i64 (p 5), .int .i64 (p 6), .int .i64 (p 7)] 84)) := (Only.refl _ _).alloc _
  have hcl := h.lt
  obtain ⟨y, hy⟩ : ∃ Z, w.alloc (.cells #[.int .i64 n, .int .i64 v, .int .i64 k, .string d, .string q, .int .i64 (p 0), .int .i64 (p 1), .int .i64 (p 2), .int .i64 (p 3), .int .i64 (p 4), .int .i64 (p 5), .int .i64 (p 6), .int .i64 (p 7)] 84) = Z := ⟨_, rfl⟩
  have hch := h.alloc (.cells #[.int .i64 n, .int .i64 v, .int .i64 k, .string d, .string q, .int .i64 (p 0), .int .i64 (p 1), .int .i64 (p 2), .int .i64 (p 3), .int .i64 (p 4), .int .i64 (p 5), .int .i64 (p 6), .int .i64 (p 7)] 84)
  rw [hy] at hB ho0 hch
  have y0 : y.cell? ⟨b, o, none⟩ = some (.chan (some c)) := only_cell ho0 hbc hc
  have hln : (Builtin.len_ #[68] 3 #[.chan (some c)]).run Tryd.prog y.drew = .ok (.int .i64 (l.length : Int)) y.drew := run_len_chan hch.drew
  have hcp : (Builtin.cap_ #[68] 3 #[.chan (some c)]).run Tryd.prog y.drew = .ok (.int .i64 4) y.drew := run_cap_chan hch.drew
  have HO := hide ho0
  have HCH := hide hch
  have HCL := hide hcl
  have HB := hide hB
  have HBC := hide hbc
  clear ho0 hch hcl hB hbc h hc
  go_enter Tryd.func34, Tryd.ntmps34
  by_cases hfull : l.length = 4
  · have hd : decide ((l.length : Int) = 4) = true := decide_eq_true (by omega)
    have hd2 : ((l.length : Int) == 4) = true := by rw [beq_iff_eq]; omega
    go_wp2
    go_still (by kernel_rfl)
    rename_i K1 a1 K2 a2
    refine a2 _ _ ?_
    clear a2 K2 hln hcp
    change Code.wp _ _ _ _ y.drew
    refine wp_cond_true rfl ?_
    refine wp_region_sops 4 1 (by simp only [List.length_cons, List.length_nil, Nat.reduceAdd]) ?_
    simp only [List.take_succ_cons, List.take_zero]
    repeat still_step
    refine wpStill_nil ?_
    obtain ⟨s, r, hH⟩ := ((unhide HCH).drew : Ch y.drew c l)
    refine sops_recv (c := c) (z := .agg #[.int .i64 0, .int .i64 0, .int .i64 0, .string ⟨#[]⟩, .string ⟨#[]⟩, .int .i64 0, .int .i64 0, .int .i64 0, .int .i64 0, .int .i64 0, .int .i64 0, .int .i64 0, .int .i64 0]) rfl rfl (by simp [execOp, rcase, Act.eval]) hH (by rw [List.size_toArray]; omega) ?_
    refine sops_nil ?_
    rw [drop1_arr]
    have hcz := ch_set (w := y.drew) (c := c) (unhide HCH).lt (l.drop 1) s (r + 1)
    have hoz := only_chan y.drew c 4 (l.drop 1).toArray false s (r + 1) false (P := fun k => k = c) rfl
    have hbz := (show Blk y.drew w.heap.size _ _ from unhide HB).only hoz (by have := unhide HCL; omega)
    have z0 := only_cell hoz (unhide HBC) (show y.drew.cell? ⟨b, o, none⟩ = _ from y0)
    have how := (unhide HO).drew.trans hoz (fun _ _ h => h)
    generalize y.drew.setChan c 4 (l.drop 1).toArray false s (r + 1) false = z at *
    have HCZ := hide hcz
    have HBZ := hide hbz
    have HOZ := hide how
    clear hcz hoz hbz how y0 hH HB HCH HO HBC hd hd2
    obtain ⟨m, hm⟩ : ∃ m, l.drop 1 = m := ⟨_, rfl⟩
    have HM := hide (show (if l.length = 4 then l.drop 1 else l) = m by rw [if_pos hfull, hm])
    have HML := hide (show m.length < 4 by rw [← hm, List.length_drop]; omega)
    rw [hm] at HCZ
    clear hm hfull hl HCL
    clear hy y
    refine a1 _ _ ?_
    clear a1 K1
    have hld : (loadVar 84 ⟨w.heap.size, 0, none⟩).run Tryd.prog z.drew = .ok (.agg #[.int .i64 n, .int .i64 v, .int .i64 k, .string d, .string q, .int .i64 (p 0), .int .i64 (p 1), .int .i64 (p 2), .int .i64 (p 3), .int .i64 (p 4), .int .i64 (p 5), .int .i64 (p 6), .int .i64 (p 7)]) z.drew := iload_blk _ _ (show Blk z.drew w.heap.size _ _ from (unhide HBZ)) Tryd.underlying84 rfl (by kernel_rfl)
    refine wp_region_sops_draw 5 (by simp only [List.length_cons, List.length_nil, Nat.reduceAdd]) (by kernel_rfl) (by kernel_rfl) ?_
    simp only [List.take_succ_cons, List.take_zero]
    iterate 4 still_step
    refine wpStill_load rfl _ (.tmp 3) rfl _ rfl hld ?_
    refine wpStill_nil ?_
    obtain ⟨s, r, hH⟩ := ((unhide HCZ).drew : Ch z.drew c m)
    refine sops_send (c := c) (cap := 4) (s := s) (r := r) (tm := false) (v := .agg #[.int .i64 n, .int .i64 v, .int .i64 k, .string d, .string q, .int .i64 (p 0), .int .i64 (p 1), .int .i64 (p 2), .int .i64 (p 3), .int .i64 (p 4), .int .i64 (p 5), .int .i64 (p 6), .int .i64 (p 7)]) (z := .tuple #[]) rfl rfl (by simp [execOp, scase, Act.eval, Act.put]) hH (by rw [List.size_toArray]; exact unhide HML) ?_
    refine sops_nil ?_
    simp only [Act.put]
    clear hld
    rw [push_arr]
    have hfin := ch_set (w := z.drew) (c := c) (unhide HCZ).lt (m ++ [Value.agg #[.int .i64 n, .int .i64 v, .int .i64 k, .string d, .string q, .int .i64 (p 0), .int .i64 (p 1), .int .i64 (p 2), .int .i64 (p 3), .int .i64 (p 4), .int .i64 (p 5), .int .i64 (p 6), .int .i64 (p 7)]]) (s + 1) r
    have hon : Only (fun k => k = c) w (z.drew.setChan c 4 (m ++ [Value.agg #[.int .i64 n, .int .i64 v, .int .i64 k, .string d, .string q, .int .i64 (p 0), .int .i64 (p 1), .int .i64 (p 2), .int .i64 (p 3), .int .i64 (p 4), .int .i64 (p 5), .int .i64 (p 6), .int .i64 (p 7)]]).toArray false (s + 1) r false) := (unhide HOZ).drew.trans (only_chan _ _ _ _ _ _ _ _ rfl (P := fun k => k = c)) (fun _ _ h => h)
    generalize z.drew.setChan c 4 (m ++ [Value.agg #[.int .i64 n, .int .i64 v, .int .i64 k, .string d, .string q, .int .i64 (p 0), .int .i64 (p 1), .int .i64 (p 2), .int .i64 (p 3), .int .i64 (p 4), .int .i64 (p 5), .int .i64 (p 6), .int .i64 (p 7)]]).toArray false (s + 1) r false = u at *
    have HF := hide hfin
    have HON := hide hon
    clear hfin hon hH
    go_wp2
    go_end0
    refine ⟨rfl, ?_, unhide HON⟩
    unfold pushC
    rw [unhide HM]
    exact unhide HF
  · have hd : decide ((l.length : Int) = 4) = false := decide_eq_false (by omega)
    have hd2 : ((l.length : Int) == 4) = false := by rw [beq_eq_false_iff_ne]; omega
    have hd3 : ¬ ((l.length : Int) = 4) := by omega
    go_wp2
    go_still (by kernel_rfl)
    rename_i K1 a1 K2 a2
    refine a2 _ _ ?_
    clear a2 K2 hln hcp
    change Code.wp _ _ _ _ y.drew
    refine wp_cond_false rfl ?_
    refine wp_skip ?_
    have HCZ := hide (unhide HCH).drew
    have HBZ := hide (show Blk y.drew w.heap.size _ _ from unhide HB)
    have HOZ := hide (unhide HO).drew
    have z0 : y.drew.cell? ⟨b, o, none⟩ = some (.chan (some c)) := y0
    generalize y.drew = z at *
    clear y0 HB HCH HO HBC hd hd2 hd3
    obtain ⟨m, hm⟩ : ∃ m, l = m := ⟨_, rfl⟩
    have HM := hide (show (if l.length = 4 then l.drop 1 else l) = m by rw [if_neg hfull, hm])
    have HML := hide (show m.length < 4 by rw [← hm]; omega)
    rw [hm] at HCZ
    clear hm hfull hl HCL
    clear hy y
    refine a1 _ _ ?_
    clear a1 K1
    have hld : (loadVar 84 ⟨w.heap.size, 0, none⟩).run Tryd.prog z.drew = .ok (.agg #[.int .i64 n, .int .i64 v, .int .i64 k, .string d, .string q, .int .i64 (p 0), .int .i64 (p 1), .int .i64 (p 2), .int .i64 (p 3), .int .i64 (p 4), .int .i64 (p 5), .int .i64 (p 6), .int .i64 (p 7)]) z.drew := iload_blk _ _ (show Blk z.drew w.heap.size _ _ from (unhide HBZ)) Tryd.underlying84 rfl (by kernel_rfl)
    refine wp_region_sops_draw 5 (by simp only [List.length_cons, List.length_nil, Nat.reduceAdd]) (by kernel_rfl) (by kernel_rfl) ?_
    simp only [List.take_succ_cons, List.take_zero]
    iterate 4 still_step
    refine wpStill_load rfl _ (.tmp 3) rfl _ rfl hld ?_
    refine wpStill_nil ?_
    obtain ⟨s, r, hH⟩ := ((unhide HCZ).drew : Ch z.drew c m)
    refine sops_send (c := c) (cap := 4) (s := s) (r := r) (tm := false) (v := .agg #[.int .i64 n, .int .i64 v, .int .i64 k, .string d, .string q, .int .i64 (p 0), .int .i64 (p 1), .int .i64 (p 2), .int .i64 (p 3), .int .i64 (p 4), .int .i64 (p 5), .int .i64 (p 6), .int .i64 (p 7)]) (z := .tuple #[]) rfl rfl (by simp [execOp, scase, Act.eval, Act.put]) hH (by rw [List.size_toArray]; exact unhide HML) ?_
    refine sops_nil ?_
    simp only [Act.put]
    clear hld
    rw [push_arr]
    have hfin := ch_set (w := z.drew) (c := c) (unhide HCZ).lt (m ++ [Value.agg #[.int .i64 n, .int .i64 v, .int .i64 k, .string d, .string q, .int .i64 (p 0), .int .i64 (p 1), .int .i64 (p 2), .int .i64 (p 3), .int .i64 (p 4), .int .i64 (p 5), .int .i64 (p 6), .int .i64 (p 7)]]) (s + 1) r
    have hon : Only (fun k => k = c) w (z.drew.setChan c 4 (m ++ [Value.agg #[.int .i64 n, .int .i64 v, .int .i64 k, .string d, .string q, .int .i64 (p 0), .int .i64 (p 1), .int .i64 (p 2), .int .i64 (p 3), .int .i64 (p 4), .int .i64 (p 5), .int .i64 (p 6), .int .i64 (p 7)]]).toArray false (s + 1) r false) := (unhide HOZ).drew.trans (only_chan _ _ _ _ _ _ _ _ rfl (P := fun k => k = c)) (fun _ _ h => h)
    generalize z.drew.setChan c 4 (m ++ [Value.agg #[.int .i64 n, .int .i64 v, .int .i64 k, .string d, .string q, .int .i64 (p 0), .int .i64 (p 1), .int .i64 (p 2), .int .i64 (p 3), .int .i64 (p 4), .int .i64 (p 5), .int .i64 (p 6), .int .i64 (p 7)]]).toArray false (s + 1) r false = u at *
    have HF := hide hfin
    have HON := hide hon
    clear hfin hon hH
    go_wp2
    go_end0
    refine ⟨rfl, ?_, unhide HON⟩
    unfold pushC
    rw [unhide HM]
    exact unhide HF
end Go.Proofs.YtabgcgdpeikieaaDoor
