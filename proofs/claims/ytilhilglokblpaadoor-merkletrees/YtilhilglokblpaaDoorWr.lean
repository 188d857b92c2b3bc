import Derived.Test.YtilhilglokblpaaDoorHas
import Derived.StillTailTactics
import Derived.Deep.RegionHeld3
namespace Go.Proofs.YtilhilglokblpaaDoor
open Go.RowKit
theorem run_copy_str (w : World) (b o dLen dCap m : Nat) (t : ByteArray) (hm : m = min t.size dLen) (ht : w.there b o m) (ty : TypeId) :
    (Builtin.copy_ #[67, 9] ty #[.slice (some ⟨b, o, none⟩) dLen dCap, .string t]).run Tryd.prog w = .ok (.int .i64 m) (w.setCells b o (((nums t).take m).map (Value.int .u8))) := by
  have hmin : Nat.min t.size dLen = m := hm.symm
  have hz : ∀ w, (Go.sizeOf 5).run Tryd.prog w = .ok 1 w := fun w => by kernel_rfl
  have hml : m ≤ t.size := by omega
  have hle : (((nums t).take m).map (Value.int .u8)).length = m := by rw [List.length_map, List.length_take, nums_len]; omega
  have hst := run_storeCells_cells (P := Tryd.prog) b o (((nums t).take m).map (Value.int .u8)) 0 w (by rw [hle]; intro j hj; simpa using (ht j hj).1) (by rw [hle]; intro j hj; simpa using (ht j hj).2) (by
    intro v hv
    obtain ⟨x, _, rfl⟩ := List.mem_map.1 hv
    rfl)
  have he : List.take m (List.map (fun b : UInt8 => Value.int .u8 (b.toNat : Int)) t.data.toList) = ((nums t).take m).map (Value.int .u8) := by
    simp [nums, List.map_take, Function.comp_def]
  simp only [Nat.add_zero] at hst
  simp [Builtin.copy_, run_underlying Tryd.underlying67, Builtin.lenOf, Builtin.firstCells, hz, hmin]
  rw [he, hst, List.map_take]
  rfl
theorem getD_mid (q l : List Int) (i j : Nat) (hi : i + l.length ≤ q.length) : (q.take i ++ l ++ q.drop (i + l.length)).getD j 0 = if j < i then q.getD j 0 else if j < i + l.length then l.getD (j - i) 0 else q.getD j 0 := by
  have hm : min i q.length = i := by omega
  simp only [List.getD_eq_getElem?_getD, List.getElem?_append, List.length_append, List.length_take, hm]
  by_cases h1 : j < i
  · rw [if_pos (by omega), if_pos h1, if_pos h1, List.getElem?_take, if_pos h1]
  · by_cases h2 : j < i + l.length
    · rw [if_pos h2, if_neg h1, if_neg h1, if_pos h2]
    · rw [if_neg h2, if_neg h1, if_neg h2, List.getElem?_drop]
      congr 2
      omega
theorem HAt.putMid {w : World} {b : Nat} {s : H8} {q : List Int} {n : Nat} (h : HAt w b s q n) (hq : q.length = 64) (i : Nat) (l' : List Int) (hi : i + l'.length ≤ 64) :
    HAt (w.setCells b (8 + i) (l'.map (Value.int .u8))) b s (q.take i ++ l' ++ q.drop (i + l'.length)) n := by
  refine ⟨h.1.setCells_apart _ _ _ (.inr (.inl (by simp [H8.vals]))), ?_, h.2.2.setCells_apart _ _ _ (.inr (.inr (by simp; omega)))⟩
  intro j hj
  have hjl : j < q.length := by simp at hj; omega
  refine ⟨?_, by rw [World.frozen?_setCells]; exact (h.2.1 j hjl).2⟩
  rw [getD_mid _ _ _ _ (by omega)]
  by_cases h1 : j < i
  · rw [World.cell?_setCells_out b _ (8 + i) w ⟨b, 8 + j, none⟩ (by intro _ _; left; simp; omega), (h.2.1 j hjl).1, if_pos h1]
  · by_cases h2 : j < i + l'.length
    · obtain ⟨m, rfl⟩ : ∃ m, j = i + m := ⟨j - i, by omega⟩
      have hr := World.rangeAt_setCells_same w b (8 + i) (l'.map (Value.int .u8)) (by
        intro x hx
        have hx' : i + x < q.length := by (simp at hx; omega)
        rw [Nat.add_assoc]; exact h.2.1.there (i + x) hx')
      have hm : m < l'.length := by omega
      have := hr m (.int .u8 (l'.getD m 0)) (by simp [hm])
      rw [Nat.add_assoc] at this
      rw [this, if_neg h1, if_pos h2, Nat.add_sub_cancel_left]
    · rw [World.cell?_setCells_out b _ (8 + i) w ⟨b, 8 + j, none⟩ (by intro _ _; right; simp; omega), (h.2.1 j hjl).1, if_neg h1, if_neg h2]
theorem HAt.putCount {w : World} {b : Nat} {s : H8} {q : List Int} {n : Nat} (h : HAt w b s q n) (hq : q.length = 64) (n' : Nat) : HAt (w.setCell ⟨b, 72, none⟩ (.int .i64 (n' : Int))) b s q n' := by
  refine ⟨h.1.other _ _ (.inr (.inr (by simp [H8.vals]))), h.2.1.other _ _ (.inr (.inr (by simp; omega))), ?_⟩
  have := h.2.2.set 0 (by simp) (n' : Int)
  simpa using this
theorem hs_full {l' : List Int} {t' : ByteArray} {q : List Int} {m n : Nat} (hn : l'.length = n) (hm : ((nums t').take m).length = m) (hq : q.take (n % 64) = l'.drop (64 * (n / 64))) (hf : n % 64 + m = 64) (hq64 : q.length = 64) :
    comps start8 (l' ++ (nums t').take m) ((n + m) / 64) = comp (comps start8 l' (n / 64)) (q.take (n % 64) ++ (nums t').take m ++ q.drop (n % 64 + m)) ∧ (n + m) % 64 = 0 ∧ (l' ++ (nums t').take m).length = n + m := by
  have hl : (l' ++ (nums t').take m).length = n + m := by rw [List.length_append, hm, hn]
  have h1 : n = 64 * (n / 64) + n % 64 := by omega
  have h2 : (n + m) / 64 = n / 64 + 1 := by omega
  refine ⟨?_, by omega, hl⟩
  rw [h2, comps, comps_pre start8 l' _ (n / 64) (by omega)]
  congr 1
  rw [List.drop_append_of_le_length (by omega), ← hq]
  have h3 : (q.take (n % 64)).length = n % 64 := by rw [hq, List.length_drop]; omega
  rw [List.take_of_length_le (by rw [List.length_append, h3, hm]; omega)]
  have h6 : q.drop (n % 64 + m) = [] := List.drop_of_length_le (by omega)
  rw [h6, List.append_nil]
theorem hs_of_full {W : World} {b n m : Nat} {l'' q1 : List Int} {s2 : H8} (hA : HAt W b s2 q1 (n + m)) (hq : q1.length = 64) (hb : Bytes q1) (hc : comps start8 l'' ((n + m) / 64) = s2) (h0 : (n + m) % 64 = 0) (hl : l''.length = n + m) : Hs W b l'' := by
  refine ⟨q1, hq, hb, by rw [hl, hc]; exact hA, ?_⟩
  rw [hl, h0, List.take_zero, List.drop_of_length_le (by omega)]
theorem hnums_extract (t : ByteArray) (m : Nat) : nums (t.extract m t.size) = (nums t).drop m := by
  have h := nums_len t
  unfold nums at *
  simp only [ByteArray.data_extract, Array.toList_extract, List.extract_eq_take_drop, List.map_take, List.map_drop]
  exact List.take_of_length_le (by rw [List.length_drop, h]; omega)
theorem hs_part {W : World} {b : Nat} {l' : List Int} {t' : ByteArray} {q : List Int} {m n : Nat} (hn : l'.length = n) (hm : ((nums t').take m).length = m) (hq : q.take (n % 64) = l'.drop (64 * (n / 64))) (hf : n % 64 + m < 64) (hq64 : q.length = 64)
    (hA : HAt W b (comps start8 l' (n / 64)) (q.take (n % 64) ++ (nums t').take m ++ q.drop (n % 64 + m)) (n + m)) (hl1 : (q.take (n % 64) ++ (nums t').take m ++ q.drop (n % 64 + m)).length = 64) (hb : Bytes (q.take (n % 64) ++ (nums t').take m ++ q.drop (n % 64 + m))) : Hs W b (l' ++ (nums t').take m) := by
  have hl : (l' ++ (nums t').take m).length = n + m := by rw [List.length_append, hm, hn]
  have h2 : (n + m) / 64 = n / 64 := by omega
  have h5 : (n + m) % 64 = n % 64 + m := by omega
  have h3 : (q.take (n % 64)).length = n % 64 := by rw [List.length_take]; omega
  refine ⟨_, hl1, hb, by rw [hl, h2, comps_pre start8 l' _ (n / 64) (by omega)]; exact hA, ?_⟩
  rw [hl, h5, h2, List.take_append_of_le_length (by rw [List.length_append, h3, hm]; omega), List.take_of_length_le (by rw [List.length_append, h3, hm]; omega), hq, List.drop_append_of_le_length (by omega)]
theorem wpAnyH_takeD {P : Program} {ops : Array Oper} {Q : Exit → Act → World → Prop} {md : Region.Mode} {S : World → Prop} (i : Nat) (d : Option Tmp) (v : Value) {oi : Oper} {fuel : Nat} {listed : Array Bool} {a : Act} {w : World} (hi : ops[i]? = some oi) (hd : oi.dst = d)
    (hs : Region.noSelect ops = true) (hf : Region.free md ops listed i = true) (hr : (Region.ready md ops listed).contains i = true)
    (hQ : ∀ c a w, Q (.panic c) (a.put d v) w → Q (.panic c) a w) (hy : YieldsIf P ops S oi v a) (hS : S w)
    (h : wpAnyH P md ops Q S fuel (listed.setIfInBounds i true) (a.put d v) w) : wpAnyH P md ops Q S (fuel + 1) listed a w := by
  subst hd
  exact wpAnyH_take hi hs hf hr hQ hy hS h
theorem mixed_ex (s : H8) (p : List Int) (hp : p.length = 64) (hb : Bytes p) (w : World) (hK : KTab w) :
    Calls Tryd.prog 58 #[.agg #[.int .u32 s.a, .int .u32 s.b, .int .u32 s.c, .int .u32 s.d, .int .u32 s.e, .int .u32 s.f, .int .u32 s.g, .int .u32 s.h], .agg (p.map (Value.int .u8)).toArray] w fun e w' => e = .returned (.agg #[.int .u32 (comp s p).a, .int .u32 (comp s p).b, .int .u32 (comp s p).c, .int .u32 (comp s p).d, .int .u32 (comp s p).e, .int .u32 (comp s p).f, .int .u32 (comp s p).g, .int .u32 (comp s p).h]) ∧ Below w.heap.size w w' :=
  mixed_any s p hp hb w hK
theorem range8 {w : World} {b : Nat} {cs : List Value} (h : w.rangeAt b 8 cs) (v0 v1 v2 v3 v4 v5 v6 v7 : Value) :
    ((((((((w.setCell ⟨b, 0, none⟩ v0).setCell ⟨b, 1, none⟩ v1).setCell ⟨b, 2, none⟩ v2).setCell ⟨b, 3, none⟩ v3).setCell ⟨b, 4, none⟩ v4).setCell ⟨b, 5, none⟩ v5).setCell ⟨b, 6, none⟩ v6).setCell ⟨b, 7, none⟩ v7).rangeAt b 8 cs := by
  have := World.rangeAt_setCells_apart h b 0 [v0, v1, v2, v3, v4, v5, v6, v7] (.inr (.inr (by simp)))
  exact this
theorem words_at {w : World} {b : Nat} {s : H8} {q : List Int} {n : Nat} (h : HAt w b s q n) : (w.cell? ⟨b, 0, none⟩ = some (.int .u32 s.a) ∧ w.cell? ⟨b, 1, none⟩ = some (.int .u32 s.b) ∧ w.cell? ⟨b, 2, none⟩ = some (.int .u32 s.c) ∧ w.cell? ⟨b, 3, none⟩ = some (.int .u32 s.d) ∧ w.cell? ⟨b, 4, none⟩ = some (.int .u32 s.e) ∧ w.cell? ⟨b, 5, none⟩ = some (.int .u32 s.f) ∧ w.cell? ⟨b, 6, none⟩ = some (.int .u32 s.g) ∧ w.cell? ⟨b, 7, none⟩ = some (.int .u32 s.h)) ∧
    w.frozen? ⟨b, 0, none⟩ = false ∧ w.frozen? ⟨b, 1, none⟩ = false ∧ w.frozen? ⟨b, 2, none⟩ = false ∧ w.frozen? ⟨b, 3, none⟩ = false ∧ w.frozen? ⟨b, 4, none⟩ = false ∧ w.frozen? ⟨b, 5, none⟩ = false ∧ w.frozen? ⟨b, 6, none⟩ = false ∧ w.frozen? ⟨b, 7, none⟩ = false :=
  ⟨⟨h.1.get0 0 (by simp [H8.vals]), h.1.get0 1 (by simp [H8.vals]), h.1.get0 2 (by simp [H8.vals]), h.1.get0 3 (by simp [H8.vals]), h.1.get0 4 (by simp [H8.vals]), h.1.get0 5 (by simp [H8.vals]), h.1.get0 6 (by simp [H8.vals]), h.1.get0 7 (by simp [H8.vals])⟩,
   h.1.free0 0 (by simp [H8.vals]), h.1.free0 1 (by simp [H8.vals]), h.1.free0 2 (by simp [H8.vals]), h.1.free0 3 (by simp [H8.vals]), h.1.free0 4 (by simp [H8.vals]), h.1.free0 5 (by simp [H8.vals]), h.1.free0 6 (by simp [H8.vals]), h.1.free0 7 (by simp [H8.vals])⟩
set_option maxRecDepth 100000 in
set_option maxHeartbeats 400000 in
theorem hs_write_any (w : World) (b : Nat) (l : List Int) (t : ByteArray) (h : Hs w b l) (hb0 : 2 < b) (hbs : b < w.heap.size) (hK : KTab w) (hn : l.length + t.size < 2305843009213693952) :
    Calls Tryd.prog 52 #[.pointer (some ⟨b, 0, none⟩), .string t] w fun e w' => e = .returned (.tuple #[]) ∧ Hs w' b (l ++ nums t) ∧ Touch b w w' := by
  have H0 := hide h
  have HK := hide hK
  clear h hK
  go_enter Tryd.func52, Tryd.ntmps52
  go_wp2
  go_loopw [1] (fun v wr => ∃ t' : ByteArray, v = .string t' ∧ ∃ l', Hs wr b l' ∧ l' ++ nums t' = l ++ nums t ∧ Touch b w wr) (fun v _ => match v with | .string t' => t'.size | _ => 0)
  case atStart => exact ⟨t, rfl, l, unhide H0, rfl, Touch.refl _ _⟩
  case round =>
    obtain ⟨t', rfl, l', hI, hl, hT⟩ := hrel
    have hlen : l'.length + t'.size = l.length + t.size := by
      have := congrArg List.length hl
      simpa [nums_len] using this
    by_cases h0 : 0 < t'.size
    · obtain ⟨q, hq, hqb, hA, hqt⟩ := hI
      have hr : l'.length % 64 < 64 := Nat.mod_lt _ (by decide)
      obtain ⟨off, ln, e1, e2, hsl⟩ := slice_piece b (l'.length % 64) (by omega)
      have hoff := e2 (by omega)
      obtain ⟨m, hm⟩ : ∃ m, m = min t'.size ln := ⟨_, rfl⟩
      have hlm : ((nums t').take m).length = m := by rw [List.length_take, nums_len]; omega
      obtain ⟨W1, hcp, hA1, hT1⟩ : ∃ W1, (∀ ty, (Builtin.copy_ #[67, 9] ty #[.slice (some ⟨b, off, none⟩) ln ln, .string t']).run Tryd.prog wr = .ok (.int .i64 m) W1) ∧
          HAt W1 b (comps start8 l' (l'.length / 64)) (q.take (l'.length % 64) ++ (nums t').take m ++ q.drop (l'.length % 64 + m)) l'.length ∧ Touch b w W1 := by
        refine ⟨_, fun ty => run_copy_str wr b off ln ln m t' hm (by rw [hoff]; intro j hj; rw [Nat.add_assoc]; exact hA.2.1.there (l'.length % 64 + j) (by omega)) ty, ?_, hT.setCells _ _⟩
        have := hA.putMid hq (l'.length % 64) ((nums t').take m) (by omega)
        rw [hlm] at this
        rw [hoff]; exact this
      have hsl' : ∀ W : World, (Instr.sliceAt 89 (.pointer (some ⟨b, 8, none⟩)) (some (.int .i64 ((l'.length : Int) % 64))) none none).run Tryd.prog W = .ok (.slice (some ⟨b, off, none⟩) ln ln) W := fun W => by simpa using hsl W
      have c72 := cell72 hA
      have c72' := cell72 hA1
      have f72 : W1.frozen? ⟨b, 72, none⟩ = false := by simpa using hA1.2.2.free 0 (by simp)
      have hmt : m ≤ t'.size := by omega
      have hm64 : l'.length % 64 + m ≤ 64 := by omega
      have hm0 : 0 < m := by omega
      have HA1 := hide hA1
      have HT1 := hide hT1
      have HL := hide hl
      have HM := hide hm
      have HLM := hide hlm
      have HQT := hide hqt
      have HQB := hide hqb
      clear hA hA1 hT1 hl hm hlm hsl e1 e2 hoff H0 hqt hqb hT
      have hlt : l'.length < 2305843009213693952 := by omega
      have hsz : t'.size < 2305843009213693952 := by omega
      generalize hnn : l'.length = n at *
      have HN := hide hnn
      clear hnn hlen
      by_cases hfull : n % 64 + m = 64
      · go_wp2
        have hq1 : (q.take (n % 64) ++ (nums t').take m ++ q.drop (n % 64 + m)).length = 64 := by
          have := unhide HLM
          simp only [List.length_append, this, List.length_take, List.length_drop]; omega
        have hA2 : HAt (W1.setCell ⟨b, 72, none⟩ (.int .i64 ((n : Int) + (m : Int)))) b (comps start8 l' (n / 64)) (q.take (n % 64) ++ (nums t').take m ++ q.drop (n % 64 + m)) (n + m) := by
          have := (unhide HA1).putCount hq1 (n + m)
          simpa using this
        have hT2 := (unhide HT1).setCell 72 (.int .i64 ((n : Int) + (m : Int)))
        generalize W1.setCell ⟨b, 72, none⟩ (.int .i64 ((n : Int) + (m : Int))) = W2 at *
        have hby1 : Bytes (q.take (n % 64) ++ (nums t').take m ++ q.drop (n % 64 + m)) := bytes_append (bytes_append (bytes_take (unhide HQB) _) (bytes_take (nums_bytes _) _)) (bytes_drop (unhide HQB) _)
        have HX := hide (hs_full (l' := l') (t' := t') (q := q) (m := m) (n := n) (unhide HN) (unhide HLM) (unhide HQT) hfull hq)
        clear HA1 HT1 HQB HQT c72 c72' f72 hcp hsl'
        generalize q.take (n % 64) ++ (nums t').take m ++ q.drop (n % 64 + m) = q1 at *
        generalize comps start8 l' (n / 64) = s at *
        have hbs2 : b < W2.drew.heap.size := Nat.lt_of_lt_of_le hbs hT2.1.size
        have HK2 : Hid (KTab W2.drew) := (unhide HK).touch hT2.drew hb0
        have hA2 : HAt W2.drew b s q1 (n + m) := hA2.drew
        have r8 := hA2.2.1.range
        have r45 := hide hA2.1.range
        have HA2 := hide hA2
        have HT2 := hide hT2
        have HBY := hide hby1
        clear hA2 hT2 hby1
        refine wp_region_held_drew (S := fun w' => w'.rangeAt b 8 (q1.map (Value.int .u8))) (by kernel_rfl) r8 ?_
        intro hS
        refine wpAnyH_takeD 0 (some 38) (Value.pointer (some ⟨b, 0, none⟩)) rfl rfl (by kernel_rfl) (by kernel_rfl) (by kernel_rfl) (fun _ _ _ h => h) (Or.inl ⟨by rfl, fun w hSw => by go_simp⟩) hS ?_
        simp only [Act.put, List.setIfInBounds_toArray, List.set_cons_zero, List.set_cons_succ]
        refine wpAnyH_takeD 1 (some 39) (Value.pointer (some ⟨b, 0, none⟩)) rfl rfl (by kernel_rfl) (by kernel_rfl) (by kernel_rfl) (fun _ _ _ h => h) (Or.inl ⟨by rfl, fun w hSw => by go_simp⟩) hS ?_
        simp only [Act.put, List.setIfInBounds_toArray, List.set_cons_zero, List.set_cons_succ]
        refine wpAnyH_takeD 2 (some 40) (Value.pointer (some ⟨b, 0, none⟩)) rfl rfl (by kernel_rfl) (by kernel_rfl) (by kernel_rfl) (fun _ _ _ h => h) (Or.inl ⟨by rfl, fun w hSw => by go_simp⟩) hS ?_
        simp only [Act.put, List.setIfInBounds_toArray, List.set_cons_zero, List.set_cons_succ]
        refine wpAnyH_takeD 3 (some 41) (Value.pointer (some ⟨b, 0, none⟩)) rfl rfl (by kernel_rfl) (by kernel_rfl) (by kernel_rfl) (fun _ _ _ h => h) (Or.inl ⟨by rfl, fun w hSw => by go_simp⟩) hS ?_
        simp only [Act.put, List.setIfInBounds_toArray, List.set_cons_zero, List.set_cons_succ]
        refine wpAnyH_takeD 5 (some 43) (Value.pointer (some ⟨b, 0, none⟩)) rfl rfl (by kernel_rfl) (by kernel_rfl) (by kernel_rfl) (fun _ _ _ h => h) (Or.inl ⟨by rfl, fun w hSw => by go_simp⟩) hS ?_
        simp only [Act.put, List.setIfInBounds_toArray, List.set_cons_zero, List.set_cons_succ]
        refine wpAnyH_takeD 6 (some 44) (Value.pointer (some ⟨b, 0, none⟩)) rfl rfl (by kernel_rfl) (by kernel_rfl) (by kernel_rfl) (fun _ _ _ h => h) (Or.inl ⟨by rfl, fun w hSw => by go_simp⟩) hS ?_
        simp only [Act.put, List.setIfInBounds_toArray, List.set_cons_zero, List.set_cons_succ]
        refine wpAnyH_takeD 7 (some 45) (Value.pointer (some ⟨b, 8, none⟩)) rfl rfl (by kernel_rfl) (by kernel_rfl) (by kernel_rfl) (fun _ _ _ h => h) (Or.inl ⟨by rfl, fun w hSw => by go_simp⟩) hS ?_
        simp only [Act.put, List.setIfInBounds_toArray, List.set_cons_zero, List.set_cons_succ]
        refine wpAnyH_takeD 8 (some 46) (.agg (q1.map (Value.int .u8)).toArray) rfl rfl (by kernel_rfl) (by kernel_rfl) (by kernel_rfl) (fun _ _ _ h => h) (yieldsIf_load_mid (by rfl) 89 (.tmp 45) rfl b 8 rfl _ _ (fun w h => h) Tryd.underlying89 rfl (by rw [size89, List.length_map, hq1])) hS ?_
        simp only [Act.put, List.setIfInBounds_toArray, List.set_cons_zero, List.set_cons_succ]
        refine wpAnyH_ready (rs := [4]) (by kernel_rfl) (by simp) ?_
        refine AllReadyH.cons rfl (fun K hK => ?_) AllReadyH.nil
        rw [if_pos (by rfl)]
        refine wp_load_mid 80 (.tmp 41) rfl b 0 rfl _ _ (unhide r45) Tryd.underlying80 rfl (by rw [size80]; simp [H8.vals]) ?_
        refine hK.out (Act.put _ (some 42) _) _ hS (fun hS => ?_)
        simp only [Act.put, List.setIfInBounds_toArray, List.set_cons_zero, List.set_cons_succ]
        clear hK K
        refine wpAnyH_ready (rs := [9]) (by kernel_rfl) (by simp) ?_
        refine AllReadyH.cons rfl (fun K hK => ?_) AllReadyH.nil
        simp only [List.getElem_toArray, List.getElem_cons_succ, List.getElem_cons_zero]
        go_simp
        refine (mixed_any s q1 hq1 (unhide HBY) W2.drew (unhide HK2)).mono ?_
        rintro e w3 ⟨rfl, hb3⟩
        have hA3 := (unhide HA2).below hb3 hbs2
        have hT3 := (unhide HT2).drew.trans (Touch.of_below hb3 (Nat.le_of_lt hbs2))
        have h3 := hide hA3.1.there
        have HA3 := hide (hA3.putWords (s' := comp s q1))
        have HT3 := hide (hT3.setCells ((comp s q1).vals.map (Value.int .u32)) 0)
        have HS3 := hide (World.rangeAt_setCells_apart hA3.2.1.range b 0 ((comp s q1).vals.map (Value.int .u32)) (.inr (.inr (by simp [H8.vals]))))
        refine hK.out _ _ hA3.2.1.range (fun hS => ?_)
        clear hK K hA3 hT3 HA2 HT2 hb3 r45 r8
        refine wpAnyH_takeD 10 (some 48) (Value.pointer (some ⟨b, 0, none⟩)) rfl rfl (by kernel_rfl) (by kernel_rfl) (by kernel_rfl) (fun _ _ _ h => h) (Or.inl ⟨by rfl, fun w hSw => by go_simp⟩) hS ?_
        simp only [Act.put, List.setIfInBounds_toArray, List.set_cons_zero, List.set_cons_succ]
        refine wpAnyH_takeD 11 (some 49) (Value.pointer (some ⟨b, 0, none⟩)) rfl rfl (by kernel_rfl) (by kernel_rfl) (by kernel_rfl) (fun _ _ _ h => h) (Or.inl ⟨by rfl, fun w hSw => by go_simp⟩) hS ?_
        simp only [Act.put, List.setIfInBounds_toArray, List.set_cons_zero, List.set_cons_succ]
        refine wpAnyH_ready (rs := [12]) (by kernel_rfl) (by simp) ?_
        refine AllReadyH.cons rfl (fun K hK => ?_) AllReadyH.nil
        rw [if_pos (by rfl)]
        refine wp_store_mid 80 (.tmp 49) (.tmp 47) rfl b 0 _ rfl rfl (by simpa [H8.vals] using unhide h3) (by rw [size80]; simp [H8.vals]) (one_ints _ _) ?_
        refine hK.out (Act.put _ none _) _ (unhide HS3) (fun hS => ?_)
        clear hK K hS
        refine wpAnyH_done (by kernel_rfl) ?_ _
        simp only [Act.put]
        go_wp2
        go_roundw
        case rel => exact ⟨_, rfl, l' ++ (nums t').take m, hs_of_full (unhide HA3) hq1 (unhide HBY) (unhide HX).1 (unhide HX).2.1 (unhide HX).2.2, by rw [hnums_extract, List.append_assoc, List.take_append_drop]; exact unhide HL, unhide HT3⟩
        case measure => simp; omega
      · have hq1 : (q.take (n % 64) ++ (nums t').take m ++ q.drop (n % 64 + m)).length = 64 := by
          have := unhide HLM
          simp only [List.length_append, this, List.length_take, List.length_drop]; omega
        have hA2 : HAt (W1.setCell ⟨b, 72, none⟩ (.int .i64 ((n : Int) + (m : Int)))) b (comps start8 l' (n / 64)) (q.take (n % 64) ++ (nums t').take m ++ q.drop (n % 64 + m)) (n + m) := by
          have := (unhide HA1).putCount hq1 (n + m)
          simpa using this
        have hT2 := (unhide HT1).setCell 72 (.int .i64 ((n : Int) + (m : Int)))
        have hby1 : Bytes (q.take (n % 64) ++ (nums t').take m ++ q.drop (n % 64 + m)) := bytes_append (bytes_append (bytes_take (unhide HQB) _) (bytes_take (nums_bytes _) _)) (bytes_drop (unhide HQB) _)
        have HH := hide (hs_part (unhide HN) (unhide HLM) (unhide HQT) (by omega) hq hA2 hq1 hby1)
        have HT2 := hide hT2
        clear hA2 hT2 hby1 HA1 HT1 HQB HQT
        go_wp2
        go_roundw
        case rel => exact ⟨_, rfl, l' ++ (nums t').take m, unhide HH, by rw [hnums_extract, List.append_assoc, List.take_append_drop]; exact unhide HL, unhide HT2⟩
        case measure => simp; omega
    · have hz : t'.size = 0 := by omega
      have hnil : nums t' = [] := List.eq_nil_of_length_eq_zero (by rw [nums_len, hz])
      rw [hnil, List.append_nil] at hl
      subst hl
      have HI := hide hI
      have HT := hide hT
      clear hI hT H0 hnil hlen
      go_wp2
      go_end0
      exact ⟨rfl, unhide HI, unhide HT⟩
end Go.Proofs.YtilhilglokblpaaDoor
