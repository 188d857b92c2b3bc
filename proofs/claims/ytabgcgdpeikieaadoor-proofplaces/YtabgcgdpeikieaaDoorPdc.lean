import Derived.Test.YtabgcgdpeikieaaDoorPdb
import Derived.Test.YtabgcgdpeikieaaDoorWr
namespace Go.Proofs.YtabgcgdpeikieaaDoor
open Go.RowKit Go.Conc
set_option maxRecDepth 100000
/-- A book's cells: eight desks, each a channel and the last nonce. -/
def bkA (c : Nat → Option Nat) (n : Nat → Int) : Array Value := #[.chan (c 0), .int .i64 (n 0), .chan (c 1), .int .i64 (n 1), .chan (c 2), .int .i64 (n 2), .chan (c 3), .int .i64 (n 3), .chan (c 4), .int .i64 (n 4), .chan (c 5), .int .i64 (n 5), .chan (c 6), .int .i64 (n 6), .chan (c 7), .int .i64 (n 7)]
theorem bkA_ch (c : Nat → Option Nat) (n : Nat → Int) (k : Nat) (h : k < 8) : (bkA c n)[k * 2]? = some (.chan (c k)) := by
  match k, h with
  | 0, _ => rfl | 1, _ => rfl | 2, _ => rfl | 3, _ => rfl | 4, _ => rfl | 5, _ => rfl | 6, _ => rfl | 7, _ => rfl
theorem bkA_no (c : Nat → Option Nat) (n : Nat → Int) (k : Nat) (h : k < 8) : (bkA c n)[k * 2 + 1]? = some (.int .i64 (n k)) := by
  match k, h with
  | 0, _ => rfl | 1, _ => rfl | 2, _ => rfl | 3, _ => rfl | 4, _ => rfl | 5, _ => rfl | 6, _ => rfl | 7, _ => rfl
/-- One place of a function set. -/
def ups {α : Type} (f : Nat → α) (k : Nat) (x : α) : Nat → α := fun j => if j = k then x else f j
theorem ups_same {α : Type} (f : Nat → α) (k : Nat) (x : α) : ups f k x k = x := by simp [ups]
theorem ups_ne {α : Type} (f : Nat → α) (k j : Nat) (x : α) (h : j ≠ k) : ups f k x j = f j := by simp [ups, h]
theorem bkA_setc (c : Nat → Option Nat) (n : Nat → Int) (k : Nat) (h : k < 8) (v : Option Nat) : (bkA c n).setIfInBounds (k * 2) (.chan v) = bkA (ups c k v) n := by
  match k, h with
  | 0, _ => rfl | 1, _ => rfl | 2, _ => rfl | 3, _ => rfl | 4, _ => rfl | 5, _ => rfl | 6, _ => rfl | 7, _ => rfl
theorem bkA_setn (c : Nat → Option Nat) (n : Nat → Int) (k : Nat) (h : k < 8) (v : Int) : (bkA c n).setIfInBounds (k * 2 + 1) (.int .i64 v) = bkA c (ups n k v) := by
  match k, h with
  | 0, _ => rfl | 1, _ => rfl | 2, _ => rfl | 3, _ => rfl | 4, _ => rfl | 5, _ => rfl | 6, _ => rfl | 7, _ => rfl
theorem bkA_congr (c c' : Nat → Option Nat) (n n' : Nat → Int) (h : ∀ k, k < 8 → c k = c' k) (h' : ∀ k, k < 8 → n k = n' k) : bkA c n = bkA c' n' := by
  simp only [bkA, h 0 (by omega), h 1 (by omega), h 2 (by omega), h 3 (by omega), h 4 (by omega), h 5 (by omega), h 6 (by omega), h 7 (by omega), h' 0 (by omega), h' 1 (by omega), h' 2 (by omega), h' 3 (by omega), h' 4 (by omega), h' 5 (by omega), h' 6 (by omega), h' 7 (by omega)]
/-- A challenge: nonce, volume, block, digest, wrapped, places. -/
structure Chl where
  n : Int
  v : Int
  k : Int
  d : ByteArray
  q : ByteArray
  p : Nat → Int
def Chl.cs (x : Chl) : Array Value := #[.int .i64 x.n, .int .i64 x.v, .int .i64 x.k, .string x.d, .string x.q, .int .i64 (x.p 0), .int .i64 (x.p 1), .int .i64 (x.p 2), .int .i64 (x.p 3), .int .i64 (x.p 4), .int .i64 (x.p 5), .int .i64 (x.p 6), .int .i64 (x.p 7)]
theorem Chl.isC (x : Chl) : IsC (.agg x.cs) x.cs := ⟨rfl, rfl, by simp [Chl.cs, Value.oneCell']⟩
def vals (l : List Chl) : List Value := l.map (fun x => .agg x.cs)
/-- A book at block b: channels c, nonces n, what is pending L. -/
structure Bk (w : World) (b : Nat) (c : Nat → Nat) (n : Nat → Int) (L : Nat → List Chl) : Prop where
  blk : Blk w b (bkA (fun i => some (c i)) n) 73
  ch : ∀ i, i < 8 → Ch w (c i) (vals (L i))
  inj : ∀ i j, i < 8 → j < 8 → c i = c j → i = j
  len : ∀ i, i < 8 → (L i).length ≤ 4
theorem Bk.ne {w : World} {b : Nat} {c : Nat → Nat} {n : Nat → Int} {L : Nat → List Chl} (h : Bk w b c n L) (i : Nat) (hi : i < 8) : c i ≠ b := (h.ch i hi).ne_blk h.blk
theorem Bk.only {w w' : World} {b : Nat} {c : Nat → Nat} {n : Nat → Int} {L : Nat → List Chl} {P : Nat → Prop} (h : Bk w b c n L) (ho : Only P w w') (hb : ¬ P b) (hc : ∀ i, i < 8 → ¬ P (c i)) : Bk w' b c n L :=
  ⟨h.blk.only ho hb, fun i hi => (h.ch i hi).only ho (hc i hi), h.inj, h.len⟩
theorem Bk.below {w w' : World} {b : Nat} {c : Nat → Nat} {n : Nat → Int} {L : Nat → List Chl} (h : Bk w b c n L) (hb : Below w.heap.size w w') : Bk w' b c n L :=
  h.only (P := fun _ => False) (Only.of_below hb) (fun q => q) (fun _ _ q => q)
theorem Bk.chan {w : World} {b : Nat} {c : Nat → Nat} {n : Nat → Int} {L : Nat → List Chl} (h : Bk w b c n L) (i : Nat) (hi : i < 8) : w.cell? ⟨b, i * 2, none⟩ = some (.chan (some (c i))) := by rw [h.blk.cell, bkA_ch _ _ _ hi]
theorem Bk.nonce {w : World} {b : Nat} {c : Nat → Nat} {n : Nat → Int} {L : Nat → List Chl} (h : Bk w b c n L) (i : Nat) (hi : i < 8) : w.cell? ⟨b, i * 2 + 1, none⟩ = some (.int .i64 (n i)) := by rw [h.blk.cell, bkA_no _ _ _ hi]
/-- What a call on a book may change: its own blocks. -/
def OnB (b : Nat) (c : Nat → Nat) : Nat → Prop := fun x => x = b ∨ ∃ i, i < 8 ∧ x = c i
theorem mkch (W : World) : (Instr.makeChan 68 (.int .i64 4)).run Tryd.prog W = .ok (.chan (some W.heap.size)) (W.alloc (.chan 4 #[] false 0 0 false)) := by
  have hi : ∃ i, Tryd.prog.info? 84 = some i ∧ i.bytes = 120 := by
    have h : (Tryd.prog.info? 84).map (·.bytes) = some 120 := by kernel_rfl
    obtain ⟨i, hi, hb⟩ := Option.map_eq_some_iff.1 h
    exact ⟨i, hi, hb⟩
  obtain ⟨i, hi, hb⟩ := hi
  simpa using run_makeChan (P := Tryd.prog) (w := W) Tryd.underlying68 hi .i64 4 (by omega) (by rw [hb]; omega)
set_option maxHeartbeats 4000000 in
theorem bnew_any (w : World) : Calls Tryd.prog 11 #[] w fun e w' => e = .returned (.pointer (some ⟨w.heap.size, 0, none⟩)) ∧ Bk w' w.heap.size (fun i => w.heap.size + 1 + i) (fun _ => 0) (fun _ => []) ∧ Below w.heap.size w w' := by
  obtain ⟨g, hg⟩ : ∃ g, w.heap.size = g := ⟨_, rfl⟩
  rw [hg]
  have hB := Blk.new w 73 (bkA (fun _ => none) (fun _ => 0))
  have hlo : Below g w (w.alloc (.cells (bkA (fun _ => none) (fun _ => 0)) 73)) := by rw [← hg]; exact (Below.refl _ _).alloc (Nat.le_refl _) _
  rw [hg] at hB
  have hsz : (w.alloc (.cells (bkA (fun _ => none) (fun _ => 0)) 73)).heap.size = g + 1 := by rw [World.size_alloc, hg]
  simp only [bkA] at hB hlo hsz
  obtain ⟨y, hy⟩ : ∃ Z, w.alloc (.cells #[.chan none, .int .i64 0, .chan none, .int .i64 0, .chan none, .int .i64 0, .chan none, .int .i64 0, .chan none, .int .i64 0, .chan none, .int .i64 0, .chan none, .int .i64 0, .chan none, .int .i64 0] 73) = Z := ⟨_, rfl⟩
  rw [hy] at hB hlo hsz
  have HB := hide hB
  have HL := hide hlo
  have HS := hide hsz
  clear hB hlo hsz
  go_enter Tryd.func11, Tryd.ntmps11
  go_wp2
  clear hy
  go_loopw [5] (fun i wr => ∃ k : Nat, k ≤ 8 ∧ i = .int .i64 (k : Int) ∧ Blk wr g (bkA (fun j => if j < k then some (g + 1 + j) else none) (fun _ => 0)) 73 ∧ (∀ j, j < k → Ch wr (g + 1 + j) []) ∧ Below g w wr ∧ wr.heap.size = g + 1 + k) (fun i _ => 8 - (intOf i).toNat)
  case atStart => exact ⟨0, by omega, rfl, by simpa [bkA] using unhide HB, fun j hj => by omega, unhide HL, unhide HS⟩
  case round =>
    obtain ⟨k, hk, rfl, hB, hC, hlo, hsz⟩ := hrel
    by_cases hlt : k < 8
    · have i1 : (k : Int) < 8 := by omega
      have i2 : 0 ≤ (k : Int) := by omega
      have HB1 := hide hB
      have HC1 := hide hC
      have HL1 := hide hlo
      have HS1 := hide hsz
      have HLT := hide hlt
      clear hB hC hlo hsz HB HL HS
      go_wp2
      have hmk := mkch wr.drew
      have e8 : wr.drew.heap.size = g + 1 + k := unhide HS1
      rw [e8] at hmk
      have hB2 : Blk (wr.drew.alloc (.chan 4 #[] false 0 0 false)) g _ _ := (show Blk wr.drew g _ _ from unhide HB1).alloc _
      have hN : Ch (wr.drew.alloc (.chan 4 #[] false 0 0 false)) (g + 1 + k) [] := ⟨0, 0, by rw [← e8]; exact heap_alloc_new _ _⟩
      have hO2 : ∀ j, j < k → Ch (wr.drew.alloc (.chan 4 #[] false 0 0 false)) (g + 1 + j) [] := fun j hj => (unhide HC1 j hj).drew.alloc _
      have hlo2 : Below g w (wr.drew.alloc (.chan 4 #[] false 0 0 false)) := (unhide HL1).drew.alloc (by rw [e8]; omega) _
      have hsz2 : (wr.drew.alloc (.chan 4 #[] false 0 0 false)).heap.size = g + 1 + (k + 1) := by rw [World.size_alloc, e8]; omega
      obtain ⟨y2, hy2⟩ : ∃ Z, wr.drew.alloc (.chan 4 #[] false 0 0 false) = Z := ⟨_, rfl⟩
      rw [hy2] at hmk hB2 hN hO2 hlo2 hsz2
      obtain ⟨g8, hg8⟩ : ∃ q, g + 1 + k = q := ⟨_, rfl⟩
      rw [hg8] at hmk hN
      have HG8 := hide hg8
      have c0 : (y2.cell? ⟨g, k * 2, none⟩) = some (.chan none) := by rw [hB2.cell, bkA_ch _ _ _ hlt]; simp
      have f0 : y2.frozen? ⟨g, k * 2, none⟩ = false := hB2.frozen _
      have HB2 := hide hB2
      have HN := hide hN
      have HO2 := hide hO2
      have HL2 := hide hlo2
      have HS2 := hide hsz2
      clear hB2 hN hO2 hlo2 hsz2 hg8 e8
      refine wp_region_held_drew (S := fun _ => True) (by kernel_rfl) trivial ?_
      intro hS
      refine wpAnyH_takeD 0 (some 8) (.pointer (some ⟨g, 0, none⟩)) rfl rfl (by kernel_rfl) (by kernel_rfl) (by kernel_rfl) (fun _ _ _ h => h) (Or.inl ⟨by rfl, fun w hSw => by clear hSw; go_simp⟩) hS ?_
      simp only [Act.put, List.setIfInBounds_toArray, List.set_cons_zero, List.set_cons_succ]
      refine wpAnyH_takeD 1 (some 9) (.int .i64 (k : Int)) rfl rfl (by kernel_rfl) (by kernel_rfl) (by kernel_rfl) (fun _ _ _ h => h) (Or.inl ⟨by rfl, fun w hSw => by clear hSw; go_simp⟩) hS ?_
      simp only [Act.put, List.setIfInBounds_toArray, List.set_cons_zero, List.set_cons_succ]
      refine wpAnyH_takeD 3 (some 11) (.pointer (some ⟨g, 0, none⟩)) rfl rfl (by kernel_rfl) (by kernel_rfl) (by kernel_rfl) (fun _ _ _ h => h) (Or.inl ⟨by rfl, fun w hSw => by clear hSw; go_simp⟩) hS ?_
      simp only [Act.put, List.setIfInBounds_toArray, List.set_cons_zero, List.set_cons_succ]
      refine wpAnyH_takeD 4 (some 12) (.pointer (some ⟨g, 0, none⟩)) rfl rfl (by kernel_rfl) (by kernel_rfl) (by kernel_rfl) (fun _ _ _ h => h) (Or.inl ⟨by rfl, fun w hSw => by clear hSw; go_simp⟩) hS ?_
      simp only [Act.put, List.setIfInBounds_toArray, List.set_cons_zero, List.set_cons_succ]
      refine wpAnyH_ready (rs := [2]) (by kernel_rfl) (by simp) ?_
      refine AllReadyH.cons rfl (fun K hK => ?_) AllReadyH.nil
      simp only [List.getElem_toArray, List.getElem_cons_succ, List.getElem_cons_zero]
      go_simp
      refine hK.out _ _ trivial (fun hS => ?_)
      clear hK K
      refine wpAnyH_takeD 5 (some 13) (.pointer (some ⟨g, k * 2, none⟩)) rfl rfl (by kernel_rfl) (by kernel_rfl) (by kernel_rfl) (fun _ _ _ h => h) (Or.inl ⟨by rfl, fun w hSw => by clear hSw; go_simp⟩) hS ?_
      simp only [Act.put, List.setIfInBounds_toArray, List.set_cons_zero, List.set_cons_succ]
      refine wpAnyH_takeD 6 (some 14) (.pointer (some ⟨g, k * 2, none⟩)) rfl rfl (by kernel_rfl) (by kernel_rfl) (by kernel_rfl) (fun _ _ _ h => h) (Or.inl ⟨by rfl, fun w hSw => by clear hSw; go_simp⟩) hS ?_
      simp only [Act.put, List.setIfInBounds_toArray, List.set_cons_zero, List.set_cons_succ]
      refine wpAnyH_ready (rs := [7]) (by kernel_rfl) (by simp) ?_
      refine AllReadyH.cons rfl (fun K hK => ?_) AllReadyH.nil
      simp only [List.getElem_toArray, List.getElem_cons_succ, List.getElem_cons_zero]
      go_simp
      refine hK.out _ _ trivial (fun hS => ?_)
      clear hK K
      refine wpAnyH_done (by kernel_rfl) ?_ _
      have hB3 := (unhide HB2).set (k * 2) (.chan (some g8))
      rw [bkA_setc _ _ _ (unhide HLT), ← unhide HG8] at hB3
      have hcong : bkA (ups (fun j => if j < k then some (g + 1 + j) else none) k (some (g + 1 + k))) (fun _ => 0) = bkA (fun j => if j < k + 1 then some (g + 1 + j) else none) (fun _ => 0) := bkA_congr _ _ _ _ (fun j hj => by
        by_cases e : j = k
        · subst e; rw [ups_same, if_pos (by omega)]
        · rw [ups_ne _ _ _ _ e]
          by_cases e2 : j < k
          · rw [if_pos e2, if_pos (by omega)]
          · rw [if_neg e2, if_neg (by omega)]) (fun _ _ => rfl)
      rw [hcong] at hB3
      have hO3 : Only (fun x => x = g) y2 (y2.setCell ⟨g, k * 2, none⟩ (.chan (some g8))) := (Only.refl _ _).setCell _ _ (fun _ => rfl)
      rw [← unhide HG8] at hO3 ⊢
      have HB3 := hide hB3
      have HC3 := hide (show ∀ j, j < k + 1 → Ch (y2.setCell ⟨g, k * 2, none⟩ (.chan (some (g + 1 + k)))) (g + 1 + j) [] from fun j hj => by
        by_cases e : j = k
        · subst e
          have h := unhide HN
          rw [← unhide HG8] at h
          exact h.only hO3 (by omega)
        · exact (unhide HO2 j (by omega)).only hO3 (by omega))
      have HL3 := hide ((unhide HL2).setCell (p := ⟨g, k * 2, none⟩) (Nat.le_refl _) (.chan (some (g + 1 + k))))
      have HS3 := hide (show (y2.setCell ⟨g, k * 2, none⟩ (.chan (some (g + 1 + k)))).heap.size = g + 1 + (k + 1) by rw [World.size_setCell]; exact unhide HS2)
      generalize y2.setCell ⟨g, k * 2, none⟩ (.chan (some (g + 1 + k))) = y3 at *
      clear hB3 hcong hO3 c0 f0 hmk hy2 HB2 HN HO2 HL2 HS2 HB1 HC1 HL1 HS1
      clear y2
      go_wp2
      go_roundw
      case rel => exact ⟨k + 1, by omega, by go_num, unhide HB3, unhide HC3, unhide HL3, unhide HS3⟩
      case measure => simp [intOf]; omega
    · have hk' : k = 8 := by omega
      subst hk'
      have HB1 := hide hB
      have HC1 := hide hC
      have HL1 := hide hlo
      clear hB hC hlo hsz HB HL HS
      go_wp2
      go_ret
      refine ⟨rfl, ⟨?_, fun i hi => unhide HC1 i hi, fun i j _ _ e => by omega, fun _ _ => by simp⟩, unhide HL1⟩
      rw [bkA_congr (fun i => some (g + 1 + i)) (fun j => if j < 8 then some (g + 1 + j) else none) (fun _ => 0) (fun _ => 0) (fun j hj => by simp [hj]) (fun _ _ => rfl)]
      exact unhide HB1
set_option maxHeartbeats 1000000 in
theorem desk_any (w : World) (b : Nat) (t : Int) (h1 : 1 ≤ t) (h8 : t ≤ 8) :
    Calls Tryd.prog 31 #[.pointer (some ⟨b, 0, none⟩), .int .i64 t] w fun e w' => e = .returned (.tuple #[.pointer (some ⟨b, (t.toNat - 1) * 2, none⟩), .int .i64 0]) ∧ w' = w := by
  have i1 : ¬ (t < 1) := by omega
  have i2 : ¬ (8 < t) := by omega
  have i3 : 0 ≤ t - 1 := by omega
  have i4 : t - 1 < 8 := by omega
  have w1 : IntKind.i64.wrap (t - 1) = t - 1 := wrapI_eq _ (by omega) (by omega)
  go_enter Tryd.func31, Tryd.ntmps31
  go_wp2
  go_ret2
  exact ⟨rfl, rfl⟩
set_option maxHeartbeats 1000000 in
theorem desk_none (w : World) (b : Nat) (t : Int) (h : t < 1 ∨ 8 < t) :
    Calls Tryd.prog 31 #[.pointer (some ⟨b, 0, none⟩), .int .i64 t] w fun e w' => e = .returned (.tuple #[.pointer none, .int .i64 133]) ∧ w' = w := by
  rcases h with h | h
  · go_enter Tryd.func31, Tryd.ntmps31
    go_wp2
    go_ret2
    exact ⟨rfl, rfl⟩
  · have i1 : ¬ (t < 1) := by omega
    go_enter Tryd.func31, Tryd.ntmps31
    go_wp2
    go_ret2
    exact ⟨rfl, rfl⟩
set_option maxHeartbeats 1000000 in
theorem nonce_any {w : World} {b : Nat} {c : Nat → Nat} {n : Nat → Int} {L : Nat → List Chl} (h : Bk w b c n L) (i : Nat) (hi : i < 8) (h0 : 0 ≤ n i) :
    Calls Tryd.prog 33 #[.pointer (some ⟨b, i * 2, none⟩)] w fun e w' => e = .returned (.int .i64 (n i % 4294967295 + 1)) ∧ Bk w' b c (ups n i (n i % 4294967295 + 1)) L ∧ Only (fun x => x = b) w w' := by
  have c1 := h.nonce i hi
  have f1 : w.frozen? ⟨b, i * 2 + 1, none⟩ = false := h.blk.frozen _
  have hm0 : 0 ≤ n i % 4294967295 := Int.emod_nonneg _ (by omega)
  have hm1 : n i % 4294967295 < 4294967295 := Int.emod_lt_of_pos _ (by omega)
  have w1 : IntKind.i64.wrap (n i % 4294967295 + 1) = n i % 4294967295 + 1 := wrapI_eq _ (by omega) (by omega)
  have w2 : (n i).tmod 4294967295 = n i % 4294967295 := Int.tmod_eq_emod_of_nonneg h0
  have w3 : IntKind.i64.wrap (n i % 4294967295) = n i % 4294967295 := wrapI_eq _ (by omega) (by omega)
  have HB := hide h.blk
  have HH := hide h
  clear h
  go_enter Tryd.func33, Tryd.ntmps33
  go_wp2
  go_ret
  have hO : Only (fun x => x = b) w (w.setCell ⟨b, i * 2 + 1, none⟩ (.int .i64 (n i % 4294967295 + 1))) := (Only.refl _ _).setCell _ _ (fun _ => rfl)
  have h := unhide HH
  refine ⟨rfl, ⟨?_, fun j hj => (h.ch j hj).only hO (h.ne j hj), h.inj, h.len⟩, hO⟩
  have := h.blk.set (i * 2 + 1) (.int .i64 (n i % 4294967295 + 1))
  rwa [bkA_setn _ _ _ hi] at this
end Go.Proofs.YtabgcgdpeikieaaDoor
