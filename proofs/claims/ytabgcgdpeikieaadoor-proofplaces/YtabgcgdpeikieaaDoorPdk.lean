import Derived.Test.YtabgcgdpeikieaaDoorPdj
namespace Go.Proofs.YtabgcgdpeikieaaDoor
open Go.RowKit Go.Conc
set_option maxRecDepth 100000
theorem results_c3 {fn : Func} {p q r : Tmp} {ty : TypeId} (h : fn.results = #[.cell p ty, .tmp q, .tmp r]) (tmps : Array Value) (P : Program) (w : World) (ad : Addr) (ha : tmps.getD p undef = .pointer (some ad)) (v : Value) (hl : (loadVar ty ad).run P w = .ok v w) :
    (results fn tmps).run P w = .ok (.tuple #[v, tmps.getD q undef, tmps.getD r undef]) w := by
  have ha' : tmps[p]?.getD undef = .pointer (some ad) := by simpa using ha
  simp only [results, h]
  simp [ha', asAddr, hl]
theorem sizeOff : (Tryd.prog.info? 31).map (·.size) = some 4 := by kernel_rfl
/-- What a Take starts with. -/
theorem take_start {w : World} {b : Nat} {c : Nat → Nat} {n : Nat → Int} {L : Nat → List Chl} (h : Bk w b c n L) (i : Nat) (hi : i < 8) (m : Int) : Calls Tryd.prog 36 #[.pointer (some ⟨b, i * 2, none⟩), .int .i64 m] w
      fun e w' => e = .returned (.tuple #[.agg (tkA (tk m (L i) (L i).length)), .bool (tk m (L i) (L i).length).isSome]) ∧ Bk w' b c n (ups L i (rmv m (L i))) ∧ Only (fun x => x = c i) w w' := by
  refine (dtake_any (h.chan i hi) (h.ch i hi) (h.len i hi) m).mono ?_
  rintro e w' ⟨rfl, hC, hO⟩
  have h1 := rmv_len m (L i)
  have h2 := h.len i hi
  exact ⟨rfl, h.put i hi hC (by omega) hO, hO⟩
set_option maxHeartbeats 600000 in
theorem take_no {w : World} {b : Nat} {c : Nat → Nat} {n : Nat → Int} {L : Nat → List Chl} (h : Bk w b c n L) (i : Nat) (hi : i < 8) (m : Int) (hm : tk m (L i) (L i).length = none) :
    Calls Tryd.prog 16 #[.pointer (some ⟨b, 0, none⟩), .int .i64 ((i : Int) + 1), .int .i64 m] w fun e w' => e = .returned (.tuple #[.agg #[.int .i64 0, .int .i64 0, .string ⟨#[]⟩, .string ⟨#[]⟩], .slice none 0 0, .int .i64 130]) ∧ Bk w' b c n (ups L i (rmv m (L i))) ∧ Only (OnB b c) w w' := by
  obtain ⟨N, hn⟩ : ∃ N, w.heap.size = N := ⟨_, rfl⟩
  obtain ⟨y, hy⟩ : ∃ Z, w.alloc (.cells #[.int .i64 0, .int .i64 0, .string ⟨#[]⟩, .string ⟨#[]⟩] 31) = Z := ⟨_, rfl⟩
  have hB := Blk.new w 31 #[.int .i64 0, .int .i64 0, .string ⟨#[]⟩, .string ⟨#[]⟩]
  have hlo : Below N w (w.alloc (.cells #[.int .i64 0, .int .i64 0, .string ⟨#[]⟩, .string ⟨#[]⟩] 31)) := by rw [← hn]; exact (Below.refl _ _).alloc (Nat.le_refl _) _
  rw [hy, hn] at hB
  rw [hy] at hlo
  have hBy : Bk y b c n L := h.below (by rw [hn]; exact hlo)
  have HD := hide (desk_any y b ((i : Int) + 1) (by omega) (by omega))
  have e2 : (((i : Int) + 1).toNat - 1) * 2 = i * 2 := by omega
  rw [e2] at HD
  have HT := hide (take_start hBy i hi m)
  rw [hm] at HT
  have HBy := hide hBy
  have HLO := hide hlo
  have HB := hide hB
  have HI := hide hi
  have HNB := hide (show b < N ∧ ∀ j, j < 8 → c j < N from by rw [← hn]; exact ⟨h.blk.lt, fun j hj => (h.ch j hj).lt⟩)
  have HCN := hide (show c i < N from by rw [← hn]; exact (h.ch i hi).lt)
  clear hBy hlo hB h e2 hi hm
  simp only [tkA, zC, Option.isSome] at HT
  go_enter Tryd.func16, Tryd.ntmps16
  go_wp2_with (go_at_call 31; refine (unhide HD).mono ?_; rintro e z ⟨rfl, rfl⟩)
  refine (unhide HT).mono ?_
  rintro e z1 ⟨rfl, hB1, hO1⟩
  have hN1 := (unhide HB).only hO1 (by have := unhide HCN; omega)
  have hOw : Only (OnB b c) w z1 := (Only.of_below (P := OnB b c) (show Below w.heap.size w z by rw [hn]; exact unhide HLO)).trans hO1 (fun k _ e => .inr ⟨i, unhide HI, e⟩)
  have hNl := hN1.lt
  obtain ⟨g, hgg⟩ : ∃ g, z1.heap.size = g := ⟨_, rfl⟩
  obtain ⟨y2, hy2⟩ : ∃ Z, z1.alloc (.cells #[.int .i64 0, .int .i64 0, .int .i64 0, .string ⟨#[]⟩, .string ⟨#[]⟩, .int .i64 0, .int .i64 0, .int .i64 0, .int .i64 0, .int .i64 0, .int .i64 0, .int .i64 0, .int .i64 0] 84) = Z := ⟨_, rfl⟩
  have hlo2 : Below z1.heap.size z1 y2 := by rw [← hy2]; exact (Below.refl _ _).alloc (Nat.le_refl _) _
  have hG2 : Blk y2 g #[.int .i64 0, .int .i64 0, .int .i64 0, .string ⟨#[]⟩, .string ⟨#[]⟩, .int .i64 0, .int .i64 0, .int .i64 0, .int .i64 0, .int .i64 0, .int .i64 0, .int .i64 0, .int .i64 0] 84 := by rw [← hy2, ← hgg]; exact Blk.new _ _ _
  have HX := hide (And.intro (hB1.below hlo2) (And.intro (hN1.below hlo2 hNl) (And.intro (hOw.trans (Only.of_below (P := fun _ => False) hlo2) (fun _ _ e => e.elim)) hG2)))
  have HNG := hide (show N < g from by rw [← hgg]; exact hNl)
  have HGB := hide (show b < g ∧ ∀ j, j < 8 → c j < g from by rw [← hgg]; exact ⟨hB1.blk.lt, fun j hj => (hB1.ch j hj).lt⟩)
  clear hB1 hO1 hN1 hOw hNl hlo2 hG2 HT HD HB HBy HLO hy
  clear z
  simp only []
  rename_i K8 a8 K9 a9
  have A8 := hide a8
  clear a8
  go_step
  go_wp2_with (refine wpList_store_mid rfl 84 (.tmp 11) (.tmp 27) rfl g 0 #[.int .i64 0, .int .i64 0, .int .i64 0, .string ⟨#[]⟩, .string ⟨#[]⟩, .int .i64 0, .int .i64 0, .int .i64 0, .int .i64 0, .int .i64 0, .int .i64 0, .int .i64 0, .int .i64 0] rfl rfl (blk_there (unhide HX).2.2.2 13 rfl) (by rw [sizeChl]; rfl) (by simp [Value.oneCell']) ?_)
  have ho2 : Only (fun x => x = g) y2 (y2.setCells g 0 (#[.int .i64 0, .int .i64 0, .int .i64 0, .string ⟨#[]⟩, .string ⟨#[]⟩, .int .i64 0, .int .i64 0, .int .i64 0, .int .i64 0, .int .i64 0, .int .i64 0, .int .i64 0, .int .i64 0] : Array Value).toList) := only_cells g 0 _ rfl
  obtain ⟨x1, x2, x3, x4⟩ := unhide HX
  have hgn := unhide HGB
  have hng := unhide HNG
  have hBk2 := x1.only ho2 (by omega) (fun j hj => by have := hgn.2 j hj; omega)
  have hN2 := x2.only ho2 (by omega)
  have hO2 := x3.trans ho2 (Q := fun x => x = g) (P := OnB b c) (fun k hk e => by rw [hn] at hk; omega)
  have hW := setCells_all x4 (#[.int .i64 0, .int .i64 0, .int .i64 0, .string ⟨#[]⟩, .string ⟨#[]⟩, .int .i64 0, .int .i64 0, .int .i64 0, .int .i64 0, .int .i64 0, .int .i64 0, .int .i64 0, .int .i64 0] : Array Value).toList rfl
  simp only [] at ho2 hBk2 hN2 hO2 hW ⊢
  generalize y2.setCells g 0 _ = z2 at *
  have HZ := hide (And.intro hBk2 (And.intro hN2 hO2))
  have HT2 := hide (blk_there hN2 4 rfl)
  clear ho2 x1 x2 x3 x4 hgn hng hBk2 hN2 hO2 hW HX hy2 hgg
  clear y2
  refine unhide A8 _ _ ?_
  clear A8 K8
  go_wp2_with (refine wpList_store_mid rfl 31 (.tmp 6) (.tmp 31) rfl N 0 #[.int .i64 0, .int .i64 0, .string ⟨#[]⟩, .string ⟨#[]⟩] rfl rfl (unhide HT2) (by rw [sizeOff]; rfl) (by simp [Value.oneCell']) ?_)
  obtain ⟨x1, x2, x3⟩ := unhide HZ
  have ho3 : Only (fun x => x = N) z2 (z2.setCells N 0 (#[.int .i64 0, .int .i64 0, .string ⟨#[]⟩, .string ⟨#[]⟩] : Array Value).toList) := only_cells N 0 _ rfl
  have hW : Blk (z2.setCells N 0 (#[.int .i64 0, .int .i64 0, .string ⟨#[]⟩, .string ⟨#[]⟩] : Array Value).toList) N #[.int .i64 0, .int .i64 0, .string ⟨#[]⟩, .string ⟨#[]⟩] 31 := setCells_all x2 _ rfl
  refine bodyPost_ret (results_c3 rfl _ _ _ ⟨N, 0, none⟩ rfl _ (iload_blk _ _ hW Tryd.underlying31 rfl (by rw [sizeOff]; rfl))) rfl ?_
  have hNb := unhide HNB
  exact ⟨rfl, x1.only ho3 (by omega) (fun j hj => by have := hNb.2 j hj; omega), x3.trans ho3 (fun k hk e => by rw [hn] at hk; omega)⟩
set_option maxHeartbeats 600000 in
theorem take_yes {w : World} {b : Nat} {c : Nat → Nat} {n : Nat → Int} {L : Nat → List Chl} (h : Bk w b c n L) (i : Nat) (hi : i < 8) (m : Int) (x : Chl) (hm : tk m (L i) (L i).length = some x) :
    Calls Tryd.prog 16 #[.pointer (some ⟨b, 0, none⟩), .int .i64 ((i : Int) + 1), .int .i64 m] w fun e w' => ∃ g, e = .returned (.tuple #[.agg #[.int .i64 x.v, .int .i64 x.k, .string x.d, .string x.q], .slice (some ⟨g, 5, none⟩) 8 8, .int .i64 0]) ∧ w.heap.size ≤ g ∧ Blk w' g x.cs 84 ∧ Bk w' b c n (ups L i (rmv m (L i))) ∧ Only (OnB b c) w w' := by
  obtain ⟨N, hn⟩ : ∃ N, w.heap.size = N := ⟨_, rfl⟩
  obtain ⟨y, hy⟩ : ∃ Z, w.alloc (.cells #[.int .i64 0, .int .i64 0, .string ⟨#[]⟩, .string ⟨#[]⟩] 31) = Z := ⟨_, rfl⟩
  have hB := Blk.new w 31 #[.int .i64 0, .int .i64 0, .string ⟨#[]⟩, .string ⟨#[]⟩]
  have hlo : Below N w (w.alloc (.cells #[.int .i64 0, .int .i64 0, .string ⟨#[]⟩, .string ⟨#[]⟩] 31)) := by rw [← hn]; exact (Below.refl _ _).alloc (Nat.le_refl _) _
  rw [hy, hn] at hB
  rw [hy] at hlo
  have hBy : Bk y b c n L := h.below (by rw [hn]; exact hlo)
  have HD := hide (desk_any y b ((i : Int) + 1) (by omega) (by omega))
  have e2 : (((i : Int) + 1).toNat - 1) * 2 = i * 2 := by omega
  rw [e2] at HD
  have HT := hide (take_start hBy i hi m)
  rw [hm] at HT
  have HBy := hide hBy
  have HLO := hide hlo
  have HB := hide hB
  have HI := hide hi
  have HNB := hide (show b < N ∧ ∀ j, j < 8 → c j < N from by rw [← hn]; exact ⟨h.blk.lt, fun j hj => (h.ch j hj).lt⟩)
  have HCN := hide (show c i < N from by rw [← hn]; exact (h.ch i hi).lt)
  clear hBy hlo hB h e2 hi hm
  obtain ⟨nn, v, k, d, q, p⟩ := x
  simp only [tkA, Chl.cs, Option.isSome] at HT ⊢
  rw [hn]
  go_enter Tryd.func16, Tryd.ntmps16
  go_wp2_with (go_at_call 31; refine (unhide HD).mono ?_; rintro e z ⟨rfl, rfl⟩)
  refine (unhide HT).mono ?_
  rintro e z1 ⟨rfl, hB1, hO1⟩
  have hN1 := (unhide HB).only hO1 (by have := unhide HCN; omega)
  have hOw : Only (OnB b c) w z1 := (Only.of_below (P := OnB b c) (show Below w.heap.size w z by rw [hn]; exact unhide HLO)).trans hO1 (fun k _ e => .inr ⟨i, unhide HI, e⟩)
  have hNl := hN1.lt
  obtain ⟨g, hgg⟩ : ∃ g, z1.heap.size = g := ⟨_, rfl⟩
  obtain ⟨y2, hy2⟩ : ∃ Z, z1.alloc (.cells #[.int .i64 0, .int .i64 0, .int .i64 0, .string ⟨#[]⟩, .string ⟨#[]⟩, .int .i64 0, .int .i64 0, .int .i64 0, .int .i64 0, .int .i64 0, .int .i64 0, .int .i64 0, .int .i64 0] 84) = Z := ⟨_, rfl⟩
  have hlo2 : Below z1.heap.size z1 y2 := by rw [← hy2]; exact (Below.refl _ _).alloc (Nat.le_refl _) _
  have hG2 : Blk y2 g #[.int .i64 0, .int .i64 0, .int .i64 0, .string ⟨#[]⟩, .string ⟨#[]⟩, .int .i64 0, .int .i64 0, .int .i64 0, .int .i64 0, .int .i64 0, .int .i64 0, .int .i64 0, .int .i64 0] 84 := by rw [← hy2, ← hgg]; exact Blk.new _ _ _
  have HX := hide (And.intro (hB1.below hlo2) (And.intro (hN1.below hlo2 hNl) (And.intro (hOw.trans (Only.of_below (P := fun _ => False) hlo2) (fun _ _ e => e.elim)) hG2)))
  have HNG := hide (show N < g from by rw [← hgg]; exact hNl)
  have HGB := hide (show b < g ∧ ∀ j, j < 8 → c j < g from by rw [← hgg]; exact ⟨hB1.blk.lt, fun j hj => (hB1.ch j hj).lt⟩)
  clear hB1 hO1 hN1 hOw hNl hlo2 hG2 HT HD HB HBy HLO hy
  clear z
  simp only []
  rename_i K8 a8 K9 a9
  have A8 := hide a8
  clear a8
  go_step
  go_wp2_with (refine wpList_store_mid rfl 84 (.tmp 11) (.tmp 27) rfl g 0 #[.int .i64 nn, .int .i64 v, .int .i64 k, .string d, .string q, .int .i64 (p 0), .int .i64 (p 1), .int .i64 (p 2), .int .i64 (p 3), .int .i64 (p 4), .int .i64 (p 5), .int .i64 (p 6), .int .i64 (p 7)] rfl rfl (blk_there (unhide HX).2.2.2 13 rfl) (by rw [sizeChl]; rfl) (by simp [Value.oneCell']) ?_)
  have ho2 : Only (fun x => x = g) y2 (y2.setCells g 0 (#[.int .i64 nn, .int .i64 v, .int .i64 k, .string d, .string q, .int .i64 (p 0), .int .i64 (p 1), .int .i64 (p 2), .int .i64 (p 3), .int .i64 (p 4), .int .i64 (p 5), .int .i64 (p 6), .int .i64 (p 7)] : Array Value).toList) := only_cells g 0 _ rfl
  obtain ⟨x1, x2, x3, x4⟩ := unhide HX
  have hgn := unhide HGB
  have hng := unhide HNG
  have hBk2 := x1.only ho2 (by omega) (fun j hj => by have := hgn.2 j hj; omega)
  have hN2 := x2.only ho2 (by omega)
  have hO2 := x3.trans ho2 (Q := fun x => x = g) (P := OnB b c) (fun k hk e => by rw [hn] at hk; omega)
  have hW := setCells_all x4 (#[.int .i64 nn, .int .i64 v, .int .i64 k, .string d, .string q, .int .i64 (p 0), .int .i64 (p 1), .int .i64 (p 2), .int .i64 (p 3), .int .i64 (p 4), .int .i64 (p 5), .int .i64 (p 6), .int .i64 (p 7)] : Array Value).toList rfl
  simp only [] at ho2 hBk2 hN2 hO2 hW ⊢
  generalize y2.setCells g 0 _ = z2 at *
  have HZ := hide (show Blk z2.drew g #[.int .i64 nn, .int .i64 v, .int .i64 k, .string d, .string q, .int .i64 (p 0), .int .i64 (p 1), .int .i64 (p 2), .int .i64 (p 3), .int .i64 (p 4), .int .i64 (p 5), .int .i64 (p 6), .int .i64 (p 7)] 84 ∧ Blk z2.drew N #[.int .i64 0, .int .i64 0, .string ⟨#[]⟩, .string ⟨#[]⟩] 31 ∧ Bk z2.drew b c n (ups L i (rmv m (L i))) ∧ Only (OnB b c) w z2.drew from ⟨hW, hN2, hBk2.below (Below.refl _ _).drew, hO2.drew⟩)
  have HNG := hide hng
  have HGB := hide hgn
  clear ho2 x1 x2 x3 x4 hgn hng hBk2 hN2 hO2 hW HX hy2 hgg
  clear y2
  refine unhide A8 _ _ ?_
  clear A8 K8
  go_wp2
  refine wp_region_held_drew (S := fun W => Blk W g #[.int .i64 nn, .int .i64 v, .int .i64 k, .string d, .string q, .int .i64 (p 0), .int .i64 (p 1), .int .i64 (p 2), .int .i64 (p 3), .int .i64 (p 4), .int .i64 (p 5), .int .i64 (p 6), .int .i64 (p 7)] 84 ∧ (∃ cur : Array Value, cur.size = 4 ∧ Blk W N cur 31) ∧ Bk W b c n (ups L i (rmv m (L i))) ∧ Only (OnB b c) w W) (by kernel_rfl) ⟨(unhide HZ).1, ⟨_, rfl, (unhide HZ).2.1⟩, (unhide HZ).2.2⟩ ?_
  intro hS
  refine wpAnyH_takeD 0 (some 32) (.pointer (some ⟨g, 1, none⟩)) rfl rfl (by kernel_rfl) (by kernel_rfl) (by kernel_rfl) (fun _ _ _ h => h) (Or.inl ⟨by rfl, fun w hSw => by clear hSw; go_simp⟩) hS ?_
  simp only [Act.put, List.setIfInBounds_toArray, List.set_cons_zero, List.set_cons_succ]
  refine wpAnyH_takeD 1 (some 33) (.agg [.int .i64 v, .int .i64 k, .string d, .string q].toArray) rfl rfl (by kernel_rfl) (by kernel_rfl) (by kernel_rfl) (fun _ _ _ h => h) (yieldsIf_load_mid rfl 31 (.tmp 32) rfl g 1 rfl [.int .i64 v, .int .i64 k, .string d, .string q] _ (fun W hW j u hv => by rw [hW.1.cell]; rcases j with _ | _ | _ | _ | j <;> first | exact hv | (simp at hv)) Tryd.underlying31 rfl (by rw [sizeOff]; rfl)) hS ?_
  simp only [Act.put, List.setIfInBounds_toArray, List.set_cons_zero, List.set_cons_succ]
  refine wpAnyH_takeD 2 (some 34) (.pointer (some ⟨g, 5, none⟩)) rfl rfl (by kernel_rfl) (by kernel_rfl) (by kernel_rfl) (fun _ _ _ h => h) (Or.inl ⟨by rfl, fun w hSw => by clear hSw; go_simp⟩) hS ?_
  simp only [Act.put, List.setIfInBounds_toArray, List.set_cons_zero, List.set_cons_succ]
  refine wpAnyH_takeD 3 (some 35) (.slice (some ⟨g, 5, none⟩) 8 8) rfl rfl (by kernel_rfl) (by kernel_rfl) (by kernel_rfl) (fun _ _ _ h => h) (Or.inl ⟨by rfl, fun w hSw => by clear hSw; go_simp⟩) hS ?_
  simp only [Act.put, List.setIfInBounds_toArray, List.set_cons_zero, List.set_cons_succ]
  refine wpAnyH_ready (rs := [4]) (by kernel_rfl) (by simp) ?_
  refine AllReadyH.cons rfl (fun K hK => ?_) AllReadyH.nil
  simp only [List.getElem_toArray, List.getElem_cons_succ, List.getElem_cons_zero]
  rw [if_pos (by rfl)]
  refine wp_store_mid 31 (.tmp 6) (.tmp 33) rfl N 0 #[.int .i64 v, .int .i64 k, .string d, .string q] rfl rfl (blk_there (unhide HZ).2.1 4 rfl) (by rw [sizeOff]; rfl) (by simp [Value.oneCell']) ?_
  have ho3 : Only (fun x => x = N) z2.drew (z2.drew.setCells N 0 [.int .i64 v, .int .i64 k, .string d, .string q]) := only_cells N 0 _ rfl
  have hW3 : Blk (z2.drew.setCells N 0 [.int .i64 v, .int .i64 k, .string d, .string q]) N #[.int .i64 v, .int .i64 k, .string d, .string q] 31 := setCells_all (unhide HZ).2.1 _ rfl
  have hng := unhide HNG
  have hNb := unhide HNB
  have hS2 : Blk (z2.drew.setCells N 0 [.int .i64 v, .int .i64 k, .string d, .string q]) g #[.int .i64 nn, .int .i64 v, .int .i64 k, .string d, .string q, .int .i64 (p 0), .int .i64 (p 1), .int .i64 (p 2), .int .i64 (p 3), .int .i64 (p 4), .int .i64 (p 5), .int .i64 (p 6), .int .i64 (p 7)] 84 ∧ (∃ cur : Array Value, cur.size = 4 ∧ Blk (z2.drew.setCells N 0 [.int .i64 v, .int .i64 k, .string d, .string q]) N cur 31) ∧ Bk (z2.drew.setCells N 0 [.int .i64 v, .int .i64 k, .string d, .string q]) b c n (ups L i (rmv m (L i))) ∧ Only (OnB b c) w (z2.drew.setCells N 0 [.int .i64 v, .int .i64 k, .string d, .string q]) :=
    ⟨hS.1.only ho3 (by omega), ⟨_, rfl, hW3⟩, hS.2.2.1.only ho3 (by omega) (fun j hj => by have := hNb.2 j hj; omega), hS.2.2.2.trans ho3 (fun k hk e => by rw [hn] at hk; omega)⟩
  refine hK.out _ _ hS2 (fun hS => ?_)
  have HW3 := hide hW3
  clear hK K hS2 ho3 hW3 hng hNb
  generalize z2.drew.setCells N 0 [.int .i64 v, .int .i64 k, .string d, .string q] = z3 at *
  try simp only [Act.put]
  refine wpAnyH_takeD 5 (some 7) (.slice (some ⟨g, 5, none⟩) 8 8) rfl rfl (by kernel_rfl) (by kernel_rfl) (by kernel_rfl) (fun _ _ _ h => h) (Or.inl ⟨by rfl, fun w hSw => by clear hSw; go_simp⟩) hS ?_
  simp only [Act.put, List.setIfInBounds_toArray, List.set_cons_zero, List.set_cons_succ]
  refine wpAnyH_takeD 6 (some 8) (.int .i64 0) rfl rfl (by kernel_rfl) (by kernel_rfl) (by kernel_rfl) (fun _ _ _ h => h) (Or.inl ⟨by rfl, fun w hSw => by clear hSw; go_simp⟩) hS ?_
  simp only [Act.put, List.setIfInBounds_toArray, List.set_cons_zero, List.set_cons_succ]
  refine wpAnyH_done (by kernel_rfl) ?_ _
  have HS4 := hide hS
  clear hS
  go_wp2
  obtain ⟨s1, _, s3, s4⟩ := unhide HS4
  refine bodyPost_ret (results_c3 rfl _ _ _ ⟨N, 0, none⟩ rfl _ (iload_blk _ _ (unhide HW3) Tryd.underlying31 rfl (by rw [sizeOff]; rfl))) rfl ?_
  exact ⟨g, rfl, by have := unhide HNG; omega, s1, s3, s4⟩
end Go.Proofs.YtabgcgdpeikieaaDoor
