import Derived.Test.YtnfdedolgfcmfaaGreatDoorMrc26
namespace Go.Proofs.YtnfdedolgfcmfaaGreatDoor
open Go.RowKit
set_option maxRecDepth 100000
/-- the blocks of the images that are kept -/
def KPt (l : Tx) (q : Nat) : Prop := ∃ e ∈ l, e.2 = q
theorem Mp.get {w : World} {b : Nat} {l : Tx} (h : Mp w b l) {k : Int} (hk : I64k k) {g : Nat} (hx : txAt l k = some g) : (Instr.lookup 83 (.map (some b)) (.int .i64 k) false).run Tryz.prog w = .ok (.pointer (some ⟨g, 0, none⟩)) w := by
  have := (h.look hk).2
  rwa [hx] at this
theorem Sd.nine {w : World} {b : Nat} {l : List ByteArray} (h : Sd w b l) : ∀ k c, k = b → ¬ Blk w k c 9 := fun k c e hk => by
  obtain ⟨cur, h1⟩ := h.ty
  subst e
  exact h1.tyne hk (by decide) rfl
/-- somebody has asked for the root of an image that is kept -/
theorem Pr.root {w w' : World} {p mp z N B : Nat} {l : Tx} {im : Int → List ByteArray} (h : Pr w p mp z N B l im) {e : Int × Nat} (he : e ∈ l) (hs : Sd w' e.2 (im e.1)) (ho : Only (fun k => k = e.2) w w') : Pr w' p mp z N B l im :=
  ⟨h.blk.only ho (fun q => h.not_p (h.sds e he) q.symm), h.map.only ho (fun q => h.map.not_sd (h.sds e he) q.symm), fun e' he' => by
    by_cases q : e'.2 = e.2
    · have := h.one e' he' e he q
      subst this
      exact hs
    · exact (h.sds e' he').only ho q (h.sds e he).nine, h.one⟩
/-- a block of a frame was written -/
theorem Pr.side {w w' : World} {p mp z N B : Nat} {l : Tx} {im : Int → List ByteArray} (h : Pr w p mp z N B l im) {x : Nat} {cur : Array Value} (hx : Blk w x cur 97) (ho : Only (fun k => k = x) w w') : Pr w' p mp z N B l im :=
  ⟨h.blk.only ho (h.blk.tyne hx (by decide)), h.map.only ho (fun q => h.map.not_blk hx q.symm), fun e' he' => by
    obtain ⟨cur, h1⟩ := (h.sds e' he').ty
    exact (h.sds e' he').only ho (h1.tyne hx (by decide)) (fun k c q hk => by subst q; exact hx.tyne hk (by decide) rfl), h.one⟩
/-- a primary, with the places of its lists -/
def PrG (w : World) (p mp z N B : Nat) (l : Tx) (im : Int → List ByteArray) (G : Int × Nat → Nat) : Prop := Pr w p mp z N B l im ∧ ∀ e ∈ l, Sg w e.2 (G e) (im e.1)
theorem PrG.below {w w' : World} {p mp z N B : Nat} {l : Tx} {im : Int → List ByteArray} {G : Int × Nat → Nat} (h : PrG w p mp z N B l im G) (hb : Below w.heap.size w w') : PrG w' p mp z N B l im G := ⟨h.1.below hb, fun e he => (h.2 e he).below hb⟩
theorem PrG.root {w w' : World} {p mp z N B : Nat} {l : Tx} {im : Int → List ByteArray} {G : Int × Nat → Nat} (h : PrG w p mp z N B l im G) {e : Int × Nat} (he : e ∈ l) (hs : Sg w' e.2 (G e) (im e.1)) (ho : Only (fun k => k = e.2) w w') : PrG w' p mp z N B l im G :=
  ⟨h.1.root he hs.sd ho, fun e' he' => by
    by_cases q : e'.2 = e.2
    · have := h.1.one e' he' e he q
      subst this
      exact hs
    · exact (h.2 e' he').only ho q (h.1.sds e he).nine⟩
theorem PrG.side {w w' : World} {p mp z N B : Nat} {l : Tx} {im : Int → List ByteArray} {G : Int × Nat → Nat} (h : PrG w p mp z N B l im G) {x : Nat} {cur : Array Value} (hx : Blk w x cur 97) (ho : Only (fun k => k = x) w w') : PrG w' p mp z N B l im G :=
  ⟨h.1.side hx ho, fun e' he' => by
    obtain ⟨cur, h1⟩ := (h.1.sds e' he').ty
    exact (h.2 e' he').only ho (h1.tyne hx (by decide)) (fun k c q hk => by subst q; exact hx.tyne hk (by decide) rfl)⟩
theorem PrG.high {y w w' : World} {p mp z N B : Nat} {l : Tx} {im : Int → List ByteArray} {G : Int × Nat → Nat} (h0 : PrG y p mp z N B l im G) (h : PrG w p mp z N B l im G) (hb : Below y.heap.size w w') : PrG w' p mp z N B l im G := by
  have hs : ∀ e ∈ l, Sg w' e.2 (G e) (im e.1) := fun e he => by
    obtain ⟨kn, q1, q2, q3⟩ := h.2 e he
    exact ⟨kn, q1.below hb (h0.2 e he).lt, q2.below hb (h0.2 e he).lst.lt, q3⟩
  exact ⟨⟨h.1.blk.below hb h0.1.blk.lt, h.1.map.below hb h0.1.map.lt, fun e he => (hs e he).sd, h.1.one⟩, hs⟩
set_option maxHeartbeats 8000000 in
theorem pframe_any (w : World) (p mp z N B a t n : Nat) (l : Tx) (im : Int → List ByteArray) (G : Int × Nat → Nat) (hPG : PrG w p mp z N B l im G) (hW : PW z N B l im) (hK : KTab w) (ht : ∃ g, ((t : Int), g) ∈ l) (ha : a ≠ 0 → ∃ g, ((a : Int), g) ∈ l) (hat : a < t) (L : List (Nat × ByteArray)) (hL : otU (if a = 0 then List.replicate z (zR 256) else im (a : Int)) (im (t : Int)) z = L) (hn : L.length = n) (kk ff : Nat) (hkk : kk = if a = 0 then 1 else 2) (hff : ff = if a = 0 then t else a) :
    Calls Tryz.prog 37 #[.pointer (some ⟨p, 0, none⟩), .int .i64 (a : Int), .int .i64 (t : Int)] w fun e w' => FrQ w kk z ff t (rt (im (t : Int))) L n e w' ∧ PrG w' p mp z N B l im G ∧ Only (KPt l) w w' := by
  have hP := hPG.1
  obtain ⟨g, hg⟩ := ht
  obtain ⟨M, hMe⟩ : ∃ q, im (t : Int) = q := ⟨_, rfl⟩
  have hB0 := Blk.new w 97 #[.int .i64 0, .int .i64 0, .int .i64 0, .int .i64 0, .string ⟨#[]⟩, .slice none 0 0]
  have hb0 : Below w.heap.size w (w.alloc (Obj.cells #[.int .i64 0, .int .i64 0, .int .i64 0, .int .i64 0, .string ⟨#[]⟩, .slice none 0 0] 97)) := (Below.refl _ _).alloc (Nat.le_refl _) _
  obtain ⟨y0, hy0⟩ : ∃ q, w.alloc (Obj.cells #[.int .i64 0, .int .i64 0, .int .i64 0, .int .i64 0, .string ⟨#[]⟩, .slice none 0 0] 97) = q := ⟨_, rfl⟩
  obtain ⟨h, hhe⟩ : ∃ q, w.heap.size = q := ⟨_, rfl⟩
  rw [hy0] at hB0 hb0
  have hP0 := hP.below hb0
  have hPG0 := hPG.below hb0
  have hK0 : KTab y0 := hK.below hb0 hK.1
  have hG0 := hPG0.2 _ hg
  obtain ⟨gl, hgl9⟩ : ∃ q, G ((t : Int), g) = q := ⟨_, rfl⟩
  rw [hgl9] at hG0
  have hMi := hW.img _ hg
  simp only at hG0 hMi
  rw [hMe] at hG0 hMi
  rw [hhe] at hB0
  have HY := hide (And.intro hy0 hhe)
  have hnp : (⟨h, 0, none⟩ : Addr).block ≠ (⟨p, 0, none⟩ : Addr).block := by
    have := hP.blk.lt
    show h ≠ p
    omega
  have hnm : h ≠ mp := by
    have := hP.map.lt
    omega
  have c3 : y0.cell? ⟨p, 3, none⟩ = some (.map (some mp)) := by rw [hP0.blk.cell 3]; rfl
  have hM0 := hP0.map
  have HKT := hide (show I64k (t : Int) ∧ txAt l (t : Int) = some g from ⟨hW.I64k _ hg, (at_some hW.srt).2 hg⟩)
  have HPP := hide (show ∀ y1, Sg y1 g gl M → Only (fun k => k = g) y0 y1 → PrG y1 p mp z N B l im G from fun y1 hs ho => hPG0.root hg (by rw [← hMe, ← hgl9] at hs; exact hs) ho)
  have HNX := hide (show ∀ y1 pv cv, Sg y1 g gl M → Only (fun k => k = g) y0 y1 → y1.ownsRow y0.heap.size 149 2 (.slice pv n cv) n (wrR L) → (y1.cell? ⟨p, 3, none⟩ = some (.map (some mp)) ∧ Mp y1 mp l) ∧ y1.cell? ⟨h, 0, none⟩ = some (.int .i64 0) ∧ y1.cell? ⟨h, 1, none⟩ = some (.int .i64 0) ∧ y1.cell? ⟨h, 2, none⟩ = some (.int .i64 0) ∧ y1.cell? ⟨h, 3, none⟩ = some (.int .i64 0) ∧ y1.cell? ⟨h, 4, none⟩ = some (.string ⟨#[]⟩) ∧ y1.cell? ⟨h, 5, none⟩ = some (.slice none 0 0) ∧ y1.frozen? ⟨h, 0, none⟩ = false ∧ y1.frozen? ⟨h, 1, none⟩ = false ∧ y1.frozen? ⟨h, 2, none⟩ = false ∧ y1.frozen? ⟨h, 3, none⟩ = false ∧ y1.frozen? ⟨h, 4, none⟩ = false ∧ y1.frozen? ⟨h, 5, none⟩ = false ∧ Blk ((((((y1.setCell ⟨h, 0, none⟩ (.int .i64 (kk : Int))).setCell ⟨h, 1, none⟩ (.int .i64 (z : Int))).setCell ⟨h, 2, none⟩ (.int .i64 (ff : Int))).setCell ⟨h, 3, none⟩ (.int .i64 (t : Int))).setCell ⟨h, 4, none⟩ (.string (rt M))).setCell ⟨h, 5, none⟩ (.slice pv n cv)) h #[.int .i64 (kk : Int), .int .i64 (z : Int), .int .i64 (ff : Int), .int .i64 (t : Int), .string (rt M), .slice pv n cv] 97 ∧ ((((((y1.setCell ⟨h, 0, none⟩ (.int .i64 (kk : Int))).setCell ⟨h, 1, none⟩ (.int .i64 (z : Int))).setCell ⟨h, 2, none⟩ (.int .i64 (ff : Int))).setCell ⟨h, 3, none⟩ (.int .i64 (t : Int))).setCell ⟨h, 4, none⟩ (.string (rt M))).setCell ⟨h, 5, none⟩ (.slice pv n cv)).ownsRow w.heap.size 149 2 (.slice pv n cv) n (wrR L) ∧ PrG ((((((y1.setCell ⟨h, 0, none⟩ (.int .i64 (kk : Int))).setCell ⟨h, 1, none⟩ (.int .i64 (z : Int))).setCell ⟨h, 2, none⟩ (.int .i64 (ff : Int))).setCell ⟨h, 3, none⟩ (.int .i64 (t : Int))).setCell ⟨h, 4, none⟩ (.string (rt M))).setCell ⟨h, 5, none⟩ (.slice pv n cv)) p mp z N B l im G ∧ Only (KPt l) w ((((((y1.setCell ⟨h, 0, none⟩ (.int .i64 (kk : Int))).setCell ⟨h, 1, none⟩ (.int .i64 (z : Int))).setCell ⟨h, 2, none⟩ (.int .i64 (ff : Int))).setCell ⟨h, 3, none⟩ (.int .i64 (t : Int))).setCell ⟨h, 4, none⟩ (.string (rt M))).setCell ⟨h, 5, none⟩ (.slice pv n cv)) from fun y1 pv cv hs1 ho1 hr => by
    have p1 := unhide HPP y1 hs1 ho1
    have hgl : g < w.heap.size := (hP.sds _ hg).lt
    have k1 := hB0.only ho1 (by show ¬ h = g; omega)
    have hsz : w.heap.size ≤ y0.heap.size := hb0.size
    have oh : Only (fun k => k = h) y1 ((((((y1.setCell ⟨h, 0, none⟩ (.int .i64 (kk : Int))).setCell ⟨h, 1, none⟩ (.int .i64 (z : Int))).setCell ⟨h, 2, none⟩ (.int .i64 (ff : Int))).setCell ⟨h, 3, none⟩ (.int .i64 (t : Int))).setCell ⟨h, 4, none⟩ (.string (rt M))).setCell ⟨h, 5, none⟩ (.slice pv n cv)) := (((((((Only.refl (fun k => k = h) y1).setCell _ _ (fun _ => rfl)).setCell _ _ (fun _ => rfl)).setCell _ _ (fun _ => rfl)).setCell _ _ (fun _ => rfl)).setCell _ _ (fun _ => rfl)).setCell _ _ (fun _ => rfl))
    refine ⟨⟨by rw [p1.1.blk.cell 3]; rfl, p1.1.map⟩, by rw [k1.cell 0]; rfl, by rw [k1.cell 1]; rfl, by rw [k1.cell 2]; rfl, by rw [k1.cell 3]; rfl, by rw [k1.cell 4]; rfl, by rw [k1.cell 5]; rfl, k1.frozen 0, k1.frozen 1, k1.frozen 2, k1.frozen 3, k1.frozen 4, k1.frozen 5, ((((((k1.set 0 (.int .i64 (kk : Int))).set 1 (.int .i64 (z : Int))).set 2 (.int .i64 (ff : Int))).set 3 (.int .i64 (t : Int))).set 4 (.string (rt M))).set 5 (.slice pv n cv)), own_low (owns_only hr oh (fun k hk e => by have := (hr.lt k hk).1; have := hB0.lt; omega)) hsz, p1.side k1 oh, ?_⟩
    refine ((Only.of_below (P := KPt l) hb0).trans (ho1.mono (Q := KPt l) (fun k _ e => (show ∃ e ∈ l, e.2 = k from ⟨_, hg, e.symm⟩))) (fun _ _ q => q)).trans (Q := fun k => k = h) oh (fun k hk e => absurd e (by omega)))
  by_cases ha0 : a = 0
  · rw [if_pos ha0] at hkk hff hL
    subst ha0
    have e1 : (((0 : Nat) : Int) == 0) = true := by decide
    have ql := Mp.get hM0 (unhide HKT).1 (unhide HKT).2
    have HC := hide (show Calls Tryz.prog 76 #[.int .i64 (t : Int), .pointer (some ⟨g, 0, none⟩)] y0 fun e w' => FrQ y0 kk z ff t (rt M) L n e w' ∧ Sg w' g gl M ∧ Only (fun k => k = g) y0 w' from by
      rw [hkk, hff]
      exact ywhole_any y0 g gl t z n M hG0 hK0 hMi.2 hMi.1 L (by rw [← hMe]; exact hL) hn)
    rw [hMe]
    obtain ⟨R, hR⟩ : ∃ q, rt M = q := ⟨_, rfl⟩
    rw [hR] at HC HNX ⊢
    clear hPG hPG0 hgl9 hP hW hK hg ha hat hL hn hkk hff hMe hB0 hb0 hy0 hhe hP0 hK0 hG0 hMi HPP HKT hM0 hR
    go_enter Tryz.func37, Tryz.ntmps37
    go_wp2_with (first | fail | rw [(unhide HY).1, (unhide HY).2])
    refine (unhide HC).mono ?_
    rintro e y1 ⟨⟨pv, cv, rfl, hrow⟩, hs1, ho1⟩
    obtain ⟨m1, s0, s1, s2, s3, s4, s5, f0, f1, f2, f3, f4, f5, hx9⟩ := unhide HNX y1 pv cv hs1 ho1 hrow
    have HX9 := hide hx9
    clear hs1 ho1 hrow hx9 HNX HC m1 ql c3
    go_wp2
    have hld := iload_blk 97 _ (unhide HX9).1 Tryz.underlying97 rfl (by kernel_rfl)
    refine bodyPost_ret (v := .agg #[.int .i64 (kk : Int), .int .i64 (z : Int), .int .i64 (ff : Int), .int .i64 (t : Int), .string R, .slice pv n cv]) (results_cell1 (p := 6) (ty := 97) rfl _ _ _ ⟨h, 0, none⟩ rfl _ hld) rfl ⟨⟨pv, cv, rfl, (unhide HX9).2.1⟩, (unhide HX9).2.2.1, (unhide HX9).2.2.2⟩
  rw [if_neg ha0] at hkk hff hL
  obtain ⟨ga, hga⟩ := ha ha0
  have e1 : ((a : Int) == 0) = false := by simp; omega
  have HKA := hide (show I64k (a : Int) ∧ txAt l (a : Int) = some ga from ⟨hW.I64k _ hga, (at_some hW.srt).2 hga⟩)
  obtain ⟨gl2, hG2⟩ := (hP0.sds _ hga).sg
  have hAi := hW.img _ hga
  simp only at hG2 hAi
  have hgg : ga ≠ g := fun q => by
    have := hP.one _ hga _ hg q
    injection this with h1 _
    omega
  have HC := hide (show Calls Tryz.prog 77 #[.int .i64 (a : Int), .pointer (some ⟨ga, 0, none⟩), .int .i64 (t : Int), .pointer (some ⟨g, 0, none⟩)] y0.drew fun e w' => FrQ y0 kk z ff t (rt M) L n e w' ∧ Sg w' g gl M ∧ Only (fun k => k = g) y0 w' from by
    rw [hkk, hff]
    refine (ychange_any y0.drew g gl ga gl2 a t z n M (im (a : Int)) hG0.drew hG2.drew hgg hK0 hMi.2 hMi.1 hAi.1 L (by rw [← hMe]; exact hL) hn).mono ?_
    rintro e w' ⟨q1, q2, q3⟩
    exact ⟨q1, q2, ⟨⟨q3.1.os, q3.1.tape, q3.1.output, q3.1.size, q3.1.block⟩, q3.2⟩⟩)
  rw [hMe]
  obtain ⟨R, hR⟩ : ∃ q, rt M = q := ⟨_, rfl⟩
  rw [hR] at HC HNX ⊢
  clear hPG hPG0 hgl9 hP hW hK hg ha hat hL hn hkk hff hMe hB0 hb0 hy0 hhe hP0 hK0 hG0 hMi HPP hR hga hG2 hAi hgg
  go_enter Tryz.func37, Tryz.ntmps37
  go_wp2_with (rw [(unhide HY).1, (unhide HY).2])
  refine wp_region_held_drew (S := fun W => W.cell? ⟨p, 3, none⟩ = some (.map (some mp)) ∧ Mp W mp l) (by kernel_rfl) ⟨c3, hM0⟩ ?_
  intro hS
  refine wpAnyH_takeD 0 (some 17) (.int .i64 (a : Int)) rfl rfl (by kernel_rfl) (by kernel_rfl) (by kernel_rfl) (fun _ _ _ h => h) (Or.inl ⟨by rfl, fun w hSw => by obtain ⟨q1, q2⟩ := hSw; go_simp; try (intro hbad; omega)⟩) hS ?_
  simp only [Act.put, List.setIfInBounds_toArray, List.set_cons_zero, List.set_cons_succ]
  refine wpAnyH_takeD 1 (some 18) (.pointer (some ⟨p, 0, none⟩)) rfl rfl (by kernel_rfl) (by kernel_rfl) (by kernel_rfl) (fun _ _ _ h => h) (Or.inl ⟨by rfl, fun w hSw => by obtain ⟨q1, q2⟩ := hSw; go_simp; try (intro hbad; omega)⟩) hS ?_
  simp only [Act.put, List.setIfInBounds_toArray, List.set_cons_zero, List.set_cons_succ]
  refine wpAnyH_takeD 2 (some 19) (.pointer (some ⟨p, 0, none⟩)) rfl rfl (by kernel_rfl) (by kernel_rfl) (by kernel_rfl) (fun _ _ _ h => h) (Or.inl ⟨by rfl, fun w hSw => by obtain ⟨q1, q2⟩ := hSw; go_simp; try (intro hbad; omega)⟩) hS ?_
  simp only [Act.put, List.setIfInBounds_toArray, List.set_cons_zero, List.set_cons_succ]
  refine wpAnyH_takeD 3 (some 20) (.pointer (some ⟨p, 3, none⟩)) rfl rfl (by kernel_rfl) (by kernel_rfl) (by kernel_rfl) (fun _ _ _ h => h) (Or.inl ⟨by rfl, fun w hSw => by obtain ⟨q1, q2⟩ := hSw; go_simp; try (intro hbad; omega)⟩) hS ?_
  simp only [Act.put, List.setIfInBounds_toArray, List.set_cons_zero, List.set_cons_succ]
  refine wpAnyH_takeD 4 (some 21) (.map (some mp)) rfl rfl (by kernel_rfl) (by kernel_rfl) (by kernel_rfl) (fun _ _ _ h => h) (Or.inl ⟨by rfl, fun w hSw => by obtain ⟨q1, q2⟩ := hSw; go_simp; try (intro hbad; omega)⟩) hS ?_
  simp only [Act.put, List.setIfInBounds_toArray, List.set_cons_zero, List.set_cons_succ]
  refine wpAnyH_takeD 5 (some 22) (.int .i64 (a : Int)) rfl rfl (by kernel_rfl) (by kernel_rfl) (by kernel_rfl) (fun _ _ _ h => h) (Or.inl ⟨by rfl, fun w hSw => by obtain ⟨q1, q2⟩ := hSw; go_simp; try (intro hbad; omega)⟩) hS ?_
  simp only [Act.put, List.setIfInBounds_toArray, List.set_cons_zero, List.set_cons_succ]
  refine wpAnyH_takeD 6 (some 23) (.pointer (some ⟨ga, 0, none⟩)) rfl rfl (by kernel_rfl) (by kernel_rfl) (by kernel_rfl) (fun _ _ _ h => h) (Or.inl ⟨by rfl, fun w hSw => by have ql := Mp.get hSw.2 (unhide HKA).1 (unhide HKA).2; go_simp⟩) hS ?_
  simp only [Act.put, List.setIfInBounds_toArray, List.set_cons_zero, List.set_cons_succ]
  refine wpAnyH_takeD 7 (some 24) (.int .i64 (t : Int)) rfl rfl (by kernel_rfl) (by kernel_rfl) (by kernel_rfl) (fun _ _ _ h => h) (Or.inl ⟨by rfl, fun w hSw => by obtain ⟨q1, q2⟩ := hSw; go_simp; try (intro hbad; omega)⟩) hS ?_
  simp only [Act.put, List.setIfInBounds_toArray, List.set_cons_zero, List.set_cons_succ]
  refine wpAnyH_takeD 8 (some 25) (.pointer (some ⟨p, 0, none⟩)) rfl rfl (by kernel_rfl) (by kernel_rfl) (by kernel_rfl) (fun _ _ _ h => h) (Or.inl ⟨by rfl, fun w hSw => by obtain ⟨q1, q2⟩ := hSw; go_simp; try (intro hbad; omega)⟩) hS ?_
  simp only [Act.put, List.setIfInBounds_toArray, List.set_cons_zero, List.set_cons_succ]
  refine wpAnyH_takeD 9 (some 26) (.pointer (some ⟨p, 0, none⟩)) rfl rfl (by kernel_rfl) (by kernel_rfl) (by kernel_rfl) (fun _ _ _ h => h) (Or.inl ⟨by rfl, fun w hSw => by obtain ⟨q1, q2⟩ := hSw; go_simp; try (intro hbad; omega)⟩) hS ?_
  simp only [Act.put, List.setIfInBounds_toArray, List.set_cons_zero, List.set_cons_succ]
  refine wpAnyH_takeD 10 (some 27) (.pointer (some ⟨p, 3, none⟩)) rfl rfl (by kernel_rfl) (by kernel_rfl) (by kernel_rfl) (fun _ _ _ h => h) (Or.inl ⟨by rfl, fun w hSw => by obtain ⟨q1, q2⟩ := hSw; go_simp; try (intro hbad; omega)⟩) hS ?_
  simp only [Act.put, List.setIfInBounds_toArray, List.set_cons_zero, List.set_cons_succ]
  refine wpAnyH_takeD 11 (some 28) (.map (some mp)) rfl rfl (by kernel_rfl) (by kernel_rfl) (by kernel_rfl) (fun _ _ _ h => h) (Or.inl ⟨by rfl, fun w hSw => by obtain ⟨q1, q2⟩ := hSw; go_simp; try (intro hbad; omega)⟩) hS ?_
  simp only [Act.put, List.setIfInBounds_toArray, List.set_cons_zero, List.set_cons_succ]
  refine wpAnyH_takeD 12 (some 29) (.int .i64 (t : Int)) rfl rfl (by kernel_rfl) (by kernel_rfl) (by kernel_rfl) (fun _ _ _ h => h) (Or.inl ⟨by rfl, fun w hSw => by obtain ⟨q1, q2⟩ := hSw; go_simp; try (intro hbad; omega)⟩) hS ?_
  simp only [Act.put, List.setIfInBounds_toArray, List.set_cons_zero, List.set_cons_succ]
  refine wpAnyH_takeD 13 (some 30) (.pointer (some ⟨g, 0, none⟩)) rfl rfl (by kernel_rfl) (by kernel_rfl) (by kernel_rfl) (fun _ _ _ h => h) (Or.inl ⟨by rfl, fun w hSw => by have ql := Mp.get hSw.2 (unhide HKT).1 (unhide HKT).2; go_simp⟩) hS ?_
  simp only [Act.put, List.setIfInBounds_toArray, List.set_cons_zero, List.set_cons_succ]
  refine wpAnyH_ready (rs := [14]) (by kernel_rfl) (by simp) ?_
  refine AllReadyH.cons rfl (fun K hK => ?_) AllReadyH.nil
  simp only [List.getElem_toArray, List.getElem_cons_succ, List.getElem_cons_zero]
  go_simp
  refine (unhide HC).mono ?_
  rintro e y1 ⟨⟨pv, cv, rfl, hrow⟩, hs1, ho1⟩
  obtain ⟨m1, s0, s1, s2, s3, s4, s5, f0, f1, f2, f3, f4, f5, hx9⟩ := unhide HNX y1 pv cv hs1 ho1 hrow
  have HX9 := hide hx9
  clear hs1 ho1 hrow hx9
  refine hK.out _ _ m1 (fun hS => ?_)
  clear hK K
  refine wpAnyH_ready (rs := [15]) (by kernel_rfl) (by simp) ?_
  refine AllReadyH.cons rfl (fun K hK => ?_) AllReadyH.nil
  simp only [List.getElem_toArray, List.getElem_cons_succ, List.getElem_cons_zero]
  go_simp
  refine hK.out _ _ ⟨((World.cell?_setCell_far _ _ _ _ hnp).trans ((World.cell?_setCell_far _ _ _ _ hnp).trans ((World.cell?_setCell_far _ _ _ _ hnp).trans ((World.cell?_setCell_far _ _ _ _ hnp).trans ((World.cell?_setCell_far _ _ _ _ hnp).trans ((World.cell?_setCell_far _ _ _ _ hnp).trans m1.1)))))), m1.2.setCell hnm _ |>.setCell hnm _ |>.setCell hnm _ |>.setCell hnm _ |>.setCell hnm _ |>.setCell hnm _⟩ (fun hS => ?_)
  clear hK K
  refine wpAnyH_done (by kernel_rfl) ?_ _
  clear hS m1 s0 s1 s2 s3 s4 s5 f0 f1 f2 f3 f4 f5 c3 hM0
  go_wp2
  have hld := iload_blk 97 _ (unhide HX9).1 Tryz.underlying97 rfl (by kernel_rfl)
  refine bodyPost_ret (v := .agg #[.int .i64 (kk : Int), .int .i64 (z : Int), .int .i64 (ff : Int), .int .i64 (t : Int), .string R, .slice pv n cv]) (results_cell1 (p := 6) (ty := 97) rfl _ _ _ ⟨h, 0, none⟩ rfl _ hld) rfl ⟨⟨pv, cv, rfl, (unhide HX9).2.1⟩, (unhide HX9).2.2.1, (unhide HX9).2.2.2⟩
/-- where a frame leads from, and to -/
theorem srt_lt {l : Tx} (h : Srt l) (i j : Nat) (hij : i < j) (hj : j < l.length) : (kysP l).getD i 0 < (kysP l).getD j 0 := by
  have h1 := List.pairwise_iff_getElem.1 h i j (by omega) hj hij
  unfold kysP
  rw [List.getD_eq_getElem?_getD, List.getD_eq_getElem?_getD, List.getElem?_map, List.getElem?_map, List.getElem?_eq_getElem (by omega : i < l.length), List.getElem?_eq_getElem hj]
  exact h1
theorem kys_mem {l : Tx} (j : Nat) (hj : j < l.length) : ∃ g, ((kysP l).getD j 0, g) ∈ l := by
  refine ⟨(l[j]).2, ?_⟩
  unfold kysP
  rw [List.getD_eq_getElem?_getD, List.getElem?_map, List.getElem?_eq_getElem hj]
  exact List.getElem_mem hj
theorem PW.head {z N B : Nat} {l : Tx} {im : Int → List ByteArray} (h : PW z N B l im) (hB : B ≠ 0) : (kysP l).getD 0 0 = (B : Int) ∧ 1 ≤ l.length := by
  obtain ⟨⟨g, hg⟩, h2⟩ := h.bas hB
  cases l with
  | nil => cases hg
  | cons x r =>
    refine ⟨?_, by simp⟩
    have h3 := h2 x (by simp)
    have h4 : x.1 ≤ (B : Int) := by
      rcases List.mem_cons.1 hg with q | q
      · rw [← q]; exact Int.le_refl _
      · have := (List.pairwise_cons.1 h.srt).1 _ q
        simp only at this
        omega
    show x.1 = (B : Int)
    omega
theorem nts_at {B : Nat} {l : Tx} (k : Nat) : (ntsP B l).getD k 0 = (kysP l).getD (if B = 0 then k else k + 1) 0 := by
  unfold ntsP
  by_cases e : B = 0
  · rw [if_pos e, if_pos e]
  · rw [if_neg e, if_neg e, List.getD_eq_getElem?_getD, List.getElem?_drop, ← List.getD_eq_getElem?_getD, Nat.add_comm]
theorem nts_step {z N B : Nat} {l : Tx} {im : Int → List ByteArray} (h : PW z N B l im) (k : Nat) (hk : k < (ntsP B l).length) : ∃ t : Nat, (ntsP B l).getD k 0 = (t : Int) ∧ (∃ g, ((t : Int), g) ∈ l) ∧ t ≤ N ∧ fra B (ntsP B l) k < t ∧ (fra B (ntsP B l) k ≠ 0 → ∃ g, (((fra B (ntsP B l) k : Nat) : Int), g) ∈ l) := by
  rw [nts_len] at hk
  have hj : (if B = 0 then k else k + 1) < l.length := by split at hk <;> split <;> omega
  obtain ⟨g, hg⟩ := kys_mem _ hj
  have hkey := h.key _ hg
  simp only at hkey
  have key1 : ∀ i, i < l.length → 1 ≤ (kysP l).getD i 0 := fun i hi => by
    obtain ⟨g', hg'⟩ := kys_mem i hi
    exact (h.key _ hg').1
  refine ⟨((kysP l).getD (if B = 0 then k else k + 1) 0).toNat, ?_, ⟨g, ?_⟩, by omega, ?_, ?_⟩
  · rw [nts_at]; omega
  · rw [show ((((kysP l).getD (if B = 0 then k else k + 1) 0).toNat : Nat) : Int) = (kysP l).getD (if B = 0 then k else k + 1) 0 by omega]
    exact hg
  · cases k with
    | zero =>
      show B < _
      by_cases e : B = 0
      · rw [if_pos e] at hkey ⊢; omega
      · rw [if_neg e] at hj hkey ⊢
        simp only [Nat.zero_add] at hj hkey ⊢
        have h1 := (h.head e).1
        have h2 := srt_lt h.srt 0 1 (by omega) hj
        omega
    | succ k =>
      show ((ntsP B l).getD k 0).toNat < _
      rw [nts_at]
      by_cases e : B = 0
      · rw [if_pos e] at hj ⊢
        rw [if_pos e]
        have h2 := srt_lt h.srt k (k + 1) (by omega) hj
        have h3 := key1 k (by omega)
        omega
      · rw [if_neg e] at hj ⊢
        rw [if_neg e]
        have h2 := srt_lt h.srt (k + 1) (k + 1 + 1) (by omega) hj
        have h3 := key1 (k + 1) (by omega)
        omega
  · cases k with
    | zero =>
      intro hB
      exact (h.bas hB).1
    | succ k =>
      intro _
      show ∃ g, (((((ntsP B l).getD k 0).toNat : Nat) : Int), g) ∈ l
      rw [nts_at]
      have hj2 : (if B = 0 then k else k + 1) < l.length := by split at hj <;> split <;> omega
      obtain ⟨g2, hg2⟩ := kys_mem _ hj2
      have h3 := key1 _ hj2
      exact ⟨g2, by rw [show ((((kysP l).getD (if B = 0 then k else k + 1) 0).toNat : Nat) : Int) = (kysP l).getD (if B = 0 then k else k + 1) 0 by omega]; exact hg2⟩
theorem pr_new (w : World) (T : TypeId) (x : Value) (j : Nat) (u : Value) (hu : [x][j]? = some u) : (w.alloc (.cells #[x] T)).cell? (Addr.add ⟨w.heap.size, 0, none⟩ j) = some u := by
  rw [Addr.add_mid, Nat.zero_add, (Blk.new w T #[x]).cell j, ← hu]
  simp
theorem frms_snoc {z B : Nat} {l : Tx} {im : Int → List ByteArray} (k a t : Nat) (hk : k < (ntsP B l).length) (ha : fra B (ntsP B l) k = a) (ht : (ntsP B l).getD k 0 = (t : Int)) : strs (frms z im B ((ntsP B l).take (k + 1))) = strs (frms z im B ((ntsP B l).take k)) ++ [.string (fmT z im a t)] := by
  rw [frms_take z im _ B k hk, ha, ht]
  unfold strs
  rw [List.map_append]
  rfl
theorem fmT_fm (z : Nat) (im : Int → List ByteArray) (a t kk ff : Nat) (L : List (Nat × ByteArray)) (hL : otU (if a = 0 then List.replicate z (zR 256) else im (a : Int)) (im (t : Int)) z = L) (hkk : kk = if a = 0 then 1 else 2) (hff : ff = if a = 0 then t else a) : fmB kk z ff t (rt (im (t : Int))) L = fmT z im a t := by
  unfold fmT
  by_cases e : a = 0
  · rw [if_pos e] at hL hkk hff ⊢
    rw [hkk, hff, hL]
  · rw [if_neg e] at hL hkk hff ⊢
    rw [hkk, hff, hL]
set_option maxHeartbeats 8000000 in
theorem pframes_any (w : World) (p mp z N B n : Nat) (l : Tx) (im : Int → List ByteArray) (G : Int × Nat → Nat) (hG0 : PrG w p mp z N B l im G) (hW : PW z N B l im) (hK : KTab w) (hn : (ntsP B l).length = n) :
    Calls Tryz.prog 15 #[.pointer (some ⟨p, 0, none⟩)] w fun e w' => ∃ v, e = .returned v ∧ w'.ownsRow w.heap.size 9 1 v n (strs (frms z im B (ntsP B l))) ∧ PrG w' p mp z N B l im G ∧ Only (KPt l) w w' := by
  have hP := hG0.1
  obtain ⟨i0, hi, hz0, hz1, hz2⟩ := info_parts yinfoS
  have HI := hide (And.intro hi (And.intro hz0 (And.intro hz1 hz2)))
  have HNT := hide (pnotes_any w p mp z N B l im hP (by have := hW.len; omega) (fun _ => hW.ne))
  rw [hn] at HNT
  have hn9 : n ≤ 9 := by
    have := hW.len
    rw [nts_len] at hn
    split at hn <;> omega
  have c2 : w.cell? ⟨p, 2, none⟩ = some (.int .i64 (B : Int)) := by rw [hP.blk.cell 2]; rfl
  have HKE := hide (show ∀ q, KPt l q → q < w.heap.size from fun q ⟨e, he, h⟩ => by rw [← h]; exact (hP.sds e he).lt)
  have HW := hide hW
  have HN := hide hn
  have HPP := hide (And.intro hP hK)
  have HG0 := hide hG0
  clear hi hz0 hz1 hz2 hP hW hK hn hG0
  go_enter Tryz.func15, Tryz.ntmps15
  go_wp2_with fail
  refine (unhide HNT).mono ?_
  rintro e y ⟨a9, c9, rfl, hnl, hby⟩
  have HNL := hide hnl
  have HBY := hide hby
  have HP0 := hide ((unhide HPP).1.below hby)
  have HPG := hide ((unhide HG0).below hby)
  have HK0 := hide (show KTab y from (unhide HPP).2.below hby (unhide HPP).2.1)
  have HYS := hide hby.size
  clear hnl hby HNT c2
  go_wp2
  go_loopw [3, 4, 14] (fun u f i wr => ∃ k : Nat, k ≤ n ∧ i = .int .i64 (k : Int) ∧ f = .int .i64 ((fra B (ntsP B l) k : Nat) : Int) ∧ wr.ownsRow y.heap.size 9 1 u k (strs (frms z im B ((ntsP B l).take k))) ∧ Hid (PrG wr p mp z N B l im G ∧ Only (KPt l) y wr)) (fun _ _ i _ => n - (intOf i).toNat)
  case atStart => exact ⟨0, by omega, rfl, rfl, World.ownsRow_nil _ _ _ _, ⟨unhide HPG, Only.refl _ _⟩⟩
  case round =>
  obtain ⟨k, hk, rfl, rfl, ho, HR⟩ := hrel
  obtain ⟨pw, cw, rfl, hcw⟩ := yr_form ho
  obtain ⟨wo, rfl⟩ : ∃ wo, wo = wr := ⟨_, rfl⟩
  obtain ⟨a, ha⟩ : ∃ q, fra B (ntsP B l) k = q := ⟨_, rfl⟩
  have HA := hide ha
  rw [ha]
  by_cases hkn : k < n
  · have e1 : (k : Int) < (n : Int) := by omega
    obtain ⟨t, ht, htl, htN, hat, hal⟩ := nts_step (unhide HW) k (by rw [unhide HN]; exact hkn)
    rw [ha] at hat hal
    obtain ⟨g9, o9, rfl, hge, hc⟩ := unhide HNL k (by rw [unhide HN]; exact hkn)
    have hglt : g9 < y.heap.size := World.block_lt_of_cell? y _ hc
    have hc1 : wo.cell? ⟨g9, o9 + k, none⟩ = some (.int .i64 (t : Int)) := by
      have h5 := (World.cell?_of_block (a := ⟨g9, o9 + k, none⟩) ((unhide HR).2.2 g9 hglt (fun q => by have := unhide HKE _ q; omega))).trans hc
      rwa [ht] at h5
    obtain ⟨kk, hkk⟩ : ∃ q : Nat, q = if a = 0 then 1 else 2 := ⟨_, rfl⟩
    obtain ⟨ff, hff⟩ : ∃ q : Nat, q = if a = 0 then t else a := ⟨_, rfl⟩
    obtain ⟨L, hL⟩ : ∃ q, otU (if a = 0 then List.replicate z (zR 256) else im (a : Int)) (im (t : Int)) z = q := ⟨_, rfl⟩
    obtain ⟨m, hm⟩ : ∃ q, L.length = q := ⟨_, rfl⟩
    have hKo : KTab wo := (unhide HK0).only6 (unhide HR).2 (fun q => by
      obtain ⟨e, he, h5⟩ := q
      obtain ⟨gl, h6⟩ := ((unhide HP0).sds e he).sg
      exact h6.ktab (unhide HK0) h5.symm)
    have HC := hide (pframe_any wo p mp z N B a t m l im G (unhide HR).1 (unhide HW) hKo htl hal hat L hL hm kk ff hkk hff)
    have HX := hide (fmT_fm z im a t kk ff L hL hkk hff)
    have HSN := hide (frms_snoc (z := z) (B := B) (l := l) (im := im) k a t (by rw [unhide HN]; exact hkn) ha ht)
    have HFR := hide (show fra B (ntsP B l) (k + 1) = t from by show ((ntsP B l).getD k 0).toNat = t; omega)
    obtain ⟨R, hR⟩ : ∃ q, rt (im (t : Int)) = q := ⟨_, rfl⟩
    have hRs : R.size = 32 := by rw [← hR]; exact rt_size _
    have hLg := otU_get (if a = 0 then List.replicate z (zR 256) else im (a : Int)) (im (t : Int)) z
    rw [hL] at hLg
    have hti : (im (t : Int)).length = z ∧ imB (im (t : Int)) = true := by
      obtain ⟨g, hg⟩ := htl
      exact (unhide HW).img _ hg
    have hLl := otU_len (if a = 0 then List.replicate z (zR 256) else im (a : Int)) (im (t : Int)) z
    rw [hL, hm] at hLl
    have HLF := hide (show m < 65536 ∧ kk < 256 ∧ z < 65536 ∧ ff < 4294967296 ∧ t < 4294967296 ∧ (∀ j, j < L.length → (L.getD j (0, ⟨#[]⟩)).1 < 65536) ∧ (∀ j, j < L.length → (L.getD j (0, ⟨#[]⟩)).2.size ≤ 1000) from by
      have hz2 := (unhide HW).z2
      have hN2 := (unhide HW).N2
      refine ⟨by omega, by rw [hkk]; split <;> omega, by omega, by rw [hff]; split <;> omega, by omega, fun j hj => ?_, fun j hj => ?_⟩
      · obtain ⟨i, h1, h2⟩ := hLg j hj
        rw [h2]
        show i < 65536
        omega
      · obtain ⟨i, h1, h2⟩ := hLg j hj
        rw [h2]
        have := imB_at hti.2 i (by omega)
        show ((im (t : Int)).getD i ⟨#[]⟩).size ≤ 1000
        omega)
    rw [hR] at HC HX
    have HO := hide ho
    have HRS := hide (And.intro hRs hm)
    clear hLg hLl hti hL hkk hff hKo htl hal hat hc hge ht ha hR ho hm hglt hRs
    go_wp2_with fail
    refine (unhide HC).mono ?_
    rintro e y1 ⟨⟨pv, cv, rfl, hrow⟩, hp1, ho1⟩
    have HT := hide (yframeText_any kk z ff t m R L (unhide HRS).2 (unhide HLF).2.1 (unhide HLF).2.2.1 (unhide HLF).2.2.2.1 (unhide HLF).2.2.2.2.1 (by rw [(unhide HRS).1]; decide) (unhide HLF).1 (unhide HLF).2.2.2.2.2.1 (unhide HLF).2.2.2.2.2.2 y1 y1.heap.size cv pv (own_swr (unhide HRS).2 hrow) (Nat.le_refl _))
    rw [unhide HX] at HT
    obtain ⟨X, hX⟩ : ∃ q, fmT z im a t = q := ⟨_, rfl⟩
    rw [hX] at HT HSN
    have HR1 := hide (And.intro hp1 ho1)
    clear hp1 ho1 hrow HC hX HLF
    go_wp2_with fail
    refine (unhide HT).mono ?_
    rintro e y2 ⟨rfl, hb2⟩
    have HR2 := hide (show PrG y2 p mp z N B l im G ∧ Only (KPt l) wo y2 from ⟨(unhide HR1).1.below hb2, (unhide HR1).2.trans (Only.of_below (P := KPt l) hb2) (fun _ _ q => q)⟩)
    have ho2 : y2.ownsRow y.heap.size 9 1 (.slice pw k cw) k (strs (frms z im B ((ntsP B l).take k))) := owns_only (unhide HO) (unhide HR2).2 (fun q hq h5 => by
      have h6 := ((unhide HO).lt q hq).1
      have h7 := unhide HKE _ h5
      have h8 := unhide HYS
      omega)
    have HO2 := hide (show (y2.alloc (.cells #[.string X] 9)).ownsRow y.heap.size 9 1 (.slice pw k cw) k (strs (frms z im B ((ntsP B l).take k))) from ho2.alloc _)
    have hsz2 : y.heap.size ≤ y2.heap.size := by
      have h5 := (unhide HR).2.size
      have h6 := (unhide HR2).2.size
      omega
    clear ho2 hb2 HT
    go_wp2_with (refine wpList_append_lies _ rfl (.tmp 18) (.tmp 24) 24 rfl y.heap.size 9 i0 (.string ⟨#[]⟩) 1 16 Tryz.underlying24 (unhide HI).1 (unhide HI).2.1 (unhide HI).2.2.1 (unhide HI).2.2.2 rfl (by decide) _ k _ rfl (unhide HO2) ⟨y2.heap.size, 0, none⟩ 1 1 [.string X] rfl rfl (fun q u hu => pr_new y2 _ _ q u hu) (by simp [Value.oneCell']) (by decide) (by unfold maxLen; omega) (by omega) (by simp; omega) (y2.heap.size + 1) (by simp) ?_)
    intro g5 cap5 x5 ho5 hg5 _ _
    have HZ := hide (show x5.ownsRow y.heap.size 9 1 (.slice (some ⟨g5, 0, none⟩) (k + 1) cap5) (k + 1) (strs (frms z im B ((ntsP B l).take (k + 1)))) ∧ (PrG x5 p mp z N B l im G ∧ Only (KPt l) y x5) from by
      have hby5 : Below y.heap.size y2 x5 := ((Below.refl _ _).alloc hsz2 _).grown hg5 (by simp; omega) (fun q hq => ((unhide HO2).lt q hq).1)
      refine ⟨by rw [unhide HSN]; exact ho5, ⟨(unhide HPG).high (unhide HR2).1 hby5, ?_⟩⟩
      · exact ((unhide HR).2.trans (unhide HR2).2 (fun _ _ q => q)).trans (Q := fun q => y.heap.size ≤ q) ⟨⟨hby5.os, hby5.tape, hby5.output, hby5.size, fun q hq => absurd hq (Nat.not_lt_zero q)⟩, fun q hq hn => hby5.block q (by omega)⟩ (fun q hq h5 => by omega))
    clear ho5 hg5 HO2 HO hsz2
    go_wp2
    go_roundw
    case rel => exact ⟨k + 1, by omega, by go_num, by rw [unhide HFR], (unhide HZ).1, (unhide HZ).2⟩
    case measure => simp [intOf] <;> omega
  · obtain rfl : k = n := by omega
    have e1 : ¬ (k : Int) < (k : Int) := by omega
    have HF := hide (show wo.ownsRow w.heap.size 9 1 (.slice pw k cw) k (strs (frms z im B (ntsP B l))) ∧ PrG wo p mp z N B l im G ∧ Only (KPt l) w wo from by
      refine ⟨?_, (unhide HR).1, (Only.of_below (unhide HBY)).trans (unhide HR).2 (fun _ _ q => q)⟩
      have h5 := own_low ho (unhide HYS)
      rwa [List.take_of_length_le (by rw [unhide HN]; exact Nat.le_refl _)] at h5)
    clear ho hcw HR
    go_wp2
    go_ret
    exact ⟨_, rfl, (unhide HF).1, (unhide HF).2.1, (unhide HF).2.2⟩
end Go.Proofs.YtnfdedolgfcmfaaGreatDoor
