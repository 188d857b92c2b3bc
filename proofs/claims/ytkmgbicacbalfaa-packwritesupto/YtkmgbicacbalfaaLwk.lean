import Derived.Test.YtkmgbicacbalfaaLwj
namespace Go.Proofs.Ytkmgbicacbalfaa
open Go.RowKit
set_option maxRecDepth 100000 in
set_option maxHeartbeats 2000000 in
theorem writesOther (w : World) (base b r : Nat) (v : Value) (l : List Int) (e : Int) (S : ByteArray) (h : WB w base b r v l e S) (N : Int) (Lv : Value) (T : ByteArray) (KD : Int) (h1 : ¬ KD = 1) (h2 : ¬ KD = 2) (h3 : ¬ KD = 3) (h4 : ¬ KD = 4) (h5 : ¬ KD = 5) :
    Calls Try.prog 17 #[.pointer (some ⟨b, 0, none⟩), .pointer (some ⟨r, 0, none⟩), .agg #[.int .i64 KD, .int .i64 N, Lv, .string T]] w fun ev w' => ev = .returned (.bool true) ∧ WStep w base b r v l e S (9 + T.size) w' := by
  have hb0 := (Below.refl w.heap.size w).alloc (Nat.le_refl _) (Obj.cells #[.int .i64 KD, .int .i64 N, Lv, .string T] 39)
  have HW := hide h
  have HB := hide hb0
  clear hb0 h
  have e1 : (KD == 1) = false := by simp [h1]
  have e2 : (KD == 2) = false := by simp [h2]
  have e3 : (KD == 3) = false := by simp [h3]
  have e4 : (KD == 4) = false := by simp [h4]
  have e5 : (KD == 5) = false := by simp [h5]
  go_enter Try.func17, Try.ntmps17
  go_wp2
  go_ret
  refine ⟨rfl, 0, [], by simp, ?_⟩
  rw [we_ok, sw_nil, wl_nil]
  have hw0 := (unhide HW).below (unhide HB)
  exact WR.mk (unhide HW) (unhide HB) (WPost.refl hw0.wt) hw0.rt (Only.refl _ _) (Nat.le_refl _) (by simp) (Only.refl _ _)
set_option maxRecDepth 100000 in
set_option maxHeartbeats 2000000 in
theorem writesVar (w : World) (base b r : Nat) (v : Value) (l : List Int) (e : Int) (S : ByteArray) (h : WB w base b r v l e S) (hl : l.length ≤ 100000000000000) (hS : S.size ≤ 100000000000000) (N : Int) (p : Option Addr) (L : List Int) (c : Nat) (T : ByteArray) (hL : Inl w p L) (hLb : ∀ z ∈ L, z ≤ 9223372036854775807) (hpl : 0 < L.length → ∀ k o, p = some ⟨k, o, none⟩ → k < w.heap.size ∧ ¬ Fp b v k ∧ k ≠ r) :
    Calls Try.prog 17 #[.pointer (some ⟨b, 0, none⟩), .pointer (some ⟨r, 0, none⟩), .agg #[.int .i64 2, .int .i64 N, .slice p L.length c, .string T]] w fun ev w' => ev = .returned (.bool true) ∧ WStep w base b r v l e S (9 + T.size) w' := by
  have hb0 := (Below.refl w.heap.size w).alloc (Nat.le_refl _) (Obj.cells #[.int .i64 2, .int .i64 N, .slice p L.length c, .string T] 39)
  have q2 : (w.alloc (Obj.cells #[.int .i64 2, .int .i64 N, .slice p L.length c, .string T] 39)).cell? ⟨w.heap.size, 2, none⟩ = some (.slice p L.length c) := by simp
  have hw0 := h.below hb0
  have hz : L.getD 0 0 ≤ 9223372036854775807 := by
    by_cases h0 : 0 < L.length
    · exact hLb _ (mem_getD L 0 h0)
    · rw [List.getD_eq_getElem?_getD, List.getElem?_eq_none (by omega)]; decide
  have hL0 := hL.below hb0 (fun h0 k o q => (hpl h0 k o q).1)
  have HW := hide h
  have HB := hide hb0
  have HF := hide (fun W (q : Inl W p L) => first3_any W L p c q)
  have HL := hide hL0
  have HPL := hide hpl
  have H1 := hide (varK (WPost.refl hw0.wt) hw0.lo (L.getD 0 0) hz (by omega))
  have HO := hide (Blk.new w 39 #[.int .i64 2, .int .i64 N, .slice p L.length c, .string T])
  have HD := hide (show (digN (L.getD 0 0).toNat).length ≤ 9 from (digN_nine _ (by omega)).2)
  have H2 := hide (fun W (q : Rwt W r S e) => rwvar_any W r S e q (L.getD 0 0) hz (by omega))
  clear hb0 hw0 h hL hL0 hpl hLb hz
  generalize L.getD 0 0 = z at *
  go_enter Try.func17, Try.ntmps17
  go_wp2_with fail
  refine (unhide HF _ (unhide HL)).mono ?_
  rintro ev x0 ⟨rfl, rfl⟩
  go_wp2_with fail
  refine (unhide H1).mono ?_
  rintro ev x1 ⟨rfl, hP⟩
  have hOb := hP.blk (unhide HO) (fun q => by have := (unhide HW).fp q; omega)
  have q4 : x1.cell? ⟨w.heap.size, 2, none⟩ = some (.slice p L.length c) := by rw [hOb.cell 2]; rfl
  have HL1 := hide (show Inl x1 p L by obtain ⟨_, _, h2, _⟩ := hP; exact (unhide HL).only h2 (fun h0 k o q => (unhide HPL h0 k o q).2.1))
  have HR := hide ((unhide HW).ref (unhide HB) hP)
  have HP := hide hP
  clear hP hOb H1 HO q2
  go_wp2_with fail
  refine (unhide HF _ (unhide HL1)).mono ?_
  rintro ev x0 ⟨rfl, rfl⟩
  go_wp2_with fail
  refine (unhide H2 _ (unhide HR)).mono ?_
  rintro ev x2 ⟨rfl, hR, hO⟩
  have HX := hide (And.intro hR hO)
  clear hR hO H2 q4
  go_wp2
  go_ret
  exact ⟨rfl, _, _, Nat.le_trans (unhide HD) (by omega), WR.mk (unhide HW) (unhide HB) (unhide HP) (unhide HX).1 (unhide HX).2 (Nat.le_refl _) (by simp) (Only.refl _ _)⟩
set_option maxRecDepth 100000 in
set_option maxHeartbeats 2000000 in
theorem writesNum0 (w : World) (base b r : Nat) (v : Value) (l : List Int) (e : Int) (S : ByteArray) (h : WB w base b r v l e S) (hl : l.length ≤ 100000000000000) (hS : S.size ≤ 100000000000000) (N : Int) (p : Option Addr) (c : Nat) (T : ByteArray) :
    Calls Try.prog 17 #[.pointer (some ⟨b, 0, none⟩), .pointer (some ⟨r, 0, none⟩), .agg #[.int .i64 1, .int .i64 N, .slice p 0 c, .string T]] w fun ev w' => ev = .returned (.bool true) ∧ WStep w base b r v l e S (9 + T.size) w' := by
  have hb0 := (Below.refl w.heap.size w).alloc (Nat.le_refl _) (Obj.cells #[.int .i64 1, .int .i64 N, .slice p 0 c, .string T] 39)
  have q1 : (w.alloc (Obj.cells #[.int .i64 1, .int .i64 N, .slice p 0 c, .string T] 39)).cell? ⟨w.heap.size, 1, none⟩ = some (.int .i64 N) := by simp
  have q2 : (w.alloc (Obj.cells #[.int .i64 1, .int .i64 N, .slice p 0 c, .string T] 39)).cell? ⟨w.heap.size, 2, none⟩ = some (.slice p 0 c) := by simp
  have hw0 := h.below hb0
  have HW := hide h
  have HB := hide hb0
  have HF := hide (fun W => lent3_nil W p c)
  have HK := hide (fun W => back3_nil W p c)
  have H1 := hide (num_any _ base b v l e hw0.wt hw0.lo N [] none 0 (.inl rfl) (by simp; omega))
  have HO := hide (Blk.new w 39 #[.int .i64 1, .int .i64 N, .slice p 0 c, .string T])
  have H2 := hide (fun W (q : Rwt W r S e) => rwnum_any W r S e N q [] p c (.inl rfl) (fun z hz => by cases hz) (fun q => by cases q) (by simp) (by omega))
  have HE := hide (errN_out N [])
  clear hb0 hw0 h
  rw [List.length_nil] at H1 H2
  go_enter Try.func17, Try.ntmps17
  go_wp2_with fail
  refine (unhide HF _).mono ?_
  rintro ev x0 ⟨rfl, rfl⟩
  go_wp2_with fail
  refine (unhide H1).mono ?_
  rintro ev x1 ⟨rfl, hP⟩
  have hOb := hP.blk (unhide HO) (fun q => by have := (unhide HW).fp q; omega)
  have q4 : x1.cell? ⟨w.heap.size, 2, none⟩ = some (.slice p 0 c) := by rw [hOb.cell 2]; rfl
  have q5 : x1.cell? ⟨w.heap.size, 1, none⟩ = some (.int .i64 N) := by rw [hOb.cell 1]; rfl
  have HR := hide ((unhide HW).ref (unhide HB) hP)
  have HP := hide hP
  have HOb := hide hOb
  clear hP hOb H1 HO q2 q1
  go_wp2_with fail
  refine (unhide H2 _ (unhide HR)).mono ?_
  rintro ev x2 ⟨rfl, hR, hO⟩
  have q6 : x2.cell? ⟨w.heap.size, 2, none⟩ = some (.slice p 0 c) := by rw [((unhide HOb).only hO (fun q => by have := (unhide HW).rt.lt; omega)).cell 2]; rfl
  have HX := hide (And.intro hR hO)
  clear hR hO H2 q4 q5
  go_wp2_with fail
  refine (unhide HK _).mono ?_
  rintro ev x3 ⟨rfl, rfl⟩
  go_wp2
  go_ret
  refine ⟨rfl, errN N [], if errN N [] = 0 then outN N.toNat [] else [], Nat.le_trans (unhide HE) (by simp), ?_⟩
  rw [wl_cut, sw_cut]
  exact WR.mk (unhide HW) (unhide HB) (unhide HP) (unhide HX).1 (unhide HX).2 (Nat.le_refl _) (by simp) (Only.refl _ _)
set_option maxRecDepth 100000 in
set_option maxHeartbeats 2000000 in
theorem writesNum1 (w : World) (base b r : Nat) (v : Value) (l : List Int) (e : Int) (S : ByteArray) (h : WB w base b r v l e S) (hl : l.length ≤ 100000000000000) (hS : S.size ≤ 100000000000000) (N : Int) (lb lo : Nat) (L : List Int) (c : Nat) (T : ByteArray) (h0 : 0 < L.length) (hll : L.length ≤ 1000000000) (hlb : lb < w.heap.size) (hc : ∀ j, j < L.length → w.cell? ⟨lb, lo + j, none⟩ = some (.int .i64 (L.getD j 0))) (hLb : ∀ z ∈ L, z ≤ 9223372036854775807) (hpl : ¬ Fp b v lb ∧ lb ≠ r) :
    Calls Try.prog 17 #[.pointer (some ⟨b, 0, none⟩), .pointer (some ⟨r, 0, none⟩), .agg #[.int .i64 1, .int .i64 N, .slice (some ⟨lb, lo, none⟩) L.length c, .string T]] w fun ev w' => ev = .returned (.bool true) ∧ WStep w base b r v l e S (9 + 8 * L.length) w' := by
  have hb0 := (Below.refl w.heap.size w).alloc (Nat.le_refl _) (Obj.cells #[.int .i64 1, .int .i64 N, .slice (some ⟨lb, lo, none⟩) L.length c, .string T] 39)
  have q2 : (w.alloc (Obj.cells #[.int .i64 1, .int .i64 N, .slice (some ⟨lb, lo, none⟩) L.length c, .string T] 39)).cell? ⟨w.heap.size, 2, none⟩ = some (.slice (some ⟨lb, lo, none⟩) L.length c) := by simp
  have HW := hide h
  have HB := hide hb0
  have HO := hide (Blk.new w 39 #[.int .i64 1, .int .i64 N, .slice (some ⟨lb, lo, none⟩) L.length c, .string T])
  have HF := hide (lent3_any _ L lb lo c h0 (fun j hj => (hb0.cell (p := ⟨lb, lo + j, none⟩) hlb).trans (hc j hj)) (Nat.lt_of_lt_of_le hlb hb0.size) hll)
  have HC := hide hc
  have HLB := hide hLb
  have HPL := hide hpl
  have HE := hide (errN_out N L)
  have hz0 : (w.alloc (Obj.cells #[.int .i64 1, .int .i64 N, .slice (some ⟨lb, lo, none⟩) L.length c, .string T] 39)).heap.size = w.heap.size + 1 := by simp
  rw [hz0] at HF
  obtain ⟨n, hn⟩ : ∃ n, L.length = n := ⟨_, rfl⟩
  have HN := hide hn
  rw [hn] at HF q2 HB HO h0 hll ⊢
  clear hb0 h hc hLb hpl hn
  go_enter Try.func17, Try.ntmps17
  go_wp2_with fail
  refine (unhide HF).mono ?_
  rintro ev x0 ⟨rfl, hBk, hB0⟩
  have hbx : Below w.heap.size w x0 := (unhide HB).trans (hB0.mono (by simp))
  have hO0 : Blk x0 w.heap.size #[.int .i64 1, .int .i64 N, .slice (some ⟨lb, lo, none⟩) n c, .string T] 39 := (unhide HO).below hB0 (by omega)
  have q1 : x0.cell? ⟨w.heap.size, 1, none⟩ = some (.int .i64 N) := by rw [hO0.cell 1]; rfl
  have hw0 := (unhide HW).below hbx
  have hg : w.heap.size + 1 < x0.heap.size := hBk.lt
  have ngf : ¬ Fp b v (w.heap.size + 1) := fun q => by have := (unhide HW).fp q; omega
  have H1 := hide (num_any x0 base b v l e hw0.wt hw0.lo N L (some ⟨w.heap.size + 1, 0, none⟩) (n + 2) (.inr ⟨w.heap.size + 1, 0, rfl, hg, ngf, fun j hj => by
    rw [Nat.zero_add, hBk.cell j, List.getElem?_toArray, List.getElem?_map, List.getElem?_append_left hj, getD_at L j hj]
    rfl⟩) (by rw [unhide HN]; omega))
  rw [unhide HN] at H1
  have HXB := hide (And.intro hbx (And.intro hO0 hBk))
  clear hbx hO0 hBk hB0 hw0 HF q2 HO HB
  go_wp2_with fail
  refine (unhide H1).mono ?_
  rintro ev x1 ⟨rfl, hP⟩
  have hOb := hP.blk (unhide HXB).2.1 (fun q => by have := (unhide HW).fp q; omega)
  have hBg := hP.blk (unhide HXB).2.2 ngf
  have q4 : x1.cell? ⟨w.heap.size, 2, none⟩ = some (.slice (some ⟨lb, lo, none⟩) n c) := by rw [hOb.cell 2]; rfl
  have q5 : x1.cell? ⟨w.heap.size, 1, none⟩ = some (.int .i64 N) := by rw [hOb.cell 1]; rfl
  have HL1 := hide (show Inl x1 (some ⟨lb, lo, none⟩) L by
    obtain ⟨_, _, h2, _⟩ := hP
    have hi : Inl w (some ⟨lb, lo, none⟩) L := .inr ⟨lb, lo, rfl, hlb, unhide HC⟩
    exact (hi.below (unhide HXB).1 (fun _ k o q => by cases q; exact hlb)).only h2 (fun _ k o q => by cases q; exact (unhide HPL).1))
  have H2 := hide (rwnum_any x1 r S e N ((unhide HW).ref (unhide HXB).1 hP) L (some ⟨lb, lo, none⟩) c (unhide HL1) (unhide HLB) (fun _ o q => by cases q; exact (unhide HPL).2 rfl) (by rw [unhide HN]; exact hll) (by omega))
  rw [unhide HN] at H2
  have HP := hide hP
  have HOb := hide (And.intro hOb hBg)
  clear hP hOb hBg H1 q1
  go_wp2_with fail
  refine (unhide H2).mono ?_
  rintro ev x2 ⟨rfl, hR, hO⟩
  have hrl := (unhide HW).rt.lt
  have q6 : x2.cell? ⟨w.heap.size, 2, none⟩ = some (.slice (some ⟨lb, lo, none⟩) n c) := by rw [((unhide HOb).1.only hO (fun q => by omega)).cell 2]; rfl
  have H3 := hide (back3_any x2 (w.heap.size + 1) (n + 2) L (some ⟨lb, lo, none⟩) c ((unhide HL1).only hO (fun _ k o q => by cases q; exact (unhide HPL).2)) (by rw [unhide HN]; exact hll) (fun o q => by cases q; omega) ((unhide HOb).2.only hO (fun q => by omega)))
  rw [unhide HN] at H3
  have HX := hide (And.intro hR hO)
  clear hR hO H2 q4 q5 HL1 HOb
  go_wp2_with fail
  refine (unhide H3).mono ?_
  rintro ev x3 ⟨rfl, hO4⟩
  have HX4 := hide hO4
  clear hO4 H3 q6
  go_wp2
  go_ret
  refine ⟨rfl, errN N L, if errN N L = 0 then outN N.toNat L else [], by have := unhide HE; rw [unhide HN] at this; exact this, ?_⟩
  rw [wl_cut, sw_cut]
  exact WR.mk (unhide HW) (unhide HXB).1 (unhide HP) (unhide HX).1 (unhide HX).2 (by omega) hg (unhide HX4)
theorem writes_any (w : World) (base b r : Nat) (v : Value) (l : List Int) (e : Int) (S : ByteArray) (h : WB w base b r v l e S) (hs : Sw l e S) (hl : l.length ≤ 100000000000000) (hS : S.size ≤ 100000000000000) (KD N : Int) (p : Option Addr) (L : List Int) (c : Nat) (T : ByteArray) (hL : Inl w p L) (hll : L.length ≤ 1000000000) (hLb : ∀ z ∈ L, z ≤ 9223372036854775807) (hpl : 0 < L.length → ∀ k o, p = some ⟨k, o, none⟩ → k < w.heap.size ∧ ¬ Fp b v k ∧ k ≠ r) (hT : T.size ≤ 1000000000) :
    Calls Try.prog 17 #[.pointer (some ⟨b, 0, none⟩), .pointer (some ⟨r, 0, none⟩), .agg #[.int .i64 KD, .int .i64 N, .slice p L.length c, .string T]] w fun ev w' => ev = .returned (.bool true) ∧ WStep w base b r v l e S (9 + 8 * L.length + T.size) w' := by
  have up : ∀ {C : Nat} {w' : World}, C ≤ 9 + 8 * L.length + T.size → WStep w base b r v l e S C w' → WStep w base b r v l e S (9 + 8 * L.length + T.size) w' := fun hC q => by
    obtain ⟨err, out, h1, h2⟩ := q
    exact ⟨err, out, Nat.le_trans h1 hC, h2⟩
  by_cases h1 : KD = 1
  · subst h1
    by_cases h0 : 0 < L.length
    · rcases hL with q | ⟨lb, lo, rfl, q1, q2⟩
      · rw [q] at h0; cases h0
      · exact (writesNum1 w base b r v l e S h hl hS N lb lo L c T h0 hll q1 q2 hLb (hpl h0 lb lo rfl).2).mono (by rintro ev w' ⟨rfl, q⟩; exact ⟨rfl, up (by omega) q⟩)
    · obtain rfl : L = [] := List.eq_nil_of_length_eq_zero (by omega)
      exact (writesNum0 w base b r v l e S h hl hS N p c T).mono (by rintro ev w' ⟨rfl, q⟩; exact ⟨rfl, up (by simp) q⟩)
  by_cases h2 : KD = 2
  · subst h2; exact (writesVar w base b r v l e S h hl hS N p L c T hL hLb hpl).mono (by rintro ev w' ⟨rfl, q⟩; exact ⟨rfl, up (by omega) q⟩)
  by_cases h3 : KD = 3
  · subst h3; exact (writesRaw w base b r v l e S h hl hS N _ T hT).mono (by rintro ev w' ⟨rfl, q⟩; exact ⟨rfl, up (by omega) q⟩)
  by_cases h4 : KD = 4
  · subst h4; exact (writesText w base b r v l e S h hl hS N _ T hT).mono (by rintro ev w' ⟨rfl, q⟩; exact ⟨rfl, up (by omega) q⟩)
  by_cases h5 : KD = 5
  · subst h5; exact (writesDone w base b r v l e S h hs N _ T).mono (by rintro ev w' ⟨rfl, q⟩; exact ⟨rfl, up (by omega) q⟩)
  exact (writesOther w base b r v l e S h N _ T KD h1 h2 h3 h4 h5).mono (by rintro ev w' ⟨rfl, q⟩; exact ⟨rfl, up (by omega) q⟩)
end Go.Proofs.Ytkmgbicacbalfaa
