import Derived.Test.YtkmgbicacbalfaaWok
import Derived.Test.YtkmgbicacbalfaaRwb
import Derived.Test.YtkmgbicacbalfaaLwi
namespace Go.Proofs.Ytkmgbicacbalfaa
open Go.RowKit
/-- Behind a step on the Writer at b (whose row was v) and the document's at r. -/
def WR (w : World) (base b r : Nat) (v : Value) (l : List Int) (e : Int) (S : ByteArray) (w' : World) : Prop :=
  ∃ v', Wtr w' base b v' l e ∧ Rwt w' r S e ∧ Only (fun k => Fp b v k ∨ k = r) w w' ∧ (∀ k, v'.ownBlock = some k → v.ownBlock = some k ∨ w.heap.size ≤ k)
structure WB (w : World) (base b r : Nat) (v : Value) (l : List Int) (e : Int) (S : ByteArray) : Prop where
  wt : Wtr w base b v l e
  rt : Rwt w r S e
  nr : ¬ Fp b v r
  lo : base ≤ w.heap.size
theorem WB.below {w w' : World} {base b r : Nat} {v : Value} {l : List Int} {e : Int} {S : ByteArray} (h : WB w base b r v l e S) (hb : Below w.heap.size w w') : WB w' base b r v l e S :=
  ⟨h.wt.only (Only.of_below (P := fun _ => False) hb) (fun _ _ q => q), h.rt.below hb h.rt.lt, h.nr, Nat.le_trans h.lo hb.size⟩
theorem WB.fp {w : World} {base b r : Nat} {v : Value} {l : List Int} {e : Int} {S : ByteArray} (h : WB w base b r v l e S) {k : Nat} (hk : Fp b v k) : k < w.heap.size := by
  rcases hk with rfl | hk
  · exact h.wt.lt
  · exact (h.wt.2.1.lt k hk).2
theorem WB.ref {w W1 W2 : World} {base b r : Nat} {v : Value} {l l' : List Int} {e e' : Int} {S : ByteArray} (h : WB w base b r v l e S) (h0 : Below w.heap.size w W1) (hP : WPost base b v l' e' W1 W2) : Rwt W2 r S e := by
  obtain ⟨v', h1, h2, h3⟩ := hP
  exact (h.rt.below h0 h.rt.lt).only h2 h.nr
theorem WR.mk {w W1 W2 W3 W4 : World} {base b r g : Nat} {v : Value} {l l' : List Int} {e e' : Int} {S S' : ByteArray} (h : WB w base b r v l e S) (h0 : Below w.heap.size w W1) (hP : WPost base b v l' e' W1 W2) (hR : Rwt W3 r S' e') (hO : Only (fun k => k = r) W2 W3) (hg : w.heap.size ≤ g) (hg1 : g < W1.heap.size) (hO4 : Only (fun k => k = g) W3 W4) : WR w base b r v l' e' S' W4 := by
  obtain ⟨v', h1, h2, h3⟩ := hP
  have hrw := h.rt.lt
  have hv : ∀ k, v'.ownBlock = some k → v.ownBlock = some k ∨ w.heap.size ≤ k := fun k hk => by
    rcases h3 k hk with q | q
    · exact .inl q
    · exact .inr (Nat.le_trans h0.size q)
  have nr' : ¬ Fp b v' r := fun q => by
    rcases q with q | q
    · exact h.nr (.inl q)
    · rcases h3 r q with q | q
      · exact h.nr (.inr q)
      · have := h0.size; omega
  have ng : ¬ Fp b v' g := fun q => by
    rcases q with q | q
    · have := h.fp (.inl rfl); omega
    · rcases h3 g q with q | q
      · have := h.fp (.inr q); omega
      · omega
  refine ⟨v', (h1.only hO (fun k hk q => nr' (q ▸ hk))).only hO4 (fun k hk q => ng (q ▸ hk)), hR.only hO4 (fun q => by omega), ?_, hv⟩
  refine ((Only.of_below (P := fun k => Fp b v k ∨ k = r) h0).trans (h2.mono (fun k _ q => .inl q)) (fun _ _ q => q) |>.trans (hO.mono (fun k _ q => .inr q)) (fun _ _ q => q)).trans hO4 (fun k hk q => by omega)
theorem wl_cut (l : List Int) (e err : Int) (out : List Int) : wl l e err (if err = 0 then out else []) = wl l e err out := by
  by_cases h : err = 0 <;> simp [wl, h]
theorem sw_cut (S : ByteArray) (err : Int) (out : List Int) : sw S err (if err = 0 then out else []) = sw S err out := by
  by_cases h : err = 0 <;> simp [sw, h]
theorem sw_nil (S : ByteArray) : sw S 0 [] = S := by
  rw [sw, if_pos rfl, show strOfNums [] = ByteArray.empty from rfl, ByteArray.append_empty]
theorem errN_out (N : Int) (L : List Int) : (if errN N L = 0 then outN N.toNat L else []).length ≤ 9 + 8 * L.length := by
  by_cases h : errN N L = 0
  · rw [if_pos h, outN_len]
    have hN : ¬ (N < 1 ∨ 8 < N) := fun q => by rw [errN, if_pos q] at h; cases h
    have : N.toNat * L.length ≤ 8 * L.length := Nat.mul_le_mul (by omega) (Nat.le_refl _)
    omega
  · rw [if_neg h]; simp
/-- What a step has made. -/
def WStep (w : World) (base b r : Nat) (v : Value) (l : List Int) (e : Int) (S : ByteArray) (C : Nat) (w' : World) : Prop :=
  ∃ err out, out.length ≤ C ∧ WR w base b r v (wl l e err out) (we e err) (sw S err out) w'
set_option maxRecDepth 100000 in
set_option maxHeartbeats 2000000 in
theorem writesRaw (w : World) (base b r : Nat) (v : Value) (l : List Int) (e : Int) (S : ByteArray) (h : WB w base b r v l e S) (hl : l.length ≤ 100000000000000) (hS : S.size ≤ 100000000000000) (N : Int) (Lv : Value) (T : ByteArray) (hT : T.size ≤ 1000000000) :
    Calls Try.prog 17 #[.pointer (some ⟨b, 0, none⟩), .pointer (some ⟨r, 0, none⟩), .agg #[.int .i64 3, .int .i64 N, Lv, .string T]] w fun ev w' => ev = .returned (.bool true) ∧ WStep w base b r v l e S (9 + T.size) w' := by
  have hb0 := (Below.refl w.heap.size w).alloc (Nat.le_refl _) (Obj.cells #[.int .i64 3, .int .i64 N, Lv, .string T] 39)
  have q3 : (w.alloc (Obj.cells #[.int .i64 3, .int .i64 N, Lv, .string T] 39)).cell? ⟨w.heap.size, 3, none⟩ = some (.string T) := by simp
  have hw0 := h.below hb0
  have HW := hide h
  have HB := hide hb0
  have H1 := hide (rawK (WPost.refl hw0.wt) hw0.lo T (by omega))
  have HO := hide (Blk.new w 39 #[.int .i64 3, .int .i64 N, Lv, .string T])
  clear hb0 hw0 h
  go_enter Try.func17, Try.ntmps17
  go_wp2_with fail
  refine (unhide H1).mono ?_
  rintro ev x1 ⟨rfl, hP⟩
  have hOb := hP.blk (unhide HO) (fun q => by have := (unhide HW).fp q; omega)
  have q4 : x1.cell? ⟨w.heap.size, 3, none⟩ = some (.string T) := by rw [hOb.cell 3]; rfl
  have H2 := hide (rwraw_any x1 r S T e ((unhide HW).ref (unhide HB) hP) (by omega))
  have HP := hide hP
  clear hP hOb H1 HO q3
  go_wp2_with fail
  refine (unhide H2).mono ?_
  rintro ev x2 ⟨rfl, hR, hO⟩
  have HX := hide (And.intro hR hO)
  clear hR hO H2 q4
  go_wp2
  go_ret
  refine ⟨rfl, 0, nums T, by rw [nums_len]; omega, ?_⟩
  rw [we_ok, sw, if_pos rfl, strOfNums_nums]
  exact WR.mk (unhide HW) (unhide HB) (unhide HP) (unhide HX).1 (unhide HX).2 (Nat.le_refl _) (by simp) (Only.refl _ _)
set_option maxRecDepth 100000 in
set_option maxHeartbeats 2000000 in
theorem writesText (w : World) (base b r : Nat) (v : Value) (l : List Int) (e : Int) (S : ByteArray) (h : WB w base b r v l e S) (hl : l.length ≤ 100000000000000) (hS : S.size ≤ 100000000000000) (N : Int) (Lv : Value) (T : ByteArray) (hT : T.size ≤ 1000000000) :
    Calls Try.prog 17 #[.pointer (some ⟨b, 0, none⟩), .pointer (some ⟨r, 0, none⟩), .agg #[.int .i64 4, .int .i64 N, Lv, .string T]] w fun ev w' => ev = .returned (.bool true) ∧ WStep w base b r v l e S (9 + T.size) w' := by
  have hb0 := (Below.refl w.heap.size w).alloc (Nat.le_refl _) (Obj.cells #[.int .i64 4, .int .i64 N, Lv, .string T] 39)
  have q1 : (w.alloc (Obj.cells #[.int .i64 4, .int .i64 N, Lv, .string T] 39)).cell? ⟨w.heap.size, 1, none⟩ = some (.int .i64 N) := by simp
  have q3 : (w.alloc (Obj.cells #[.int .i64 4, .int .i64 N, Lv, .string T] 39)).cell? ⟨w.heap.size, 3, none⟩ = some (.string T) := by simp
  have hw0 := h.below hb0
  have HW := hide h
  have HB := hide hb0
  have H1 := hide (textK (WPost.refl hw0.wt) hw0.lo T N (by omega))
  have HO := hide (Blk.new w 39 #[.int .i64 4, .int .i64 N, Lv, .string T])
  clear hb0 hw0 h
  go_enter Try.func17, Try.ntmps17
  go_wp2_with fail
  refine (unhide H1).mono ?_
  rintro ev x1 ⟨rfl, hP⟩
  have hOb := hP.blk (unhide HO) (fun q => by have := (unhide HW).fp q; omega)
  have q4 : x1.cell? ⟨w.heap.size, 3, none⟩ = some (.string T) := by rw [hOb.cell 3]; rfl
  have q5 : x1.cell? ⟨w.heap.size, 1, none⟩ = some (.int .i64 N) := by rw [hOb.cell 1]; rfl
  have H2 := hide (rwtext_any x1 r S T e N ((unhide HW).ref (unhide HB) hP) (by omega))
  have HP := hide hP
  clear hP hOb H1 HO q3 q1
  go_wp2_with fail
  refine (unhide H2).mono ?_
  rintro ev x2 ⟨rfl, hR, hO⟩
  have HX := hide (And.intro hR hO)
  clear hR hO H2 q4 q5
  go_wp2
  go_ret
  refine ⟨rfl, _, _, ?_, WR.mk (unhide HW) (unhide HB) (unhide HP) (unhide HX).1 (unhide HX).2 (Nat.le_refl _) (by simp) (Only.refl _ _)⟩
  rw [List.length_append, nums_len]
  have := (digN_nine T.size (by omega)).2
  omega
set_option maxRecDepth 100000 in
set_option maxHeartbeats 2000000 in
theorem writesDone (w : World) (base b r : Nat) (v : Value) (l : List Int) (e : Int) (S : ByteArray) (h : WB w base b r v l e S) (hs : Sw l e S) (N : Int) (Lv : Value) (T : ByteArray) :
    Calls Try.prog 17 #[.pointer (some ⟨b, 0, none⟩), .pointer (some ⟨r, 0, none⟩), .agg #[.int .i64 5, .int .i64 N, Lv, .string T]] w fun ev w' => ev = .returned (.bool true) ∧ WStep w base b r v l e S (9 + T.size) w' := by
  have hb0 := (Below.refl w.heap.size w).alloc (Nat.le_refl _) (Obj.cells #[.int .i64 5, .int .i64 N, Lv, .string T] 39)
  have hw0 := h.below hb0
  have HW := hide h
  have HB := hide hb0
  have H1 := hide (doneK (WPost.refl hw0.wt))
  have ht := hs.told
  rw [ht] at H1
  clear hb0 hw0 h hs ht
  have H2 := hide (fun W (q : Rwt W r S e) => rwdone_any W r S e q)
  generalize (if e = 0 then S else ⟨#[]⟩) = X at *
  go_enter Try.func17, Try.ntmps17
  go_wp2_with fail
  refine (unhide H1).mono ?_
  rintro ev x1 ⟨rfl, hP⟩
  have HR := hide ((unhide HW).ref (unhide HB) hP)
  have HP := hide hP
  clear hP H1
  go_wp2_with fail
  refine (unhide H2 _ (unhide HR)).mono ?_
  rintro ev x2 ⟨rfl, hB⟩
  have HX := hide hB
  clear hB H2
  go_wp2
  go_ret
  refine ⟨rfl, 0, [], by simp, ?_⟩
  rw [we_ok, sw_nil, wl_nil]
  exact WR.mk (unhide HW) (unhide HB) (unhide HP) ((unhide HR).below (unhide HX) (unhide HR).lt) (Only.of_below (unhide HX)) (Nat.le_refl _) (by simp) (Only.refl _ _)
end Go.Proofs.Ytkmgbicacbalfaa
