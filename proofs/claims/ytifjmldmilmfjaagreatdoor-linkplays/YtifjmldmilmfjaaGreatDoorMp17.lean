import Derived.Test.YtifjmldmilmfjaaGreatDoorMp16
import Derived.Test.YtifjmldmilmfjaaGreatDoorMp06
import Derived.BigQuiet
import Derived.Test.YtifjmldmilmfjaaGreatDoorMp09
namespace Go.Proofs.YtifjmldmilmfjaaGreatDoor
open Go.RowKit
set_option maxRecDepth 100000
set_option maxHeartbeats 1000000 in
theorem rtagged_any (k s : ByteArray) (hk : k.size ≤ 140737488355000) (hs : s.size ≤ 140737488355000) (w : World) : Calls Tryz.prog 59 #[.string k, .string s] w fun e w' => e = .returned (.string (tgB k s)) ∧ Below w.heap.size w w' := by
  have HM := hide (rmac_any k s (by omega) (by omega) w)
  rw [show strOfNums (macP (nums k) (nums s)) = mcB k s from rfl] at HM
  unfold tgB
  have hz := mcB_size k s
  generalize mcB k s = d at *
  have hx : (d.extract 0 16).size = 16 := by rw [ByteArray.size_extract]; omega
  go_enter Tryz.func59, Tryz.ntmps59
  go_wp2_with fail
  refine (unhide HM).mono ?_
  rintro e y ⟨rfl, hb⟩
  have HB := hide hb
  clear hb
  go_wp2
  go_ret
  exact ⟨rfl, unhide HB⟩
set_option maxHeartbeats 1000000 in
theorem rhello_txt (k : ByteArray) (i : Nat) (n : ByteArray) (hk : k.size ≤ 140737488355000) (hi : i < 256) (hn : n.size ≤ 140737488354000) (w : World) : Calls Tryz.prog 37 #[.string k, .int .i64 (i : Int), .string n] w fun e w' => e = .returned (.string (heB k i n)) ∧ Below w.heap.size w w' := by
  have HB := hide (show Below w.heap.size w (w.alloc (Obj.cells #[.int .u8 (i : Int)] 5)) from (Below.refl _ _).alloc (Nat.le_refl _) _)
  have hc := conv_oneL w (i : Int)
  have hw : IntKind.u8.wrap (i : Int) = (i : Int) := by rw [IntKind.wrap_u8]; omega
  rw [show strOfNums [(i : Int)] = sdB i from rfl] at hc
  have hz := sdB_size i
  have HT := hide (fun W => rtagged_any k (lhB ++ sdB i ++ n) hk (by rw [ByteArray.size_append, ByteArray.size_append, sdB_size]; show 2 + 1 + n.size ≤ _; omega) W)
  rw [show tgB k (lhB ++ sdB i ++ n) = heB k i n from rfl] at HT
  generalize heB k i n = r at *
  have e0 : (⟨#[76, 72]⟩ : ByteArray) ++ sdB i ++ n = lhB ++ sdB i ++ n := rfl
  have ez : ((⟨#[76, 72]⟩ : ByteArray) ++ sdB i).size = 3 := by rw [ByteArray.size_append, hz]; rfl
  have e2 : (⟨#[76, 72]⟩ : ByteArray).size = 2 := rfl
  generalize sdB i = d at *
  rw [← e0] at HT
  clear e0
  go_enter Tryz.func37, Tryz.ntmps37
  go_wp2_with fail
  refine (unhide HT _).mono ?_
  rintro e y2 ⟨rfl, hb⟩
  have HB2 := hide ((unhide HB).trans (hb.mono (unhide HB).size))
  clear hb
  go_wp2
  go_ret
  exact ⟨rfl, unhide HB2⟩
/-- the document's end beside ours -/
structure LE.doc (e : LE) : Prop where
  o : e.r = true ∧ e.o.size = 16 ∧ e.c = false ∨ e.r = false ∧ e.o = ⟨#[]⟩ ∧ e.c = false ∨ e.r = false ∧ e.c = true
def DEnd (w : World) (g : Nat) (e : LE) (v : Value) : Prop := Blk w g #[.string e.k, .int .i64 (e.i : Int), .string e.n, .string e.o, .bool e.c, .int .i64 (e.s : Int), v] 92 ∧ e.doc ∧ e.ok
theorem DEnd.below {w w' : World} {B g : Nat} {e : LE} {v : Value} (h : DEnd w g e v) (hb : Below B w w') (hB : g < B) : DEnd w' g e v := ⟨h.1.below hb hB, h.2⟩
theorem DEnd.only {w w' : World} {P : Nat → Prop} {g : Nat} {e : LE} {v : Value} (h : DEnd w g e v) (ho : Only P w w') (hp : ¬ P g) : DEnd w' g e v := ⟨h.1.only ho hp, h.2⟩
theorem DEnd.lt {w : World} {g : Nat} {e : LE} {v : Value} (h : DEnd w g e v) : g < w.heap.size := h.1.lt
theorem le0_doc (k n : ByteArray) (i : Nat) : (le0 k i n).doc := ⟨.inr (.inl ⟨rfl, rfl, rfl⟩)⟩
set_option maxHeartbeats 1000000 in
theorem rlnew_ok (k : ByteArray) (i : Nat) (n : ByteArray) (h1 : k.size = 32) (h2 : i < 2) (h3 : n.size = 16) (w : World) : Calls Tryz.prog 20 #[.string k, .int .i64 (i : Int), .string n] w fun ev w' => ∃ g, w.heap.size ≤ g ∧ ev = .returned (.tuple #[.pointer (some ⟨g, 0, none⟩), .int .i64 0]) ∧ DEnd w' g (le0 k i n) (.slice none 0 0) ∧ Below w.heap.size w w' := by
  have e1 : ((k.size : Int) != 32) = false := by simp; omega
  have e4 : ((n.size : Int) != 16) = false := by simp; omega
  have HO := hide (And.intro (le0_doc k n i) (le0_ok h1 h2 h3))
  have HB := hide (Below.refl w.heap.size w)
  obtain rfl | rfl : i = 0 ∨ i = 1 := by omega
  · clear h1 h2 h3
    rw [show (((0 : Nat) : Int)) = 0 from rfl]
    go_enter Tryz.func20, Tryz.ntmps20
    go_wp2
    go_ret2
    exact ⟨_, Nat.le_refl _, rfl, ⟨Blk.new _ _ _, unhide HO⟩, (unhide HB).alloc (Nat.le_refl _) _⟩
  · clear h1 h2 h3
    rw [show (((1 : Nat) : Int)) = 1 from rfl]
    go_enter Tryz.func20, Tryz.ntmps20
    go_wp2
    go_ret2
    exact ⟨_, Nat.le_refl _, rfl, ⟨Blk.new _ _ _, unhide HO⟩, (unhide HB).alloc (Nat.le_refl _) _⟩
theorem emp_noL {s : ByteArray} (h : s.size ≠ 0) : s.toList.isEmpty = false := by
  have := isE h
  cases hl : s.toList with
  | nil => rw [hl] at this; exact absurd this (by decide)
  | cons a l => rfl
set_option maxHeartbeats 1000000 in
theorem rlready_any (g : Nat) (e : LE) (v : Value) (w : World) (hE : DEnd w g e v) : Calls Tryz.prog 23 #[.pointer (some ⟨g, 0, none⟩)] w fun ev w' => ev = .returned (.bool e.r) ∧ Below w.heap.size w w' := by
  have c3 : w.cell? ⟨g, 3, none⟩ = some (.string e.o) := hE.1.cell 3
  have c4 : w.cell? ⟨g, 4, none⟩ = some (.bool e.c) := hE.1.cell 4
  have HB := hide (show ∀ nq, Below w.heap.size w (w.drewN nq) from fun nq => below_drewN (Below.refl _ _) nq)
  have HB0 := hide (Below.refl w.heap.size w)
  obtain ⟨h1, h2, h3⟩ | ⟨h1, h2, h3⟩ | ⟨h1, h3⟩ := hE.2.1.o
  · rw [h3] at c4
    rw [h1]
    have q1 := isE (s := e.o) (by omega)
    have q2 := emp_noL (s := e.o) (by omega)
    generalize e.o = o at *
    clear hE h1 h3
    go_enter Tryz.func23, Tryz.ntmps23
    go_wp2
    go_ret
    exact ⟨rfl, unhide HB0⟩
  · rw [h2] at c3
    rw [h1]
    clear hE h1 h2 h3
    go_enter Tryz.func23, Tryz.ntmps23
    go_wp2
    go_ret
    exact ⟨rfl, unhide HB0⟩
  · rw [h3] at c4
    rw [h1]
    by_cases h0 : e.o.size = 0
    · have h2 : e.o = ⟨#[]⟩ := by
        apply nums_inj
        have := nums_len e.o
        rw [List.eq_nil_of_length_eq_zero (l := nums e.o) (by omega)]
        rfl
      rw [h2] at c3
      clear hE h1 h3 h2 h0
      go_enter Tryz.func23, Tryz.ntmps23
      go_wp2
      go_ret
      exact ⟨rfl, unhide HB0⟩
    · have q1 := isE (s := e.o) h0
      have q2 := emp_noL (s := e.o) h0
      generalize e.o = o at *
      clear hE h1 h3
      go_enter Tryz.func23, Tryz.ntmps23
      go_wp2
      go_ret
      exact ⟨rfl, unhide HB0⟩
set_option maxHeartbeats 1000000 in
theorem rlhello_any (g : Nat) (e : LE) (v : Value) (w : World) (hE : DEnd w g e v) : Calls Tryz.prog 21 #[.pointer (some ⟨g, 0, none⟩)] w fun ev w' => ev = .returned (.string (if e.c then ⟨#[]⟩ else heB e.k e.i e.n)) ∧ Below w.heap.size w w' := by
  have c4 : w.cell? ⟨g, 4, none⟩ = some (.bool e.c) := hE.1.cell 4
  have c0 : w.cell? ⟨g, 0, none⟩ = some (.string e.k) := hE.1.cell 0
  have c1 : w.cell? ⟨g, 1, none⟩ = some (.int .i64 (e.i : Int)) := hE.1.cell 1
  have c2 : w.cell? ⟨g, 2, none⟩ = some (.string e.n) := hE.1.cell 2
  cases hc : e.c
  · rw [hc] at c4
    have hi9 := hE.2.2.i
    have HH := hide (rhello_txt e.k e.i e.n (by rw [hE.2.2.k]; decide) (by omega) (by rw [hE.2.2.n]; decide) w.drew)
    have HC := hide (show ∀ W, Below w.drew.heap.size w.drew W → W.cell? ⟨g, 0, none⟩ = some (.string e.k) ∧ W.cell? ⟨g, 1, none⟩ = some (.int .i64 (e.i : Int)) ∧ W.cell? ⟨g, 2, none⟩ = some (.string e.n) from fun W hW => by
      have hB := hE.1.below (B := w.heap.size) ((Below.refl _ w).drew.trans hW) hE.lt
      exact ⟨hB.cell 0, hB.cell 1, hB.cell 2⟩)
    rw [if_neg (by decide)]
    generalize heB e.k e.i e.n = H at *
    clear hE hc hi9
    generalize e.k = k at *
    generalize e.n = n at *
    generalize e.i = i at *
    go_enter Tryz.func21, Tryz.ntmps21
    go_wp2_with fail
    refine wp_region_held_drew (S := fun W => W.cell? ⟨g, 0, none⟩ = some (.string k) ∧ W.cell? ⟨g, 1, none⟩ = some (.int .i64 (i : Int)) ∧ W.cell? ⟨g, 2, none⟩ = some (.string n)) (by kernel_rfl) ⟨c0, c1, c2⟩ ?_
    intro hS
    refine wpAnyH_takeD 0 (some 7) (.pointer (some ⟨g, 0, none⟩)) rfl rfl (by kernel_rfl) (by kernel_rfl) (by kernel_rfl) (fun _ _ _ h => h) (Or.inl ⟨by rfl, fun w hSw => by have hcx := hSw; have hcx0 := hcx.1; have hcx1 := hcx.2.1; have hcx2 := hcx.2.2; clear hSw hcx; go_simp⟩) hS ?_
    simp only [Act.put, List.setIfInBounds_toArray, List.set_cons_zero, List.set_cons_succ]
    refine wpAnyH_takeD 1 (some 8) (.pointer (some ⟨g, 0, none⟩)) rfl rfl (by kernel_rfl) (by kernel_rfl) (by kernel_rfl) (fun _ _ _ h => h) (Or.inl ⟨by rfl, fun w hSw => by have hcx := hSw; have hcx0 := hcx.1; have hcx1 := hcx.2.1; have hcx2 := hcx.2.2; clear hSw hcx; go_simp⟩) hS ?_
    simp only [Act.put, List.setIfInBounds_toArray, List.set_cons_zero, List.set_cons_succ]
    refine wpAnyH_takeD 2 (some 9) (.pointer (some ⟨g, 0, none⟩)) rfl rfl (by kernel_rfl) (by kernel_rfl) (by kernel_rfl) (fun _ _ _ h => h) (Or.inl ⟨by rfl, fun w hSw => by have hcx := hSw; have hcx0 := hcx.1; have hcx1 := hcx.2.1; have hcx2 := hcx.2.2; clear hSw hcx; go_simp⟩) hS ?_
    simp only [Act.put, List.setIfInBounds_toArray, List.set_cons_zero, List.set_cons_succ]
    refine wpAnyH_takeD 3 (some 10) (.string k) rfl rfl (by kernel_rfl) (by kernel_rfl) (by kernel_rfl) (fun _ _ _ h => h) (Or.inl ⟨by rfl, fun w hSw => by have hcx := hSw; have hcx0 := hcx.1; have hcx1 := hcx.2.1; have hcx2 := hcx.2.2; clear hSw hcx; go_simp⟩) hS ?_
    simp only [Act.put, List.setIfInBounds_toArray, List.set_cons_zero, List.set_cons_succ]
    refine wpAnyH_takeD 4 (some 11) (.pointer (some ⟨g, 0, none⟩)) rfl rfl (by kernel_rfl) (by kernel_rfl) (by kernel_rfl) (fun _ _ _ h => h) (Or.inl ⟨by rfl, fun w hSw => by have hcx := hSw; have hcx0 := hcx.1; have hcx1 := hcx.2.1; have hcx2 := hcx.2.2; clear hSw hcx; go_simp⟩) hS ?_
    simp only [Act.put, List.setIfInBounds_toArray, List.set_cons_zero, List.set_cons_succ]
    refine wpAnyH_takeD 5 (some 12) (.pointer (some ⟨g, 0, none⟩)) rfl rfl (by kernel_rfl) (by kernel_rfl) (by kernel_rfl) (fun _ _ _ h => h) (Or.inl ⟨by rfl, fun w hSw => by have hcx := hSw; have hcx0 := hcx.1; have hcx1 := hcx.2.1; have hcx2 := hcx.2.2; clear hSw hcx; go_simp⟩) hS ?_
    simp only [Act.put, List.setIfInBounds_toArray, List.set_cons_zero, List.set_cons_succ]
    refine wpAnyH_takeD 6 (some 13) (.pointer (some ⟨g, 1, none⟩)) rfl rfl (by kernel_rfl) (by kernel_rfl) (by kernel_rfl) (fun _ _ _ h => h) (Or.inl ⟨by rfl, fun w hSw => by have hcx := hSw; have hcx0 := hcx.1; have hcx1 := hcx.2.1; have hcx2 := hcx.2.2; clear hSw hcx; go_simp⟩) hS ?_
    simp only [Act.put, List.setIfInBounds_toArray, List.set_cons_zero, List.set_cons_succ]
    refine wpAnyH_takeD 7 (some 14) (.int .i64 (i : Int)) rfl rfl (by kernel_rfl) (by kernel_rfl) (by kernel_rfl) (fun _ _ _ h => h) (Or.inl ⟨by rfl, fun w hSw => by have hcx := hSw; have hcx0 := hcx.1; have hcx1 := hcx.2.1; have hcx2 := hcx.2.2; clear hSw hcx; go_simp⟩) hS ?_
    simp only [Act.put, List.setIfInBounds_toArray, List.set_cons_zero, List.set_cons_succ]
    refine wpAnyH_takeD 8 (some 15) (.pointer (some ⟨g, 0, none⟩)) rfl rfl (by kernel_rfl) (by kernel_rfl) (by kernel_rfl) (fun _ _ _ h => h) (Or.inl ⟨by rfl, fun w hSw => by have hcx := hSw; have hcx0 := hcx.1; have hcx1 := hcx.2.1; have hcx2 := hcx.2.2; clear hSw hcx; go_simp⟩) hS ?_
    simp only [Act.put, List.setIfInBounds_toArray, List.set_cons_zero, List.set_cons_succ]
    refine wpAnyH_takeD 9 (some 16) (.pointer (some ⟨g, 0, none⟩)) rfl rfl (by kernel_rfl) (by kernel_rfl) (by kernel_rfl) (fun _ _ _ h => h) (Or.inl ⟨by rfl, fun w hSw => by have hcx := hSw; have hcx0 := hcx.1; have hcx1 := hcx.2.1; have hcx2 := hcx.2.2; clear hSw hcx; go_simp⟩) hS ?_
    simp only [Act.put, List.setIfInBounds_toArray, List.set_cons_zero, List.set_cons_succ]
    refine wpAnyH_takeD 10 (some 17) (.pointer (some ⟨g, 2, none⟩)) rfl rfl (by kernel_rfl) (by kernel_rfl) (by kernel_rfl) (fun _ _ _ h => h) (Or.inl ⟨by rfl, fun w hSw => by have hcx := hSw; have hcx0 := hcx.1; have hcx1 := hcx.2.1; have hcx2 := hcx.2.2; clear hSw hcx; go_simp⟩) hS ?_
    simp only [Act.put, List.setIfInBounds_toArray, List.set_cons_zero, List.set_cons_succ]
    refine wpAnyH_takeD 11 (some 18) (.string n) rfl rfl (by kernel_rfl) (by kernel_rfl) (by kernel_rfl) (fun _ _ _ h => h) (Or.inl ⟨by rfl, fun w hSw => by have hcx := hSw; have hcx0 := hcx.1; have hcx1 := hcx.2.1; have hcx2 := hcx.2.2; clear hSw hcx; go_simp⟩) hS ?_
    simp only [Act.put, List.setIfInBounds_toArray, List.set_cons_zero, List.set_cons_succ]
    refine wpAnyH_ready (rs := [12]) (by kernel_rfl) (by simp) ?_
    refine AllReadyH.cons rfl (fun K hK => ?_) AllReadyH.nil
    simp only [List.getElem_toArray, List.getElem_cons_succ, List.getElem_cons_zero]
    go_simp
    refine (unhide HH).mono ?_
    rintro ev y ⟨rfl, hb⟩
    have hS9 := unhide HC _ hb
    have HB := hide hb
    clear hb
    refine hK.out _ _ hS9 (fun hS => ?_)
    clear hK K
    refine wpAnyH_takeD 13 (some 2) (.string H) rfl rfl (by kernel_rfl) (by kernel_rfl) (by kernel_rfl) (fun _ _ _ h => h) (Or.inl ⟨by rfl, fun w hSw => by have hcx := hSw; have hcx0 := hcx.1; have hcx1 := hcx.2.1; have hcx2 := hcx.2.2; clear hSw hcx; go_simp⟩) hS ?_
    simp only [Act.put, List.setIfInBounds_toArray, List.set_cons_zero, List.set_cons_succ]
    refine wpAnyH_done (by kernel_rfl) ?_ _
    clear hS hS9 HC HH c0 c1 c2 c4
    go_wp2
    go_ret
    exact ⟨rfl, (Below.refl _ w).drew.trans (unhide HB)⟩
  · rw [hc] at c4
    have HB := hide (Below.refl w.heap.size w)
    rw [if_pos rfl]
    clear hE c0 c1 c2 hc
    go_enter Tryz.func21, Tryz.ntmps21
    go_wp2
    go_ret
    exact ⟨rfl, unhide HB⟩
end Go.Proofs.YtifjmldmilmfjaaGreatDoor

namespace Go.Proofs.YtifjmldmilmfjaaGreatDoor
open Go.RowKit
set_option maxRecDepth 100000
set_option maxHeartbeats 4000000 in
theorem rlgreet_any (g : Nat) (e : LE) (v : Value) (f : ByteArray) (w : World) (hE : DEnd w g e v) : Calls Tryz.prog 22 #[.pointer (some ⟨g, 0, none⟩), .string f] w fun ev w' => ev = .returned (.int .i64 (e.grE f)) ∧ DEnd w' g (e.grN f) v ∧ Only (fun k => k = g) w w' := by
  have c0 : w.cell? ⟨g, 0, none⟩ = some (.string e.k) := hE.1.cell 0
  have c1 : w.cell? ⟨g, 1, none⟩ = some (.int .i64 (e.i : Int)) := hE.1.cell 1
  have c3 : w.cell? ⟨g, 3, none⟩ = some (.string e.o) := hE.1.cell 3
  have c4 : w.cell? ⟨g, 4, none⟩ = some (.bool e.c) := hE.1.cell 4
  by_cases hrc : e.c = true ∨ e.r = true
  · have h9 : e.grE f = 211 := by rw [LE.grE, if_pos (by rcases hrc with q | q <;> rw [q] <;> simp)]
    have h8 : e.grN f = e := by rw [LE.grN, h9, if_neg (by decide)]
    rw [h9, h8]
    have HE := hide hE
    by_cases h0 : e.o.size = 0
    · have h2 : e.o = ⟨#[]⟩ := by
        apply nums_inj
        have := nums_len e.o
        rw [List.eq_nil_of_length_eq_zero (l := nums e.o) (by omega)]
        rfl
      have hc : e.c = true := by
        rcases hrc with q | q
        · exact q
        · obtain ⟨_, q2, _⟩ | ⟨q1, _⟩ | ⟨q1, _⟩ := hE.2.1.o
          · omega
          · rw [q] at q1; cases q1
          · rw [q] at q1; cases q1
      rw [h2] at c3
      rw [hc] at c4
      clear hE h9 h8 hrc h0 h2 hc
      go_enter Tryz.func22, Tryz.ntmps22
      go_wp2
      go_ret
      exact ⟨rfl, unhide HE, Only.refl _ _⟩
    · have q1 := isE (s := e.o) h0
      have q2 := emp_noL (s := e.o) h0
      generalize e.o = o at *
      clear hE h9 h8 hrc h0
      go_enter Tryz.func22, Tryz.ntmps22
      go_wp2
      go_ret
      exact ⟨rfl, unhide HE, Only.refl _ _⟩
  have hr : e.r = false := by cases q : e.r; rfl; exact absurd (.inr q) hrc
  have hc : e.c = false := by cases q : e.c; rfl; exact absurd (.inl q) hrc
  have ho : e.o = ⟨#[]⟩ := by
    obtain ⟨q1, _⟩ | ⟨_, q2, _⟩ | ⟨_, q1⟩ := hE.2.1.o
    · rw [hr] at q1; cases q1
    · exact q2
    · rw [hc] at q1; cases q1
  rw [ho] at c3
  rw [hc] at c4
  have hi := hE.2.2.i
  obtain ⟨E9, hE9⟩ : ∃ z, e.grE f = z := ⟨_, rfl⟩
  obtain ⟨e9, he9⟩ : ∃ z, e.grN f = z := ⟨_, rfl⟩
  rw [hE9, he9]
  have HE := hide hE
  by_cases hz : f.size = 35
  · obtain ⟨n, hn⟩ : ∃ z, f.extract 3 19 = z := ⟨_, rfl⟩
    have hns : n.size = 16 := by rw [← hn, ByteArray.size_extract]; omega
    obtain ⟨j, hj⟩ : ∃ z, 1 - e.i = z := ⟨_, rfl⟩
    have e3 : IntKind.i64.wrap (1 - (e.i : Int)) = (j : Int) := by rw [wrapI_eq _ (by omega) (by omega)]; omega
    have HH := hide (rhello_txt e.k j n (by rw [hE.2.2.k]; decide) (by omega) (by omega) w.drew)
    have hG : grB e.k (1 - e.i) f = decide (heB e.k j n = f) := by rw [grB, hj, hn]; simp [hz]
    obtain ⟨H, hH⟩ : ∃ z, heB e.k j n = z := ⟨_, rfl⟩
    rw [hH] at HH hG
    have e4 : ((f.size : Int) != 35) = false := by simp; omega
    have HC := hide (show ∀ W, Below w.drew.heap.size w.drew W → W.cell? ⟨g, 0, none⟩ = some (.string e.k) ∧ W.cell? ⟨g, 1, none⟩ = some (.int .i64 (e.i : Int)) from fun W hW => by
      have hB := hE.1.below (B := w.heap.size) ((Below.refl _ w).drew.trans hW) hE.lt
      exact ⟨hB.cell 0, hB.cell 1⟩)
    by_cases hf : H = f
    · have h9 : E9 = 0 := by rw [← hE9, LE.grE, hc, hr, hG, hf]; simp
      have h8 : e9 = { e with r := true, o := n } := by rw [← he9, LE.grN, hE9, h9, if_pos rfl, hn]
      rw [h9, h8]
      have HZ := hide (show ∀ W, Below w.heap.size w W → DEnd (W.setCell ⟨g, 3, none⟩ (.string n)) g { e with r := true, o := n } v ∧ Only (fun k => k = g) w (W.setCell ⟨g, 3, none⟩ (.string n)) ∧ W.cell? ⟨g, 3, none⟩ = some (.string ⟨#[]⟩) ∧ W.frozen? ⟨g, 3, none⟩ = false from fun W hW => by
        have hB := hE.1.below hW hE.lt
        exact ⟨⟨hB.set 3 (.string n), ⟨.inl ⟨rfl, hns, hc⟩⟩, hE.2.2.k, hE.2.2.n, fun _ => ⟨hns, hc⟩, hE.2.2.i, hE.2.2.s, hE.2.2.t, hE.2.2.m, hE.2.2.q⟩, (Only.of_below hW).setCell _ _ (fun _ => rfl), by rw [← ho]; exact hB.cell 3, hB.frozen 3⟩)
      have hfe : (f.toList == H.toList) = true := by rw [hf]; simp
      clear hE hE9 he9 h9 h8 hG hrc hr hc ho hi hj hH hf HE hns
      generalize e.k = k at *
      generalize e.i = i at *
      go_enter Tryz.func22, Tryz.ntmps22
      go_wp2_with fail
      refine wp_region_held_drew (S := fun W => W.cell? ⟨g, 0, none⟩ = some (.string k) ∧ W.cell? ⟨g, 1, none⟩ = some (.int .i64 (i : Int))) (by kernel_rfl) ⟨c0, c1⟩ ?_
      intro hS
      refine wpAnyH_takeD 0 (some 16) (.string f) rfl rfl (by kernel_rfl) (by kernel_rfl) (by kernel_rfl) (fun _ _ _ h => h) (Or.inl ⟨by rfl, fun w hSw => by have hq1 := hSw.1; have hq2 := hSw.2; clear hSw; go_simp⟩) hS ?_
      simp only [Act.put, List.setIfInBounds_toArray, List.set_cons_zero, List.set_cons_succ]
      refine wpAnyH_takeD 1 (some 17) (.int .i64 (f.size : Int)) rfl rfl (by kernel_rfl) (by kernel_rfl) (by kernel_rfl) (fun _ _ _ h => h) (Or.inl ⟨by rfl, fun w hSw => by have hq1 := hSw.1; have hq2 := hSw.2; clear hSw; go_simp⟩) hS ?_
      simp only [Act.put, List.setIfInBounds_toArray, List.set_cons_zero, List.set_cons_succ]
      refine wpAnyH_takeD 2 (some 18) (.bool false) rfl rfl (by kernel_rfl) (by kernel_rfl) (by kernel_rfl) (fun _ _ _ h => h) (Or.inl ⟨by rfl, fun w hSw => by have hq1 := hSw.1; have hq2 := hSw.2; clear hSw; go_simp⟩) hS ?_
      simp only [Act.put, List.setIfInBounds_toArray, List.set_cons_zero, List.set_cons_succ]
      refine wpAnyH_takeD 3 (some 19) (.bool false) rfl rfl (by kernel_rfl) (by kernel_rfl) (by kernel_rfl) (fun _ _ _ h => h) (Or.inl ⟨by rfl, fun w hSw => by have hq1 := hSw.1; have hq2 := hSw.2; clear hSw; go_simp⟩) hS ?_
      simp only [Act.put, List.setIfInBounds_toArray, List.set_cons_zero, List.set_cons_succ]
      refine wpAnyH_takeD 4 (some 20) (.string f) rfl rfl (by kernel_rfl) (by kernel_rfl) (by kernel_rfl) (fun _ _ _ h => h) (Or.inl ⟨by rfl, fun w hSw => by have hq1 := hSw.1; have hq2 := hSw.2; clear hSw; go_simp⟩) hS ?_
      simp only [Act.put, List.setIfInBounds_toArray, List.set_cons_zero, List.set_cons_succ]
      refine wpAnyH_takeD 5 (some 21) (.pointer (some ⟨g, 0, none⟩)) rfl rfl (by kernel_rfl) (by kernel_rfl) (by kernel_rfl) (fun _ _ _ h => h) (Or.inl ⟨by rfl, fun w hSw => by have hq1 := hSw.1; have hq2 := hSw.2; clear hSw; go_simp⟩) hS ?_
      simp only [Act.put, List.setIfInBounds_toArray, List.set_cons_zero, List.set_cons_succ]
      refine wpAnyH_takeD 6 (some 22) (.pointer (some ⟨g, 0, none⟩)) rfl rfl (by kernel_rfl) (by kernel_rfl) (by kernel_rfl) (fun _ _ _ h => h) (Or.inl ⟨by rfl, fun w hSw => by have hq1 := hSw.1; have hq2 := hSw.2; clear hSw; go_simp⟩) hS ?_
      simp only [Act.put, List.setIfInBounds_toArray, List.set_cons_zero, List.set_cons_succ]
      refine wpAnyH_takeD 7 (some 23) (.pointer (some ⟨g, 0, none⟩)) rfl rfl (by kernel_rfl) (by kernel_rfl) (by kernel_rfl) (fun _ _ _ h => h) (Or.inl ⟨by rfl, fun w hSw => by have hq1 := hSw.1; have hq2 := hSw.2; clear hSw; go_simp⟩) hS ?_
      simp only [Act.put, List.setIfInBounds_toArray, List.set_cons_zero, List.set_cons_succ]
      refine wpAnyH_takeD 8 (some 24) (.string k) rfl rfl (by kernel_rfl) (by kernel_rfl) (by kernel_rfl) (fun _ _ _ h => h) (Or.inl ⟨by rfl, fun w hSw => by have hq1 := hSw.1; have hq2 := hSw.2; clear hSw; go_simp⟩) hS ?_
      simp only [Act.put, List.setIfInBounds_toArray, List.set_cons_zero, List.set_cons_succ]
      refine wpAnyH_takeD 9 (some 25) (.pointer (some ⟨g, 0, none⟩)) rfl rfl (by kernel_rfl) (by kernel_rfl) (by kernel_rfl) (fun _ _ _ h => h) (Or.inl ⟨by rfl, fun w hSw => by have hq1 := hSw.1; have hq2 := hSw.2; clear hSw; go_simp⟩) hS ?_
      simp only [Act.put, List.setIfInBounds_toArray, List.set_cons_zero, List.set_cons_succ]
      refine wpAnyH_takeD 10 (some 26) (.pointer (some ⟨g, 0, none⟩)) rfl rfl (by kernel_rfl) (by kernel_rfl) (by kernel_rfl) (fun _ _ _ h => h) (Or.inl ⟨by rfl, fun w hSw => by have hq1 := hSw.1; have hq2 := hSw.2; clear hSw; go_simp⟩) hS ?_
      simp only [Act.put, List.setIfInBounds_toArray, List.set_cons_zero, List.set_cons_succ]
      refine wpAnyH_takeD 11 (some 27) (.pointer (some ⟨g, 1, none⟩)) rfl rfl (by kernel_rfl) (by kernel_rfl) (by kernel_rfl) (fun _ _ _ h => h) (Or.inl ⟨by rfl, fun w hSw => by have hq1 := hSw.1; have hq2 := hSw.2; clear hSw; go_simp⟩) hS ?_
      simp only [Act.put, List.setIfInBounds_toArray, List.set_cons_zero, List.set_cons_succ]
      refine wpAnyH_takeD 12 (some 28) (.int .i64 (i : Int)) rfl rfl (by kernel_rfl) (by kernel_rfl) (by kernel_rfl) (fun _ _ _ h => h) (Or.inl ⟨by rfl, fun w hSw => by have hq1 := hSw.1; have hq2 := hSw.2; clear hSw; go_simp⟩) hS ?_
      simp only [Act.put, List.setIfInBounds_toArray, List.set_cons_zero, List.set_cons_succ]
      refine wpAnyH_takeD 13 (some 29) (.int .i64 (j : Int)) rfl rfl (by kernel_rfl) (by kernel_rfl) (by kernel_rfl) (fun _ _ _ h => h) (Or.inl ⟨by rfl, fun w hSw => by have hq1 := hSw.1; have hq2 := hSw.2; clear hSw; go_simp⟩) hS ?_
      simp only [Act.put, List.setIfInBounds_toArray, List.set_cons_zero, List.set_cons_succ]
      refine wpAnyH_takeD 14 (some 30) (.string f) rfl rfl (by kernel_rfl) (by kernel_rfl) (by kernel_rfl) (fun _ _ _ h => h) (Or.inl ⟨by rfl, fun w hSw => by have hq1 := hSw.1; have hq2 := hSw.2; clear hSw; go_simp⟩) hS ?_
      simp only [Act.put, List.setIfInBounds_toArray, List.set_cons_zero, List.set_cons_succ]
      refine wpAnyH_takeD 15 (some 31) (.string n) rfl rfl (by kernel_rfl) (by kernel_rfl) (by kernel_rfl) (fun _ _ _ h => h) (Or.inl ⟨by rfl, fun w hSw => by have hq1 := hSw.1; have hq2 := hSw.2; clear hSw; go_simp⟩) hS ?_
      simp only [Act.put, List.setIfInBounds_toArray, List.set_cons_zero, List.set_cons_succ]
      refine wpAnyH_ready (rs := [16]) (by kernel_rfl) (by simp) ?_
      refine AllReadyH.cons rfl (fun K hK => ?_) AllReadyH.nil
      simp only [List.getElem_toArray, List.getElem_cons_succ, List.getElem_cons_zero]
      go_simp
      refine (unhide HH).mono ?_
      rintro ev y ⟨rfl, hb⟩
      have hS9 := unhide HC _ hb
      have HB := hide hb
      clear hb
      refine hK.out _ _ hS9 (fun hS => ?_)
      clear hK K
      refine wpAnyH_takeD 17 (some 33) (.bool false) rfl rfl (by kernel_rfl) (by kernel_rfl) (by kernel_rfl) (fun _ _ _ h => h) (Or.inl ⟨by rfl, fun w hSw => by have hq1 := hSw.1; have hq2 := hSw.2; clear hSw; go_simp⟩) hS ?_
      simp only [Act.put, List.setIfInBounds_toArray, List.set_cons_zero, List.set_cons_succ]
      refine wpAnyH_takeD 18 (some 34) (.bool false) rfl rfl (by kernel_rfl) (by kernel_rfl) (by kernel_rfl) (fun _ _ _ h => h) (Or.inl ⟨by rfl, fun w hSw => by have hq1 := hSw.1; have hq2 := hSw.2; clear hSw; go_simp⟩) hS ?_
      simp only [Act.put, List.setIfInBounds_toArray, List.set_cons_zero, List.set_cons_succ]
      refine wpAnyH_done (by kernel_rfl) ?_ _
      obtain ⟨z1, z2, z3, z4⟩ := unhide HZ _ ((Below.refl _ w).drew.trans (unhide HB))
      have HY := hide (And.intro z1 z2)
      clear z1 z2 HZ hS hS9 HC HH c0 c1 c3 c4
      go_wp2
      go_ret
      exact ⟨rfl, (unhide HY).1, (unhide HY).2⟩
    · have h9 : E9 = 212 := by rw [← hE9, LE.grE, hc, hr, hG]; simp [hf]
      have h8 : e9 = e := by rw [← he9, LE.grN, hE9, h9, if_neg (by decide)]
      subst h8
      rw [h9]
      have hfe : (f.toList == H.toList) = false := str_ne (fun q => hf q.symm)
      clear hE hE9 he9 h9 hG hrc hr hc ho hi hj hH hf hns
      have HZ := hide (show ∀ W, Below w.heap.size w W → DEnd W g e9 v ∧ Only (fun k => k = g) w W from fun W hW => ⟨(unhide HE).below hW (unhide HE).lt, Only.of_below hW⟩)
      generalize e9.k = k at *
      generalize e9.i = i at *
      go_enter Tryz.func22, Tryz.ntmps22
      go_wp2_with fail
      refine wp_region_held_drew (S := fun W => W.cell? ⟨g, 0, none⟩ = some (.string k) ∧ W.cell? ⟨g, 1, none⟩ = some (.int .i64 (i : Int))) (by kernel_rfl) ⟨c0, c1⟩ ?_
      intro hS
      refine wpAnyH_takeD 0 (some 16) (.string f) rfl rfl (by kernel_rfl) (by kernel_rfl) (by kernel_rfl) (fun _ _ _ h => h) (Or.inl ⟨by rfl, fun w hSw => by have hq1 := hSw.1; have hq2 := hSw.2; clear hSw; go_simp⟩) hS ?_
      simp only [Act.put, List.setIfInBounds_toArray, List.set_cons_zero, List.set_cons_succ]
      refine wpAnyH_takeD 1 (some 17) (.int .i64 (f.size : Int)) rfl rfl (by kernel_rfl) (by kernel_rfl) (by kernel_rfl) (fun _ _ _ h => h) (Or.inl ⟨by rfl, fun w hSw => by have hq1 := hSw.1; have hq2 := hSw.2; clear hSw; go_simp⟩) hS ?_
      simp only [Act.put, List.setIfInBounds_toArray, List.set_cons_zero, List.set_cons_succ]
      refine wpAnyH_takeD 2 (some 18) (.bool false) rfl rfl (by kernel_rfl) (by kernel_rfl) (by kernel_rfl) (fun _ _ _ h => h) (Or.inl ⟨by rfl, fun w hSw => by have hq1 := hSw.1; have hq2 := hSw.2; clear hSw; go_simp⟩) hS ?_
      simp only [Act.put, List.setIfInBounds_toArray, List.set_cons_zero, List.set_cons_succ]
      refine wpAnyH_takeD 3 (some 19) (.bool false) rfl rfl (by kernel_rfl) (by kernel_rfl) (by kernel_rfl) (fun _ _ _ h => h) (Or.inl ⟨by rfl, fun w hSw => by have hq1 := hSw.1; have hq2 := hSw.2; clear hSw; go_simp⟩) hS ?_
      simp only [Act.put, List.setIfInBounds_toArray, List.set_cons_zero, List.set_cons_succ]
      refine wpAnyH_takeD 4 (some 20) (.string f) rfl rfl (by kernel_rfl) (by kernel_rfl) (by kernel_rfl) (fun _ _ _ h => h) (Or.inl ⟨by rfl, fun w hSw => by have hq1 := hSw.1; have hq2 := hSw.2; clear hSw; go_simp⟩) hS ?_
      simp only [Act.put, List.setIfInBounds_toArray, List.set_cons_zero, List.set_cons_succ]
      refine wpAnyH_takeD 5 (some 21) (.pointer (some ⟨g, 0, none⟩)) rfl rfl (by kernel_rfl) (by kernel_rfl) (by kernel_rfl) (fun _ _ _ h => h) (Or.inl ⟨by rfl, fun w hSw => by have hq1 := hSw.1; have hq2 := hSw.2; clear hSw; go_simp⟩) hS ?_
      simp only [Act.put, List.setIfInBounds_toArray, List.set_cons_zero, List.set_cons_succ]
      refine wpAnyH_takeD 6 (some 22) (.pointer (some ⟨g, 0, none⟩)) rfl rfl (by kernel_rfl) (by kernel_rfl) (by kernel_rfl) (fun _ _ _ h => h) (Or.inl ⟨by rfl, fun w hSw => by have hq1 := hSw.1; have hq2 := hSw.2; clear hSw; go_simp⟩) hS ?_
      simp only [Act.put, List.setIfInBounds_toArray, List.set_cons_zero, List.set_cons_succ]
      refine wpAnyH_takeD 7 (some 23) (.pointer (some ⟨g, 0, none⟩)) rfl rfl (by kernel_rfl) (by kernel_rfl) (by kernel_rfl) (fun _ _ _ h => h) (Or.inl ⟨by rfl, fun w hSw => by have hq1 := hSw.1; have hq2 := hSw.2; clear hSw; go_simp⟩) hS ?_
      simp only [Act.put, List.setIfInBounds_toArray, List.set_cons_zero, List.set_cons_succ]
      refine wpAnyH_takeD 8 (some 24) (.string k) rfl rfl (by kernel_rfl) (by kernel_rfl) (by kernel_rfl) (fun _ _ _ h => h) (Or.inl ⟨by rfl, fun w hSw => by have hq1 := hSw.1; have hq2 := hSw.2; clear hSw; go_simp⟩) hS ?_
      simp only [Act.put, List.setIfInBounds_toArray, List.set_cons_zero, List.set_cons_succ]
      refine wpAnyH_takeD 9 (some 25) (.pointer (some ⟨g, 0, none⟩)) rfl rfl (by kernel_rfl) (by kernel_rfl) (by kernel_rfl) (fun _ _ _ h => h) (Or.inl ⟨by rfl, fun w hSw => by have hq1 := hSw.1; have hq2 := hSw.2; clear hSw; go_simp⟩) hS ?_
      simp only [Act.put, List.setIfInBounds_toArray, List.set_cons_zero, List.set_cons_succ]
      refine wpAnyH_takeD 10 (some 26) (.pointer (some ⟨g, 0, none⟩)) rfl rfl (by kernel_rfl) (by kernel_rfl) (by kernel_rfl) (fun _ _ _ h => h) (Or.inl ⟨by rfl, fun w hSw => by have hq1 := hSw.1; have hq2 := hSw.2; clear hSw; go_simp⟩) hS ?_
      simp only [Act.put, List.setIfInBounds_toArray, List.set_cons_zero, List.set_cons_succ]
      refine wpAnyH_takeD 11 (some 27) (.pointer (some ⟨g, 1, none⟩)) rfl rfl (by kernel_rfl) (by kernel_rfl) (by kernel_rfl) (fun _ _ _ h => h) (Or.inl ⟨by rfl, fun w hSw => by have hq1 := hSw.1; have hq2 := hSw.2; clear hSw; go_simp⟩) hS ?_
      simp only [Act.put, List.setIfInBounds_toArray, List.set_cons_zero, List.set_cons_succ]
      refine wpAnyH_takeD 12 (some 28) (.int .i64 (i : Int)) rfl rfl (by kernel_rfl) (by kernel_rfl) (by kernel_rfl) (fun _ _ _ h => h) (Or.inl ⟨by rfl, fun w hSw => by have hq1 := hSw.1; have hq2 := hSw.2; clear hSw; go_simp⟩) hS ?_
      simp only [Act.put, List.setIfInBounds_toArray, List.set_cons_zero, List.set_cons_succ]
      refine wpAnyH_takeD 13 (some 29) (.int .i64 (j : Int)) rfl rfl (by kernel_rfl) (by kernel_rfl) (by kernel_rfl) (fun _ _ _ h => h) (Or.inl ⟨by rfl, fun w hSw => by have hq1 := hSw.1; have hq2 := hSw.2; clear hSw; go_simp⟩) hS ?_
      simp only [Act.put, List.setIfInBounds_toArray, List.set_cons_zero, List.set_cons_succ]
      refine wpAnyH_takeD 14 (some 30) (.string f) rfl rfl (by kernel_rfl) (by kernel_rfl) (by kernel_rfl) (fun _ _ _ h => h) (Or.inl ⟨by rfl, fun w hSw => by have hq1 := hSw.1; have hq2 := hSw.2; clear hSw; go_simp⟩) hS ?_
      simp only [Act.put, List.setIfInBounds_toArray, List.set_cons_zero, List.set_cons_succ]
      refine wpAnyH_takeD 15 (some 31) (.string n) rfl rfl (by kernel_rfl) (by kernel_rfl) (by kernel_rfl) (fun _ _ _ h => h) (Or.inl ⟨by rfl, fun w hSw => by have hq1 := hSw.1; have hq2 := hSw.2; clear hSw; go_simp⟩) hS ?_
      simp only [Act.put, List.setIfInBounds_toArray, List.set_cons_zero, List.set_cons_succ]
      refine wpAnyH_ready (rs := [16]) (by kernel_rfl) (by simp) ?_
      refine AllReadyH.cons rfl (fun K hK => ?_) AllReadyH.nil
      simp only [List.getElem_toArray, List.getElem_cons_succ, List.getElem_cons_zero]
      go_simp
      refine (unhide HH).mono ?_
      rintro ev y ⟨rfl, hb⟩
      have hS9 := unhide HC _ hb
      have HB := hide hb
      clear hb
      refine hK.out _ _ hS9 (fun hS => ?_)
      clear hK K
      refine wpAnyH_takeD 17 (some 33) (.bool true) rfl rfl (by kernel_rfl) (by kernel_rfl) (by kernel_rfl) (fun _ _ _ h => h) (Or.inl ⟨by rfl, fun w hSw => by have hq1 := hSw.1; have hq2 := hSw.2; clear hSw; go_simp⟩) hS ?_
      simp only [Act.put, List.setIfInBounds_toArray, List.set_cons_zero, List.set_cons_succ]
      refine wpAnyH_takeD 18 (some 34) (.bool true) rfl rfl (by kernel_rfl) (by kernel_rfl) (by kernel_rfl) (fun _ _ _ h => h) (Or.inl ⟨by rfl, fun w hSw => by have hq1 := hSw.1; have hq2 := hSw.2; clear hSw; go_simp⟩) hS ?_
      simp only [Act.put, List.setIfInBounds_toArray, List.set_cons_zero, List.set_cons_succ]
      refine wpAnyH_done (by kernel_rfl) ?_ _
      obtain ⟨z1, z2⟩ := unhide HZ _ ((Below.refl _ w).drew.trans (unhide HB))
      have HY := hide (And.intro z1 z2)
      clear z1 z2 HZ hS hS9 HC HH c0 c1 c3 c4
      go_wp2
      go_ret
      exact ⟨rfl, (unhide HY).1, (unhide HY).2⟩
  · have hG : grB e.k (1 - e.i) f = false := decide_eq_false (fun q => hz q.1)
    have h9 : E9 = 212 := by rw [← hE9, LE.grE, hc, hr, hG]; rfl
    have h8 : e9 = e := by rw [← he9, LE.grN, hE9, h9, if_neg (by decide)]
    subst h8
    rw [h9]
    have e4 : ((f.size : Int) != 35) = true := by simp; omega
    clear hE hE9 he9 h9 hG hrc hr hc ho hi
    generalize e9.k = k at *
    generalize e9.i = i at *
    go_enter Tryz.func22, Tryz.ntmps22
    go_wp2_with fail
    refine wp_region_held_drew (S := fun W => W.cell? ⟨g, 0, none⟩ = some (.string k) ∧ W.cell? ⟨g, 1, none⟩ = some (.int .i64 (i : Int))) (by kernel_rfl) ⟨c0, c1⟩ ?_
    intro hS
    refine wpAnyH_takeD 0 (some 16) (.string f) rfl rfl (by kernel_rfl) (by kernel_rfl) (by kernel_rfl) (fun _ _ _ h => h) (Or.inl ⟨by rfl, fun w hSw => by have hq1 := hSw.1; have hq2 := hSw.2; clear hSw; go_simp⟩) hS ?_
    simp only [Act.put, List.setIfInBounds_toArray, List.set_cons_zero, List.set_cons_succ]
    refine wpAnyH_takeD 1 (some 17) (.int .i64 (f.size : Int)) rfl rfl (by kernel_rfl) (by kernel_rfl) (by kernel_rfl) (fun _ _ _ h => h) (Or.inl ⟨by rfl, fun w hSw => by have hq1 := hSw.1; have hq2 := hSw.2; clear hSw; go_simp⟩) hS ?_
    simp only [Act.put, List.setIfInBounds_toArray, List.set_cons_zero, List.set_cons_succ]
    refine wpAnyH_takeD 2 (some 18) (.bool true) rfl rfl (by kernel_rfl) (by kernel_rfl) (by kernel_rfl) (fun _ _ _ h => h) (Or.inl ⟨by rfl, fun w hSw => by have hq1 := hSw.1; have hq2 := hSw.2; clear hSw; go_simp⟩) hS ?_
    simp only [Act.put, List.setIfInBounds_toArray, List.set_cons_zero, List.set_cons_succ]
    refine wpAnyH_takeD 3 (some 19) (.bool true) rfl rfl (by kernel_rfl) (by kernel_rfl) (by kernel_rfl) (fun _ _ _ h => h) (Or.inl ⟨by rfl, fun w hSw => by have hq1 := hSw.1; have hq2 := hSw.2; clear hSw; go_simp⟩) hS ?_
    simp only [Act.put, List.setIfInBounds_toArray, List.set_cons_zero, List.set_cons_succ]
    refine wpAnyH_takeD 4 (some 20) undef rfl rfl (by kernel_rfl) (by kernel_rfl) (by kernel_rfl) (fun _ _ _ h => h) (Or.inr ⟨by rfl, rfl⟩) hS ?_
    simp only [Act.put, List.setIfInBounds_toArray, List.set_cons_zero, List.set_cons_succ]
    refine wpAnyH_takeD 5 (some 21) undef rfl rfl (by kernel_rfl) (by kernel_rfl) (by kernel_rfl) (fun _ _ _ h => h) (Or.inr ⟨by rfl, rfl⟩) hS ?_
    simp only [Act.put, List.setIfInBounds_toArray, List.set_cons_zero, List.set_cons_succ]
    refine wpAnyH_takeD 6 (some 22) undef rfl rfl (by kernel_rfl) (by kernel_rfl) (by kernel_rfl) (fun _ _ _ h => h) (Or.inr ⟨by rfl, rfl⟩) hS ?_
    simp only [Act.put, List.setIfInBounds_toArray, List.set_cons_zero, List.set_cons_succ]
    refine wpAnyH_takeD 7 (some 23) undef rfl rfl (by kernel_rfl) (by kernel_rfl) (by kernel_rfl) (fun _ _ _ h => h) (Or.inr ⟨by rfl, rfl⟩) hS ?_
    simp only [Act.put, List.setIfInBounds_toArray, List.set_cons_zero, List.set_cons_succ]
    refine wpAnyH_takeD 8 (some 24) undef rfl rfl (by kernel_rfl) (by kernel_rfl) (by kernel_rfl) (fun _ _ _ h => h) (Or.inr ⟨by rfl, rfl⟩) hS ?_
    simp only [Act.put, List.setIfInBounds_toArray, List.set_cons_zero, List.set_cons_succ]
    refine wpAnyH_takeD 9 (some 25) undef rfl rfl (by kernel_rfl) (by kernel_rfl) (by kernel_rfl) (fun _ _ _ h => h) (Or.inr ⟨by rfl, rfl⟩) hS ?_
    simp only [Act.put, List.setIfInBounds_toArray, List.set_cons_zero, List.set_cons_succ]
    refine wpAnyH_takeD 10 (some 26) undef rfl rfl (by kernel_rfl) (by kernel_rfl) (by kernel_rfl) (fun _ _ _ h => h) (Or.inr ⟨by rfl, rfl⟩) hS ?_
    simp only [Act.put, List.setIfInBounds_toArray, List.set_cons_zero, List.set_cons_succ]
    refine wpAnyH_takeD 11 (some 27) undef rfl rfl (by kernel_rfl) (by kernel_rfl) (by kernel_rfl) (fun _ _ _ h => h) (Or.inr ⟨by rfl, rfl⟩) hS ?_
    simp only [Act.put, List.setIfInBounds_toArray, List.set_cons_zero, List.set_cons_succ]
    refine wpAnyH_takeD 12 (some 28) undef rfl rfl (by kernel_rfl) (by kernel_rfl) (by kernel_rfl) (fun _ _ _ h => h) (Or.inr ⟨by rfl, rfl⟩) hS ?_
    simp only [Act.put, List.setIfInBounds_toArray, List.set_cons_zero, List.set_cons_succ]
    refine wpAnyH_takeD 13 (some 29) undef rfl rfl (by kernel_rfl) (by kernel_rfl) (by kernel_rfl) (fun _ _ _ h => h) (Or.inr ⟨by rfl, rfl⟩) hS ?_
    simp only [Act.put, List.setIfInBounds_toArray, List.set_cons_zero, List.set_cons_succ]
    refine wpAnyH_takeD 14 (some 30) undef rfl rfl (by kernel_rfl) (by kernel_rfl) (by kernel_rfl) (fun _ _ _ h => h) (Or.inr ⟨by rfl, rfl⟩) hS ?_
    simp only [Act.put, List.setIfInBounds_toArray, List.set_cons_zero, List.set_cons_succ]
    refine wpAnyH_takeD 15 (some 31) undef rfl rfl (by kernel_rfl) (by kernel_rfl) (by kernel_rfl) (fun _ _ _ h => h) (Or.inr ⟨by rfl, rfl⟩) hS ?_
    simp only [Act.put, List.setIfInBounds_toArray, List.set_cons_zero, List.set_cons_succ]
    refine wpAnyH_takeD 16 (some 32) undef rfl rfl (by kernel_rfl) (by kernel_rfl) (by kernel_rfl) (fun _ _ _ h => h) (Or.inr ⟨by rfl, rfl⟩) hS ?_
    simp only [Act.put, List.setIfInBounds_toArray, List.set_cons_zero, List.set_cons_succ]
    refine wpAnyH_takeD 17 (some 33) undef rfl rfl (by kernel_rfl) (by kernel_rfl) (by kernel_rfl) (fun _ _ _ h => h) (Or.inr ⟨by rfl, rfl⟩) hS ?_
    simp only [Act.put, List.setIfInBounds_toArray, List.set_cons_zero, List.set_cons_succ]
    refine wpAnyH_takeD 18 (some 34) (.bool true) rfl rfl (by kernel_rfl) (by kernel_rfl) (by kernel_rfl) (fun _ _ _ h => h) (Or.inl ⟨by rfl, fun w hSw => by have hq1 := hSw.1; have hq2 := hSw.2; clear hSw; go_simp⟩) hS ?_
    simp only [Act.put, List.setIfInBounds_toArray, List.set_cons_zero, List.set_cons_succ]
    refine wpAnyH_done (by kernel_rfl) ?_ _
    clear hS c0 c1 c3 c4
    go_wp2
    go_ret
    exact ⟨rfl, (unhide HE).below (B := w.heap.size) (Below.refl _ w).drew (unhide HE).lt, Only.of_below (Below.refl _ w).drew⟩
end Go.Proofs.YtifjmldmilmfjaaGreatDoor

namespace Go.Proofs.YtifjmldmilmfjaaGreatDoor
open Go.RowKit
theorem ne_int {a b : Nat} (h : ¬ a = b) : ((a : Int) != (b : Int)) = true := by simp; omega
end Go.Proofs.YtifjmldmilmfjaaGreatDoor
