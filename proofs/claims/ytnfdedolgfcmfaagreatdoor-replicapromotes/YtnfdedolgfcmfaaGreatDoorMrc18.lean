import Derived.Test.YtnfdedolgfcmfaaGreatDoorMrc17
namespace Go.Proofs.YtnfdedolgfcmfaaGreatDoor
open Go.RowKit
set_option maxRecDepth 100000
def hdSeq : Code → Code
  | .seq a _ => a
  | c => c
noncomputable def tkR : Code := hdSeq (dropSeq 5 ((Tryz.f16.body).getD .skip))
theorem Rp.sb {w : World} {b N : Nat} {l : List ByteArray} (h : Rp w b N l) : ∃ pb, w.cell? ⟨b, 1, none⟩ = some (.slice pb l.length l.length) ∧ SB w w.heap.size pb l := by
  obtain ⟨q, kn, h1, h2, h3⟩ := h
  refine ⟨q, by rw [h1.cell 1]; rfl, ?_⟩
  by_cases hN : N = 0
  · obtain ⟨_, rfl, _⟩ := h2 hN
    intro j hj
    exact absurd hj (by simp)
  · obtain ⟨g, rfl, h4, _⟩ := h3 hN
    exact h4.sb
theorem SB.ups {w w' : World} {B : Nat} {p : Option Addr} {l : List ByteArray} (h : SB w B p l) (hb : Below w.heap.size w w') (hB : B ≤ w.heap.size) : SB w' B p l := fun j hj => by
  obtain ⟨g, o, e, hg, hc⟩ := h j hj
  exact ⟨g, o, e, hg, by rw [hb.cell (p := ⟨g, o + j, none⟩) (Nat.lt_of_lt_of_le hg hB)]; exact hc⟩
theorem SWr.ups {w w' : World} {B : Nat} {p : Option Addr} {L : List (Nat × ByteArray)} (h : SWr w B p L) (hb : Below w.heap.size w w') (hB : B ≤ w.heap.size) : SWr w' B p L := fun j hj => by
  obtain ⟨g, o, e, hg, h1, h2⟩ := h j hj
  exact ⟨g, o, e, hg, by rw [hb.cell (p := ⟨g, o + j * 2, none⟩) (Nat.lt_of_lt_of_le hg hB)]; exact h1, by rw [hb.cell (p := ⟨g, o + j * 2 + 1, none⟩) (Nat.lt_of_lt_of_le hg hB)]; exact h2⟩
set_option maxHeartbeats 8000000 in
theorem tkR_walk (w0 : World) (b N h k z f t n c : Nat) (r : ByteArray) (p : Option Addr) (l : List ByteArray) (L : List (Nat × ByteArray)) (hR : Rp w0 b N l) (hB6 : Blk w0 h #[.int .i64 (k : Int), .int .i64 (z : Int), .int .i64 (f : Int), .int .i64 (t : Int), .string r, .slice p n c] 97) (hn : L.length = n) (hn9 : n ≤ 100000) (hz1 : 1 ≤ z) (hz2 : z ≤ 1024) (hL1 : ∀ j, j < L.length → (L.getD j (0, ⟨#[]⟩)).1 < z) (hL2 : ∀ j, j < L.length → (L.getD j (0, ⟨#[]⟩)).2.size ≤ 1000) (hk : k = 2 → l.length = z) (hSw : SWr w0 w0.heap.size p L) (hK : KTab w0) (P : Act → World → Prop) (Q : Ending → World → Prop)
    (hP : ∀ (wx : World) (h8 : Nat) (_ : Hid (wx.heap.size ≤ wx.heap.size ∧ Rp wx b N l ∧ Blk wx h #[.int .i64 (k : Int), .int .i64 (z : Int), .int .i64 (f : Int), .int .i64 (t : Int), .string r, .slice p n c] 97 ∧ Sd wx h8 (lyL (if k = 2 then l else List.replicate z (zR 256)) L n) ∧ KTab wx ∧ w0.heap.size ≤ h8 ∧ Below w0.heap.size w0 wx)) (t1 t2 t3 t4 t5 t7 t9 t10 t11 t12 t13 t14 t15 t16 t17 t18 t19 t20 t21 t22 t23 t24 t25 t26 t27 t28 t29 t30 t31 t32 t33 t34 t35 t36 t37 t38 t39 t40 t41 t42 t43 t44 t45 t46 t47 t48 t49 t50 t51 t52 t53 t54 t55 t56 t57 t58 t59 t60 t61 : Value), P ⟨#[.pointer (some ⟨b, 0, none⟩), t1, t2, t3, t4, t5, .pointer (some ⟨h, 0, none⟩), t7, .pointer (some ⟨h8, 0, none⟩), t9, t10, t11, t12, t13, t14, t15, t16, t17, t18, t19, t20, t21, t22, t23, t24, t25, t26, t27, t28, t29, t30, t31, t32, t33, t34, t35, t36, t37, t38, t39, t40, t41, t42, t43, t44, t45, t46, t47, t48, t49, t50, t51, t52, t53, t54, t55, t56, t57, t58, t59, t60, t61], []⟩ wx) (t1 t2 t3 t4 t5 t7 t8 t9 t10 t11 t12 t13 t14 t15 t16 t17 t18 t19 t20 t21 t22 t23 t24 t25 t26 t27 t28 t29 t30 t31 t32 t33 t34 t35 t36 t37 t38 t39 t40 t41 t42 t43 t44 t45 t46 t47 t48 t49 t50 t51 t52 t53 t54 t55 t56 t57 t58 t59 t60 t61 : Value) :
    Code.wp Tryz.prog tkR (Exit.then P (bodyPost Tryz.prog Tryz.f16 Q)) ⟨#[.pointer (some ⟨b, 0, none⟩), t1, t2, t3, t4, t5, .pointer (some ⟨h, 0, none⟩), t7, t8, t9, t10, t11, t12, t13, t14, t15, t16, t17, t18, t19, t20, t21, t22, t23, t24, t25, t26, t27, t28, t29, t30, t31, t32, t33, t34, t35, t36, t37, t38, t39, t40, t41, t42, t43, t44, t45, t46, t47, t48, t49, t50, t51, t52, t53, t54, t55, t56, t57, t58, t59, t60, t61], []⟩ w0 := by
  conv => arg 2; whnf
  have hMl : (lyL (if k = 2 then l else List.replicate z (zR 256)) L n).length = z := by
    rw [lyL_len]
    by_cases e : k = 2
    · rw [if_pos e]; exact hk e
    · rw [if_neg e, List.length_replicate]
  obtain ⟨pb, c1, hsb⟩ := hR.sb
  have hlt6 := hB6.lt
  have hltb := hR.lt
  have hS : ∀ y, Below w0.heap.size w0 y → y.cell? ⟨h, 0, none⟩ = some (.int .i64 (k : Int)) ∧ y.cell? ⟨h, 1, none⟩ = some (.int .i64 (z : Int)) ∧ y.cell? ⟨h, 2, none⟩ = some (.int .i64 (f : Int)) ∧ y.cell? ⟨h, 3, none⟩ = some (.int .i64 (t : Int)) ∧ y.cell? ⟨h, 4, none⟩ = some (.string r) ∧ y.cell? ⟨h, 5, none⟩ = some (.slice p n c) ∧ y.cell? ⟨b, 1, none⟩ = some (.slice pb l.length l.length) := fun y hb => by
    have h6 := hB6.below hb hlt6
    refine ⟨by rw [h6.cell 0]; rfl, by rw [h6.cell 1]; rfl, by rw [h6.cell 2]; rfl, by rw [h6.cell 3]; rfl, by rw [h6.cell 4]; rfl, by rw [h6.cell 5]; rfl, ?_⟩
    rw [hb.cell (p := ⟨b, 1, none⟩) hltb]
    exact c1
  have hdr : Below w0.heap.size w0 w0.drew := (Below.refl _ w0).drew
  have hS0 := hS _ hdr
  have HLY := hide (show ∀ y, Below w0.heap.size w0 y → Calls Tryz.prog 43 #[.agg #[.int .i64 (k : Int), .int .i64 (z : Int), .int .i64 (f : Int), .int .i64 (t : Int), .string r, .slice p n c], .slice pb l.length l.length] y fun e w' => ∃ g, e = .returned (.slice (some ⟨g, 0, none⟩) z z) ∧ y.heap.size ≤ g ∧ Blk w' g (strs (lyL (if k = 2 then l else List.replicate z (zR 256)) L n)).toArray 9 ∧ Below y.heap.size y w' from fun y hb => ylaidOn_any k z f t r n c w0.heap.size w0.heap.size l.length l.length p pb L l hn hn9 hz1 hz2 hL1 hL2 hk rfl y (hSw.ups hb (Nat.le_refl _)) hb.size (hsb.ups hb (Nat.le_refl _)) hb.size)
  obtain ⟨M, hM⟩ : ∃ q, (lyL (if k = 2 then l else List.replicate z (zR 256)) L n) = q := ⟨_, rfl⟩
  rw [hM] at HLY hMl hP
  have HW0 := hide (show Below w0.heap.size w0 w0.drew ∧ True from ⟨hdr, trivial⟩)
  have hal : Below w0.heap.size w0 (w0.drew.alloc (Obj.cells #[.slice none 0 0, .string ⟨#[]⟩] 90)) := hdr.alloc (Nat.le_refl _) _
  have HW1 := hide (And.intro hal (hS _ hal))
  have hpost : ∀ y h8 g, Below w0.heap.size w0 y → w0.heap.size ≤ h8 → Blk y h8 #[.slice none 0 0, .string ⟨#[]⟩] 90 → Blk y g (strs M).toArray 9 → y.cell? ⟨h8, 0, none⟩ = some (.slice none 0 0) ∧ y.cell? ⟨h8, 1, none⟩ = some (.string ⟨#[]⟩) ∧ y.frozen? ⟨h8, 0, none⟩ = false ∧ y.frozen? ⟨h8, 1, none⟩ = false ∧ (((y.setCell ⟨h8, 0, none⟩ (.slice (some ⟨g, 0, none⟩) z z)).setCell ⟨h8, 1, none⟩ (.string ⟨#[]⟩)).cell? ⟨h, 0, none⟩ = some (.int .i64 (k : Int)) ∧ ((y.setCell ⟨h8, 0, none⟩ (.slice (some ⟨g, 0, none⟩) z z)).setCell ⟨h8, 1, none⟩ (.string ⟨#[]⟩)).cell? ⟨h, 1, none⟩ = some (.int .i64 (z : Int)) ∧ ((y.setCell ⟨h8, 0, none⟩ (.slice (some ⟨g, 0, none⟩) z z)).setCell ⟨h8, 1, none⟩ (.string ⟨#[]⟩)).cell? ⟨h, 2, none⟩ = some (.int .i64 (f : Int)) ∧ ((y.setCell ⟨h8, 0, none⟩ (.slice (some ⟨g, 0, none⟩) z z)).setCell ⟨h8, 1, none⟩ (.string ⟨#[]⟩)).cell? ⟨h, 3, none⟩ = some (.int .i64 (t : Int)) ∧ ((y.setCell ⟨h8, 0, none⟩ (.slice (some ⟨g, 0, none⟩) z z)).setCell ⟨h8, 1, none⟩ (.string ⟨#[]⟩)).cell? ⟨h, 4, none⟩ = some (.string r) ∧ ((y.setCell ⟨h8, 0, none⟩ (.slice (some ⟨g, 0, none⟩) z z)).setCell ⟨h8, 1, none⟩ (.string ⟨#[]⟩)).cell? ⟨h, 5, none⟩ = some (.slice p n c) ∧ ((y.setCell ⟨h8, 0, none⟩ (.slice (some ⟨g, 0, none⟩) z z)).setCell ⟨h8, 1, none⟩ (.string ⟨#[]⟩)).cell? ⟨b, 1, none⟩ = some (.slice pb l.length l.length)) ∧ Hid (((y.setCell ⟨h8, 0, none⟩ (.slice (some ⟨g, 0, none⟩) z z)).setCell ⟨h8, 1, none⟩ (.string ⟨#[]⟩)).heap.size ≤ ((y.setCell ⟨h8, 0, none⟩ (.slice (some ⟨g, 0, none⟩) z z)).setCell ⟨h8, 1, none⟩ (.string ⟨#[]⟩)).heap.size ∧ Rp ((y.setCell ⟨h8, 0, none⟩ (.slice (some ⟨g, 0, none⟩) z z)).setCell ⟨h8, 1, none⟩ (.string ⟨#[]⟩)) b N l ∧ Blk ((y.setCell ⟨h8, 0, none⟩ (.slice (some ⟨g, 0, none⟩) z z)).setCell ⟨h8, 1, none⟩ (.string ⟨#[]⟩)) h #[.int .i64 (k : Int), .int .i64 (z : Int), .int .i64 (f : Int), .int .i64 (t : Int), .string r, .slice p n c] 97 ∧ Sd ((y.setCell ⟨h8, 0, none⟩ (.slice (some ⟨g, 0, none⟩) z z)).setCell ⟨h8, 1, none⟩ (.string ⟨#[]⟩)) h8 M ∧ KTab ((y.setCell ⟨h8, 0, none⟩ (.slice (some ⟨g, 0, none⟩) z z)).setCell ⟨h8, 1, none⟩ (.string ⟨#[]⟩)) ∧ w0.heap.size ≤ h8 ∧ Below w0.heap.size w0 ((y.setCell ⟨h8, 0, none⟩ (.slice (some ⟨g, 0, none⟩) z z)).setCell ⟨h8, 1, none⟩ (.string ⟨#[]⟩))) := fun y h8 g hb hh8 hz8 hg => by
    have hne : g ≠ h8 := hg.tyne hz8 (by decide)
    have hbs : Below w0.heap.size w0 ((y.setCell ⟨h8, 0, none⟩ (.slice (some ⟨g, 0, none⟩) z z)).setCell ⟨h8, 1, none⟩ (.string ⟨#[]⟩)) := (hb.setCell (p := ⟨h8, 0, none⟩) hh8 _).setCell (p := ⟨h8, 1, none⟩) hh8 _
    have e8 := (hz8.set 0 (.slice (some ⟨g, 0, none⟩) z z)).set 1 (.string ⟨#[]⟩)
    have eg := (hg.other ⟨h8, 0, none⟩ (.slice (some ⟨g, 0, none⟩) z z) (fun e => hne e.symm)).other ⟨h8, 1, none⟩ (.string ⟨#[]⟩) (fun e => hne e.symm)
    refine ⟨by rw [hz8.cell 0]; rfl, by rw [hz8.cell 1]; rfl, hz8.frozen 0, hz8.frozen 1, hS _ hbs, hide ⟨Nat.le_refl _, hR.below hbs, hB6.below hbs hlt6, ⟨g, ⟨#[]⟩, ?_, eg, .inl rfl⟩, hK.below hbs hK.1, hh8, hbs⟩⟩
    rw [hMl]
    exact e8
  have HA := hide (show ∀ y1 g, w0.drew.heap.size ≤ g → Blk y1 g (strs M).toArray 9 → Below w0.drew.heap.size w0.drew y1 → (y1.cell? ⟨h, 0, none⟩ = some (.int .i64 (k : Int)) ∧ y1.cell? ⟨h, 1, none⟩ = some (.int .i64 (z : Int)) ∧ y1.cell? ⟨h, 2, none⟩ = some (.int .i64 (f : Int)) ∧ y1.cell? ⟨h, 3, none⟩ = some (.int .i64 (t : Int)) ∧ y1.cell? ⟨h, 4, none⟩ = some (.string r) ∧ y1.cell? ⟨h, 5, none⟩ = some (.slice p n c) ∧ y1.cell? ⟨b, 1, none⟩ = some (.slice pb l.length l.length)) ∧ ((y1.alloc (Obj.cells #[.slice none 0 0, .string ⟨#[]⟩] 90)).cell? ⟨h, 0, none⟩ = some (.int .i64 (k : Int)) ∧ (y1.alloc (Obj.cells #[.slice none 0 0, .string ⟨#[]⟩] 90)).cell? ⟨h, 1, none⟩ = some (.int .i64 (z : Int)) ∧ (y1.alloc (Obj.cells #[.slice none 0 0, .string ⟨#[]⟩] 90)).cell? ⟨h, 2, none⟩ = some (.int .i64 (f : Int)) ∧ (y1.alloc (Obj.cells #[.slice none 0 0, .string ⟨#[]⟩] 90)).cell? ⟨h, 3, none⟩ = some (.int .i64 (t : Int)) ∧ (y1.alloc (Obj.cells #[.slice none 0 0, .string ⟨#[]⟩] 90)).cell? ⟨h, 4, none⟩ = some (.string r) ∧ (y1.alloc (Obj.cells #[.slice none 0 0, .string ⟨#[]⟩] 90)).cell? ⟨h, 5, none⟩ = some (.slice p n c) ∧ (y1.alloc (Obj.cells #[.slice none 0 0, .string ⟨#[]⟩] 90)).cell? ⟨b, 1, none⟩ = some (.slice pb l.length l.length)) ∧ Hid (((y1.alloc (Obj.cells #[.slice (some ⟨g, 0, none⟩) z z, .string ⟨#[]⟩] 90)).cell? ⟨h, 0, none⟩ = some (.int .i64 (k : Int)) ∧ (y1.alloc (Obj.cells #[.slice (some ⟨g, 0, none⟩) z z, .string ⟨#[]⟩] 90)).cell? ⟨h, 1, none⟩ = some (.int .i64 (z : Int)) ∧ (y1.alloc (Obj.cells #[.slice (some ⟨g, 0, none⟩) z z, .string ⟨#[]⟩] 90)).cell? ⟨h, 2, none⟩ = some (.int .i64 (f : Int)) ∧ (y1.alloc (Obj.cells #[.slice (some ⟨g, 0, none⟩) z z, .string ⟨#[]⟩] 90)).cell? ⟨h, 3, none⟩ = some (.int .i64 (t : Int)) ∧ (y1.alloc (Obj.cells #[.slice (some ⟨g, 0, none⟩) z z, .string ⟨#[]⟩] 90)).cell? ⟨h, 4, none⟩ = some (.string r) ∧ (y1.alloc (Obj.cells #[.slice (some ⟨g, 0, none⟩) z z, .string ⟨#[]⟩] 90)).cell? ⟨h, 5, none⟩ = some (.slice p n c) ∧ (y1.alloc (Obj.cells #[.slice (some ⟨g, 0, none⟩) z z, .string ⟨#[]⟩] 90)).cell? ⟨b, 1, none⟩ = some (.slice pb l.length l.length)) ∧ Hid ((y1.alloc (Obj.cells #[.slice (some ⟨g, 0, none⟩) z z, .string ⟨#[]⟩] 90)).heap.size ≤ (y1.alloc (Obj.cells #[.slice (some ⟨g, 0, none⟩) z z, .string ⟨#[]⟩] 90)).heap.size ∧ Rp (y1.alloc (Obj.cells #[.slice (some ⟨g, 0, none⟩) z z, .string ⟨#[]⟩] 90)) b N l ∧ Blk (y1.alloc (Obj.cells #[.slice (some ⟨g, 0, none⟩) z z, .string ⟨#[]⟩] 90)) h #[.int .i64 (k : Int), .int .i64 (z : Int), .int .i64 (f : Int), .int .i64 (t : Int), .string r, .slice p n c] 97 ∧ Sd (y1.alloc (Obj.cells #[.slice (some ⟨g, 0, none⟩) z z, .string ⟨#[]⟩] 90)) y1.heap.size M ∧ KTab (y1.alloc (Obj.cells #[.slice (some ⟨g, 0, none⟩) z z, .string ⟨#[]⟩] 90)) ∧ w0.heap.size ≤ y1.heap.size ∧ Below w0.heap.size w0 (y1.alloc (Obj.cells #[.slice (some ⟨g, 0, none⟩) z z, .string ⟨#[]⟩] 90)))) from fun y1 g hg hbg hby => by
    have hb1 : Below w0.heap.size w0 y1 := hdr.trans hby
    have hb2 := hb1.alloc hb1.size (Obj.cells #[.slice none 0 0, .string ⟨#[]⟩] 90)
    have hb3 := hb1.alloc hb1.size (Obj.cells #[.slice (some ⟨g, 0, none⟩) z z, .string ⟨#[]⟩] 90)
    refine ⟨hS _ hb1, hS _ hb2, hide ⟨hS _ hb3, hide ⟨Nat.le_refl _, hR.below hb3, hB6.below hb3 hlt6, ⟨g, ⟨#[]⟩, ?_, hbg.alloc _, .inl rfl⟩, hK.below hb3 hK.1, hb1.size, hb3⟩⟩⟩
    rw [hMl]
    exact Blk.new y1 90 #[.slice (some ⟨g, 0, none⟩) z z, .string ⟨#[]⟩])
  have HB := hide (show ∀ y1 g, (w0.drew.alloc (Obj.cells #[.slice none 0 0, .string ⟨#[]⟩] 90)).heap.size ≤ g → Blk y1 g (strs M).toArray 9 → Below (w0.drew.alloc (Obj.cells #[.slice none 0 0, .string ⟨#[]⟩] 90)).heap.size (w0.drew.alloc (Obj.cells #[.slice none 0 0, .string ⟨#[]⟩] 90)) y1 → (y1.cell? ⟨h, 0, none⟩ = some (.int .i64 (k : Int)) ∧ y1.cell? ⟨h, 1, none⟩ = some (.int .i64 (z : Int)) ∧ y1.cell? ⟨h, 2, none⟩ = some (.int .i64 (f : Int)) ∧ y1.cell? ⟨h, 3, none⟩ = some (.int .i64 (t : Int)) ∧ y1.cell? ⟨h, 4, none⟩ = some (.string r) ∧ y1.cell? ⟨h, 5, none⟩ = some (.slice p n c) ∧ y1.cell? ⟨b, 1, none⟩ = some (.slice pb l.length l.length)) ∧ y1.cell? ⟨w0.heap.size, 0, none⟩ = some (.slice none 0 0) ∧ y1.cell? ⟨w0.heap.size, 1, none⟩ = some (.string ⟨#[]⟩) ∧ y1.frozen? ⟨w0.heap.size, 0, none⟩ = false ∧ y1.frozen? ⟨w0.heap.size, 1, none⟩ = false ∧ (((y1.setCell ⟨w0.heap.size, 0, none⟩ (.slice (some ⟨g, 0, none⟩) z z)).setCell ⟨w0.heap.size, 1, none⟩ (.string ⟨#[]⟩)).cell? ⟨h, 0, none⟩ = some (.int .i64 (k : Int)) ∧ ((y1.setCell ⟨w0.heap.size, 0, none⟩ (.slice (some ⟨g, 0, none⟩) z z)).setCell ⟨w0.heap.size, 1, none⟩ (.string ⟨#[]⟩)).cell? ⟨h, 1, none⟩ = some (.int .i64 (z : Int)) ∧ ((y1.setCell ⟨w0.heap.size, 0, none⟩ (.slice (some ⟨g, 0, none⟩) z z)).setCell ⟨w0.heap.size, 1, none⟩ (.string ⟨#[]⟩)).cell? ⟨h, 2, none⟩ = some (.int .i64 (f : Int)) ∧ ((y1.setCell ⟨w0.heap.size, 0, none⟩ (.slice (some ⟨g, 0, none⟩) z z)).setCell ⟨w0.heap.size, 1, none⟩ (.string ⟨#[]⟩)).cell? ⟨h, 3, none⟩ = some (.int .i64 (t : Int)) ∧ ((y1.setCell ⟨w0.heap.size, 0, none⟩ (.slice (some ⟨g, 0, none⟩) z z)).setCell ⟨w0.heap.size, 1, none⟩ (.string ⟨#[]⟩)).cell? ⟨h, 4, none⟩ = some (.string r) ∧ ((y1.setCell ⟨w0.heap.size, 0, none⟩ (.slice (some ⟨g, 0, none⟩) z z)).setCell ⟨w0.heap.size, 1, none⟩ (.string ⟨#[]⟩)).cell? ⟨h, 5, none⟩ = some (.slice p n c) ∧ ((y1.setCell ⟨w0.heap.size, 0, none⟩ (.slice (some ⟨g, 0, none⟩) z z)).setCell ⟨w0.heap.size, 1, none⟩ (.string ⟨#[]⟩)).cell? ⟨b, 1, none⟩ = some (.slice pb l.length l.length)) ∧ Hid (((y1.setCell ⟨w0.heap.size, 0, none⟩ (.slice (some ⟨g, 0, none⟩) z z)).setCell ⟨w0.heap.size, 1, none⟩ (.string ⟨#[]⟩)).heap.size ≤ ((y1.setCell ⟨w0.heap.size, 0, none⟩ (.slice (some ⟨g, 0, none⟩) z z)).setCell ⟨w0.heap.size, 1, none⟩ (.string ⟨#[]⟩)).heap.size ∧ Rp ((y1.setCell ⟨w0.heap.size, 0, none⟩ (.slice (some ⟨g, 0, none⟩) z z)).setCell ⟨w0.heap.size, 1, none⟩ (.string ⟨#[]⟩)) b N l ∧ Blk ((y1.setCell ⟨w0.heap.size, 0, none⟩ (.slice (some ⟨g, 0, none⟩) z z)).setCell ⟨w0.heap.size, 1, none⟩ (.string ⟨#[]⟩)) h #[.int .i64 (k : Int), .int .i64 (z : Int), .int .i64 (f : Int), .int .i64 (t : Int), .string r, .slice p n c] 97 ∧ Sd ((y1.setCell ⟨w0.heap.size, 0, none⟩ (.slice (some ⟨g, 0, none⟩) z z)).setCell ⟨w0.heap.size, 1, none⟩ (.string ⟨#[]⟩)) w0.heap.size M ∧ KTab ((y1.setCell ⟨w0.heap.size, 0, none⟩ (.slice (some ⟨g, 0, none⟩) z z)).setCell ⟨w0.heap.size, 1, none⟩ (.string ⟨#[]⟩)) ∧ w0.heap.size ≤ w0.heap.size ∧ Below w0.heap.size w0 ((y1.setCell ⟨w0.heap.size, 0, none⟩ (.slice (some ⟨g, 0, none⟩) z z)).setCell ⟨w0.heap.size, 1, none⟩ (.string ⟨#[]⟩))) from fun y1 g hg hbg hby => by
    have hb1 : Below w0.heap.size w0 y1 := hal.trans (hby.mono hal.size)
    have hz8 := (Blk.new w0.drew 90 #[.slice none 0 0, .string ⟨#[]⟩]).below hby (Blk.new w0.drew 90 #[.slice none 0 0, .string ⟨#[]⟩]).lt
    exact ⟨hS _ hb1, hpost _ _ g hb1 (Nat.le_refl _) hz8 hbg⟩)
  have HK := hide hP
  clear hS hpost hR hB6 hn hL1 hL2 hk hSw hK hM hP hal hsb c1 hdr
  refine wp_region_held_drew (S := fun W => W.cell? ⟨h, 0, none⟩ = some (.int .i64 (k : Int)) ∧ W.cell? ⟨h, 1, none⟩ = some (.int .i64 (z : Int)) ∧ W.cell? ⟨h, 2, none⟩ = some (.int .i64 (f : Int)) ∧ W.cell? ⟨h, 3, none⟩ = some (.int .i64 (t : Int)) ∧ W.cell? ⟨h, 4, none⟩ = some (.string r) ∧ W.cell? ⟨h, 5, none⟩ = some (.slice p n c) ∧ W.cell? ⟨b, 1, none⟩ = some (.slice pb l.length l.length)) (by kernel_rfl) (by exact hS0) ?_
  intro hS
  refine wpAnyH_takeD 0 (some 38) (.agg #[.int .i64 (k : Int), .int .i64 (z : Int), .int .i64 (f : Int), .int .i64 (t : Int), .string r, .slice p n c]) rfl rfl (by kernel_rfl) (by kernel_rfl) (by kernel_rfl) (fun _ _ _ h => h) (Or.inl ⟨by rfl, fun w hSw => by obtain ⟨q0, q1, q2, q3, q4, q5, q6⟩ := hSw; go_simp⟩) hS ?_
  simp only [Act.put, List.setIfInBounds_toArray, List.set_cons_zero, List.set_cons_succ]
  refine wpAnyH_takeD 1 (some 39) (.pointer (some ⟨b, 0, none⟩)) rfl rfl (by kernel_rfl) (by kernel_rfl) (by kernel_rfl) (fun _ _ _ h => h) (Or.inl ⟨by rfl, fun w hSw => by obtain ⟨q0, q1, q2, q3, q4, q5, q6⟩ := hSw; go_simp⟩) hS ?_
  simp only [Act.put, List.setIfInBounds_toArray, List.set_cons_zero, List.set_cons_succ]
  refine wpAnyH_takeD 2 (some 40) (.pointer (some ⟨b, 0, none⟩)) rfl rfl (by kernel_rfl) (by kernel_rfl) (by kernel_rfl) (fun _ _ _ h => h) (Or.inl ⟨by rfl, fun w hSw => by obtain ⟨q0, q1, q2, q3, q4, q5, q6⟩ := hSw; go_simp⟩) hS ?_
  simp only [Act.put, List.setIfInBounds_toArray, List.set_cons_zero, List.set_cons_succ]
  refine wpAnyH_takeD 3 (some 41) (.pointer (some ⟨b, 1, none⟩)) rfl rfl (by kernel_rfl) (by kernel_rfl) (by kernel_rfl) (fun _ _ _ h => h) (Or.inl ⟨by rfl, fun w hSw => by obtain ⟨q0, q1, q2, q3, q4, q5, q6⟩ := hSw; go_simp⟩) hS ?_
  simp only [Act.put, List.setIfInBounds_toArray, List.set_cons_zero, List.set_cons_succ]
  refine wpAnyH_takeD 4 (some 42) (.pointer (some ⟨b, 1, none⟩)) rfl rfl (by kernel_rfl) (by kernel_rfl) (by kernel_rfl) (fun _ _ _ h => h) (Or.inl ⟨by rfl, fun w hSw => by obtain ⟨q0, q1, q2, q3, q4, q5, q6⟩ := hSw; go_simp⟩) hS ?_
  simp only [Act.put, List.setIfInBounds_toArray, List.set_cons_zero, List.set_cons_succ]
  refine wpAnyH_takeD 5 (some 43) (.slice pb l.length l.length) rfl rfl (by kernel_rfl) (by kernel_rfl) (by kernel_rfl) (fun _ _ _ h => h) (Or.inl ⟨by rfl, fun w hSw => by obtain ⟨q0, q1, q2, q3, q4, q5, q6⟩ := hSw; go_simp⟩) hS ?_
  simp only [Act.put, List.setIfInBounds_toArray, List.set_cons_zero, List.set_cons_succ]
  refine wpAnyH_ready (rs := [6, 8]) (by kernel_rfl) (by simp) ?_
  refine AllReadyH.cons rfl (fun K hK => ?_) ?_
  · simp only [List.getElem_toArray, List.getElem_cons_succ, List.getElem_cons_zero]
    go_simp
    refine (unhide HLY w0.drew (unhide HW0).1).mono ?_
    rintro e y1 ⟨g, rfl, hg, hbg, hby⟩
    obtain ⟨s1, e1, HZ⟩ := unhide HA y1 g hg hbg hby
    clear hg hbg hby
    refine hK.out _ _ s1 (fun hS => ?_)
    clear hK K
    refine wpAnyH_takeD 7 (some 45) (.agg #[.slice (some ⟨g, 0, none⟩) z z, .string ⟨#[]⟩]) rfl rfl (by kernel_rfl) (by kernel_rfl) (by kernel_rfl) (fun _ _ _ h => h) (Or.inl ⟨by rfl, fun w hSw => by obtain ⟨q0, q1, q2, q3, q4, q5, q6⟩ := hSw; go_simp⟩) hS ?_
    simp only [Act.put, List.setIfInBounds_toArray, List.set_cons_zero, List.set_cons_succ]
    refine wpAnyH_ready (rs := [8]) (by kernel_rfl) (by simp) ?_
    refine AllReadyH.cons rfl (fun K hK => ?_) AllReadyH.nil
    simp only [List.getElem_toArray, List.getElem_cons_succ, List.getElem_cons_zero]
    go_simp
    refine hK.out _ _ e1 (fun hS => ?_)
    clear hK K
    obtain ⟨e2, HZ2⟩ := unhide HZ
    refine wpAnyH_ready (rs := [9]) (by kernel_rfl) (by simp) ?_
    refine AllReadyH.cons rfl (fun K hK => ?_) AllReadyH.nil
    simp only [List.getElem_toArray, List.getElem_cons_succ, List.getElem_cons_zero]
    go_simp
    refine hK.out _ _ e2 (fun hS => ?_)
    clear hK K
    refine wpAnyH_done (by kernel_rfl) ?_ _
    clear hS HA HB HW0 HW1 HLY hS0
    exact unhide HK _ _ HZ2 _ _ _ _ _ _ _ _ _ _ _ _ _ _ _ _ _ _ _ _ _ _ _ _ _ _ _ _ _ _ _ _ _ _ _ _ _ _ _ _ _ _ _ _ _ _ _ _ _ _ _ _ _ _ _ _ _ _ _
  refine AllReadyH.cons rfl (fun K hK => ?_) AllReadyH.nil
  simp only [List.getElem_toArray, List.getElem_cons_succ, List.getElem_cons_zero]
  go_simp
  refine hK.out _ _ (unhide HW1).2 (fun hS => ?_)
  clear hK K
  refine wpAnyH_ready (rs := [6]) (by kernel_rfl) (by simp) ?_
  refine AllReadyH.cons rfl (fun K hK => ?_) AllReadyH.nil
  simp only [List.getElem_toArray, List.getElem_cons_succ, List.getElem_cons_zero]
  go_simp
  refine (unhide HLY (w0.drew.alloc (Obj.cells #[.slice none 0 0, .string ⟨#[]⟩] 90)) (unhide HW1).1).mono ?_
  rintro e y1 ⟨g, rfl, hg, hbg, hby⟩
  obtain ⟨s1, a0, a1, v0, v1, e2, HZ2⟩ := unhide HB y1 g hg hbg hby
  clear hg hbg hby
  refine hK.out _ _ s1 (fun hS => ?_)
  clear hK K
  refine wpAnyH_takeD 7 (some 45) (.agg #[.slice (some ⟨g, 0, none⟩) z z, .string ⟨#[]⟩]) rfl rfl (by kernel_rfl) (by kernel_rfl) (by kernel_rfl) (fun _ _ _ h => h) (Or.inl ⟨by rfl, fun w hSw => by obtain ⟨q0, q1, q2, q3, q4, q5, q6⟩ := hSw; go_simp⟩) hS ?_
  simp only [Act.put, List.setIfInBounds_toArray, List.set_cons_zero, List.set_cons_succ]
  refine wpAnyH_ready (rs := [9]) (by kernel_rfl) (by simp) ?_
  refine AllReadyH.cons rfl (fun K hK => ?_) AllReadyH.nil
  simp only [List.getElem_toArray, List.getElem_cons_succ, List.getElem_cons_zero]
  go_simp
  refine hK.out _ _ e2 (fun hS => ?_)
  clear hK K
  refine wpAnyH_done (by kernel_rfl) ?_ _
  clear hS HA HB HW0 HW1 HLY hS0
  exact unhide HK _ _ HZ2 _ _ _ _ _ _ _ _ _ _ _ _ _ _ _ _ _ _ _ _ _ _ _ _ _ _ _ _ _ _ _ _ _ _ _ _ _ _ _ _ _ _ _ _ _ _ _ _ _ _ _ _ _ _ _ _ _ _ _
end Go.Proofs.YtnfdedolgfcmfaaGreatDoor
