import Derived.Test.YtifjmldmilmfjaaGreatDoorMp04
import Derived.Test.YtifjmldmilmfjaaGreatDoorMp01
import Derived.Test.YtifjmldmilmfjaaGreatDoorMp00
import Derived.ArgAppend
import Derived.Laws.IdiomStrings
namespace Go.Proofs.YtifjmldmilmfjaaGreatDoor
open Go.RowKit
theorem or_add (A c k B : Nat) (hc : c = 2 ^ k) (h : B < c) : A * c ||| B = A * c + B := by
  subst hc
  have := Nat.shiftLeft_add_eq_or_of_lt h A
  rw [Nat.shiftLeft_eq] at this
  exact this.symm
theorem word_or (b0 b1 b2 b3 : Int) (h0 : 0 ≤ b0 ∧ b0 < 256) (h1 : 0 ≤ b1 ∧ b1 < 256) (h2 : 0 ≤ b2 ∧ b2 < 256) (h3 : 0 ≤ b3 ∧ b3 < 256) :
    bits .or .u32 (bits .or .u32 (bits .or .u32 (b0 * 16777216) (b1 * 65536)) (b2 * 256)) b3 = ((b0 * 256 + b1) * 256 + b2) * 256 + b3 := by
  obtain ⟨A, rfl⟩ := Int.eq_ofNat_of_zero_le h0.1
  obtain ⟨B, rfl⟩ := Int.eq_ofNat_of_zero_le h1.1
  obtain ⟨C, rfl⟩ := Int.eq_ofNat_of_zero_le h2.1
  obtain ⟨D, rfl⟩ := Int.eq_ofNat_of_zero_le h3.1
  have e1 : ((A : Int) * 16777216) = ((A * 16777216 : Nat) : Int) := by omega
  have e2 : ((B : Int) * 65536) = ((B * 65536 : Nat) : Int) := by omega
  have e3 : ((C : Int) * 256) = ((C * 256 : Nat) : Int) := by omega
  have o1 : A * 16777216 ||| B * 65536 = A * 16777216 + B * 65536 := or_add A 16777216 24 (B * 65536) (by decide) (by omega)
  have o2 : (A * 16777216 + B * 65536) ||| C * 256 = A * 16777216 + B * 65536 + C * 256 := by
    have := or_add (A * 256 + B) 65536 16 (C * 256) (by decide) (by omega)
    rw [show (A * 256 + B) * 65536 = A * 16777216 + B * 65536 by omega] at this
    exact this
  have o3 : (A * 16777216 + B * 65536 + C * 256) ||| D = A * 16777216 + B * 65536 + C * 256 + D := by
    have := or_add (A * 65536 + B * 256 + C) 256 8 D (by decide) (by omega)
    rw [show (A * 65536 + B * 256 + C) * 256 = A * 16777216 + B * 65536 + C * 256 by omega] at this
    exact this
  rw [e1, e2, e3, u32_or_nat _ _ (by omega) (by omega), o1, u32_or_nat _ _ (by omega) (by omega), o2, u32_or_nat _ _ (by omega) (by omega), o3]
  omega
/-- Blocks: n words, n+1 the result, n+2 the spread words; elsewhere the table and the piece. -/
def PcInv (w : World) (kb bb off : Nat) (s p l : List Int) (wr : World) : Prop :=
  Arr wr w.heap.size 0 .u32 s ∧ Arr wr (w.heap.size + 1) 0 .u32 (List.replicate 8 0) ∧ Arr wr (w.heap.size + 1 + 1) 0 .u32 l ∧ (∀ j, j < 64 → wr.cell? ⟨kb, j, none⟩ = some (.int .u32 (kWords.getD j 0))) ∧
  (∀ j, j < 64 → wr.cell? ⟨bb, off + j, none⟩ = some (.int .u8 (p.getD j 0))) ∧ Below w.heap.size w wr ∧ w.heap.size + 1 + 1 < wr.heap.size
theorem PcInv.put {w : World} {kb bb off : Nat} {s p l l' : List Int} {wr : World} (h : PcInv w kb bb off s p l wr) (hkb : kb < w.heap.size) (hbb : bb < w.heap.size) (t : Nat) (ht : t < l.length) (v : Int) (e : l.set t v = l') :
    PcInv w kb bb off s p l' (wr.setCell ⟨w.heap.size + 1 + 1, t, none⟩ (.int .u32 v)) := by
  subst e
  obtain ⟨h1, h2, h3, h4, h5, h6, h7⟩ := h
  refine ⟨h1.other _ _ (.inl (by simp; omega)), h2.other _ _ (.inl (by simp)), h3.set0 t ht v, fun j hj => ?_, fun j hj => ?_, h6.setCell (by simp; omega) _, by simpa using h7⟩
  · rw [World.cell?_setCell_other _ _ _ _ (by intro e; have h := congrArg Addr.block e; dsimp only at h; omega)]; exact h4 j hj
  · rw [World.cell?_setCell_other _ _ _ _ (by intro e; have h := congrArg Addr.block e; dsimp only at h; omega)]; exact h5 j hj
theorem PcInv.drewN {w : World} {kb bb off : Nat} {s p l : List Int} {wr : World} (h : PcInv w kb bb off s p l wr) (n : Nat) : PcInv w kb bb off s p l (wr.drewN n) :=
  ⟨h.1, h.2.1, h.2.2.1, h.2.2.2.1, h.2.2.2.2.1, below_drewN h.2.2.2.2.2.1 n, h.2.2.2.2.2.2⟩
theorem PcInv.drew {w : World} {kb bb off : Nat} {s p l : List Int} {wr : World} (h : PcInv w kb bb off s p l wr) : PcInv w kb bb off s p l wr.drew :=
  ⟨h.1, h.2.1, h.2.2.1, h.2.2.2.1, h.2.2.2.2.1, h.2.2.2.2.2.1.drew, h.2.2.2.2.2.2⟩
theorem PcInv.start (w : World) (kb bb off : Nat) (s p : List Int) (hkb : kb < w.heap.size) (hbb : bb < w.heap.size) (hk : ∀ j, j < 64 → w.cell? ⟨kb, j, none⟩ = some (.int .u32 (kWords.getD j 0))) (hp : ∀ j, j < 64 → w.cell? ⟨bb, off + j, none⟩ = some (.int .u8 (p.getD j 0)))
    (c8 c64 : Array Value) (h8 : c8 = ((List.replicate 8 (0 : Int)).map (Value.int .u32)).toArray) (h64 : c64 = ((List.replicate 64 (0 : Int)).map (Value.int .u32)).toArray) :
    PcInv w kb bb off s p (List.replicate 64 0) (((w.alloc (Obj.cells (s.map (Value.int .u32)).toArray 152)).alloc (Obj.cells c8 152)).alloc (Obj.cells c64 154)) := by
  have hb : Below w.heap.size w (((w.alloc (Obj.cells (s.map (Value.int .u32)).toArray 152)).alloc (Obj.cells c8 152)).alloc (Obj.cells c64 154)) := (((Below.refl _ _).alloc (Nat.le_refl _) _).alloc (by simp) _).alloc (by simp; omega) _
  refine ⟨((arr_new w .u32 s 152 _ rfl).alloc (by simp) _).alloc (by simp; omega) _, ?_, ?_, fun j hj => ?_, fun j hj => ?_, hb, by simp⟩
  · have := (arr_new (w.alloc (Obj.cells (s.map (Value.int .u32)).toArray 152)) .u32 (List.replicate 8 0) 152 c8 h8).alloc (by simp) (Obj.cells c64 154)
    simpa using this
  · have := arr_new ((w.alloc (Obj.cells (s.map (Value.int .u32)).toArray 152)).alloc (Obj.cells c8 152)) .u32 (List.replicate 64 0) 154 c64 h64
    simpa using this
  · rw [hb.cell (p := ⟨kb, j, none⟩) hkb]; exact hk j hj
  · rw [hb.cell (p := ⟨bb, off + j, none⟩) hbb]; exact hp j hj
theorem valsR_at {w : World} {b : Nat} {s : H8} (h : Arr w b 0 .u32 s.vals) : (w.cell? ⟨b, 0, none⟩ = some (.int .u32 s.a) ∧ w.cell? ⟨b, 1, none⟩ = some (.int .u32 s.b) ∧ w.cell? ⟨b, 2, none⟩ = some (.int .u32 s.c) ∧ w.cell? ⟨b, 3, none⟩ = some (.int .u32 s.d) ∧ w.cell? ⟨b, 4, none⟩ = some (.int .u32 s.e) ∧ w.cell? ⟨b, 5, none⟩ = some (.int .u32 s.f) ∧ w.cell? ⟨b, 6, none⟩ = some (.int .u32 s.g) ∧ w.cell? ⟨b, 7, none⟩ = some (.int .u32 s.h)) ∧
    w.frozen? ⟨b, 0, none⟩ = false ∧ w.frozen? ⟨b, 1, none⟩ = false ∧ w.frozen? ⟨b, 2, none⟩ = false ∧ w.frozen? ⟨b, 3, none⟩ = false ∧ w.frozen? ⟨b, 4, none⟩ = false ∧ w.frozen? ⟨b, 5, none⟩ = false ∧ w.frozen? ⟨b, 6, none⟩ = false ∧ w.frozen? ⟨b, 7, none⟩ = false :=
  ⟨⟨h.get0 0 (by simp [H8.vals]), h.get0 1 (by simp [H8.vals]), h.get0 2 (by simp [H8.vals]), h.get0 3 (by simp [H8.vals]), h.get0 4 (by simp [H8.vals]), h.get0 5 (by simp [H8.vals]), h.get0 6 (by simp [H8.vals]), h.get0 7 (by simp [H8.vals])⟩,
   h.free0 0 (by simp [H8.vals]), h.free0 1 (by simp [H8.vals]), h.free0 2 (by simp [H8.vals]), h.free0 3 (by simp [H8.vals]), h.free0 4 (by simp [H8.vals]), h.free0 5 (by simp [H8.vals]), h.free0 6 (by simp [H8.vals]), h.free0 7 (by simp [H8.vals])⟩
def LtInv (w : World) (kb bb off : Nat) (s p : List Int) (m : Nat) (x : List Int) (wr : World) : Prop :=
  PcInv w kb bb off s p (spr p 64) wr ∧ Arr wr m 0 .u32 x ∧ w.heap.size + 1 + 1 < m ∧ m < wr.heap.size
theorem PcInv.alloc {w : World} {kb bb off : Nat} {s p l : List Int} {wr : World} (h : PcInv w kb bb off s p l wr) (hkb : kb < w.heap.size) (hbb : bb < w.heap.size) (o : Obj) : PcInv w kb bb off s p l (wr.alloc o) := by
  obtain ⟨h1, h2, h3, h4, h5, h6, h7⟩ := h
  refine ⟨h1.alloc (by omega) _, h2.alloc (by omega) _, h3.alloc h7 _, fun j hj => ?_, fun j hj => ?_, h6.alloc (by omega) _, by simp; omega⟩
  · rw [World.cell?_alloc_past (hn := by omega)]; exact h4 j hj
  · rw [World.cell?_alloc_past (hn := by omega)]; exact h5 j hj
theorem PcInv.letters {w : World} {kb bb off : Nat} {p : List Int} {wr : World} (s : H8) (h : PcInv w kb bb off s.vals p (spr p 64) wr) (hkb : kb < w.heap.size) (hbb : bb < w.heap.size) :
    LtInv w kb bb off s.vals p wr.heap.size s.vals (wr.alloc (Obj.cells #[.int .u32 s.a, .int .u32 s.b, .int .u32 s.c, .int .u32 s.d, .int .u32 s.e, .int .u32 s.f, .int .u32 s.g, .int .u32 s.h] 152)) :=
  ⟨h.alloc hkb hbb _, arr_new wr .u32 s.vals 152 _ rfl, h.2.2.2.2.2.2, by simp⟩
theorem max_u32' : (IntKind.u32.max : Int) = 4294967295 := by decide
theorem PcInv.setCells {w : World} {kb bb off m : Nat} {s p l : List Int} {wr : World} (h : PcInv w kb bb off s p l wr) (hkb : kb < w.heap.size) (hbb : bb < w.heap.size) (hm : w.heap.size + 1 + 1 < m) (vs : List Value) : PcInv w kb bb off s p l (wr.setCells m 0 vs) := by
  obtain ⟨h1, h2, h3, h4, h5, h6, h7⟩ := h
  refine ⟨h1.setCells_apart _ _ _ (.inl (by omega)), h2.setCells_apart _ _ _ (.inl (by omega)), h3.setCells_apart _ _ _ (.inl (by omega)), fun j hj => ?_, fun j hj => ?_, below_setCells (by omega) _ _ h6, by rw [size_setCells]; exact h7⟩
  · rw [World.cell?_setCells_out m vs 0 wr ⟨kb, j, none⟩ (by intro e _; dsimp only at e; omega)]; exact h4 j hj
  · rw [World.cell?_setCells_out m vs 0 wr ⟨bb, off + j, none⟩ (by intro e _; dsimp only at e; omega)]; exact h5 j hj
theorem LtInv.put8 {w : World} {kb bb off m : Nat} {s p : List Int} {x : H8} {wr : World} (h : LtInv w kb bb off s p m x.vals wr) (hkb : kb < w.heap.size) (hbb : bb < w.heap.size) (a b c d e f g i : Int) :
    LtInv w kb bb off s p m (H8.mk a b c d e f g i).vals ((((((((wr.setCell ⟨m, 0, none⟩ (.int .u32 a)).setCell ⟨m, 1, none⟩ (.int .u32 b)).setCell ⟨m, 2, none⟩ (.int .u32 c)).setCell ⟨m, 3, none⟩ (.int .u32 d)).setCell ⟨m, 4, none⟩ (.int .u32 e)).setCell ⟨m, 5, none⟩ (.int .u32 f)).setCell ⟨m, 6, none⟩ (.int .u32 g)).setCell ⟨m, 7, none⟩ (.int .u32 i)) := by
  have h1 : LtInv w kb bb off s p m (H8.mk a b c d e f g i).vals (wr.setCells m 0 ((H8.mk a b c d e f g i).vals.map (Value.int .u32))) :=
    ⟨h.1.setCells hkb hbb h.2.2.1 _, h.2.1.setCells _ (by simp [H8.vals]), h.2.2.1, by rw [size_setCells]; exact h.2.2.2⟩
  exact h1
theorem LtInv.putW {w : World} {kb bb off m : Nat} {s s' p x : List Int} {wr : World} (h : LtInv w kb bb off s p m x wr) (hkb : kb < w.heap.size) (hbb : bb < w.heap.size) (t : Nat) (ht : t < s.length) (v : Int) (e : s.set t v = s') :
    LtInv w kb bb off s' p m x (wr.setCell ⟨w.heap.size, t, none⟩ (.int .u32 v)) := by
  subst e
  obtain ⟨⟨h1, h2, h3, h4, h5, h6, h7⟩, hx, hm1, hm2⟩ := h
  refine ⟨⟨h1.set0 t ht v, h2.other _ _ (.inl (by simp)), h3.other _ _ (.inl (by simp; omega)), fun j hj => ?_, fun j hj => ?_, h6.setCell (by simp) _, by simpa using h7⟩, hx.other _ _ (.inl (by simp; omega)), hm1, by simpa using hm2⟩
  · rw [World.cell?_setCell_other _ _ _ _ (by intro e; have h := congrArg Addr.block e; dsimp only at h; omega)]; exact h4 j hj
  · rw [World.cell?_setCell_other _ _ _ _ (by intro e; have h := congrArg Addr.block e; dsimp only at h; omega)]; exact h5 j hj
theorem LtInv.drewN {w : World} {kb bb off m : Nat} {s p x : List Int} {wr : World} (h : LtInv w kb bb off s p m x wr) (n : Nat) : LtInv w kb bb off s p m x (wr.drewN n) := ⟨h.1.drewN n, h.2.1, h.2.2.1, h.2.2.2⟩
set_option maxRecDepth 100000 in
set_option maxHeartbeats 1000000 in
theorem piece_any (s : H8) (p : List Int) (_hp : p.length = 64) (hby : Bytes p) (kb bb off cap : Nat) (w : World) (hkb : kb < w.heap.size) (hbb : bb < w.heap.size) (hk : ∀ j, j < 64 → w.cell? ⟨kb, j, none⟩ = some (.int .u32 (kWords.getD j 0))) (hpc : ∀ j, j < 64 → w.cell? ⟨bb, off + j, none⟩ = some (.int .u8 (p.getD j 0))) :
    Calls Tryz.prog 101 #[.agg (s.vals.map (Value.int .u32)).toArray, .pointer (some ⟨kb, 0, none⟩), .slice (some ⟨bb, off, none⟩) 64 cap] w fun e w' => e = .returned (.agg ((comp s p).vals.map (Value.int .u32)).toArray) ∧ Below w.heap.size w w' := by
  have HS := hide (PcInv.start w kb bb off s.vals p hkb hbb hk hpc _ _ rfl rfl)
  have HBY := hide hby
  clear hk hpc hby
  go_enter Tryz.func101, Tryz.ntmps101
  go_wp2
  go_loopw [8] (fun i wr => ∃ t : Nat, t ≤ 16 ∧ i = .int .i64 t ∧ PcInv w kb bb off s.vals p (spr p t ++ List.replicate (64 - t) 0) wr) (fun i _ => 16 - (intOf i).toNat)
  case atStart => exact ⟨0, by omega, rfl, unhide HS⟩
  case round =>
    clear HS
    obtain ⟨t, ht, rfl, hI⟩ := hrel
    by_cases htl : t < 16
    · have hll : (spr p t ++ List.replicate (64 - t) (0 : Int)).length = 64 := by simp [spr_len]; omega
      have d0 := hI.2.2.2.2.1 (4 * t) (by omega)
      have d1 := hI.2.2.2.2.1 (4 * t + 1) (by omega)
      have d2 := hI.2.2.2.2.1 (4 * t + 2) (by omega)
      have d3 := hI.2.2.2.2.1 (4 * t + 3) (by omega)
      have g0 := unhide HBY (4 * t)
      have g1 := unhide HBY (4 * t + 1)
      have g2 := unhide HBY (4 * t + 2)
      have g3 := unhide HBY (4 * t + 3)
      have c1 := hI.2.2.1.get0 t (by omega)
      have f1 := hI.2.2.1.free0 t (by omega)
      have hw : word p t = ((p.getD (4 * t) 0 * 256 + p.getD (4 * t + 1) 0) * 256 + p.getD (4 * t + 2) 0) * 256 + p.getD (4 * t + 3) 0 := rfl
      obtain ⟨z, hz⟩ : ∃ z, z = (spr p t ++ List.replicate (64 - t) (0 : Int)).getD t 0 := ⟨_, rfl⟩
      rw [← hz] at c1
      generalize p.getD (4 * t) 0 = b0 at *
      generalize p.getD (4 * t + 1) 0 = b1 at *
      generalize p.getD (4 * t + 2) 0 = b2 at *
      generalize p.getD (4 * t + 3) 0 = b3 at *
      have HW := hide hw
      have HI := hide hI
      have HL := hide hll
      clear hz hw hI hll
      have m0 : IntKind.i64.wrap (4 * (t : Int)) = 4 * (t : Int) := by rw [IntKind.wrap_i64]; omega
      have m1 : IntKind.i64.wrap (4 * (t : Int) + 1) = 4 * (t : Int) + 1 := by rw [IntKind.wrap_i64]; omega
      have m2 : IntKind.i64.wrap (4 * (t : Int) + 2) = 4 * (t : Int) + 2 := by rw [IntKind.wrap_i64]; omega
      have m3 : IntKind.i64.wrap (4 * (t : Int) + 3) = 4 * (t : Int) + 3 := by rw [IntKind.wrap_i64]; omega
      have q0 : (4 * (t : Int)).toNat = 4 * t := by omega
      have q1 : (4 * (t : Int) + 1).toNat = 4 * t + 1 := by omega
      have q2 : (4 * (t : Int) + 2).toNat = 4 * t + 2 := by omega
      have q3 : (4 * (t : Int) + 3).toNat = 4 * t + 3 := by omega
      have i0 : 0 ≤ 4 * (t : Int) := by omega
      have i00 : 4 * (t : Int) < 64 := by omega
      have i1 : 0 ≤ 4 * (t : Int) + 1 := by omega
      have i11 : 4 * (t : Int) + 1 < 64 := by omega
      have i2 : 0 ≤ 4 * (t : Int) + 2 := by omega
      have i22 : 4 * (t : Int) + 2 < 64 := by omega
      have i3 : 0 ≤ 4 * (t : Int) + 3 := by omega
      have i33 : 4 * (t : Int) + 3 < 64 := by omega
      have u0 : IntKind.u32.wrap b0 = b0 := by rw [IntKind.wrap_u32']; omega
      have u1 : IntKind.u32.wrap b1 = b1 := by rw [IntKind.wrap_u32']; omega
      have u2 : IntKind.u32.wrap b2 = b2 := by rw [IntKind.wrap_u32']; omega
      have u3 : IntKind.u32.wrap b3 = b3 := by rw [IntKind.wrap_u32']; omega
      have v0 : IntKind.u32.wrap (b0 * 16777216) = b0 * 16777216 := by rw [IntKind.wrap_u32']; omega
      have v1 : IntKind.u32.wrap (b1 * 65536) = b1 * 65536 := by rw [IntKind.wrap_u32']; omega
      have v2 : IntKind.u32.wrap (b2 * 256) = b2 * 256 := by rw [IntKind.wrap_u32']; omega
      have HWO := hide (word_or b0 b1 b2 b3 g0 g1 g2 g3)
      go_wp2
      go_still_tail 34, (by kernel_rfl)
      clear m0 m1 m2 m3 q0 q1 q2 q3 i0 i00 i1 i11 i2 i22 i3 i33 u0 u1 u2 u3 v0 v1 v2 d0 d1 d2 d3
      change wpList _ _ _ _ _ wr.drew
      go_wp2
      go_roundw
      case rel =>
        refine ⟨t + 1, by omega, by go_num, ((unhide HI).put hkb hbb t (by rw [unhide HL]; omega) _ ?_).drew⟩
        have e := fill_set (spr p t) 64 (word p t) (by rw [spr_len]; omega)
        rw [spr_len] at e
        rw [spr, if_pos htl, ← e, unhide HW, unhide HWO]
      case measure => simp [intOf]; omega
    · have e16 : t = 16 := by omega
      rw [e16] at hI
      have HI := hide hI
      clear hI e16
      go_wp2
      go_loopw [9] (fun i wr => ∃ t : Nat, 16 ≤ t ∧ t ≤ 64 ∧ i = .int .i64 t ∧ PcInv w kb bb off s.vals p (spr p t ++ List.replicate (64 - t) 0) wr) (fun i _ => 64 - (intOf i).toNat)
      case atStart => exact ⟨16, by omega, by omega, rfl, unhide HI⟩
      case round =>
        clear HI ht htl
        obtain ⟨t, ht1, ht2, rfl, hI⟩ := hrel
        by_cases htl : t < 64
        · have gd : ∀ j, j < t → (spr p t ++ List.replicate (64 - t) 0).getD j 0 = (spr p t).getD j 0 := by
            intro j hj
            simp [List.getElem?_append, spr_len, hj]
          have hlen : (spr p t ++ List.replicate (64 - t) (0 : Int)).length = 64 := by simp [spr_len]; omega
          have c2 := hI.2.2.1.get0 (t - 2) (by omega)
          have c15 := hI.2.2.1.get0 (t - 15) (by omega)
          have c7 := hI.2.2.1.get0 (t - 7) (by omega)
          have c16 := hI.2.2.1.get0 (t - 16) (by omega)
          have c0 := hI.2.2.1.get0 t (by omega)
          have f0 := hI.2.2.1.free0 t (by omega)
          rw [gd _ (by omega)] at c2 c15 c7 c16
          obtain ⟨z, hz⟩ : ∃ z, z = (spr p t ++ List.replicate (64 - t) (0 : Int)).getD t 0 := ⟨_, rfl⟩
          rw [← hz] at c0
          clear hz
          obtain ⟨x2, h2⟩ : ∃ z, z = (spr p t).getD (t - 2) 0 := ⟨_, rfl⟩
          obtain ⟨x15, h15⟩ : ∃ z, z = (spr p t).getD (t - 15) 0 := ⟨_, rfl⟩
          obtain ⟨x7, h7⟩ : ∃ z, z = (spr p t).getD (t - 7) 0 := ⟨_, rfl⟩
          obtain ⟨x16, h16⟩ : ∃ z, z = (spr p t).getD (t - 16) 0 := ⟨_, rfl⟩
          rw [← h2] at c2
          rw [← h15] at c15
          rw [← h7] at c7
          rw [← h16] at c16
          have hn : nextW (spr p t) t = ad (ad (ad (sm1 x2) x7) (sm0 x15)) x16 := by rw [nextW, h2, h15, h7, h16]
          have HN := hide hn
          have HI2 := hide hI
          have HL := hide hlen
          clear hI hlen gd h2 h15 h7 h16 hn
          have e2 : ((t : Int) - 2).toNat = t - 2 := by omega
          have e15 : ((t : Int) - 15).toNat = t - 15 := by omega
          have e7 : ((t : Int) - 7).toNat = t - 7 := by omega
          have e16 : ((t : Int) - 16).toNat = t - 16 := by omega
          have y7 : IntKind.i64.wrap ((t : Int) - 7) = (t : Int) - 7 := by rw [IntKind.wrap_i64]; omega
          have y16 : IntKind.i64.wrap ((t : Int) - 16) = (t : Int) - 16 := by rw [IntKind.wrap_i64]; omega
          have b7 : (7 : Int) ≤ (t : Int) := by omega
          have b16 : (16 : Int) ≤ (t : Int) := by omega
          have a7 : 0 ≤ (t : Int) - 7 := by omega
          have a77 : (t : Int) - 7 < 64 := by omega
          have a16 : 0 ≤ (t : Int) - 16 := by omega
          have a166 : (t : Int) - 16 < 64 := by omega
          go_wp2
          clear c2 c15
          refine wp_region_held_drew (S := fun w' => w'.cell? ⟨w.heap.size + 1 + 1, t - 7, none⟩ = some (.int .u32 x7) ∧ w'.cell? ⟨w.heap.size + 1 + 1, t - 16, none⟩ = some (.int .u32 x16)) (by kernel_rfl) ⟨c7, c16⟩ ?_
          intro hS
          refine wpAnyH_takeD 0 (some 70) ?_ rfl rfl (by kernel_rfl) (by kernel_rfl) (by kernel_rfl) (fun _ _ _ h => h) (Or.inl ⟨by rfl, ?_⟩) hS ?_
          rotate_left
          · rintro w' ⟨s1, s2⟩; go_simp; try with_reducible rfl
          simp only [Act.put, List.setIfInBounds_toArray, List.set_cons_zero, List.set_cons_succ]
          refine wpAnyH_takeD 1 (some 71) ?_ rfl rfl (by kernel_rfl) (by kernel_rfl) (by kernel_rfl) (fun _ _ _ h => h) (Or.inl ⟨by rfl, ?_⟩) hS ?_
          rotate_left
          · rintro w' ⟨s1, s2⟩; go_simp; try with_reducible rfl
          simp only [Act.put, List.setIfInBounds_toArray, List.set_cons_zero, List.set_cons_succ]
          refine wpAnyH_takeD 3 (some 73) ?_ rfl rfl (by kernel_rfl) (by kernel_rfl) (by kernel_rfl) (fun _ _ _ h => h) (Or.inl ⟨by rfl, ?_⟩) hS ?_
          rotate_left
          · rintro w' ⟨s1, s2⟩; go_simp; try with_reducible rfl
          simp only [Act.put, List.setIfInBounds_toArray, List.set_cons_zero, List.set_cons_succ]
          refine wpAnyH_takeD 6 (some 76) ?_ rfl rfl (by kernel_rfl) (by kernel_rfl) (by kernel_rfl) (fun _ _ _ h => h) (Or.inl ⟨by rfl, ?_⟩) hS ?_
          rotate_left
          · rintro w' ⟨s1, s2⟩; go_simp; try with_reducible rfl
          simp only [Act.put, List.setIfInBounds_toArray, List.set_cons_zero, List.set_cons_succ]
          refine wpAnyH_takeD 7 (some 77) ?_ rfl rfl (by kernel_rfl) (by kernel_rfl) (by kernel_rfl) (fun _ _ _ h => h) (Or.inl ⟨by rfl, ?_⟩) hS ?_
          rotate_left
          · rintro w' ⟨s1, s2⟩; go_simp; try with_reducible rfl
          simp only [Act.put, List.setIfInBounds_toArray, List.set_cons_zero, List.set_cons_succ]
          refine wpAnyH_takeD 9 (some 79) ?_ rfl rfl (by kernel_rfl) (by kernel_rfl) (by kernel_rfl) (fun _ _ _ h => h) (Or.inl ⟨by rfl, ?_⟩) hS ?_
          rotate_left
          · rintro w' ⟨s1, s2⟩; go_simp; try with_reducible rfl
          simp only [Act.put, List.setIfInBounds_toArray, List.set_cons_zero, List.set_cons_succ]
          refine wpAnyH_takeD 10 (some 80) ?_ rfl rfl (by kernel_rfl) (by kernel_rfl) (by kernel_rfl) (fun _ _ _ h => h) (Or.inl ⟨by rfl, ?_⟩) hS ?_
          rotate_left
          · rintro w' ⟨s1, s2⟩; go_simp; try with_reducible rfl
          simp only [Act.put, List.setIfInBounds_toArray, List.set_cons_zero, List.set_cons_succ]
          refine wpAnyH_takeD 11 (some 81) ?_ rfl rfl (by kernel_rfl) (by kernel_rfl) (by kernel_rfl) (fun _ _ _ h => h) (Or.inl ⟨by rfl, ?_⟩) hS ?_
          rotate_left
          · rintro w' ⟨s1, s2⟩; go_simp; try with_reducible rfl
          simp only [Act.put, List.setIfInBounds_toArray, List.set_cons_zero, List.set_cons_succ]
          refine wpAnyH_takeD 12 (some 82) ?_ rfl rfl (by kernel_rfl) (by kernel_rfl) (by kernel_rfl) (fun _ _ _ h => h) (Or.inl ⟨by rfl, ?_⟩) hS ?_
          rotate_left
          · rintro w' ⟨s1, s2⟩; go_simp; try with_reducible rfl
          simp only [Act.put, List.setIfInBounds_toArray, List.set_cons_zero, List.set_cons_succ]
          refine wpAnyH_takeD 14 (some 84) ?_ rfl rfl (by kernel_rfl) (by kernel_rfl) (by kernel_rfl) (fun _ _ _ h => h) (Or.inl ⟨by rfl, ?_⟩) hS ?_
          rotate_left
          · rintro w' ⟨s1, s2⟩; go_simp; try with_reducible rfl
          simp only [Act.put, List.setIfInBounds_toArray, List.set_cons_zero, List.set_cons_succ]
          refine wpAnyH_takeD 16 (some 86) ?_ rfl rfl (by kernel_rfl) (by kernel_rfl) (by kernel_rfl) (fun _ _ _ h => h) (Or.inl ⟨by rfl, ?_⟩) hS ?_
          rotate_left
          · rintro w' ⟨s1, s2⟩; go_simp; try with_reducible rfl
          simp only [Act.put, List.setIfInBounds_toArray, List.set_cons_zero, List.set_cons_succ]
          refine wpAnyH_takeD 19 (some 89) ?_ rfl rfl (by kernel_rfl) (by kernel_rfl) (by kernel_rfl) (fun _ _ _ h => h) (Or.inl ⟨by rfl, ?_⟩) hS ?_
          rotate_left
          · rintro w' ⟨s1, s2⟩; go_simp; try with_reducible rfl
          simp only [Act.put, List.setIfInBounds_toArray, List.set_cons_zero, List.set_cons_succ]
          refine wpAnyH_takeD 20 (some 90) ?_ rfl rfl (by kernel_rfl) (by kernel_rfl) (by kernel_rfl) (fun _ _ _ h => h) (Or.inl ⟨by rfl, ?_⟩) hS ?_
          rotate_left
          · rintro w' ⟨s1, s2⟩; go_simp; try with_reducible rfl
          simp only [Act.put, List.setIfInBounds_toArray, List.set_cons_zero, List.set_cons_succ]
          refine wpAnyH_takeD 23 (some 93) ?_ rfl rfl (by kernel_rfl) (by kernel_rfl) (by kernel_rfl) (fun _ _ _ h => h) (Or.inl ⟨by rfl, ?_⟩) hS ?_
          rotate_left
          · rintro w' ⟨s1, s2⟩; go_simp; try with_reducible rfl
          simp only [Act.put, List.setIfInBounds_toArray, List.set_cons_zero, List.set_cons_succ]
          refine wpAnyH_takeD 24 (some 94) ?_ rfl rfl (by kernel_rfl) (by kernel_rfl) (by kernel_rfl) (fun _ _ _ h => h) (Or.inl ⟨by rfl, ?_⟩) hS ?_
          rotate_left
          · rintro w' ⟨s1, s2⟩; go_simp; try with_reducible rfl
          simp only [Act.put, List.setIfInBounds_toArray, List.set_cons_zero, List.set_cons_succ]
          refine wpAnyH_takeD 25 (some 95) ?_ rfl rfl (by kernel_rfl) (by kernel_rfl) (by kernel_rfl) (fun _ _ _ h => h) (Or.inl ⟨by rfl, ?_⟩) hS ?_
          rotate_left
          · rintro w' ⟨s1, s2⟩; go_simp; try with_reducible rfl
          simp only [Act.put, List.setIfInBounds_toArray, List.set_cons_zero, List.set_cons_succ]
          refine wpAnyH_takeD 26 (some 96) ?_ rfl rfl (by kernel_rfl) (by kernel_rfl) (by kernel_rfl) (fun _ _ _ h => h) (Or.inl ⟨by rfl, ?_⟩) hS ?_
          rotate_left
          · rintro w' ⟨s1, s2⟩; go_simp; try with_reducible rfl
          simp only [Act.put, List.setIfInBounds_toArray, List.set_cons_zero, List.set_cons_succ]
          refine wpAnyH_ready (rs := [2]) (by kernel_rfl) (by simp) ?_
          refine AllReadyH.cons rfl (fun K hK => ?_) AllReadyH.nil
          simp only [List.getElem_toArray, List.getElem_cons_succ, List.getElem_cons_zero]
          go_simp
          refine (right_any _ _ _ (by decide) (by decide)).mono ?_
          rintro e w' ⟨rfl, m1, rfl⟩
          refine hK.out _ _ ⟨c7, c16⟩ (fun hS => ?_)
          clear hK K
          refine wpAnyH_ready (rs := [4]) (by kernel_rfl) (by simp) ?_
          refine AllReadyH.cons rfl (fun K hK => ?_) AllReadyH.nil
          simp only [List.getElem_toArray, List.getElem_cons_succ, List.getElem_cons_zero]
          go_simp
          refine (right_any _ _ _ (by decide) (by decide)).mono ?_
          rintro e w' ⟨rfl, m2, rfl⟩
          refine hK.out _ _ ⟨c7, c16⟩ (fun hS => ?_)
          clear hK K
          refine wpAnyH_takeD 5 (some 75) ?_ rfl rfl (by kernel_rfl) (by kernel_rfl) (by kernel_rfl) (fun _ _ _ h => h) (Or.inl ⟨by rfl, ?_⟩) hS ?_
          rotate_left
          · rintro w' ⟨s1, s2⟩; go_simp; try with_reducible rfl
          simp only [Act.put, List.setIfInBounds_toArray, List.set_cons_zero, List.set_cons_succ]
          refine wpAnyH_takeD 8 (some 78) ?_ rfl rfl (by kernel_rfl) (by kernel_rfl) (by kernel_rfl) (fun _ _ _ h => h) (Or.inl ⟨by rfl, ?_⟩) hS ?_
          rotate_left
          · rintro w' ⟨s1, s2⟩; go_simp; try with_reducible rfl
          simp only [Act.put, List.setIfInBounds_toArray, List.set_cons_zero, List.set_cons_succ]
          refine wpAnyH_takeD 13 (some 83) ?_ rfl rfl (by kernel_rfl) (by kernel_rfl) (by kernel_rfl) (fun _ _ _ h => h) (Or.inl ⟨by rfl, ?_⟩) hS ?_
          rotate_left
          · rintro w' ⟨s1, s2⟩; go_simp; try with_reducible rfl
          simp only [Act.put, List.setIfInBounds_toArray, List.set_cons_zero, List.set_cons_succ]
          refine wpAnyH_ready (rs := [15]) (by kernel_rfl) (by simp) ?_
          refine AllReadyH.cons rfl (fun K hK => ?_) AllReadyH.nil
          simp only [List.getElem_toArray, List.getElem_cons_succ, List.getElem_cons_zero]
          go_simp
          refine (right_any _ _ _ (by decide) (by decide)).mono ?_
          rintro e w' ⟨rfl, m3, rfl⟩
          refine hK.out _ _ ⟨c7, c16⟩ (fun hS => ?_)
          clear hK K
          refine wpAnyH_ready (rs := [17]) (by kernel_rfl) (by simp) ?_
          refine AllReadyH.cons rfl (fun K hK => ?_) AllReadyH.nil
          simp only [List.getElem_toArray, List.getElem_cons_succ, List.getElem_cons_zero]
          go_simp
          refine (right_any _ _ _ (by decide) (by decide)).mono ?_
          rintro e w' ⟨rfl, m4, rfl⟩
          refine hK.out _ _ ⟨c7, c16⟩ (fun hS => ?_)
          clear hK K
          refine wpAnyH_takeD 18 (some 88) ?_ rfl rfl (by kernel_rfl) (by kernel_rfl) (by kernel_rfl) (fun _ _ _ h => h) (Or.inl ⟨by rfl, ?_⟩) hS ?_
          rotate_left
          · rintro w' ⟨s1, s2⟩; go_simp; try with_reducible rfl
          simp only [Act.put, List.setIfInBounds_toArray, List.set_cons_zero, List.set_cons_succ]
          refine wpAnyH_takeD 21 (some 91) ?_ rfl rfl (by kernel_rfl) (by kernel_rfl) (by kernel_rfl) (fun _ _ _ h => h) (Or.inl ⟨by rfl, ?_⟩) hS ?_
          rotate_left
          · rintro w' ⟨s1, s2⟩; go_simp; try with_reducible rfl
          simp only [Act.put, List.setIfInBounds_toArray, List.set_cons_zero, List.set_cons_succ]
          refine wpAnyH_takeD 22 (some 92) ?_ rfl rfl (by kernel_rfl) (by kernel_rfl) (by kernel_rfl) (fun _ _ _ h => h) (Or.inl ⟨by rfl, ?_⟩) hS ?_
          rotate_left
          · rintro w' ⟨s1, s2⟩; go_simp; try with_reducible rfl
          simp only [Act.put, List.setIfInBounds_toArray, List.set_cons_zero, List.set_cons_succ]
          refine wpAnyH_takeD 27 (some 97) ?_ rfl rfl (by kernel_rfl) (by kernel_rfl) (by kernel_rfl) (fun _ _ _ h => h) (Or.inl ⟨by rfl, ?_⟩) hS ?_
          rotate_left
          · rintro w' ⟨s1, s2⟩; go_simp; try with_reducible rfl
          simp only [Act.put, List.setIfInBounds_toArray, List.set_cons_zero, List.set_cons_succ]
          refine wpAnyH_takeD 28 (some 98) ?_ rfl rfl (by kernel_rfl) (by kernel_rfl) (by kernel_rfl) (fun _ _ _ h => h) (Or.inl ⟨by rfl, ?_⟩) hS ?_
          rotate_left
          · rintro w' ⟨s1, s2⟩; go_simp; try with_reducible rfl
          simp only [Act.put, List.setIfInBounds_toArray, List.set_cons_zero, List.set_cons_succ]
          refine wpAnyH_ready (rs := [29]) (by kernel_rfl) (by simp) ?_
          refine AllReadyH.cons rfl (fun K hK => ?_) AllReadyH.nil
          simp only [List.getElem_toArray, List.getElem_cons_succ, List.getElem_cons_zero]
          go_simp
          refine hK.out _ _ ⟨by rw [World.cell?_setCell_other _ _ _ _ (by intro e; have h := congrArg Addr.off e; dsimp only at h; omega)]; exact c7, by rw [World.cell?_setCell_other _ _ _ _ (by intro e; have h := congrArg Addr.off e; dsimp only at h; omega)]; exact c16⟩ (fun hS => ?_)
          clear hK K hS
          refine wpAnyH_done (by kernel_rfl) ?_ _
          go_wp2
          go_roundw
          case rel =>
            refine ⟨t + 1, by omega, by omega, by go_num, ?_⟩
            refine ((unhide HI2).drewN _).put hkb hbb t (by rw [unhide HL]; exact htl) _ ?_
            have e := fill_set (spr p t) 64 (nextW (spr p t) t) (by rw [spr_len]; exact htl)
            rw [spr_len] at e
            rw [spr, if_neg (by omega), ← e, unhide HN]
            rfl
          case measure => simp [intOf]; omega
        · have e64 : t = 64 := by omega
          rw [e64] at hI
          simp only [Nat.sub_self, List.replicate_zero, List.append_nil] at hI
          have HI := hide hI
          have HZ := hide hI.2.2.2.2.2.2
          obtain ⟨⟨k0, k1, k2, k3, k4, k5, k6, k7⟩, _⟩ := valsR_at hI.1
          clear hI e64
          go_wp2
          clear k0 k1 k2 k3 k4 k5 k6 k7
          obtain ⟨m, hm⟩ : ∃ m, m = wr.heap.size := ⟨_, rfl⟩
          have HL0 := hide ((unhide HI).letters s hkb hbb)
          rw [← hm] at HL0
          rw [← hm]
          clear hm HI HZ ht1 ht2 htl
          go_loopw [13] (fun i wq => ∃ t : Nat, t ≤ 64 ∧ i = .int .i64 t ∧ ∃ x : H8, x = rnds s kWords (spr p 64) t ∧ LtInv w kb bb off s.vals p m x.vals wq) (fun i _ => 64 - (intOf i).toNat)
          case atStart => exact ⟨0, by omega, rfl, s, rfl, unhide HL0⟩
          case round =>
            clear HL0
            obtain ⟨t, ht, rfl, x, hx, hI⟩ := hrel
            by_cases htl : t < 64
            · have ck := hI.1.2.2.2.1 t htl
              have cs := hI.1.2.2.1.get0 t (by rw [spr_len]; exact htl)
              obtain ⟨kt, hkt⟩ : ∃ z, z = kWords.getD t 0 := ⟨_, rfl⟩
              obtain ⟨st, hst⟩ : ∃ z, z = (spr p 64).getD t 0 := ⟨_, rfl⟩
              rw [← hkt] at ck
              rw [← hst] at cs
              have hr : rnds s kWords (spr p 64) (t + 1) = rnd x kt st := by rw [rnds, ← hx, hkt, hst]
              have HR := hide hr
              have HI := hide hI
              obtain ⟨⟨l0, l1, l2, l3, l4, l5, l6, l7⟩, f0, f1, f2, f3, f4, f5, f6, f7⟩ := valsR_at hI.2.1
              clear hr hI hx hkt hst
              obtain ⟨xa, xb, xc, xd, xe, xf, xg, xh⟩ := x
              simp only at l0 l1 l2 l3 l4 l5 l6 l7
              go_wp2
              go_quiet ((go_at_call 113; exact Calls.quiet_of (right_any _ _ _ (by decide) (by decide))))
              have HI2 := hide ((unhide HI).drewN nq)
              clear HI l0 l1 l2 l3 l4 l5 l6 l7 f0 f1 f2 f3 f4 f5 f6 f7 ck cs
              generalize wr.drewN nq = wv at *
              obtain ⟨⟨l0, l1, l2, l3, l4, l5, l6, l7⟩, f0, f1, f2, f3, f4, f5, f6, f7⟩ := valsR_at (unhide HI2).2.1
              simp only at l0 l1 l2 l3 l4 l5 l6 l7
              go_wp2
              go_quiet ((go_at_call 113; exact Calls.quiet_of (right_any _ _ _ (by decide) (by decide))))
              have HI3 := hide ((unhide HI2).drewN nq)
              clear HI2 l0 l1 l2 l3 l4 l5 l6 l7 f0 f1 f2 f3 f4 f5 f6 f7
              generalize wv.drewN nq = wy at *
              obtain ⟨⟨l0, l1, l2, l3, l4, l5, l6, l7⟩, f0, f1, f2, f3, f4, f5, f6, f7⟩ := valsR_at (unhide HI3).2.1
              simp only at l0 l1 l2 l3 l4 l5 l6 l7
              go_wp2
              go_roundw
              case rel =>
                refine ⟨t + 1, by omega, by go_num, _, ?_, (unhide HI3).put8 hkb hbb _ _ _ _ _ _ _ _⟩
                rw [unhide HR]
                unfold rnd
                congr 1
                · simp only [bigS1, bigS0, chv, majv, xr, nd, ad, max_u32']; omega
                · simp only [bigS1, chv, xr, nd, ad, max_u32']; omega
              case measure => simp [intOf]; omega
            · have e64 : t = 64 := by omega
              have HI := hide hI
              have HX := hide (show x = rnds s kWords (spr p 64) 64 by rw [hx, e64])
              clear hI hx e64
              go_wp2
              go_loopw [18] (fun i wq => ∃ j : Nat, j ≤ 8 ∧ i = .int .i64 j ∧ LtInv w kb bb off ((List.zipWith ad s.vals x.vals).take j ++ s.vals.drop j) p m x.vals wq) (fun i _ => 8 - (intOf i).toNat)
              case atStart => exact ⟨0, by omega, rfl, by simpa using unhide HI⟩
              case round =>
                clear HI
                obtain ⟨j, hj, rfl, hM⟩ := hrel
                by_cases hjl : j < 8
                · have hlz : (List.zipWith ad s.vals x.vals).length = 8 := by simp [H8.vals]
                  have hls : s.vals.length = 8 := by simp [H8.vals]
                  have hlx : x.vals.length = 8 := by simp [H8.vals]
                  have hll : ((List.zipWith ad s.vals x.vals).take j ++ s.vals.drop j).length = 8 := by simp [hls, hlx]; omega
                  have c1 := hM.1.1.get0 j (by omega)
                  have f1 := hM.1.1.free0 j (by omega)
                  have c2 := hM.2.1.get0 j (by omega)
                  rw [getD_take_drop _ _ _ (by omega)] at c1
                  have hz : (List.zipWith ad s.vals x.vals).getD j 0 = ad (s.vals.getD j 0) (x.vals.getD j 0) := by
                    simp [hls, hlx, hjl]
                  have HE := hide (take_set (List.zipWith ad s.vals x.vals) s.vals j _ (by omega) (by omega) rfl)
                  rw [hz] at HE
                  obtain ⟨y1, h1⟩ : ∃ z, z = s.vals.getD j 0 := ⟨_, rfl⟩
                  obtain ⟨y2, h2⟩ : ∃ z, z = x.vals.getD j 0 := ⟨_, rfl⟩
                  rw [← h1] at c1
                  rw [← h2] at c2
                  rw [← h1, ← h2] at HE
                  have HM := hide hM
                  have HL := hide hll
                  clear hM hz h1 h2 hlz hls hlx hll
                  go_wp2
                  go_region
                  go_wp2
                  go_roundw
                  case rel => exact ⟨j + 1, by omega, by go_num, ((unhide HM).putW hkb hbb j (by rw [unhide HL]; exact hjl) _ (unhide HE)).drewN 1⟩
                  case measure => simp [intOf]; omega
                · have e8 : j = 8 := by omega
                  rw [e8] at hM
                  have hfin : (List.zipWith ad s.vals x.vals).take 8 ++ s.vals.drop 8 = (comp s p).vals := by
                    rw [comp, ← unhide HX, add8_vals]; simp [H8.vals]
                  rw [hfin] at hM
                  clear e8 hfin
                  have hr := hide hM.1.1.range
                  have ht := hide hM.1.2.1.there
                  have HB := hide hM.1.2.2.2.2.2.1
                  clear hM
                  go_wp2_with (first
                    | (refine wpList_load_mid rfl 152 (.tmp 3) rfl w.heap.size 0 rfl _ _ (unhide hr) Tryz.underlying152 rfl (by rw [size152]; simp [H8.vals]) ?_)
                    | (refine wpList_store_mid rfl 152 (.tmp 6) (.tmp 195) rfl (w.heap.size + 1) 0 _ rfl rfl (by simpa [H8.vals] using unhide ht) (by rw [size152]; simp [H8.vals]) (one_ints _ _) ?_))
                  have hld := run_loadVar_mid (P := Tryz.prog) _ (w.heap.size + 1) 0 152 _ _ (World.rangeAt_setCells_same wr (w.heap.size + 1) 0 ((comp s p).vals.map (Value.int .u32)) (by simpa [H8.vals] using unhide ht)) Tryz.underlying152 rfl (by rw [size152]; simp [H8.vals])
                  refine bodyPost_ret (v := .agg ((comp s p).vals.map (Value.int .u32)).toArray) ?_ rfl ⟨rfl, below_setCells (by omega) _ _ (unhide HB)⟩
                  exact results_cell rfl _ _ _ ⟨w.heap.size + 1, 0, none⟩ rfl _ hld
end Go.Proofs.YtifjmldmilmfjaaGreatDoor

namespace Go.Proofs.YtifjmldmilmfjaaGreatDoor
open Go.RowKit
theorem klen : kWords.length = 64 := by decide
set_option maxRecDepth 100000 in
set_option maxHeartbeats 400000 in
theorem ks_any (w : World) :
    Calls Tryz.prog 99 #[] w fun e w' => e = .returned (.agg (kWords.map (Value.int .u32)).toArray) ∧ Below w.heap.size w w' := by
  have HN := hide ((arr_new w .u32 (List.replicate 64 0) 154 _ rfl).there)
  go_enter Tryz.func99, Tryz.ntmps99
  go_wp2_with (refine wpList_store_to rfl 154 (.tmp 0) (.tmp 1) rfl w.heap.size 0 (kWords.map (Value.int .u32)).toArray rfl rfl (unhide HN) (by rw [size154]; simp [klen]) (one_ints _ _) ?_; intro W2 hW2; have HW2 := hide hW2; clear hW2)
  have hA : Arr W2 w.heap.size 0 .u32 kWords := by
    rw [unhide HW2]
    exact (arr_new w .u32 (List.replicate 64 0) 154 _ rfl).setCells kWords (by rw [klen]; simp)
  have hB : Below w.heap.size w W2 := by
    rw [unhide HW2]
    exact below_setCells (Nat.le_refl _) _ _ ((Below.refl _ _).alloc (Nat.le_refl _) _)
  have hld := run_loadVar_mid (P := Tryz.prog) W2 w.heap.size 0 154 _ _ hA.range Tryz.underlying154 rfl (by rw [size154, List.length_map, klen])
  refine bodyPost_ret (v := .agg (kWords.map (Value.int .u32)).toArray) ?_ rfl ⟨rfl, hB⟩
  exact results_cell rfl _ _ _ ⟨w.heap.size, 0, none⟩ rfl _ hld
end Go.Proofs.YtifjmldmilmfjaaGreatDoor

namespace Go.Proofs.YtifjmldmilmfjaaGreatDoor
open Go.RowKit
end Go.Proofs.YtifjmldmilmfjaaGreatDoor
