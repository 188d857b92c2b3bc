import Derived.Test.YtabgcgdpeikieaaDoorHxg
import Derived.StillTailTactics
import Derived.Deep.RegionHeld3
import Derived.Test.YtabgcgdpeikieaaDoorMix
import Derived.Test.YtabgcgdpeikieaaDoorBas
import Derived.ArgAppend
import Derived.Laws.IdiomStrings
import Derived.Test.YtabgcgdpeikieaaDoorSha
import Derived.Test.YtabgcgdpeikieaaDoorMac
import Derived.Test.YtabgcgdpeikieaaDoorDrv
namespace Go.Proofs.YtabgcgdpeikieaaDoor
open Go.RowKit
set_option maxHeartbeats 400000 in
theorem right_any (x n : Int) (w : World) (h0 : 0 ≤ n) (h1 : n ≤ 32) :
    Calls Tryd.prog 75 #[.int .u32 x, .int .i64 n] w fun e w' => e = .returned (.int .u32 (rotr x n)) ∧ ∃ m, w' = w.drewN m := by
  go_enter Tryd.func75, Tryd.ntmps75
  go_wp2
  go_quiet (fail)
  go_wp2
  go_ret
  exact ⟨rfl, _, rfl⟩
set_option maxRecDepth 100000 in
set_option maxHeartbeats 400000 in
theorem starts_any (w : World) :
    Calls Tryd.prog 71 #[] w fun e w' => e = .returned (.agg (start8.vals.map (Value.int .u32)).toArray) ∧ Below w.heap.size w w' := by
  go_enter Tryd.func71, Tryd.ntmps71
  go_wp2
  have hld := run_loadVar_mid (P := Tryd.prog) (w.alloc (Obj.cells (start8.vals.map (Value.int .u32)).toArray 100)) w.heap.size 0 100 _ _ (arr_new w .u32 start8.vals 100 _ rfl).range Tryd.underlying100 rfl (by rw [size100]; rfl)
  refine bodyPost_ret (v := .agg (start8.vals.map (Value.int .u32)).toArray) ?_ rfl ⟨rfl, (Below.refl _ _).alloc (Nat.le_refl _) _⟩
  exact results_cell rfl _ _ _ ⟨w.heap.size, 0, none⟩ rfl _ hld
end Go.Proofs.YtabgcgdpeikieaaDoor
namespace Go.Proofs.YtabgcgdpeikieaaDoor
open Go.RowKit
theorem or_add (A c k B : Nat) (hc : c = 2 ^ k) (h : B < c) : A * c ||| B = A * c + B := by
  subst hc
  have := Nat.shiftLeft_add_eq_or_of_lt h A
  rw [Nat.shiftLeft_eq] at this
  exact this.symm
theorem word_or (b0 b1 b2 b3 : Int) (h0 : 0 ≤ b0 ∧ b0 < 256) (h1 : 0 ≤ b1 ∧ b1 < 256) (h2 : 0 ≤ b2 ∧ b2 < 256) (h3 : 0 ≤ b3 ∧ b3 < 256) :
    bits .or .u32 (bits .or .u32 (bits .or .u32 (b0 * 16777216) (b1 * 65536)) (b2 * 256)) b3 = ((b0 * 256 + b1) * 256 + b2) * 256 + b3 := by
  obtain ⟨A, rfl⟩ := Int.eq_ofNat_of_zero_le h0.1
  obtain ⟨B, rfl⟩ := Int.eq_ofNat_of_zero_le h1.1
  obtain ⟨C, rfl⟩ := Int.eq_ofNat_of_zero_le h2.1
  obtain ⟨D, rfl⟩ := Int.eq_ofNat_of_zero_le h3.1
  have e1 : ((A : Int) * 16777216) = ((A * 16777216 : Nat) : Int) := by omega
  have e2 : ((B : Int) * 65536) = ((B * 65536 : Nat) : Int) := by omega
  have e3 : ((C : Int) * 256) = ((C * 256 : Nat) : Int) := by omega
  have o1 : A * 16777216 ||| B * 65536 = A * 16777216 + B * 65536 := or_add A 16777216 24 (B * 65536) (by decide) (by omega)
  have o2 : (A * 16777216 + B * 65536) ||| C * 256 = A * 16777216 + B * 65536 + C * 256 := by
    have := or_add (A * 256 + B) 65536 16 (C * 256) (by decide) (by omega)
    rw [show (A * 256 + B) * 65536 = A * 16777216 + B * 65536 by omega] at this
    exact this
  have o3 : (A * 16777216 + B * 65536 + C * 256) ||| D = A * 16777216 + B * 65536 + C * 256 + D := by
    have := or_add (A * 65536 + B * 256 + C) 256 8 D (by decide) (by omega)
    rw [show (A * 65536 + B * 256 + C) * 256 = A * 16777216 + B * 65536 + C * 256 by omega] at this
    exact this
  rw [e1, e2, e3, u32_or_nat _ _ (by omega) (by omega), o1, u32_or_nat _ _ (by omega) (by omega), o2, u32_or_nat _ _ (by omega) (by omega), o3]
  omega
/-- Blocks: n words, n+1 the result, n+2 the spread words; elsewhere the table and the piece. -/
def PcInv (w : World) (kb bb off : Nat) (s p l : List Int) (wr : World) : Prop :=
  Arr wr w.heap.size 0 .u32 s ∧ Arr wr (w.heap.size + 1) 0 .u32 (List.replicate 8 0) ∧ Arr wr (w.heap.size + 1 + 1) 0 .u32 l ∧ (∀ j, j < 64 → wr.cell? ⟨kb, j, none⟩ = some (.int .u32 (kWords.getD j 0))) ∧
  (∀ j, j < 64 → wr.cell? ⟨bb, off + j, none⟩ = some (.int .u8 (p.getD j 0))) ∧ Below w.heap.size w wr ∧ w.heap.size + 1 + 1 < wr.heap.size
theorem PcInv.put {w : World} {kb bb off : Nat} {s p l l' : List Int} {wr : World} (h : PcInv w kb bb off s p l wr) (hkb : kb < w.heap.size) (hbb : bb < w.heap.size) (t : Nat) (ht : t < l.length) (v : Int) (e : l.set t v = l') :
    PcInv w kb bb off s p l' (wr.setCell ⟨w.heap.size + 1 + 1, t, none⟩ (.int .u32 v)) := by
  subst e
  obtain ⟨h1, h2, h3, h4, h5, h6, h7⟩ := h
  refine ⟨h1.other _ _ (.inl (by simp; omega)), h2.other _ _ (.inl (by simp)), h3.set0 t ht v, fun j hj => ?_, fun j hj => ?_, h6.setCell (by simp; omega) _, by simpa using h7⟩
  · rw [World.cell?_setCell_other _ _ _ _ (by intro e; have h := congrArg Addr.block e; dsimp only at h; omega)]; exact h4 j hj
  · rw [World.cell?_setCell_other _ _ _ _ (by intro e; have h := congrArg Addr.block e; dsimp only at h; omega)]; exact h5 j hj
theorem PcInv.drewN {w : World} {kb bb off : Nat} {s p l : List Int} {wr : World} (h : PcInv w kb bb off s p l wr) (n : Nat) : PcInv w kb bb off s p l (wr.drewN n) :=
  ⟨h.1, h.2.1, h.2.2.1, h.2.2.2.1, h.2.2.2.2.1, below_drewN h.2.2.2.2.2.1 n, h.2.2.2.2.2.2⟩
theorem PcInv.drew {w : World} {kb bb off : Nat} {s p l : List Int} {wr : World} (h : PcInv w kb bb off s p l wr) : PcInv w kb bb off s p l wr.drew :=
  ⟨h.1, h.2.1, h.2.2.1, h.2.2.2.1, h.2.2.2.2.1, h.2.2.2.2.2.1.drew, h.2.2.2.2.2.2⟩
theorem PcInv.start (w : World) (kb bb off : Nat) (s p : List Int) (hkb : kb < w.heap.size) (hbb : bb < w.heap.size) (hk : ∀ j, j < 64 → w.cell? ⟨kb, j, none⟩ = some (.int .u32 (kWords.getD j 0))) (hp : ∀ j, j < 64 → w.cell? ⟨bb, off + j, none⟩ = some (.int .u8 (p.getD j 0)))
    (c8 c64 : Array Value) (h8 : c8 = ((List.replicate 8 (0 : Int)).map (Value.int .u32)).toArray) (h64 : c64 = ((List.replicate 64 (0 : Int)).map (Value.int .u32)).toArray) :
    PcInv w kb bb off s p (List.replicate 64 0) (((w.alloc (Obj.cells (s.map (Value.int .u32)).toArray 100)).alloc (Obj.cells c8 100)).alloc (Obj.cells c64 117)) := by
  have hb : Below w.heap.size w (((w.alloc (Obj.cells (s.map (Value.int .u32)).toArray 100)).alloc (Obj.cells c8 100)).alloc (Obj.cells c64 117)) := (((Below.refl _ _).alloc (Nat.le_refl _) _).alloc (by simp) _).alloc (by simp; omega) _
  refine ⟨((arr_new w .u32 s 100 _ rfl).alloc (by simp) _).alloc (by simp; omega) _, ?_, ?_, fun j hj => ?_, fun j hj => ?_, hb, by simp⟩
  · have := (arr_new (w.alloc (Obj.cells (s.map (Value.int .u32)).toArray 100)) .u32 (List.replicate 8 0) 100 c8 h8).alloc (by simp) (Obj.cells c64 117)
    simpa using this
  · have := arr_new ((w.alloc (Obj.cells (s.map (Value.int .u32)).toArray 100)).alloc (Obj.cells c8 100)) .u32 (List.replicate 64 0) 117 c64 h64
    simpa using this
  · rw [hb.cell (p := ⟨kb, j, none⟩) hkb]; exact hk j hj
  · rw [hb.cell (p := ⟨bb, off + j, none⟩) hbb]; exact hp j hj
theorem valsR_at {w : World} {b : Nat} {s : H8} (h : Arr w b 0 .u32 s.vals) : (w.cell? ⟨b, 0, none⟩ = some (.int .u32 s.a) ∧ w.cell? ⟨b, 1, none⟩ = some (.int .u32 s.b) ∧ w.cell? ⟨b, 2, none⟩ = some (.int .u32 s.c) ∧ w.cell? ⟨b, 3, none⟩ = some (.int .u32 s.d) ∧ w.cell? ⟨b, 4, none⟩ = some (.int .u32 s.e) ∧ w.cell? ⟨b, 5, none⟩ = some (.int .u32 s.f) ∧ w.cell? ⟨b, 6, none⟩ = some (.int .u32 s.g) ∧ w.cell? ⟨b, 7, none⟩ = some (.int .u32 s.h)) ∧
    w.frozen? ⟨b, 0, none⟩ = false ∧ w.frozen? ⟨b, 1, none⟩ = false ∧ w.frozen? ⟨b, 2, none⟩ = false ∧ w.frozen? ⟨b, 3, none⟩ = false ∧ w.frozen? ⟨b, 4, none⟩ = false ∧ w.frozen? ⟨b, 5, none⟩ = false ∧ w.frozen? ⟨b, 6, none⟩ = false ∧ w.frozen? ⟨b, 7, none⟩ = false :=
  ⟨⟨h.get0 0 (by simp [H8.vals]), h.get0 1 (by simp [H8.vals]), h.get0 2 (by simp [H8.vals]), h.get0 3 (by simp [H8.vals]), h.get0 4 (by simp [H8.vals]), h.get0 5 (by simp [H8.vals]), h.get0 6 (by simp [H8.vals]), h.get0 7 (by simp [H8.vals])⟩,
   h.free0 0 (by simp [H8.vals]), h.free0 1 (by simp [H8.vals]), h.free0 2 (by simp [H8.vals]), h.free0 3 (by simp [H8.vals]), h.free0 4 (by simp [H8.vals]), h.free0 5 (by simp [H8.vals]), h.free0 6 (by simp [H8.vals]), h.free0 7 (by simp [H8.vals])⟩
def LtInv (w : World) (kb bb off : Nat) (s p : List Int) (m : Nat) (x : List Int) (wr : World) : Prop :=
  PcInv w kb bb off s p (spr p 64) wr ∧ Arr wr m 0 .u32 x ∧ w.heap.size + 1 + 1 < m ∧ m < wr.heap.size
theorem PcInv.alloc {w : World} {kb bb off : Nat} {s p l : List Int} {wr : World} (h : PcInv w kb bb off s p l wr) (hkb : kb < w.heap.size) (hbb : bb < w.heap.size) (o : Obj) : PcInv w kb bb off s p l (wr.alloc o) := by
  obtain ⟨h1, h2, h3, h4, h5, h6, h7⟩ := h
  refine ⟨h1.alloc (by omega) _, h2.alloc (by omega) _, h3.alloc h7 _, fun j hj => ?_, fun j hj => ?_, h6.alloc (by omega) _, by simp; omega⟩
  · rw [World.cell?_alloc_past (hn := by omega)]; exact h4 j hj
  · rw [World.cell?_alloc_past (hn := by omega)]; exact h5 j hj
theorem PcInv.letters {w : World} {kb bb off : Nat} {p : List Int} {wr : World} (s : H8) (h : PcInv w kb bb off s.vals p (spr p 64) wr) (hkb : kb < w.heap.size) (hbb : bb < w.heap.size) :
    LtInv w kb bb off s.vals p wr.heap.size s.vals (wr.alloc (Obj.cells #[.int .u32 s.a, .int .u32 s.b, .int .u32 s.c, .int .u32 s.d, .int .u32 s.e, .int .u32 s.f, .int .u32 s.g, .int .u32 s.h] 100)) :=
  ⟨h.alloc hkb hbb _, arr_new wr .u32 s.vals 100 _ rfl, h.2.2.2.2.2.2, by simp⟩
theorem max_u32' : (IntKind.u32.max : Int) = 4294967295 := by decide
theorem PcInv.setCells {w : World} {kb bb off m : Nat} {s p l : List Int} {wr : World} (h : PcInv w kb bb off s p l wr) (hkb : kb < w.heap.size) (hbb : bb < w.heap.size) (hm : w.heap.size + 1 + 1 < m) (vs : List Value) : PcInv w kb bb off s p l (wr.setCells m 0 vs) := by
  obtain ⟨h1, h2, h3, h4, h5, h6, h7⟩ := h
  refine ⟨h1.setCells_apart _ _ _ (.inl (by omega)), h2.setCells_apart _ _ _ (.inl (by omega)), h3.setCells_apart _ _ _ (.inl (by omega)), fun j hj => ?_, fun j hj => ?_, below_setCells (by omega) _ _ h6, by rw [size_setCells]; exact h7⟩
  · rw [World.cell?_setCells_out m vs 0 wr ⟨kb, j, none⟩ (by intro e _; dsimp only at e; omega)]; exact h4 j hj
  · rw [World.cell?_setCells_out m vs 0 wr ⟨bb, off + j, none⟩ (by intro e _; dsimp only at e; omega)]; exact h5 j hj
theorem LtInv.put8 {w : World} {kb bb off m : Nat} {s p : List Int} {x : H8} {wr : World} (h : LtInv w kb bb off s p m x.vals wr) (hkb : kb < w.heap.size) (hbb : bb < w.heap.size) (a b c d e f g i : Int) :
    LtInv w kb bb off s p m (H8.mk a b c d e f g i).vals ((((((((wr.setCell ⟨m, 0, none⟩ (.int .u32 a)).setCell ⟨m, 1, none⟩ (.int .u32 b)).setCell ⟨m, 2, none⟩ (.int .u32 c)).setCell ⟨m, 3, none⟩ (.int .u32 d)).setCell ⟨m, 4, none⟩ (.int .u32 e)).setCell ⟨m, 5, none⟩ (.int .u32 f)).setCell ⟨m, 6, none⟩ (.int .u32 g)).setCell ⟨m, 7, none⟩ (.int .u32 i)) := by
  have h1 : LtInv w kb bb off s p m (H8.mk a b c d e f g i).vals (wr.setCells m 0 ((H8.mk a b c d e f g i).vals.map (Value.int .u32))) :=
    ⟨h.1.setCells hkb hbb h.2.2.1 _, h.2.1.setCells _ (by simp [H8.vals]), h.2.2.1, by rw [size_setCells]; exact h.2.2.2⟩
  exact h1
theorem LtInv.putW {w : World} {kb bb off m : Nat} {s s' p x : List Int} {wr : World} (h : LtInv w kb bb off s p m x wr) (hkb : kb < w.heap.size) (hbb : bb < w.heap.size) (t : Nat) (ht : t < s.length) (v : Int) (e : s.set t v = s') :
    LtInv w kb bb off s' p m x (wr.setCell ⟨w.heap.size, t, none⟩ (.int .u32 v)) := by
  subst e
  obtain ⟨⟨h1, h2, h3, h4, h5, h6, h7⟩, hx, hm1, hm2⟩ := h
  refine ⟨⟨h1.set0 t ht v, h2.other _ _ (.inl (by simp)), h3.other _ _ (.inl (by simp; omega)), fun j hj => ?_, fun j hj => ?_, h6.setCell (by simp) _, by simpa using h7⟩, hx.other _ _ (.inl (by simp; omega)), hm1, by simpa using hm2⟩
  · rw [World.cell?_setCell_other _ _ _ _ (by intro e; have h := congrArg Addr.block e; dsimp only at h; omega)]; exact h4 j hj
  · rw [World.cell?_setCell_other _ _ _ _ (by intro e; have h := congrArg Addr.block e; dsimp only at h; omega)]; exact h5 j hj
theorem LtInv.drewN {w : World} {kb bb off m : Nat} {s p x : List Int} {wr : World} (h : LtInv w kb bb off s p m x wr) (n : Nat) : LtInv w kb bb off s p m x (wr.drewN n) := ⟨h.1.drewN n, h.2.1, h.2.2.1, h.2.2.2⟩
set_option maxRecDepth 100000 in
set_option maxHeartbeats 1000000 in
theorem piece_any (s : H8) (p : List Int) (_hp : p.length = 64) (hby : Bytes p) (kb bb off cap : Nat) (w : World) (hkb : kb < w.heap.size) (hbb : bb < w.heap.size) (hk : ∀ j, j < 64 → w.cell? ⟨kb, j, none⟩ = some (.int .u32 (kWords.getD j 0))) (hpc : ∀ j, j < 64 → w.cell? ⟨bb, off + j, none⟩ = some (.int .u8 (p.getD j 0))) :
    Calls Tryd.prog 74 #[.agg (s.vals.map (Value.int .u32)).toArray, .pointer (some ⟨kb, 0, none⟩), .slice (some ⟨bb, off, none⟩) 64 cap] w fun e w' => e = .returned (.agg ((comp s p).vals.map (Value.int .u32)).toArray) ∧ Below w.heap.size w w' := by
  have HS := hide (PcInv.start w kb bb off s.vals p hkb hbb hk hpc _ _ rfl rfl)
  have HBY := hide hby
  clear hk hpc hby
  go_enter Tryd.func74, Tryd.ntmps74
  go_wp2
  go_loopw [8] (fun i wr => ∃ t : Nat, t ≤ 16 ∧ i = .int .i64 t ∧ PcInv w kb bb off s.vals p (spr p t ++ List.replicate (64 - t) 0) wr) (fun i _ => 16 - (intOf i).toNat)
  case atStart => exact ⟨0, by omega, rfl, unhide HS⟩
  case round =>
    clear HS
    obtain ⟨t, ht, rfl, hI⟩ := hrel
    by_cases htl : t < 16
    · have hll : (spr p t ++ List.replicate (64 - t) (0 : Int)).length = 64 := by simp [spr_len]; omega
      have d0 := hI.2.2.2.2.1 (4 * t) (by omega)
      have d1 := hI.2.2.2.2.1 (4 * t + 1) (by omega)
      have d2 := hI.2.2.2.2.1 (4 * t + 2) (by omega)
      have d3 := hI.2.2.2.2.1 (4 * t + 3) (by omega)
      have g0 := unhide HBY (4 * t)
      have g1 := unhide HBY (4 * t + 1)
      have g2 := unhide HBY (4 * t + 2)
      have g3 := unhide HBY (4 * t + 3)
      have c1 := hI.2.2.1.get0 t (by omega)
      have f1 := hI.2.2.1.free0 t (by omega)
      have hw : word p t = ((p.getD (4 * t) 0 * 256 + p.getD (4 * t + 1) 0) * 256 + p.getD (4 * t + 2) 0) * 256 + p.getD (4 * t + 3) 0 := rfl
      obtain ⟨z, hz⟩ : ∃ z, z = (spr p t ++ List.replicate (64 - t) (0 : Int)).getD t 0 := ⟨_, rfl⟩
      rw [← hz] at c1
      generalize p.getD (4 * t) 0 = b0 at *
      generalize p.getD (4 * t + 1) 0 = b1 at *
      generalize p.getD (4 * t + 2) 0 = b2 at *
      generalize p.getD (4 * t + 3) 0 = b3 at *
      have HW := hide hw
      have HI := hide hI
      have HL := hide hll
      clear hz hw hI hll
      have m0 : IntKind.i64.wrap (4 * (t : Int)) = 4 * (t : Int) := by rw [IntKind.wrap_i64]; omega
      have m1 : IntKind.i64.wrap (4 * (t : Int) + 1) = 4 * (t : Int) + 1 := by rw [IntKind.wrap_i64]; omega
      have m2 : IntKind.i64.wrap (4 * (t : Int) + 2) = 4 * (t : Int) + 2 := by rw [IntKind.wrap_i64]; omega
      have m3 : IntKind.i64.wrap (4 * (t : Int) + 3) = 4 * (t : Int) + 3 := by rw [IntKind.wrap_i64]; omega
      have q0 : (4 * (t : Int)).toNat = 4 * t := by omega
      have q1 : (4 * (t : Int) + 1).toNat = 4 * t + 1 := by omega
      have q2 : (4 * (t : Int) + 2).toNat = 4 * t + 2 := by omega
      have q3 : (4 * (t : Int) + 3).toNat = 4 * t + 3 := by omega
      have i0 : 0 ≤ 4 * (t : Int) := by omega
      have i00 : 4 * (t : Int) < 64 := by omega
      have i1 : 0 ≤ 4 * (t : Int) + 1 := by omega
      have i11 : 4 * (t : Int) + 1 < 64 := by omega
      have i2 : 0 ≤ 4 * (t : Int) + 2 := by omega
      have i22 : 4 * (t : Int) + 2 < 64 := by omega
      have i3 : 0 ≤ 4 * (t : Int) + 3 := by omega
      have i33 : 4 * (t : Int) + 3 < 64 := by omega
      have u0 : IntKind.u32.wrap b0 = b0 := by rw [IntKind.wrap_u32']; omega
      have u1 : IntKind.u32.wrap b1 = b1 := by rw [IntKind.wrap_u32']; omega
      have u2 : IntKind.u32.wrap b2 = b2 := by rw [IntKind.wrap_u32']; omega
      have u3 : IntKind.u32.wrap b3 = b3 := by rw [IntKind.wrap_u32']; omega
      have v0 : IntKind.u32.wrap (b0 * 16777216) = b0 * 16777216 := by rw [IntKind.wrap_u32']; omega
      have v1 : IntKind.u32.wrap (b1 * 65536) = b1 * 65536 := by rw [IntKind.wrap_u32']; omega
      have v2 : IntKind.u32.wrap (b2 * 256) = b2 * 256 := by rw [IntKind.wrap_u32']; omega
      have HWO := hide (word_or b0 b1 b2 b3 g0 g1 g2 g3)
      go_wp2
      go_still_tail 34, (by kernel_rfl)
      clear m0 m1 m2 m3 q0 q1 q2 q3 i0 i00 i1 i11 i2 i22 i3 i33 u0 u1 u2 u3 v0 v1 v2 d0 d1 d2 d3
      change wpList _ _ _ _ _ wr.drew
      go_wp2
      go_roundw
      case rel =>
        refine ⟨t + 1, by omega, by go_num, ((unhide HI).put hkb hbb t (by rw [unhide HL]; omega) _ ?_).drew⟩
        have e := fill_set (spr p t) 64 (word p t) (by rw [spr_len]; omega)
        rw [spr_len] at e
        rw [spr, if_pos htl, ← e, unhide HW, unhide HWO]
      case measure => simp [intOf]; omega
    · have e16 : t = 16 := by omega
      rw [e16] at hI
      have HI := hide hI
      clear hI e16
      go_wp2
      go_loopw [9] (fun i wr => ∃ t : Nat, 16 ≤ t ∧ t ≤ 64 ∧ i = .int .i64 t ∧ PcInv w kb bb off s.vals p (spr p t ++ List.replicate (64 - t) 0) wr) (fun i _ => 64 - (intOf i).toNat)
      case atStart => exact ⟨16, by omega, by omega, rfl, unhide HI⟩
      case round =>
        clear HI ht htl
        obtain ⟨t, ht1, ht2, rfl, hI⟩ := hrel
        by_cases htl : t < 64
        · have gd : ∀ j, j < t → (spr p t ++ List.replicate (64 - t) 0).getD j 0 = (spr p t).getD j 0 := by
            intro j hj
            simp [List.getElem?_append, spr_len, hj]
          have hlen : (spr p t ++ List.replicate (64 - t) (0 : Int)).length = 64 := by simp [spr_len]; omega
          have c2 := hI.2.2.1.get0 (t - 2) (by omega)
          have c15 := hI.2.2.1.get0 (t - 15) (by omega)
          have c7 := hI.2.2.1.get0 (t - 7) (by omega)
          have c16 := hI.2.2.1.get0 (t - 16) (by omega)
          have c0 := hI.2.2.1.get0 t (by omega)
          have f0 := hI.2.2.1.free0 t (by omega)
          rw [gd _ (by omega)] at c2 c15 c7 c16
          obtain ⟨z, hz⟩ : ∃ z, z = (spr p t ++ List.replicate (64 - t) (0 : Int)).getD t 0 := ⟨_, rfl⟩
          rw [← hz] at c0
          clear hz
          obtain ⟨x2, h2⟩ : ∃ z, z = (spr p t).getD (t - 2) 0 := ⟨_, rfl⟩
          obtain ⟨x15, h15⟩ : ∃ z, z = (spr p t).getD (t - 15) 0 := ⟨_, rfl⟩
          obtain ⟨x7, h7⟩ : ∃ z, z = (spr p t).getD (t - 7) 0 := ⟨_, rfl⟩
          obtain ⟨x16, h16⟩ : ∃ z, z = (spr p t).getD (t - 16) 0 := ⟨_, rfl⟩
          rw [← h2] at c2
          rw [← h15] at c15
          rw [← h7] at c7
          rw [← h16] at c16
          have hn : nextW (spr p t) t = ad (ad (ad (sm1 x2) x7) (sm0 x15)) x16 := by rw [nextW, h2, h15, h7, h16]
          have HN := hide hn
          have HI2 := hide hI
          have HL := hide hlen
          clear hI hlen gd h2 h15 h7 h16 hn
          have e2 : ((t : Int) - 2).toNat = t - 2 := by omega
          have e15 : ((t : Int) - 15).toNat = t - 15 := by omega
          have e7 : ((t : Int) - 7).toNat = t - 7 := by omega
          have e16 : ((t : Int) - 16).toNat = t - 16 := by omega
          have y7 : IntKind.i64.wrap ((t : Int) - 7) = (t : Int) - 7 := by rw [IntKind.wrap_i64]; omega
          have y16 : IntKind.i64.wrap ((t : Int) - 16) = (t : Int) - 16 := by rw [IntKind.wrap_i64]; omega
          have b7 : (7 : Int) ≤ (t : Int) := by omega
          have b16 : (16 : Int) ≤ (t : Int) := by omega
          have a7 : 0 ≤ (t : Int) - 7 := by omega
          have a77 : (t : Int) - 7 < 64 := by omega
          have a16 : 0 ≤ (t : Int) - 16 := by omega
          have a166 : (t : Int) - 16 < 64 := by omega
          go_wp2
          clear c2 c15
          refine wp_region_held_drew (S := fun w' => w'.cell? ⟨w.heap.size + 1 + 1, t - 7, none⟩ = some (.int .u32 x7) ∧ w'.cell? ⟨w.heap.size + 1 + 1, t - 16, none⟩ = some (.int .u32 x16)) (by kernel_rfl) ⟨c7, c16⟩ ?_
          intro hS
          refine wpAnyH_takeD 0 (some 70) ?_ rfl rfl (by kernel_rfl) (by kernel_rfl) (by kernel_rfl) (fun _ _ _ h => h) (Or.inl ⟨by rfl, ?_⟩) hS ?_
          rotate_left
          · rintro w' ⟨s1, s2⟩; go_simp; try with_reducible rfl
          simp only [Act.put, List.setIfInBounds_toArray, List.set_cons_zero, List.set_cons_succ]
          refine wpAnyH_takeD 1 (some 71) ?_ rfl rfl (by kernel_rfl) (by kernel_rfl) (by kernel_rfl) (fun _ _ _ h => h) (Or.inl ⟨by rfl, ?_⟩) hS ?_
          rotate_left
          · rintro w' ⟨s1, s2⟩; go_simp; try with_reducible rfl
          simp only [Act.put, List.setIfInBounds_toArray, List.set_cons_zero, List.set_cons_succ]
          refine wpAnyH_takeD 3 (some 73) ?_ rfl rfl (by kernel_rfl) (by kernel_rfl) (by kernel_rfl) (fun _ _ _ h => h) (Or.inl ⟨by rfl, ?_⟩) hS ?_
          rotate_left
          · rintro w' ⟨s1, s2⟩; go_simp; try with_reducible rfl
          simp only [Act.put, List.setIfInBounds_toArray, List.set_cons_zero, List.set_cons_succ]
          refine wpAnyH_takeD 6 (some 76) ?_ rfl rfl (by kernel_rfl) (by kernel_rfl) (by kernel_rfl) (fun _ _ _ h => h) (Or.inl ⟨by rfl, ?_⟩) hS ?_
          rotate_left
          · rintro w' ⟨s1, s2⟩; go_simp; try with_reducible rfl
          simp only [Act.put, List.setIfInBounds_toArray, List.set_cons_zero, List.set_cons_succ]
          refine wpAnyH_takeD 7 (some 77) ?_ rfl rfl (by kernel_rfl) (by kernel_rfl) (by kernel_rfl) (fun _ _ _ h => h) (Or.inl ⟨by rfl, ?_⟩) hS ?_
          rotate_left
          · rintro w' ⟨s1, s2⟩; go_simp; try with_reducible rfl
          simp only [Act.put, List.setIfInBounds_toArray, List.set_cons_zero, List.set_cons_succ]
          refine wpAnyH_takeD 9 (some 79) ?_ rfl rfl (by kernel_rfl) (by kernel_rfl) (by kernel_rfl) (fun _ _ _ h => h) (Or.inl ⟨by rfl, ?_⟩) hS ?_
          rotate_left
          · rintro w' ⟨s1, s2⟩; go_simp; try with_reducible rfl
          simp only [Act.put, List.setIfInBounds_toArray, List.set_cons_zero, List.set_cons_succ]
          refine wpAnyH_takeD 10 (some 80) ?_ rfl rfl (by kernel_rfl) (by kernel_rfl) (by kernel_rfl) (fun _ _ _ h => h) (Or.inl ⟨by rfl, ?_⟩) hS ?_
          rotate_left
          · rintro w' ⟨s1, s2⟩; go_simp; try with_reducible rfl
          simp only [Act.put, List.setIfInBounds_toArray, List.set_cons_zero, List.set_cons_succ]
          refine wpAnyH_takeD 11 (some 81) ?_ rfl rfl (by kernel_rfl) (by kernel_rfl) (by kernel_rfl) (fun _ _ _ h => h) (Or.inl ⟨by rfl, ?_⟩) hS ?_
          rotate_left
          · rintro w' ⟨s1, s2⟩; go_simp; try with_reducible rfl
          simp only [Act.put, List.setIfInBounds_toArray, List.set_cons_zero, List.set_cons_succ]
          refine wpAnyH_takeD 12 (some 82) ?_ rfl rfl (by kernel_rfl) (by kernel_rfl) (by kernel_rfl) (fun _ _ _ h => h) (Or.inl ⟨by rfl, ?_⟩) hS ?_
          rotate_left
          · rintro w' ⟨s1, s2⟩; go_simp; try with_reducible rfl
          simp only [Act.put, List.setIfInBounds_toArray, List.set_cons_zero, List.set_cons_succ]
          refine wpAnyH_takeD 14 (some 84) ?_ rfl rfl (by kernel_rfl) (by kernel_rfl) (by kernel_rfl) (fun _ _ _ h => h) (Or.inl ⟨by rfl, ?_⟩) hS ?_
          rotate_left
          · rintro w' ⟨s1, s2⟩; go_simp; try with_reducible rfl
          simp only [Act.put, List.setIfInBounds_toArray, List.set_cons_zero, List.set_cons_succ]
          refine wpAnyH_takeD 16 (some 86) ?_ rfl rfl (by kernel_rfl) (by kernel_rfl) (by kernel_rfl) (fun _ _ _ h => h) (Or.inl ⟨by rfl, ?_⟩) hS ?_
          rotate_left
          · rintro w' ⟨s1, s2⟩; go_simp; try with_reducible rfl
          simp only [Act.put, List.setIfInBounds_toArray, List.set_cons_zero, List.set_cons_succ]
          refine wpAnyH_takeD 19 (some 89) ?_ rfl rfl (by kernel_rfl) (by kernel_rfl) (by kernel_rfl) (fun _ _ _ h => h) (Or.inl ⟨by rfl, ?_⟩) hS ?_
          rotate_left
          · rintro w' ⟨s1, s2⟩; go_simp; try with_reducible rfl
          simp only [Act.put, List.setIfInBounds_toArray, List.set_cons_zero, List.set_cons_succ]
          refine wpAnyH_takeD 20 (some 90) ?_ rfl rfl (by kernel_rfl) (by kernel_rfl) (by kernel_rfl) (fun _ _ _ h => h) (Or.inl ⟨by rfl, ?_⟩) hS ?_
          rotate_left
          · rintro w' ⟨s1, s2⟩; go_simp; try with_reducible rfl
          simp only [Act.put, List.setIfInBounds_toArray, List.set_cons_zero, List.set_cons_succ]
          refine wpAnyH_takeD 23 (some 93) ?_ rfl rfl (by kernel_rfl) (by kernel_rfl) (by kernel_rfl) (fun _ _ _ h => h) (Or.inl ⟨by rfl, ?_⟩) hS ?_
          rotate_left
          · rintro w' ⟨s1, s2⟩; go_simp; try with_reducible rfl
          simp only [Act.put, List.setIfInBounds_toArray, List.set_cons_zero, List.set_cons_succ]
          refine wpAnyH_takeD 24 (some 94) ?_ rfl rfl (by kernel_rfl) (by kernel_rfl) (by kernel_rfl) (fun _ _ _ h => h) (Or.inl ⟨by rfl, ?_⟩) hS ?_
          rotate_left
          · rintro w' ⟨s1, s2⟩; go_simp; try with_reducible rfl
          simp only [Act.put, List.setIfInBounds_toArray, List.set_cons_zero, List.set_cons_succ]
          refine wpAnyH_takeD 25 (some 95) ?_ rfl rfl (by kernel_rfl) (by kernel_rfl) (by kernel_rfl) (fun _ _ _ h => h) (Or.inl ⟨by rfl, ?_⟩) hS ?_
          rotate_left
          · rintro w' ⟨s1, s2⟩; go_simp; try with_reducible rfl
          simp only [Act.put, List.setIfInBounds_toArray, List.set_cons_zero, List.set_cons_succ]
          refine wpAnyH_takeD 26 (some 96) ?_ rfl rfl (by kernel_rfl) (by kernel_rfl) (by kernel_rfl) (fun _ _ _ h => h) (Or.inl ⟨by rfl, ?_⟩) hS ?_
          rotate_left
          · rintro w' ⟨s1, s2⟩; go_simp; try with_reducible rfl
          simp only [Act.put, List.setIfInBounds_toArray, List.set_cons_zero, List.set_cons_succ]
          refine wpAnyH_ready (rs := [2]) (by kernel_rfl) (by simp) ?_
          refine AllReadyH.cons rfl (fun K hK => ?_) AllReadyH.nil
          simp only [List.getElem_toArray, List.getElem_cons_succ, List.getElem_cons_zero]
          go_simp
          refine (right_any _ _ _ (by decide) (by decide)).mono ?_
          rintro e w' ⟨rfl, m1, rfl⟩
          refine hK.out _ _ ⟨c7, c16⟩ (fun hS => ?_)
          clear hK K
          refine wpAnyH_ready (rs := [4]) (by kernel_rfl) (by simp) ?_
          refine AllReadyH.cons rfl (fun K hK => ?_) AllReadyH.nil
          simp only [List.getElem_toArray, List.getElem_cons_succ, List.getElem_cons_zero]
          go_simp
          refine (right_any _ _ _ (by decide) (by decide)).mono ?_
          rintro e w' ⟨rfl, m2, rfl⟩
          refine hK.out _ _ ⟨c7, c16⟩ (fun hS => ?_)
          clear hK K
          refine wpAnyH_takeD 5 (some 75) ?_ rfl rfl (by kernel_rfl) (by kernel_rfl) (by kernel_rfl) (fun _ _ _ h => h) (Or.inl ⟨by rfl, ?_⟩) hS ?_
          rotate_left
          · rintro w' ⟨s1, s2⟩; go_simp; try with_reducible rfl
          simp only [Act.put, List.setIfInBounds_toArray, List.set_cons_zero, List.set_cons_succ]
          refine wpAnyH_takeD 8 (some 78) ?_ rfl rfl (by kernel_rfl) (by kernel_rfl) (by kernel_rfl) (fun _ _ _ h => h) (Or.inl ⟨by rfl, ?_⟩) hS ?_
          rotate_left
          · rintro w' ⟨s1, s2⟩; go_simp; try with_reducible rfl
          simp only [Act.put, List.setIfInBounds_toArray, List.set_cons_zero, List.set_cons_succ]
          refine wpAnyH_takeD 13 (some 83) ?_ rfl rfl (by kernel_rfl) (by kernel_rfl) (by kernel_rfl) (fun _ _ _ h => h) (Or.inl ⟨by rfl, ?_⟩) hS ?_
          rotate_left
          · rintro w' ⟨s1, s2⟩; go_simp; try with_reducible rfl
          simp only [Act.put, List.setIfInBounds_toArray, List.set_cons_zero, List.set_cons_succ]
          refine wpAnyH_ready (rs := [15]) (by kernel_rfl) (by simp) ?_
          refine AllReadyH.cons rfl (fun K hK => ?_) AllReadyH.nil
          simp only [List.getElem_toArray, List.getElem_cons_succ, List.getElem_cons_zero]
          go_simp
          refine (right_any _ _ _ (by decide) (by decide)).mono ?_
          rintro e w' ⟨rfl, m3, rfl⟩
          refine hK.out _ _ ⟨c7, c16⟩ (fun hS => ?_)
          clear hK K
          refine wpAnyH_ready (rs := [17]) (by kernel_rfl) (by simp) ?_
          refine AllReadyH.cons rfl (fun K hK => ?_) AllReadyH.nil
          simp only [List.getElem_toArray, List.getElem_cons_succ, List.getElem_cons_zero]
          go_simp
          refine (right_any _ _ _ (by decide) (by decide)).mono ?_
          rintro e w' ⟨rfl, m4, rfl⟩
          refine hK.out _ _ ⟨c7, c16⟩ (fun hS => ?_)
          clear hK K
          refine wpAnyH_takeD 18 (some 88) ?_ rfl rfl (by kernel_rfl) (by kernel_rfl) (by kernel_rfl) (fun _ _ _ h => h) (Or.inl ⟨by rfl, ?_⟩) hS ?_
          rotate_left
          · rintro w' ⟨s1, s2⟩; go_simp; try with_reducible rfl
          simp only [Act.put, List.setIfInBounds_toArray, List.set_cons_zero, List.set_cons_succ]
          refine wpAnyH_takeD 21 (some 91) ?_ rfl rfl (by kernel_rfl) (by kernel_rfl) (by kernel_rfl) (fun _ _ _ h => h) (Or.inl ⟨by rfl, ?_⟩) hS ?_
          rotate_left
          · rintro w' ⟨s1, s2⟩; go_simp; try with_reducible rfl
          simp only [Act.put, List.setIfInBounds_toArray, List.set_cons_zero, List.set_cons_succ]
          refine wpAnyH_takeD 22 (some 92) ?_ rfl rfl (by kernel_rfl) (by kernel_rfl) (by kernel_rfl) (fun _ _ _ h => h) (Or.inl ⟨by rfl, ?_⟩) hS ?_
          rotate_left
          · rintro w' ⟨s1, s2⟩; go_simp; try with_reducible rfl
          simp only [Act.put, List.setIfInBounds_toArray, List.set_cons_zero, List.set_cons_succ]
          refine wpAnyH_takeD 27 (some 97) ?_ rfl rfl (by kernel_rfl) (by kernel_rfl) (by kernel_rfl) (fun _ _ _ h => h) (Or.inl ⟨by rfl, ?_⟩) hS ?_
          rotate_left
          · rintro w' ⟨s1, s2⟩; go_simp; try with_reducible rfl
          simp only [Act.put, List.setIfInBounds_toArray, List.set_cons_zero, List.set_cons_succ]
          refine wpAnyH_takeD 28 (some 98) ?_ rfl rfl (by kernel_rfl) (by kernel_rfl) (by kernel_rfl) (fun _ _ _ h => h) (Or.inl ⟨by rfl, ?_⟩) hS ?_
          rotate_left
          · rintro w' ⟨s1, s2⟩; go_simp; try with_reducible rfl
          simp only [Act.put, List.setIfInBounds_toArray, List.set_cons_zero, List.set_cons_succ]
          refine wpAnyH_ready (rs := [29]) (by kernel_rfl) (by simp) ?_
          refine AllReadyH.cons rfl (fun K hK => ?_) AllReadyH.nil
          simp only [List.getElem_toArray, List.getElem_cons_succ, List.getElem_cons_zero]
          go_simp
          refine hK.out _ _ ⟨by rw [World.cell?_setCell_other _ _ _ _ (by intro e; have h := congrArg Addr.off e; dsimp only at h; omega)]; exact c7, by rw [World.cell?_setCell_other _ _ _ _ (by intro e; have h := congrArg Addr.off e; dsimp only at h; omega)]; exact c16⟩ (fun hS => ?_)
          clear hK K hS
          refine wpAnyH_done (by kernel_rfl) ?_ _
          go_wp2
          go_roundw
          case rel =>
            refine ⟨t + 1, by omega, by omega, by go_num, ?_⟩
            refine ((unhide HI2).drewN _).put hkb hbb t (by rw [unhide HL]; exact htl) _ ?_
            have e := fill_set (spr p t) 64 (nextW (spr p t) t) (by rw [spr_len]; exact htl)
            rw [spr_len] at e
            rw [spr, if_neg (by omega), ← e, unhide HN]
            rfl
          case measure => simp [intOf]; omega
        · have e64 : t = 64 := by omega
          rw [e64] at hI
          simp only [Nat.sub_self, List.replicate_zero, List.append_nil] at hI
          have HI := hide hI
          have HZ := hide hI.2.2.2.2.2.2
          obtain ⟨⟨k0, k1, k2, k3, k4, k5, k6, k7⟩, _⟩ := valsR_at hI.1
          clear hI e64
          go_wp2
          clear k0 k1 k2 k3 k4 k5 k6 k7
          obtain ⟨m, hm⟩ : ∃ m, m = wr.heap.size := ⟨_, rfl⟩
          have HL0 := hide ((unhide HI).letters s hkb hbb)
          rw [← hm] at HL0
          rw [← hm]
          clear hm HI HZ ht1 ht2 htl
          go_loopw [13] (fun i wq => ∃ t : Nat, t ≤ 64 ∧ i = .int .i64 t ∧ ∃ x : H8, x = rnds s kWords (spr p 64) t ∧ LtInv w kb bb off s.vals p m x.vals wq) (fun i _ => 64 - (intOf i).toNat)
          case atStart => exact ⟨0, by omega, rfl, s, rfl, unhide HL0⟩
          case round =>
            clear HL0
            obtain ⟨t, ht, rfl, x, hx, hI⟩ := hrel
            by_cases htl : t < 64
            · have ck := hI.1.2.2.2.1 t htl
              have cs := hI.1.2.2.1.get0 t (by rw [spr_len]; exact htl)
              obtain ⟨kt, hkt⟩ : ∃ z, z = kWords.getD t 0 := ⟨_, rfl⟩
              obtain ⟨st, hst⟩ : ∃ z, z = (spr p 64).getD t 0 := ⟨_, rfl⟩
              rw [← hkt] at ck
              rw [← hst] at cs
              have hr : rnds s kWords (spr p 64) (t + 1) = rnd x kt st := by rw [rnds, ← hx, hkt, hst]
              have HR := hide hr
              have HI := hide hI
              obtain ⟨⟨l0, l1, l2, l3, l4, l5, l6, l7⟩, f0, f1, f2, f3, f4, f5, f6, f7⟩ := valsR_at hI.2.1
              clear hr hI hx hkt hst
              obtain ⟨xa, xb, xc, xd, xe, xf, xg, xh⟩ := x
              simp only at l0 l1 l2 l3 l4 l5 l6 l7
              go_wp2
              go_quiet ((go_at_call 75; exact Calls.quiet_of (right_any _ _ _ (by decide) (by decide))))
              have HI2 := hide ((unhide HI).drewN nq)
              clear HI l0 l1 l2 l3 l4 l5 l6 l7 f0 f1 f2 f3 f4 f5 f6 f7 ck cs
              generalize wr.drewN nq = wv at *
              obtain ⟨⟨l0, l1, l2, l3, l4, l5, l6, l7⟩, f0, f1, f2, f3, f4, f5, f6, f7⟩ := valsR_at (unhide HI2).2.1
              simp only at l0 l1 l2 l3 l4 l5 l6 l7
              go_wp2
              go_quiet ((go_at_call 75; exact Calls.quiet_of (right_any _ _ _ (by decide) (by decide))))
              have HI3 := hide ((unhide HI2).drewN nq)
              clear HI2 l0 l1 l2 l3 l4 l5 l6 l7 f0 f1 f2 f3 f4 f5 f6 f7
              generalize wv.drewN nq = wy at *
              obtain ⟨⟨l0, l1, l2, l3, l4, l5, l6, l7⟩, f0, f1, f2, f3, f4, f5, f6, f7⟩ := valsR_at (unhide HI3).2.1
              simp only at l0 l1 l2 l3 l4 l5 l6 l7
              go_wp2
              go_roundw
              case rel =>
                refine ⟨t + 1, by omega, by go_num, _, ?_, (unhide HI3).put8 hkb hbb _ _ _ _ _ _ _ _⟩
                rw [unhide HR]
                unfold rnd
                congr 1
                · simp only [bigS1, bigS0, chv, majv, xr, nd, ad, max_u32']; omega
                · simp only [bigS1, chv, xr, nd, ad, max_u32']; omega
              case measure => simp [intOf]; omega
            · have e64 : t = 64 := by omega
              have HI := hide hI
              have HX := hide (show x = rnds s kWords (spr p 64) 64 by rw [hx, e64])
              clear hI hx e64
              go_wp2
              go_loopw [18] (fun i wq => ∃ j : Nat, j ≤ 8 ∧ i = .int .i64 j ∧ LtInv w kb bb off ((List.zipWith ad s.vals x.vals).take j ++ s.vals.drop j) p m x.vals wq) (fun i _ => 8 - (intOf i).toNat)
              case atStart => exact ⟨0, by omega, rfl, by simpa using unhide HI⟩
              case round =>
                clear HI
                obtain ⟨j, hj, rfl, hM⟩ := hrel
                by_cases hjl : j < 8
                · have hlz : (List.zipWith ad s.vals x.vals).length = 8 := by simp [H8.vals]
                  have hls : s.vals.length = 8 := by simp [H8.vals]
                  have hlx : x.vals.length = 8 := by simp [H8.vals]
                  have hll : ((List.zipWith ad s.vals x.vals).take j ++ s.vals.drop j).length = 8 := by simp [hls, hlx]; omega
                  have c1 := hM.1.1.get0 j (by omega)
                  have f1 := hM.1.1.free0 j (by omega)
                  have c2 := hM.2.1.get0 j (by omega)
                  rw [getD_take_drop _ _ _ (by omega)] at c1
                  have hz : (List.zipWith ad s.vals x.vals).getD j 0 = ad (s.vals.getD j 0) (x.vals.getD j 0) := by
                    simp [hls, hlx, hjl]
                  have HE := hide (take_set (List.zipWith ad s.vals x.vals) s.vals j _ (by omega) (by omega) rfl)
                  rw [hz] at HE
                  obtain ⟨y1, h1⟩ : ∃ z, z = s.vals.getD j 0 := ⟨_, rfl⟩
                  obtain ⟨y2, h2⟩ : ∃ z, z = x.vals.getD j 0 := ⟨_, rfl⟩
                  rw [← h1] at c1
                  rw [← h2] at c2
                  rw [← h1, ← h2] at HE
                  have HM := hide hM
                  have HL := hide hll
                  clear hM hz h1 h2 hlz hls hlx hll
                  go_wp2
                  go_region
                  go_wp2
                  go_roundw
                  case rel => exact ⟨j + 1, by omega, by go_num, ((unhide HM).putW hkb hbb j (by rw [unhide HL]; exact hjl) _ (unhide HE)).drewN 1⟩
                  case measure => simp [intOf]; omega
                · have e8 : j = 8 := by omega
                  rw [e8] at hM
                  have hfin : (List.zipWith ad s.vals x.vals).take 8 ++ s.vals.drop 8 = (comp s p).vals := by
                    rw [comp, ← unhide HX, add8_vals]; simp [H8.vals]
                  rw [hfin] at hM
                  clear e8 hfin
                  have hr := hide hM.1.1.range
                  have ht := hide hM.1.2.1.there
                  have HB := hide hM.1.2.2.2.2.2.1
                  clear hM
                  go_wp2_with (first
                    | (refine wpList_load_mid rfl 100 (.tmp 3) rfl w.heap.size 0 rfl _ _ (unhide hr) Tryd.underlying100 rfl (by rw [size100]; simp [H8.vals]) ?_)
                    | (refine wpList_store_mid rfl 100 (.tmp 6) (.tmp 195) rfl (w.heap.size + 1) 0 _ rfl rfl (by simpa [H8.vals] using unhide ht) (by rw [size100]; simp [H8.vals]) (one_ints _ _) ?_))
                  have hld := run_loadVar_mid (P := Tryd.prog) _ (w.heap.size + 1) 0 100 _ _ (World.rangeAt_setCells_same wr (w.heap.size + 1) 0 ((comp s p).vals.map (Value.int .u32)) (by simpa [H8.vals] using unhide ht)) Tryd.underlying100 rfl (by rw [size100]; simp [H8.vals])
                  refine bodyPost_ret (v := .agg ((comp s p).vals.map (Value.int .u32)).toArray) ?_ rfl ⟨rfl, below_setCells (by omega) _ _ (unhide HB)⟩
                  exact results_cell rfl _ _ _ ⟨w.heap.size + 1, 0, none⟩ rfl _ hld
end Go.Proofs.YtabgcgdpeikieaaDoor
namespace Go.Proofs.YtabgcgdpeikieaaDoor
open Go.RowKit
theorem klen : kWords.length = 64 := by decide
set_option maxRecDepth 100000 in
set_option maxHeartbeats 400000 in
theorem ks_any (w : World) :
    Calls Tryd.prog 72 #[] w fun e w' => e = .returned (.agg (kWords.map (Value.int .u32)).toArray) ∧ Below w.heap.size w w' := by
  have HN := hide ((arr_new w .u32 (List.replicate 64 0) 117 _ rfl).there)
  go_enter Tryd.func72, Tryd.ntmps72
  go_wp2_with (refine wpList_store_to rfl 117 (.tmp 0) (.tmp 1) rfl w.heap.size 0 (kWords.map (Value.int .u32)).toArray rfl rfl (unhide HN) (by rw [size117]; simp [klen]) (one_ints _ _) ?_; intro W2 hW2; have HW2 := hide hW2; clear hW2)
  have hA : Arr W2 w.heap.size 0 .u32 kWords := by
    rw [unhide HW2]
    exact (arr_new w .u32 (List.replicate 64 0) 117 _ rfl).setCells kWords (by rw [klen]; simp)
  have hB : Below w.heap.size w W2 := by
    rw [unhide HW2]
    exact below_setCells (Nat.le_refl _) _ _ ((Below.refl _ _).alloc (Nat.le_refl _) _)
  have hld := run_loadVar_mid (P := Tryd.prog) W2 w.heap.size 0 117 _ _ hA.range Tryd.underlying117 rfl (by rw [size117, List.length_map, klen])
  refine bodyPost_ret (v := .agg (kWords.map (Value.int .u32)).toArray) ?_ rfl ⟨rfl, hB⟩
  exact results_cell rfl _ _ _ ⟨w.heap.size, 0, none⟩ rfl _ hld
end Go.Proofs.YtabgcgdpeikieaaDoor
namespace Go.Proofs.YtabgcgdpeikieaaDoor
open Go.RowKit
end Go.Proofs.YtabgcgdpeikieaaDoor
namespace Go.Proofs.YtabgcgdpeikieaaDoor
open Go.RowKit
theorem lenB_take (n i : Nat) (hi : i < 8) : (lenB n).take (i + 1) = (lenB n).take i ++ [(8 * (n : Int)) / 2 ^ (8 * (7 - i)) % 256] := by
  have h := lenB_at n (7 - i) (by omega)
  rw [show 7 - (7 - i) = i by omega] at h
  rw [List.take_succ_eq_append_getElem (by rw [lenB_len]; exact hi)]
  congr 2
  rw [← h, List.getD_eq_getElem?_getD, List.getElem?_eq_getElem (by rw [lenB_len]; exact hi)]
  rfl
set_option maxRecDepth 100000 in
set_option maxHeartbeats 400000 in
theorem filled_ref (t : ByteArray) (ht : t.size + 100 ≤ 140737488355328) (w : World) :
    Calls Tryd.prog 73 #[.string t] w fun e w' => ∃ b cap, e = .returned (.slice (some ⟨b, 0, none⟩) (padded (nums t)).length cap) ∧ Bsl w' w.heap.size b cap (padded (nums t)) ∧ Below w.heap.size w w' := by
  obtain ⟨cap0, W0, hcv, hB0, hb0⟩ := Bsl.of_string w t (by omega)
  have HB0 := hide hB0
  have Hb0 := hide hb0
  clear hB0 hb0
  have HP := hide (padded_eq (nums t))
  rw [nums_len] at HP
  go_enter Tryd.func73, Tryd.ntmps73
  go_wp2_with (at_builtin; refine wpList_app1 (W0.alloc (Obj.cells #[.int .u8 128] 5)) rfl (.tmp 10) (.tmp 11) rfl w.heap.size w.heap.size cap0 (nums t) t.size (by rw [nums_len]) rfl ((unhide HB0).alloc _) (by have := (unhide Hb0).size; simp; omega) W0.heap.size 128 rfl (by simp) (by omega) ?_; intro b1 cap1 W1 hB1 hb1; have HB1 := hide hB1; have Hb1 := hide (((unhide Hb0).alloc (unhide Hb0).size _).trans hb1); clear hB1 hb1)
  go_loopw [4] (fun v wr => ∃ k b cap : Nat, k ≤ (119 - t.size % 64) % 64 ∧ v = .slice (some ⟨b, 0, none⟩) (t.size + 1 + k) cap ∧ Bsl wr w.heap.size b cap (nums t ++ [128] ++ List.replicate k 0) ∧ Below w.heap.size w wr) (fun v _ => match v with | .slice _ n _ => t.size + 100 - n | _ => 0)
  case atStart => exact ⟨0, b1, cap1, by omega, rfl, by simpa using unhide HB1, unhide Hb1⟩
  case round =>
    clear HB1 Hb1 HB0 Hb0 hcv
    obtain ⟨k, b, cap, hk, rfl, hB, hb⟩ := hrel
    have HB := hide hB
    have Hb := hide hb
    have hll : (nums t ++ [128] ++ List.replicate k (0 : Int)).length = t.size + 1 + k := by simp [nums_len]; omega
    clear hB hb
    by_cases h56 : (t.size + 1 + k) % 64 = 56
    · have hbn : (((t.size : Int) + 1 + (k : Int)) % 64 != 56) = false := by simp; omega
      have HKK := hide (show k = (119 - t.size % 64) % 64 by omega)
      clear h56
      go_wp2
      go_loopw [4, 5] (fun v i wr => ∃ j b cap : Nat, j ≤ 8 ∧ i = .int .i64 (7 - (j : Int)) ∧ v = .slice (some ⟨b, 0, none⟩) (t.size + 1 + k + j) cap ∧ Bsl wr w.heap.size b cap (nums t ++ [128] ++ List.replicate k 0 ++ (lenB t.size).take j) ∧ Below w.heap.size w wr) (fun _ i _ => (intOf i + 1).toNat)
      case atStart => exact ⟨0, b, cap, by omega, rfl, rfl, by simpa using unhide HB, unhide Hb⟩
      case round =>
        clear HB Hb
        obtain ⟨j, b, cap, hj, rfl, rfl, hB, hb⟩ := hrel
        have HB := hide hB
        have Hb := hide hb
        clear hB hb
        by_cases hjl : j < 8
        · have hl2 : (nums t ++ [128] ++ List.replicate k (0 : Int) ++ (lenB t.size).take j).length = t.size + 1 + k + j := by
            rw [List.length_append, hll, List.length_take, lenB_len]; omega
          have HT := hide (lenB_take t.size j hjl)
          have hsh : ((8 : Int) * (7 - (j : Int))).toNat = 8 * (7 - j) := by omega
          go_wp2_with (at_builtin; refine wpList_app1 (wr.alloc (Obj.cells #[.int .u8 (8 * (t.size : Int) / 2 ^ (8 * (7 - j)) % 256)] 5)) rfl (.tmp 24) (.tmp 31) rfl w.heap.size b cap _ (t.size + 1 + k + j) hl2.symm rfl ((unhide HB).alloc _) (by have := (unhide Hb).size; simp; omega) wr.heap.size (8 * (t.size : Int) / 2 ^ (8 * (7 - j)) % 256) rfl (by simp) (by omega) ?_; intro b2 cap2 W2 hB2 hb2; have HB2 := hide hB2; have Hb2 := hide (((unhide Hb).alloc (unhide Hb).size _).trans hb2); clear hB2 hb2)
          go_roundw
          case rel => exact ⟨j + 1, b2, cap2, by omega, congrArg (Value.int .i64) (by omega), rfl, by have := unhide HB2; rw [List.append_assoc _ ((lenB t.size).take j)] at this; rw [unhide HT]; exact this, unhide Hb2⟩
          case measure => simp [intOf]; omega
        · have hj8 : j = 8 := by omega
          have hfin : nums t ++ [128] ++ List.replicate k (0 : Int) ++ (lenB t.size).take j = padded (nums t) := by
            rw [unhide HP, unhide HKK, hj8, List.take_of_length_le (by rw [lenB_len]; omega)]
            simp
          have hpl : (padded (nums t)).length = t.size + 1 + k + j := by
            rw [← hfin, List.length_append, hll, List.length_take, lenB_len]; omega
          have HB2 := hide (unhide HB)
          rw [hfin] at HB2
          have HPL := hide hpl
          clear HB hfin hj8 hpl
          go_wp2
          go_ret
          exact ⟨b, cap, by rw [unhide HPL]; rfl, unhide HB2, unhide Hb⟩
    · have hbn : (((t.size : Int) + 1 + (k : Int)) % 64 != 56) = true := by simp; omega
      go_wp2_with (at_builtin; refine wpList_app1 (wr.alloc (Obj.cells #[.int .u8 0] 5)) rfl (.tmp 17) (.tmp 18) rfl w.heap.size b cap _ (t.size + 1 + k) hll.symm rfl ((unhide HB).alloc _) (by have := (unhide Hb).size; simp; omega) wr.heap.size 0 rfl (by simp) (by omega) ?_; intro b2 cap2 W2 hB2 hb2; have HB2 := hide hB2; have Hb2 := hide (((unhide Hb).alloc (unhide Hb).size _).trans hb2); clear hB2 hb2)
      go_roundw
      case rel => exact ⟨k + 1, b2, cap2, by omega, rfl, by have := unhide HB2; rw [List.append_assoc _ (List.replicate k 0)] at this; rw [List.replicate_succ']; exact this, unhide Hb2⟩
      case measure => simp; omega
end Go.Proofs.YtabgcgdpeikieaaDoor
namespace Go.Proofs.YtabgcgdpeikieaaDoor
open Go.RowKit
def SmInv (w : World) (hb kb b : Nat) (s : H8) (L : List Int) (wr : World) : Prop :=
  Arr wr hb 0 .u32 s.vals ∧ Arr wr kb 0 .u32 kWords ∧ Arr wr b 0 .u8 L ∧ Below w.heap.size w wr ∧ w.heap.size ≤ hb ∧ hb < kb ∧ kb < b ∧ b < wr.heap.size
theorem SmInv.below {w : World} {hb kb b : Nat} {s : H8} {L : List Int} {wr w' : World} (h : SmInv w hb kb b s L wr) (hx : Below wr.heap.size wr w') : SmInv w hb kb b s L w' := by
  obtain ⟨h1, h2, h3, h4, h5, h6, h7, h8⟩ := h
  exact ⟨h1.below hx (by omega), h2.below hx (by omega), h3.below hx h8, h4.trans (hx.mono h4.size), h5, h6, h7, by have := hx.size; omega⟩
theorem SmInv.drew {w : World} {hb kb b : Nat} {s : H8} {L : List Int} {wr : World} (h : SmInv w hb kb b s L wr) : SmInv w hb kb b s L wr.drew :=
  ⟨h.1, h.2.1, h.2.2.1, h.2.2.2.1.drew, h.2.2.2.2⟩
theorem SmInv.words {w : World} {hb kb b : Nat} {s : H8} {L : List Int} {wr : World} (h : SmInv w hb kb b s L wr) (s' : H8) : SmInv w hb kb b s' L (wr.setCells hb 0 (s'.vals.map (Value.int .u32))) := by
  obtain ⟨h1, h2, h3, h4, h5, h6, h7, h8⟩ := h
  exact ⟨h1.setCells _ (by simp [H8.vals]), h2.setCells_apart _ _ _ (.inl (by omega)), h3.setCells_apart _ _ _ (.inl (by omega)), below_setCells h5 _ _ h4, h5, h6, h7, by rw [size_setCells]; exact h8⟩
theorem padded_len (l : List Int) : (padded l).length % 64 = 0 := by
  rw [padded_eq]
  simp only [List.length_append, List.length_cons, List.length_nil, List.length_replicate, lenB_len]
  omega
theorem padded_bytes (l : List Int) (h : Bytes l) : Bytes (padded l) := by
  rw [padded_eq]
  exact bytes_append h (bytes_append (bytes_append (bytes_one 128 (by decide) (by decide)) (bytes_zeros _)) (lenB_bytes _))
set_option maxRecDepth 100000 in
set_option maxHeartbeats 1000000 in
theorem rsum_any (t : ByteArray) (ht : t.size + 100 ≤ 140737488355328) (w : World) :
    Calls Tryd.prog 69 #[.string t] w fun e w' => e = .returned (.string (strOfNums (sha (nums t)))) ∧ Below w.heap.size w w' := by
  have HN8 := hide (fun w1 : World => (arr_new w1 .u32 (List.replicate 8 0) 100 _ rfl))
  have HN64 := hide (fun w1 : World => (arr_new w1 .u32 (List.replicate 64 0) 117 _ rfl))
  go_enter Tryd.func69, Tryd.ntmps69
  go_wp2_with fail
  refine (starts_any w).mono ?_
  rintro e w1 ⟨rfl, hb1⟩
  have HB1 := hide hb1
  clear hb1
  go_wp2_with (refine wpList_store_to rfl 100 (.tmp 3) (.tmp 9) rfl w1.heap.size 0 (start8.vals.map (Value.int .u32)).toArray rfl rfl (unhide HN8 w1).there (by rw [size100]; simp [H8.vals]) (one_ints _ _) ?_; intro W1 hW1; have HW1 := hide hW1; clear hW1)
  obtain ⟨hA1, hbl1, hsz1⟩ : Arr W1 w1.heap.size 0 .u32 start8.vals ∧ Below w.heap.size w W1 ∧ W1.heap.size = w1.heap.size + 1 := by
    rw [unhide HW1]
    exact ⟨(unhide HN8 w1).setCells start8.vals (by simp [H8.vals]), below_setCells (unhide HB1).size _ _ ((unhide HB1).alloc (unhide HB1).size _), by rw [size_setCells]; simp⟩
  have HHB := hide (unhide HB1).size
  clear HW1 HN8 HB1
  have HA1 := hide hA1
  have HBL1 := hide hbl1
  have HSZ1 := hide hsz1
  clear hA1 hbl1 hsz1
  refine (ks_any W1).mono ?_
  rintro e w2 ⟨rfl, hb2⟩
  have HB2 := hide hb2
  clear hb2
  go_wp2_with (refine wpList_store_to rfl 117 (.tmp 4) (.tmp 10) rfl w2.heap.size 0 (kWords.map (Value.int .u32)).toArray rfl rfl (unhide HN64 w2).there (by rw [size117]; simp [klen]) (one_ints _ _) ?_; intro W2 hW2; have HW2 := hide hW2; clear hW2)
  obtain ⟨hA2, hK2, hbl2, hsz2⟩ : Arr W2 w1.heap.size 0 .u32 start8.vals ∧ Arr W2 w2.heap.size 0 .u32 kWords ∧ Below w.heap.size w W2 ∧ W2.heap.size = w2.heap.size + 1 := by
    rw [unhide HW2]
    have hs2 := (unhide HB2).size
    have hs1 := unhide HSZ1
    refine ⟨?_, (unhide HN64 w2).setCells kWords (by rw [klen]; simp), ?_, by rw [size_setCells]; simp⟩
    · exact (((unhide HA1).below (unhide HB2) (by omega)).alloc (by omega) _).setCells_apart _ _ _ (.inl (by omega))
    · have h1 := (unhide HBL1).trans ((unhide HB2).mono (unhide HBL1).size)
      exact below_setCells h1.size _ _ (h1.alloc h1.size _)
  have hhk : w1.heap.size < w2.heap.size := by have := unhide HSZ1; have := (unhide HB2).size; omega
  have HHK := hide hhk
  have HA2 := hide hA2
  have HK2 := hide hK2
  have HBL2 := hide hbl2
  have HSZ2 := hide hsz2
  clear hA2 hK2 hbl2 hsz2 HW2 HN64 HA1 HBL1 HSZ1 HB2 hhk
  refine (filled_ref t ht W2).mono ?_
  rintro e w3 ⟨b, cap, rfl, hB3, hb3⟩
  have HI0 : Hid (SmInv w w1.heap.size w2.heap.size b start8 (padded (nums t)) w3) := by
    have hs2 := unhide HSZ2
    have hk2 := unhide HHK
    have hb := hB3.1
    exact ⟨(unhide HA2).below hb3 (by omega), (unhide HK2).below hb3 (by omega), hB3.2.2.2.2.1, (unhide HBL2).trans (hb3.mono (unhide HBL2).size), unhide HHB, hk2, by omega, hB3.2.1⟩
  have hcap := hB3.2.2.1
  have hcm := hB3.2.2.2.1
  clear HA2 HK2 HBL2 HSZ2 hB3 hb3
  have hpl := padded_len (nums t)
  have HPB := hide (padded_bytes (nums t) (nums_bytes t))
  have HSHA : Hid (sha (nums t) = outBytes (comps start8 (padded (nums t)) ((padded (nums t)).length / 64))) := rfl
  generalize padded (nums t) = L at *
  generalize hbb : w1.heap.size = hb at *
  generalize hkk : w2.heap.size = kb at *
  clear hbb hkk
  generalize hnn : L.length = n at *
  have HN := hide hnn
  clear hnn
  have hnm : n ≤ maxLen := by omega
  rw [show maxLen = 9223372036854775807 from rfl] at hnm hcm
  go_wp2
  go_loopw [6] (fun i wr => ∃ c : Nat, 64 * c ≤ n ∧ i = .int .i64 (64 * (c : Int)) ∧ SmInv w hb kb b (comps start8 L c) L wr) (fun i _ => n - (intOf i).toNat)
  case atStart => exact ⟨0, by omega, rfl, unhide HI0⟩
  case round =>
    clear HI0
    obtain ⟨c, hc, rfl, hI⟩ := hrel
    by_cases hlt : 64 * c < n
    · have hI2 := hI.drew
      have r45 := hide hI2.1.range
      have hkbs : kb < wr.drew.heap.size := by have := hI2.2.2.2.2.2.2.1; have := hI2.2.2.2.2.2.2.2; omega
      have hbs : b < wr.drew.heap.size := hI2.2.2.2.2.2.2.2
      obtain ⟨p, hpp⟩ : ∃ p, p = (L.drop (64 * c)).take 64 := ⟨_, rfl⟩
      have hln := unhide HN
      have hn64 : 64 * c + 64 ≤ n := by omega
      have hp : p.length = 64 := by rw [hpp, List.length_take, List.length_drop]; omega
      have HBY : Hid (Bytes p) := by rw [hpp]; exact bytes_take (bytes_drop (unhide HPB) _) _
      have HK : Hid (∀ j, j < 64 → wr.drew.cell? ⟨kb, j, none⟩ = some (.int .u32 (kWords.getD j 0))) := fun j hj => hI2.2.1.get0 j (by rw [klen]; exact hj)
      have HPC : Hid (∀ j, j < 64 → wr.drew.cell? ⟨b, 64 * c + j, none⟩ = some (.int .u8 (p.getD j 0))) := fun j hj => by
        rw [hI2.2.2.1.get0 (64 * c + j) (by omega), hpp]
        simp only [List.getD_eq_getElem?_getD, List.getElem?_take, if_pos hj, List.getElem?_drop]
      have HCS : Hid (comps start8 L (c + 1) = comp (comps start8 L c) p) := by rw [hpp]; rfl
      have HI := hide hI2
      clear hI hI2 hpp hln
      generalize comps start8 L c = s at *
      have hsl : ∀ W : World, (Instr.sliceAt 47 (.slice (some ⟨b, 0, none⟩) n cap) (some (.int .i64 (64 * (c : Int)))) (some (.int .i64 (64 * (c : Int) + 64))) none).run Tryd.prog W = .ok (.slice (some ⟨b, 64 * c, none⟩) 64 (cap - 64 * c)) W := by
        intro W
        have e1 : (64 * (c : Int)).toNat = 64 * c := by omega
        have e2 : (64 * (c : Int) + 64).toNat = 64 * c + 64 := by omega
        have e3 : ¬ cap = 64 * c := by omega
        have e4 : 0 ≤ 64 * (c : Int) + 64 ∧ 64 * (c : Int) + 64 ≤ cap := by omega
        have e5 : 0 ≤ 64 * (c : Int) ∧ 64 * (c : Int) ≤ max (64 * (c : Int) + 64) 0 := by omega
        go_simp
        intro h
        omega
      have hwr : IntKind.i64.wrap (64 * (c : Int) + 64) = 64 * (c : Int) + 64 := by rw [IntKind.wrap_i64]; omega
      go_wp2_with fail
      refine wp_region_held_drew (S := fun _ => True) (by kernel_rfl) trivial ?_
      intro hS
      refine wpAnyH_takeD 1 (some 20) (.slice (some ⟨b, 0, none⟩) n cap) rfl rfl (by kernel_rfl) (by kernel_rfl) (by kernel_rfl) (fun _ _ _ h => h) (Or.inl ⟨by rfl, fun w hSw => by go_simp⟩) hS ?_
      simp only [Act.put, List.setIfInBounds_toArray, List.set_cons_zero, List.set_cons_succ]
      refine wpAnyH_takeD 2 (some 21) (.int .i64 (64 * (c : Int))) rfl rfl (by kernel_rfl) (by kernel_rfl) (by kernel_rfl) (fun _ _ _ h => h) (Or.inl ⟨by rfl, fun w hSw => by go_simp⟩) hS ?_
      simp only [Act.put, List.setIfInBounds_toArray, List.set_cons_zero, List.set_cons_succ]
      refine wpAnyH_takeD 3 (some 22) (.int .i64 (64 * (c : Int))) rfl rfl (by kernel_rfl) (by kernel_rfl) (by kernel_rfl) (fun _ _ _ h => h) (Or.inl ⟨by rfl, fun w hSw => by go_simp⟩) hS ?_
      simp only [Act.put, List.setIfInBounds_toArray, List.set_cons_zero, List.set_cons_succ]
      refine wpAnyH_takeD 4 (some 23) (.int .i64 (64 * (c : Int) + 64)) rfl rfl (by kernel_rfl) (by kernel_rfl) (by kernel_rfl) (fun _ _ _ h => h) (Or.inl ⟨by rfl, fun w hSw => by go_simp⟩) hS ?_
      simp only [Act.put, List.setIfInBounds_toArray, List.set_cons_zero, List.set_cons_succ]
      refine wpAnyH_takeD 5 (some 24) (.slice (some ⟨b, 64 * c, none⟩) 64 (cap - 64 * c)) rfl rfl (by kernel_rfl) (by kernel_rfl) (by kernel_rfl) (fun _ _ _ h => h) (Or.inl ⟨by rfl, fun w hSw => by go_simp⟩) hS ?_
      simp only [Act.put, List.setIfInBounds_toArray, List.set_cons_zero, List.set_cons_succ]
      refine wpAnyH_ready (rs := [0]) (by kernel_rfl) (by simp) ?_
      refine AllReadyH.cons rfl (fun K hK => ?_) AllReadyH.nil
      rw [if_pos (by rfl)]
      refine wp_load_mid 100 (.tmp 3) rfl hb 0 rfl _ _ (unhide r45) Tryd.underlying100 rfl (by rw [size100]; simp [H8.vals]) ?_
      refine hK.out (Act.put _ (some 19) _) _ hS (fun hS => ?_)
      simp only [Act.put, List.setIfInBounds_toArray, List.set_cons_zero, List.set_cons_succ]
      clear hK K
      refine wpAnyH_ready (rs := [6]) (by kernel_rfl) (by simp) ?_
      refine AllReadyH.cons rfl (fun K hK => ?_) AllReadyH.nil
      simp only [List.getElem_toArray, List.getElem_cons_succ, List.getElem_cons_zero]
      go_simp
      refine (piece_any s p hp (unhide HBY) kb b (64 * c) (cap - 64 * c) wr.drew hkbs hbs (unhide HK) (unhide HPC)).mono ?_
      rintro e w3 ⟨rfl, hb3⟩
      have hI3 := (unhide HI).below hb3
      have HI3 := hide (hI3.words (comp s p))
      have h3 := hide hI3.1.there
      refine hK.out _ _ trivial (fun hS => ?_)
      clear hK K hI3 HI hb3 r45 HK HPC
      refine wpAnyH_ready (rs := [7]) (by kernel_rfl) (by simp) ?_
      refine AllReadyH.cons rfl (fun K hK => ?_) AllReadyH.nil
      rw [if_pos (by rfl)]
      refine wp_store_mid 100 (.tmp 3) (.tmp 25) rfl hb 0 _ rfl rfl (by simpa [H8.vals] using unhide h3) (by rw [size100]; simp [H8.vals]) (one_ints _ _) ?_
      refine hK.out (Act.put _ none _) _ trivial (fun hS => ?_)
      clear hK K hS
      refine wpAnyH_done (by kernel_rfl) ?_ _
      simp only [Act.put]
      go_wp2
      go_roundw
      case rel => exact ⟨c + 1, by omega, by go_num, by rw [unhide HCS]; exact unhide HI3⟩
      case measure => simp [intOf]; omega
    · have hcc : c = n / 64 := by omega
      rw [hcc] at hI
      have hout := unhide HSHA
      generalize comps start8 L (n / 64) = s at *
      have HI := hide hI
      have hmk := fun W => run_make_u8 32 32 (by omega) (by omega) W
      simp only [Int.cast_ofNat_Int] at hmk
      clear hI hcc
      obtain ⟨wo, rfl⟩ : ∃ wo : World, wo = wr := ⟨_, rfl⟩
      go_wp2
      clear hmk
      go_loopw [8] (fun i wr => ∃ k : Nat, k ≤ 32 ∧ i = .int .i64 (k : Int) ∧ KeyInv wo ((outBytes s).take k ++ List.replicate (32 - k) 0) wr) (fun i _ => 32 - (intOf i).toNat)
      case atStart =>
        have h : KeyInv wo (List.replicate 32 0) _ := ⟨arr_new wo .u8 (List.replicate 32 0) 5 _ rfl, (Below.refl _ _).alloc (Nat.le_refl _) _, by simp⟩
        exact ⟨0, by omega, rfl, h⟩
      case round =>
        obtain ⟨k, hk, rfl, hJ⟩ := hrel
        have hbw : hb < wo.heap.size := by have := (unhide HI).2.2.2.2.2; omega
        have hlo := out_len s
        have hJl : ((outBytes s).take k ++ List.replicate (32 - k) (0 : Int)).length = 32 := by simp [hlo]; omega
        by_cases hlt2 : k < 32
        · have hcw := ((unhide HI).1.get0 (k / 4) (by simp [H8.vals]; omega))
          have hx := out_at s (k / 4) (k % 4) (by omega) (by omega)
          obtain ⟨x, hxx⟩ : ∃ x, x = s.vals.getD (k / 4) 0 := ⟨_, rfl⟩
          rw [← hxx] at hcw hx
          rw [← hJ.2.1.cell (p := ⟨hb, k / 4, none⟩) hbw] at hcw
          rw [show 4 * (k / 4) + k % 4 = k by omega] at hx
          have c1 := hJ.1.get0 k (by omega)
          have f1 := hJ.1.free0 k (by omega)
          obtain ⟨z, hz⟩ : ∃ z, z = ((outBytes s).take k ++ List.replicate (32 - k) (0 : Int)).getD k 0 := ⟨_, rfl⟩
          rw [← hz] at c1
          have hset := take_set (outBytes s) (List.replicate 32 0) k _ (by omega) (by simp; omega) rfl
          simp only [List.drop_replicate] at hset
          rw [hx] at hset
          have HJ := hide hJ
          have HJl := hide hJl
          have HSET := hide hset
          have e1 : ((k : Int) / 4).toNat = k / 4 := by omega
          have e2 : ((24 : Int) - 8 * ((k : Int) % 4)).toNat = 24 - 8 * (k % 4) := by omega
          have e3 : 0 ≤ (k : Int) / 4 ∧ (k : Int) / 4 < 8 := by omega
          clear hJ hz hset hJl hxx hx hlo hout
          go_wp2
          go_roundw
          case rel => exact ⟨k + 1, by omega, by go_num, (unhide HJ).put k (by rw [unhide HJl]; omega) _ (unhide HSET)⟩
          case measure => simp [intOf]; omega
        · have e32 : k = 32 := by omega
          rw [e32, List.take_of_length_le (by omega)] at hJ
          have hJ2 : KeyInv wo (outBytes s) wr := by simpa using hJ
          have hcv := run_convert_bytes_arg (P := Tryd.prog) wr 47 5 Tryd.underlying47 Tryd.underlying5 wo.heap.size 0 32 32 (outBytes s) hlo (fun i hi => hJ2.1.get i (by omega)) 9 Tryd.underlying9
          have HB := hide ((unhide HI).2.2.2.1.trans (hJ2.2.1.mono (unhide HI).2.2.2.1.size))
          clear hJ hJ2 hlo hJl e32
          go_wp2
          go_ret
          exact ⟨by rw [hout]; rfl, unhide HB⟩
end Go.Proofs.YtabgcgdpeikieaaDoor
namespace Go.Proofs.YtabgcgdpeikieaaDoor
open Go.RowKit
theorem zeros_at (n t : Nat) : (List.replicate n (0 : Int)).getD t 0 = 0 := by
  rw [List.getD_eq_getElem?_getD, List.getElem?_replicate]
  split <;> rfl
theorem str_add (a b : ByteArray) : nums (a ++ b) = nums a ++ nums b := by simp [nums]
set_option maxRecDepth 100000 in
set_option maxHeartbeats 400000 in
theorem rlaid_any (k : ByteArray) (m : Int) (hk : k.size ≤ 64) (w : World) :
    Calls Tryd.prog 70 #[.string k, .int .u8 m] w fun e w' => e = .returned (.string (strOfNums (laidK (nums k) m))) ∧ Below w.heap.size w w' := by
  have hkl : (nums k).length ≤ 64 := by rw [nums_len]; exact hk
  have hpl := pad64_len (nums k) hkl
  have hll : (laidK (nums k) m).length = 64 := by simp [laidK, hpl]
  have hmk := fun W => run_make_u8 64 64 (by omega) (by omega) W
  simp only [Int.cast_ofNat_Int] at hmk
  go_enter Tryd.func70, Tryd.ntmps70
  go_wp2
  clear hmk
  go_loopw [6] (fun i wr => ∃ t : Nat, t ≤ 64 ∧ i = .int .i64 t ∧ KeyInv w ((laidK (nums k) m).take t ++ (List.replicate 64 0).drop t) wr) (fun i _ => 64 - (intOf i).toNat)
  case atStart =>
    have h : KeyInv w (List.replicate 64 0) _ := ⟨arr_new w .u8 (List.replicate 64 0) 5 _ rfl, (Below.refl _ _).alloc (Nat.le_refl _) _, by simp⟩
    exact ⟨0, by omega, rfl, h⟩
  case round =>
    obtain ⟨t, ht, rfl, hI⟩ := hrel
    by_cases htl : t < 64
    · have hlen : ((laidK (nums k) m).take t ++ (List.replicate 64 (0 : Int)).drop t).length = 64 := by simp [hll]; omega
      have c1 := hI.1.get0 t (by omega)
      have f1 := hI.1.free0 t (by omega)
      rw [getD_take_drop _ _ _ (by omega)] at c1
      rw [zeros_at] at c1
      have hv : (laidK (nums k) m).getD t 0 = bits .xor .u8 ((pad64 (nums k)).getD t 0) m := by
        have : t < (pad64 (nums k)).length := by omega
        simp [laidK, xb, this]
      have HE := hide (take_set (laidK (nums k) m) (List.replicate 64 0) t _ (by omega) (by simp; omega) hv.symm)
      have HI := hide hI
      have HLEN := hide hlen
      clear hI hlen hv hll
      by_cases htk : t < k.size
      · have hix := index_str k t htk
        have hpd : (pad64 (nums k)).getD t 0 = (nums k).getD t 0 := by
          simp [pad64, List.getElem?_append, nums_len, htk]
        rw [hpd] at HE
        generalize (nums k).getD t 0 = x at *
        clear hpd hpl
        go_wp2
        go_roundw
        case rel => exact ⟨t + 1, by omega, by go_num, ((unhide HI).put t (by rw [unhide HLEN]; omega) x rfl).put t (by rw [List.length_set, unhide HLEN]; omega) _ (by rw [List.set_set]; exact unhide HE)⟩
        case measure => simp [intOf]; omega
      · have hpd : (pad64 (nums k)).getD t 0 = 0 := by
          rw [pad64, List.getD_eq_getElem?_getD, List.getElem?_append_right (by rw [nums_len]; omega), ← List.getD_eq_getElem?_getD, zeros_at]
        rw [hpd] at HE
        clear hpd hpl
        go_wp2
        go_roundw
        case rel => exact ⟨t + 1, by omega, by go_num, (unhide HI).put t (by rw [unhide HLEN]; omega) _ (unhide HE)⟩
        case measure => simp [intOf]; omega
    · have e64 : t = 64 := by omega
      rw [e64, List.take_of_length_le (by omega), List.drop_of_length_le (by simp), List.append_nil] at hI
      have hcv := run_convert_bytes_arg (P := Tryd.prog) wr 47 5 Tryd.underlying47 Tryd.underlying5 w.heap.size 0 64 64 (laidK (nums k) m) hll (fun i hi => hI.1.get i (by omega)) 9 Tryd.underlying9
      have HB := hide hI.2.1
      clear hI e64
      go_wp2
      go_ret
      exact ⟨rfl, unhide HB⟩
set_option maxRecDepth 100000 in
set_option maxHeartbeats 400000 in
theorem rmac_any (k s : ByteArray) (hk : k.size + 100 ≤ 140737488355328) (hs : s.size + 164 ≤ 140737488355328) (w : World) :
    Calls Tryd.prog 67 #[.string k, .string s] w fun e w' => e = .returned (.string (strOfNums (macP (nums k) (nums s)))) ∧ Below w.heap.size w w' := by
  by_cases h64 : 64 < k.size
  · have hp : macP (nums k) (nums s) = sha (laidK (sha (nums k)) 92 ++ sha (laidK (sha (nums k)) 54 ++ nums s)) := by rw [macP, nums_len, if_pos h64]
    have HP := hide hp
    clear hp
    go_enter Tryd.func67, Tryd.ntmps67
    go_wp2_with fail
    refine (rsum_any k hk w).mono ?_
    rintro e w0 ⟨rfl, hb0⟩
    have hk0 : (strOfNums (sha (nums k))).size ≤ 64 := by rw [strOfNums_size, sha_len]; omega
    have hnk : nums (strOfNums (sha (nums k))) = sha (nums k) := nums_strOfNums _ (sha_bytes _)
    rw [← hnk] at HP
    generalize strOfNums (sha (nums k)) = k0 at *
    have HB0 := hide hb0
    clear hb0 hnk
    go_wp2_with fail
    refine (rlaid_any k0 54 hk0 _).mono ?_
    rintro e w1 ⟨rfl, hb1⟩
    have HB1 := hide ((unhide HB0).trans (hb1.mono (unhide HB0).size))
    clear hb1 HB0
    have hl1 : (laidK (nums k0) 54).length = 64 := laidK_len _ _ (by rw [nums_len]; exact hk0)
    have n1 : (strOfNums (laidK (nums k0) 54)).size = 64 := by rw [strOfNums_size, hl1]
    have N1 := hide (nums_strOfNums _ (laidK_bytes (nums k0) 54))
    generalize strOfNums (laidK (nums k0) 54) = t1 at *
    clear hl1
    go_wp2_with fail
    refine (rsum_any (t1 ++ s) (by rw [ByteArray.size_append]; omega) _).mono ?_
    rintro e w2 ⟨rfl, hb2⟩
    have HB2 := hide ((unhide HB1).trans (hb2.mono (unhide HB1).size))
    clear hb2 HB1
    have n2 : (strOfNums (sha (nums (t1 ++ s)))).size = 32 := by rw [strOfNums_size, sha_len]
    have N2 : Hid (nums (strOfNums (sha (nums (t1 ++ s)))) = sha (laidK (nums k0) 54 ++ nums s)) := by
      have e : nums (strOfNums (sha (nums (t1 ++ s)))) = sha (laidK (nums k0) 54 ++ nums s) := by rw [nums_strOfNums _ (sha_bytes _), str_add, unhide N1]
      exact e
    generalize strOfNums (sha (nums (t1 ++ s))) = t2 at *
    go_wp2_with fail
    refine (rlaid_any k0 92 hk0 _).mono ?_
    rintro e w3 ⟨rfl, hb3⟩
    have HB3 := hide ((unhide HB2).trans (hb3.mono (unhide HB2).size))
    clear hb3 HB2
    have hl3 : (laidK (nums k0) 92).length = 64 := laidK_len _ _ (by rw [nums_len]; exact hk0)
    have n3 : (strOfNums (laidK (nums k0) 92)).size = 64 := by rw [strOfNums_size, hl3]
    have N3 := hide (nums_strOfNums _ (laidK_bytes (nums k0) 92))
    generalize strOfNums (laidK (nums k0) 92) = t3 at *
    clear hl3
    go_wp2_with fail
    refine (rsum_any (t3 ++ t2) (by rw [ByteArray.size_append]; omega) _).mono ?_
    rintro e w4 ⟨rfl, hb4⟩
    have HB4 := hide ((unhide HB3).trans (hb4.mono (unhide HB3).size))
    clear hb4 HB3
    go_wp2
    go_ret
    exact ⟨by rw [unhide HP, str_add t3, unhide N3, unhide N2]; rfl, unhide HB4⟩
  · have hp : macP (nums k) (nums s) = sha (laidK (nums k) 92 ++ sha (laidK (nums k) 54 ++ nums s)) := by rw [macP, nums_len, if_neg h64]
    have HP := hide hp
    clear hp
    obtain ⟨k0, hkk⟩ : ∃ k0, k0 = k := ⟨_, rfl⟩
    have hk0 : k.size ≤ 64 := by omega
    have HB0 := hide (Below.refl w.heap.size w)
    go_enter Tryd.func67, Tryd.ntmps67
    go_wp2_with fail
    subst hkk
    refine (rlaid_any k0 54 hk0 _).mono ?_
    rintro e w1 ⟨rfl, hb1⟩
    have HB1 := hide ((unhide HB0).trans (hb1.mono (unhide HB0).size))
    clear hb1 HB0
    have hl1 : (laidK (nums k0) 54).length = 64 := laidK_len _ _ (by rw [nums_len]; exact hk0)
    have n1 : (strOfNums (laidK (nums k0) 54)).size = 64 := by rw [strOfNums_size, hl1]
    have N1 := hide (nums_strOfNums _ (laidK_bytes (nums k0) 54))
    generalize strOfNums (laidK (nums k0) 54) = t1 at *
    clear hl1
    go_wp2_with fail
    refine (rsum_any (t1 ++ s) (by rw [ByteArray.size_append]; omega) _).mono ?_
    rintro e w2 ⟨rfl, hb2⟩
    have HB2 := hide ((unhide HB1).trans (hb2.mono (unhide HB1).size))
    clear hb2 HB1
    have n2 : (strOfNums (sha (nums (t1 ++ s)))).size = 32 := by rw [strOfNums_size, sha_len]
    have N2 : Hid (nums (strOfNums (sha (nums (t1 ++ s)))) = sha (laidK (nums k0) 54 ++ nums s)) := by
      have e : nums (strOfNums (sha (nums (t1 ++ s)))) = sha (laidK (nums k0) 54 ++ nums s) := by rw [nums_strOfNums _ (sha_bytes _), str_add, unhide N1]
      exact e
    generalize strOfNums (sha (nums (t1 ++ s))) = t2 at *
    go_wp2_with fail
    refine (rlaid_any k0 92 hk0 _).mono ?_
    rintro e w3 ⟨rfl, hb3⟩
    have HB3 := hide ((unhide HB2).trans (hb3.mono (unhide HB2).size))
    clear hb3 HB2
    have hl3 : (laidK (nums k0) 92).length = 64 := laidK_len _ _ (by rw [nums_len]; exact hk0)
    have n3 : (strOfNums (laidK (nums k0) 92)).size = 64 := by rw [strOfNums_size, hl3]
    have N3 := hide (nums_strOfNums _ (laidK_bytes (nums k0) 92))
    generalize strOfNums (laidK (nums k0) 92) = t3 at *
    clear hl3
    go_wp2_with fail
    refine (rsum_any (t3 ++ t2) (by rw [ByteArray.size_append]; omega) _).mono ?_
    rintro e w4 ⟨rfl, hb4⟩
    have HB4 := hide ((unhide HB3).trans (hb4.mono (unhide HB3).size))
    clear hb4 HB3
    go_wp2
    go_ret
    exact ⟨by rw [unhide HP, str_add t3, unhide N3, unhide N2]; rfl, unhide HB4⟩
end Go.Proofs.YtabgcgdpeikieaaDoor
namespace Go.Proofs.YtabgcgdpeikieaaDoor
open Go.RowKit
theorem outP_bytes (key info : List Int) : ∀ k, Bytes (outP key info k)
  | 0 => by intro j; simp [outP]
  | k + 1 => bytes_append (outP_bytes key info k) (tP_bytes key info (k + 1))
theorem nums_pre (t : ByteArray) (n : Nat) : nums (t.extract 0 n) = (nums t).take n := by
  unfold nums
  simp only [ByteArray.data_extract, Array.toList_extract, List.extract_eq_take_drop, List.map_take, List.drop_zero, Nat.sub_zero]
theorem str_pre (L : List Int) (hL : Bytes L) (n : Nat) : (strOfNums L).extract 0 n = strOfNums (L.take n) := by
  rw [← strOfNums_nums ((strOfNums L).extract 0 n), nums_pre, nums_strOfNums _ hL]
set_option maxHeartbeats 400000 in
theorem rderive_neg (key info : ByteArray) (n : Int) (h : n < 0) (w : World) :
    Calls Tryd.prog 57 #[.string key, .string info, .int .i64 n] w fun e w' => e = .returned (.tuple #[.string ⟨#[]⟩, .int .i64 1]) ∧ w' = w := by
  go_enter Tryd.func57, Tryd.ntmps57
  go_wp2
  go_ret2
  exact ⟨rfl, rfl⟩
set_option maxHeartbeats 400000 in
theorem rderive_long (key info : ByteArray) (n : Int) (h : 8160 < n) (w : World) :
    Calls Tryd.prog 57 #[.string key, .string info, .int .i64 n] w fun e w' => e = .returned (.tuple #[.string ⟨#[]⟩, .int .i64 10]) ∧ w' = w := by
  go_enter Tryd.func57, Tryd.ntmps57
  go_wp2
  go_ret2
  exact ⟨rfl, rfl⟩
set_option maxRecDepth 100000 in
set_option maxHeartbeats 400000 in
theorem rderive_any (key info : ByteArray) (n : Nat) (hn : n ≤ 8160) (hk : key.size + 100 ≤ 140737488355328) (hi : info.size + 200 ≤ 140737488355328) (w : World) :
    Calls Tryd.prog 57 #[.string key, .string info, .int .i64 (n : Int)] w fun e w' => e = .returned (.tuple #[.string (strOfNums ((outP (nums key) (nums info) ((n + 31) / 32)).take n)), .int .i64 0]) ∧ Below w.heap.size w w' := by
  go_enter Tryd.func57, Tryd.ntmps57
  go_wp2
  go_loopw [8, 9, 10] (fun v l i wr => ∃ k : Nat, 32 * k < n + 32 ∧ i = .int .i64 ((k : Int) + 1) ∧ v = .string (strOfNums (outP (nums key) (nums info) k)) ∧ l = .string (strOfNums (tP (nums key) (nums info) k)) ∧ Below w.heap.size w wr) (fun _ _ i _ => n + 32 - 32 * (intOf i).toNat)
  case atStart => exact ⟨0, by omega, rfl, rfl, rfl, Below.refl _ _⟩
  case round =>
    obtain ⟨k, hk2, rfl, rfl, rfl, hB⟩ := hrel
    have hol : (strOfNums (outP (nums key) (nums info) k)).size = 32 * k := by rw [strOfNums_size, outP_len]
    by_cases hlt : 32 * k < n
    · have hcv := fun W : World => run_convert_bytes_arg (P := Tryd.prog) (W.alloc (Obj.cells #[.int .u8 ((k : Int) + 1)] 5)) 47 5 Tryd.underlying47 Tryd.underlying5 W.heap.size 0 1 1 [(k : Int) + 1] rfl (fun i hi => by
        have : i = 0 := by omega
        subst this
        simp) 9 Tryd.underlying9
      have hts : (strOfNums (tP (nums key) (nums info) k)).size ≤ 32 := by rw [strOfNums_size]; exact tP_len_le _ _ k
      have hns := nums_strOfNums _ (tP_bytes (nums key) (nums info) k)
      have hno := nums_strOfNums _ (outP_bytes (nums key) (nums info) k)
      obtain ⟨lt, hlt2⟩ : ∃ lt, lt = strOfNums (tP (nums key) (nums info) k) := ⟨_, rfl⟩
      obtain ⟨ot, hot⟩ : ∃ ot, ot = strOfNums (outP (nums key) (nums info) k) := ⟨_, rfl⟩
      rw [← hlt2] at hts hns
      rw [← hot] at hol hno
      rw [← hlt2, ← hot]
      have hs1 : (lt ++ info).size = lt.size + info.size := ByteArray.size_append
      have hs2 : (strOfNums [(k : Int) + 1]).size = 1 := by rw [strOfNums_size]; rfl
      have hnb : nums (strOfNums [(k : Int) + 1]) = [((k : Int) + 1) % 256] := by
        rw [nums_strOfNums _ (bytes_one _ (by omega) (by omega)), Int.emod_eq_of_lt (by omega) (by omega)]
      obtain ⟨bt, hbt⟩ : ∃ bt, bt = strOfNums [(k : Int) + 1] := ⟨_, rfl⟩
      rw [← hbt] at hs2 hnb
      simp only [← hbt] at hcv
      have hs3 : (lt ++ info).size + bt.size ≤ 9223372036854775807 := by omega
      have hs4 : lt.size + info.size ≤ 9223372036854775807 := by omega
      have hall : nums (lt ++ info ++ bt) = tP (nums key) (nums info) k ++ nums info ++ [((k : Int) + 1) % 256] := by rw [nums_append, nums_append, hns, hnb]
      have hsall : (lt ++ info ++ bt).size + 164 ≤ 140737488355328 := by rw [ByteArray.size_append]; omega
      have HMA := hide (fun W => rmac_any key (lt ++ info ++ bt) hk hsall W)
      rw [hall] at HMA
      have htn : tP (nums key) (nums info) (k + 1) = macP (nums key) (tP (nums key) (nums info) k ++ nums info ++ [((k : Int) + 1) % 256]) := rfl
      rw [← htn] at HMA
      have HMT2 := hide (show strOfNums (tP (nums key) (nums info) (k + 1)) = strOfNums (tP (nums key) (nums info) (k + 1)) from rfl)
      have hms : (strOfNums (tP (nums key) (nums info) (k + 1))).size = 32 := by rw [strOfNums_size, tP, mac_len]
      have HOUT : Hid (ot ++ strOfNums (tP (nums key) (nums info) (k + 1)) = strOfNums (outP (nums key) (nums info) (k + 1))) := by
        have h : ot ++ strOfNums (tP (nums key) (nums info) (k + 1)) = strOfNums (outP (nums key) (nums info) (k + 1)) := by
          rw [← strOfNums_nums (ot ++ strOfNums (tP (nums key) (nums info) (k + 1))), nums_append, hno, nums_strOfNums _ (tP_bytes _ _ _), outP]
        exact h
      obtain ⟨mt, hmt⟩ : ∃ mt, mt = strOfNums (tP (nums key) (nums info) (k + 1)) := ⟨_, rfl⟩
      rw [← hmt] at hms HOUT HMA
      have HMT := hide hmt
      have HB := hide hB
      clear hlt2 hot hns hno hnb hbt hall hsall htn hmt hB HMT2
      go_wp2_with fail
      refine (unhide HMA _).mono ?_
      rintro e w1 ⟨rfl, hb1⟩
      change Below (wr.alloc (Obj.cells #[.int .u8 ((k : Int) + 1)] 5)).heap.size _ w1 at hb1
      have hb0 := (unhide HB).alloc (unhide HB).size (Obj.cells #[.int .u8 ((k : Int) + 1)] 5)
      have HB1 := hide (hb0.trans (hb1.mono hb0.size))
      clear hb1 hb0 HB HMA hcv hs1 hs3 hs4
      have hs5 : ot.size + mt.size ≤ 9223372036854775807 := by omega
      go_wp2
      go_roundw
      case rel => exact ⟨k + 1, by omega, congrArg (Value.int .i64) (by omega), by rw [unhide HOUT], by rw [unhide HMT], unhide HB1⟩
      case measure => simp [intOf]; omega
    · have hek : (n + 31) / 32 = k := by omega
      have HP := hide (str_pre _ (outP_bytes (nums key) (nums info) k) n)
      have HE := hide hek
      have HB := hide hB
      generalize hot : strOfNums (outP (nums key) (nums info) k) = ot at *
      clear hB hek hot
      go_wp2
      go_ret2
      exact ⟨by rw [unhide HE, ← unhide HP]; rfl, unhide HB⟩
end Go.Proofs.YtabgcgdpeikieaaDoor
