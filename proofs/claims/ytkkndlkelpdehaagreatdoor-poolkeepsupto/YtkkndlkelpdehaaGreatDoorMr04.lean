import Derived.Test.YtkkndlkelpdehaaGreatDoorMr03
import Derived.Test.YtkkndlkelpdehaaGreatDoorMr00
namespace Go.Proofs.YtkkndlkelpdehaaGreatDoor
open Go.RowKit
theorem own_row (w : World) (base g : Nat) (l : List ByteArray) (h : Blk w g (strs l).toArray 9) (hb : base ≤ g) (hl : l.length ≤ 1000000) : w.ownsRow base 9 1 (.slice (some ⟨g, 0, none⟩) l.length l.length) l.length (strs l) :=
  ⟨by simp [strs_len], .inr ⟨g, l.length, _, rfl, hb, h, Nat.le_refl _, by unfold maxLen; omega, by simp [strs_len], by rw [Nat.mul_one]; exact List.take_of_length_le (by simp [strs_len])⟩⟩
theorem clone_any (w : World) (base : Nat) (v : Value) (l : List ByteArray) (h : w.ownsRow base 9 1 v l.length (strs l)) (hl : 0 < l.length) (hl2 : l.length ≤ 1000000) :
    Calls Tryz.prog 65 #[v] w fun e w' => ∃ v', e = .returned v' ∧ w'.ownsRow w.heap.size 9 1 v' l.length (strs l) ∧ Below w.heap.size w w' := by
  obtain ⟨g, cap, rfl, _, _⟩ := h.form hl
  refine (Tryz.slices_Clone_string g 0 l.length cap l w (Nat.le_refl _) (by omega) (fun j hj => by
    rw [Nat.zero_add, (own_at h rfl j hj).1]
    exact strs_at _ _ hj)).mono ?_
  rintro e w' ⟨v', h1, h2, _, h3⟩
  exact ⟨v', h1, by rw [List.take_length] at h2; exact h2, h3⟩
theorem load_blk {W : World} {b : Nat} {cur : Array Value} {T : TypeId} (ty : TypeId) (d : TypeDesc) (h : Blk W b cur T) (hu : Tryz.prog.underlying ty = some d) (hd : d.isRow = true) (hi : (Tryz.prog.info? ty).map (·.size) = some cur.size) : (loadVar ty ⟨b, 0, none⟩).run Tryz.prog W = .ok (.agg cur) W := by
  have := run_loadVar_mid (P := Tryz.prog) W b 0 ty cur.toList d (fun j v hv => by rw [Nat.zero_add, h.cell j]; simpa using hv) hu hd (by simpa using hi)
  simpa using this
set_option maxRecDepth 100000 in
set_option maxHeartbeats 1000000 in
theorem holding_any (w : World) (g : Nat) (l : List ByteArray) (h : Blk w g (strs l).toArray 9) (hl : 0 < l.length) (hl2 : l.length ≤ 1024) :
    Calls Tryz.prog 36 #[.slice (some ⟨g, 0, none⟩) l.length l.length] w fun e w' => ∃ g1 cap1, e = .returned (.agg #[.slice (some ⟨g, 0, none⟩) l.length l.length, .slice (some ⟨g1, 0, none⟩) l.length cap1, .slice none 0 0]) ∧ w'.ownsRow w.heap.size 9 1 (.slice (some ⟨g1, 0, none⟩) l.length cap1) l.length (strs l) ∧ Below w.heap.size w w' := by
  have HR := hide (own_row w 0 g l h (Nat.zero_le _) (by omega))
  clear h
  go_enter Tryz.func36, Tryz.ntmps36
  go_wp2_with fail
  refine (clone_any (w.alloc (Obj.cells #[Value.slice none 0 0, Value.slice none 0 0, Value.slice none 0 0] 75)) 0 _ l ((unhide HR).alloc _) hl (by omega)).mono ?_
  rintro ev x1 ⟨v', rfl, hr, hb⟩
  have hx : x1.heap[w.heap.size]? = some (.cells #[Value.slice none 0 0, Value.slice none 0 0, Value.slice none 0 0] 75 (0, 0)) := (hb.block w.heap.size (by simp)).trans (Blk.new w 75 #[Value.slice none 0 0, Value.slice none 0 0, Value.slice none 0 0])
  obtain ⟨g1, cap1, rfl, hg1, _⟩ := hr.form hl
  have q0 : x1.cell? ⟨w.heap.size, 0, none⟩ = some (.slice none 0 0) := Blk.cell hx 0
  have q1 : x1.cell? ⟨w.heap.size, 1, none⟩ = some (.slice none 0 0) := Blk.cell hx 1
  have q2 : x1.cell? ⟨w.heap.size, 2, none⟩ = some (.slice none 0 0) := Blk.cell hx 2
  have p0 : x1.frozen? ⟨w.heap.size, 0, none⟩ = false := Blk.frozen hx 0
  have p1 : x1.frozen? ⟨w.heap.size, 1, none⟩ = false := Blk.frozen hx 1
  have p2 : x1.frozen? ⟨w.heap.size, 2, none⟩ = false := Blk.frozen hx 2
  have H1 := hide hr
  have H2 := hide hb
  have H3 := hide hx
  clear hr hb hx
  go_wp2
  have B3 := ((Blk.set (unhide H3) 0 (.slice (some ⟨g, 0, none⟩) l.length l.length)).set 1 (.slice (some ⟨g1, 0, none⟩) l.length cap1)).set 2 (.slice none 0 0)
  have hld := load_blk 75 _ B3 Tryz.underlying75 rfl (by kernel_rfl)
  refine bodyPost_ret (v := .agg #[.slice (some ⟨g, 0, none⟩) l.length l.length, .slice (some ⟨g1, 0, none⟩) l.length cap1, .slice none 0 0]) ?_ rfl ⟨g1, cap1, rfl, ?_, ?_⟩
  · exact results_cell rfl _ _ _ ⟨w.heap.size, 0, none⟩ rfl _ hld
  · have hne : (Value.slice (some ⟨g1, 0, none⟩) l.length cap1).ownBlock ≠ some w.heap.size := by
      simp [Value.ownBlock]
      simp at hg1
      omega
    exact owns_base (owns_setO (owns_setO (owns_setO (unhide H1) _ _ hne) _ _ hne) _ _ hne) (by simp)
  · exact ((((Below.refl _ w).alloc (Nat.le_refl _) _).trans ((unhide H2).mono (by simp))).setCell (Nat.le_refl _) _ |>.setCell (Nat.le_refl _) _ |>.setCell (Nat.le_refl _) _)
def freshS (l : List ByteArray) : DSt := ⟨l, l, [], [], 0, false⟩
def zero256 : ByteArray := ⟨(List.replicate 256 0).toArray⟩
theorem rep_zero4 : (⟨(Lib.repeatL (ByteArray.mk #[0]).data.toList 256).toArray⟩ : ByteArray) = zero256 := by
  have h : Lib.repeatL (ByteArray.mk #[0]).data.toList 256 = List.replicate 256 0 := by
    have := Lib.repeatL_replicate 0 1 256
    rw [Nat.mul_one] at this
    exact this
  rw [h, zero256]
def NewPost (n : Int) (w : World) (e : Ending) (w' : World) : Prop :=
  if 128 ≤ n ∧ n ≤ 1024 then ∃ b v, e = .returned (.tuple #[.pointer (some ⟨b, 0, none⟩), .int .i64 0]) ∧ Dk w' w.heap.size b v (freshS (List.replicate n.toNat zero256)) ∧ Below w.heap.size w w'
  else e = .returned (.tuple #[.pointer none, .int .i64 40]) ∧ w' = w
set_option maxRecDepth 100000 in
set_option maxHeartbeats 1000000 in
theorem new_any (n : Int) (w : World) : Calls Tryz.prog 17 #[.int .i64 n] w (NewPost n w) := by
  by_cases hn : 128 ≤ n ∧ n ≤ 1024
  · have e : decide (128 ≤ n ∧ n ≤ 1024) = true := by simpa using hn
    obtain ⟨m, rfl⟩ := Int.eq_ofNat_of_zero_le (show 0 ≤ n by omega)
    have hm1 : 128 ≤ m := by omega
    have hm2 : m ≤ 1024 := by omega
    have HN := hide hn
    clear hn
    go_enter Tryz.func17, Tryz.ntmps17
    go_wp2_with fail
    refine (isSize_any _ _).mono ?_
    rintro ev x1 ⟨rfl, rfl⟩
    rw [e]
    clear e
    go_wp2_with fail
    have hrep := Tryz.strings_Repeat ⟨#[0]⟩ 256 x1 (by decide) (by decide)
    rw [rep_zero4] at hrep
    refine hrep.mono ?_
    rintro ev x2 ⟨rfl, hb2⟩
    generalize hZ : zero256 = Z at *
    have HZ := hide hZ
    clear hZ
    have HB2 := hide hb2
    have hs2 := hb2.size
    clear hb2 hrep
    go_wp2_with fail
    refine (srepeat_any Z m (by omega) hm2 _ x2.heap.size (by simp) (by simp)).mono ?_
    rintro ev x3 ⟨rfl, hk3, hb3⟩
    obtain ⟨L, hL⟩ : ∃ L, L = List.replicate m Z := ⟨_, rfl⟩
    have hLm : L.length = m := by rw [hL]; simp
    rw [← hL] at hk3
    have HL := hide hL
    have hg : (x2.alloc (Obj.cells #[Value.string Z] 9)).heap.size = x2.heap.size + 1 := by simp
    rw [hg] at hk3 hb3 ⊢
    have HK3 := hide hk3
    have HB3 := hide (show Below x1.heap.size x1 x3 from ((unhide HB2).alloc hs2 _).trans (hb3.mono (by omega)))
    have hs3 := hb3.size
    rw [hg] at hs3
    clear hL hk3 hb3 hg HB2
    subst hLm
    go_wp2_with fail
    refine (holding_any _ _ L (unhide HK3) (by omega) hm2).mono ?_
    rintro ev x4 ⟨g1, cap1, rfl, hr4, hb4⟩
    have hk4 := (unhide HK3).below hb4 (unhide HK3).lt
    have D := hide (show Dk (x4.alloc (Obj.cells #[.slice (some ⟨x2.heap.size + 1, 0, none⟩) L.length L.length, .slice (some ⟨g1, 0, none⟩) L.length cap1, .slice none 0 0, .slice none 0 0, .int .i64 0, .bool false] 78)) x1.heap.size x4.heap.size ⟨.slice (some ⟨x2.heap.size + 1, 0, none⟩) L.length L.length, .slice (some ⟨g1, 0, none⟩) L.length cap1, .slice none 0 0, .slice none 0 0⟩ (freshS L) from by
      have hg1 := (hr4.lt g1 rfl).1
      have hlt := (unhide HK3).lt
      refine ⟨Blk.new _ _ _, (own_row x4 x1.heap.size _ L hk4 (by omega) (by omega)).alloc _, (owns_base hr4 (by omega)).alloc _, World.ownsRow_nil _ _ _ _, World.ownsRow_nil _ _ _ _, fun k hk1 hk2 => ?_, ?_⟩
      · simp [Value.ownBlock] at hk1 hk2
        omega
      · have := hb4.size
        omega)
    have HB4 := hide ((unhide HB3).trans (hb4.mono (unhide HB3).size))
    clear hr4 hb4 hk4 HK3 HB3
    go_wp2
    go_ret2
    rw [NewPost, if_pos (unhide HN)]
    have D2 := unhide D
    have e2 : freshS L = freshS (List.replicate (L.length : Int).toNat zero256) := by
      rw [Int.toNat_natCast, unhide HZ, ← unhide HL]
    rw [e2] at D2
    exact ⟨_, _, rfl, D2, (unhide HB4).alloc (unhide HB4).size _⟩
  · have e : decide (128 ≤ n ∧ n ≤ 1024) = false := by simpa using hn
    have HN := hide hn
    clear hn
    go_enter Tryz.func17, Tryz.ntmps17
    go_wp2_with fail
    refine (isSize_any _ _).mono ?_
    rintro ev x1 ⟨rfl, rfl⟩
    rw [e]
    clear e
    go_wp2
    go_ret2
    rw [NewPost, if_neg (unhide HN)]
    exact ⟨rfl, rfl⟩
end Go.Proofs.YtkkndlkelpdehaaGreatDoor

namespace Go.Proofs.YtkkndlkelpdehaaGreatDoor
open Go.RowKit
/-- A slice of texts that was handed in. -/
def Strs (w : World) (p : Option Addr) (l : List ByteArray) : Prop := ∀ j, j < l.length → ∃ g o, p = some ⟨g, o, none⟩ ∧ g < w.heap.size ∧ w.cell? ⟨g, o + j, none⟩ = some (.string (l.getD j ByteArray.empty))
def LoadPost (l : List ByteArray) (w : World) (e : Ending) (w' : World) : Prop :=
  if 128 ≤ l.length ∧ l.length ≤ 1024 then
    (if ∀ t ∈ l, t.size = 256 then ∃ b v, e = .returned (.tuple #[.pointer (some ⟨b, 0, none⟩), .int .i64 0]) ∧ Dk w' w.heap.size b v (freshS l) ∧ Below w.heap.size w w'
     else e = .returned (.tuple #[.pointer none, .int .i64 42]) ∧ Below w.heap.size w w')
  else e = .returned (.tuple #[.pointer none, .int .i64 40]) ∧ w' = w
def partL (l : List ByteArray) (k : Nat) : List ByteArray := l.take k ++ List.replicate (l.length - k) ⟨#[]⟩
theorem partL_len (l : List ByteArray) (k : Nat) (h : k ≤ l.length) : (partL l k).length = l.length := by simp [partL]; omega
theorem partL_step (l : List ByteArray) (k : Nat) (h : k < l.length) : (partL l k).set k (l.getD k ByteArray.empty) = partL l (k + 1) := by
  have e1 : l.take (k + 1) = l.take k ++ [l.getD k ByteArray.empty] := by
    rw [List.take_succ_eq_append_getElem h]
    simp [List.getD_eq_getElem?_getD, h]
  have e2 : List.replicate (l.length - k) (⟨#[]⟩ : ByteArray) = ⟨#[]⟩ :: List.replicate (l.length - (k + 1)) ⟨#[]⟩ := by
    rw [show l.length - k = (l.length - (k + 1)) + 1 by omega, List.replicate_succ]
  rw [partL, partL, e1, e2, List.set_append]
  have hl : (l.take k).length = k := by simp; omega
  simp [hl]
def LdI (w : World) (l : List ByteArray) (k : Nat) (wr : World) : Prop := Blk wr w.heap.size (strs (partL l k)).toArray 9 ∧ Below w.heap.size w wr ∧ ∀ t ∈ l.take k, t.size = 256
theorem LdI.step {w wr x : World} {l : List ByteArray} {k : Nat} (h : LdI w l k wr) (hk : k < l.length) (hb : Below wr.heap.size wr x) (ht : (l.getD k ByteArray.empty).size = 256) : LdI w l (k + 1) (x.setCell ⟨w.heap.size, k, none⟩ (.string (l.getD k ByteArray.empty))) := by
  refine ⟨?_, (h.2.1.trans (hb.mono h.2.1.size)).setCell (Nat.le_refl _) _, fun t hm => ?_⟩
  · have := (h.1.below hb h.1.lt).set k (.string (l.getD k ByteArray.empty))
    have e : (strs (partL l k)).toArray.setIfInBounds k (.string (l.getD k ByteArray.empty)) = (strs (partL l (k + 1))).toArray := by
      rw [← partL_step l k hk, ← strs_set]
      simp
    rw [e] at this
    exact this
  · rw [List.take_succ_eq_append_getElem hk] at hm
    rcases List.mem_append.1 hm with hm | hm
    · exact h.2.2 t hm
    · simp at hm
      subst hm
      simpa [List.getD_eq_getElem?_getD, hk] using ht
/-- The acts as they are told. -/
def tel1 (p : Nat × Nat) : List Value := if p.1 = 1 then [.int .i64 2, .int .i64 0] else [.int .i64 1, .int .i64 (p.2 : Int)]
def tels : List (Nat × Nat) → List Value
  | [] => []
  | p :: r => tel1 p ++ tels r
end Go.Proofs.YtkkndlkelpdehaaGreatDoor

namespace Go.Proofs.YtkkndlkelpdehaaGreatDoor
open Go.RowKit
set_option maxRecDepth 100000 in
set_option maxHeartbeats 1000000 in
theorem told_any (k i : Nat) (hi : i < 1024) (w : World) :
    Calls Tryz.prog 32 #[.agg #[.int .u8 (k : Int), .int .u16 (i : Int)]] w fun e w' => ∃ x y, tel1 (k, i) = [.int .i64 x, .int .i64 y] ∧ e = .returned (.agg #[.int .i64 x, .int .i64 y]) ∧ Below w.heap.size w w' := by
  by_cases hk : k = 1
  · subst hk
    go_enter Tryz.func32, Tryz.ntmps32
    go_wp2
    have B1 := Blk.new (w.alloc (Obj.cells #[Value.int IntKind.u8 1, Value.int IntKind.u16 (i : Int)] 82)) 43 #[.int .i64 2, .int .i64 0]
    rw [show (w.alloc (Obj.cells #[Value.int IntKind.u8 1, Value.int IntKind.u16 (i : Int)] 82)).heap.size = w.heap.size + 1 by simp] at B1
    have hld := load_blk 43 _ B1 Tryz.underlying43 rfl (by kernel_rfl)
    refine bodyPost_ret (v := .agg #[.int .i64 2, .int .i64 0]) ?_ rfl ⟨2, 0, rfl, rfl, ((Below.refl _ _).alloc (Nat.le_refl _) _).alloc (by simp) _⟩
    exact results_cell rfl _ _ _ ⟨w.heap.size + 1, 0, none⟩ rfl _ hld
  · have hne : ((k : Int) == 1) = false := by simp; omega
    have hw : IntKind.i64.wrap (i : Int) = (i : Int) := wrapI_eq _ (by omega) (by omega)
    have HK := hide hk
    clear hk
    go_enter Tryz.func32, Tryz.ntmps32
    go_wp2
    have B1 := Blk.new (w.alloc (Obj.cells #[Value.int IntKind.u8 (k : Int), Value.int IntKind.u16 (i : Int)] 82)) 43 #[.int .i64 1, .int .i64 (i : Int)]
    rw [show (w.alloc (Obj.cells #[Value.int IntKind.u8 (k : Int), Value.int IntKind.u16 (i : Int)] 82)).heap.size = w.heap.size + 1 by simp] at B1
    have hld := load_blk 43 _ B1 Tryz.underlying43 rfl (by kernel_rfl)
    refine bodyPost_ret (v := .agg #[.int .i64 1, .int .i64 (i : Int)]) ?_ rfl ⟨1, i, by rw [tel1, if_neg (unhide HK)], rfl, ((Below.refl _ _).alloc (Nat.le_refl _) _).alloc (by simp) _⟩
    exact results_cell rfl _ _ _ ⟨w.heap.size + 1, 0, none⟩ rfl _ hld
theorem infoT : (Tryz.prog.info? 43).map (fun i => (i.zero, i.size, i.bytes)) = some (some (.agg #[.int .i64 0, .int .i64 0]), 2, 16) := by kernel_rfl
set_option maxRecDepth 100000 in
theorem run_make_t (l : Nat) (hc : l ≤ 1000000000) (w : World) : (Instr.makeSlice 40 (.int .i64 (l : Int)) (.int .i64 (l : Int))).run Tryz.prog w = .ok (.slice (some ⟨w.heap.size, 0, none⟩) l l) (w.alloc (.cells (List.replicate (l * 2) (.int .i64 0)).toArray 43)) := by
  obtain ⟨i0, hi, hz0, hz1, hz2⟩ := info_parts infoT
  have := run_make (P := Tryz.prog) w 40 43 i0 (.agg #[.int .i64 0, .int .i64 0]) Tryz.underlying40 hi hz0 .i64 .i64 (l : Int) (l : Int) (by omega) (by omega) (by rw [hz2]; omega) (by omega)
  rw [this, hz1]
  simp only [Int.toNat_natCast]
  congr 3
  apply Array.ext
  · simp [size_madeCells]
  · intro j h1 h2
    have : j % 2 = 0 ∨ j % 2 = 1 := by omega
    rcases this with h | h <;> simp [madeCells, Value.cells, h]
theorem acs_at : ∀ (l : List (Nat × Nat)) (k : Nat) (hk : k < l.length), (acs l)[k * 2]? = some (.int .u8 ((l[k].1 : Nat) : Int)) ∧ (acs l)[k * 2 + 1]? = some (.int .u16 ((l[k].2 : Nat) : Int))
  | p :: r, 0, _ => by simp [acs]
  | p :: r, k + 1, hk => by
    have := acs_at r k (by simpa using hk)
    rw [show (k + 1) * 2 = k * 2 + 1 + 1 by omega]
    simpa [acs] using this
theorem tel1_len (p : Nat × Nat) : (tel1 p).length = 2 := by unfold tel1; split <;> rfl
theorem tels_len : ∀ l : List (Nat × Nat), (tels l).length = l.length * 2
  | [] => rfl
  | p :: r => by simp [tels, tels_len r, tel1_len]; omega
theorem tels_app : ∀ l m : List (Nat × Nat), tels (l ++ m) = tels l ++ tels m
  | [], m => rfl
  | p :: r, m => by simp [tels, tels_app r m]
def partT (l : List (Nat × Nat)) (k : Nat) : List Value := tels (l.take k) ++ List.replicate ((l.length - k) * 2) (.int .i64 0)
theorem partT_len (l : List (Nat × Nat)) (k : Nat) (h : k ≤ l.length) : (partT l k).length = l.length * 2 := by simp [partT, tels_len]; omega
theorem partT_step (l : List (Nat × Nat)) (k : Nat) (h : k < l.length) (x y : Int) (hxy : tel1 l[k] = [.int .i64 x, .int .i64 y]) : ((partT l k).set (k * 2) (.int .i64 x)).set (k * 2 + 1) (.int .i64 y) = partT l (k + 1) := by
  have e1 : l.take (k + 1) = l.take k ++ [l[k]] := List.take_succ_eq_append_getElem h
  have e2 : List.replicate ((l.length - k) * 2) (Value.int .i64 0) = .int .i64 0 :: .int .i64 0 :: List.replicate ((l.length - (k + 1)) * 2) (.int .i64 0) := by
    rw [show (l.length - k) * 2 = ((l.length - (k + 1)) * 2 + 1) + 1 by omega, List.replicate_succ, List.replicate_succ]
  have hl : (tels (l.take k)).length = k * 2 := by rw [tels_len]; simp; omega
  rw [partT, partT, e1, e2, tels_app, List.set_append, if_neg (by omega), List.set_append, if_neg (by omega), hl]
  have e3 : tels [l[k]] = [.int .i64 x, .int .i64 y] := by simp [tels, hxy]
  rw [e3]
  simp
def TrI (w : World) (l : List (Nat × Nat)) (k : Nat) (wr : World) : Prop := Blk wr w.heap.size (partT l k).toArray 43 ∧ Below w.heap.size w wr
set_option maxRecDepth 100000 in
set_option maxHeartbeats 1000000 in
theorem trace_any (w : World) (base b : Nat) (v : DV) (s : DSt) (h : Dk w base b v s) (hz : s.acts.length ≤ 1000000000) (hA : ∀ p ∈ s.acts, p.2 < 1024) :
    Calls Tryz.prog 15 #[.pointer (some ⟨b, 0, none⟩)] w fun e w' => e = .returned (.slice (some ⟨w.heap.size, 0, none⟩) s.acts.length s.acts.length) ∧ Blk w' w.heap.size (tels s.acts).toArray 43 ∧ Below w.heap.size w w' := by
  obtain ⟨p, cap, ev, hcap⟩ := row_form h.ra
  have c3 : w.cell? ⟨b, 3, none⟩ = some (.slice p s.acts.length cap) := by rw [h.blk.cell 3, ← ev]; rfl
  have hbl := h.blk.lt
  have H := hide h
  have HE := hide ev
  have HA := hide hA
  clear h ev hA
  have hmk := run_make_t s.acts.length (by omega) w
  have X0 := hide (show TrI w s.acts 0 (w.alloc (.cells (List.replicate (s.acts.length * 2) (.int .i64 0)).toArray 43)) from ⟨by simpa [partT, tels] using Blk.new w 43 (List.replicate (s.acts.length * 2) (.int .i64 0)).toArray, (Below.refl _ _).alloc (Nat.le_refl _) _⟩)
  generalize hx2 : w.alloc (.cells (List.replicate (s.acts.length * 2) (.int .i64 0)).toArray 43) = x2 at *
  have c3x : x2.cell? ⟨b, 3, none⟩ = some (.slice p s.acts.length cap) := by rw [(unhide X0).2.cell (p := ⟨b, 3, none⟩) hbl]; exact c3
  clear hx2
  go_enter Tryz.func15, Tryz.ntmps15
  go_wp2
  clear hmk c3x c3
  go_loopw [17] (fun i wr => ∃ k : Nat, k ≤ s.acts.length ∧ i = .int .i64 (k : Int) ∧ TrI w s.acts k wr) (fun i _ => s.acts.length - (intOf i).toNat)
  case atStart => exact ⟨0, by omega, rfl, unhide X0⟩
  case round =>
    obtain ⟨k, hk, rfl, hI⟩ := hrel
    obtain ⟨wo, rfl⟩ : ∃ wo, wo = wr := ⟨_, rfl⟩
    have XI := hide hI
    clear hI X0
    by_cases hkl : k < s.acts.length
    · have XD := hide ((unhide H).below (unhide XI).2)
      obtain ⟨gp, rfl⟩ : ∃ gp, p = some ⟨gp, 0, none⟩ := by
        obtain ⟨g, cap', e, _⟩ := (unhide XD).ra.form (by omega)
        rw [unhide HE] at e
        simp at e
        exact ⟨g, e.1⟩
      have hgp : v.a.ownBlock = some gp := by rw [unhide HE]; rfl
      obtain ⟨w0, w1⟩ := acs_at s.acts k hkl
      have cp0 : wo.cell? ⟨gp, k * 2, none⟩ = some (.int .u8 ((s.acts[k].1 : Nat) : Int)) := by rw [(own_at2 (unhide XD).ra hgp (k * 2) (by omega)).1]; exact w0
      have cp1 : wo.cell? ⟨gp, k * 2 + 1, none⟩ = some (.int .u16 ((s.acts[k].2 : Nat) : Int)) := by rw [(own_at2 (unhide XD).ra hgp (k * 2 + 1) (by omega)).1]; exact w1
      have hjl : s.acts[k].2 < 1024 := unhide HA _ (List.getElem_mem hkl)
      obtain ⟨q, hq⟩ : ∃ q, q = s.acts[k].1 := ⟨_, rfl⟩
      obtain ⟨j, hj⟩ : ∃ j, j = s.acts[k].2 := ⟨_, rfl⟩
      have HP := hide (show s.acts[k] = (q, j) by rw [hq, hj])
      rw [← hq] at cp0
      rw [← hj] at cp1 hjl
      clear w0 w1 hq hj hgp XD
      go_wp2_with fail
      refine (told_any q j hjl _).mono ?_
      rintro ev x3 ⟨x, y, hxy, rfl, hb3⟩
      have hbb : Below wo.heap.size wo x3 := ((Below.refl _ wo).alloc (Nat.le_refl _) _).trans (hb3.mono (by simp))
      have hk3 := (unhide XI).1.below hbb (unhide XI).1.lt
      have hpl := partT_len s.acts k hk
      obtain ⟨o0, ho0⟩ : ∃ o, (partT s.acts k)[k * 2]? = some o := ⟨_, List.getElem?_eq_getElem (by omega)⟩
      obtain ⟨o1, ho1⟩ : ∃ o, (partT s.acts k)[k * 2 + 1]? = some o := ⟨_, List.getElem?_eq_getElem (by omega)⟩
      have z0 : x3.cell? ⟨w.heap.size, k * 2, none⟩ = some o0 := by rw [hk3.cell]; simpa using ho0
      have z1 : x3.cell? ⟨w.heap.size, k * 2 + 1, none⟩ = some o1 := by rw [hk3.cell]; simpa using ho1
      have f0 := hk3.frozen (k * 2)
      have f1 := hk3.frozen (k * 2 + 1)
      have HR := hide (show TrI w s.acts (k + 1) ((x3.setCell ⟨w.heap.size, k * 2, none⟩ (.int .i64 x)).setCell ⟨w.heap.size, k * 2 + 1, none⟩ (.int .i64 y)) from by
        refine ⟨?_, (((unhide XI).2.trans (hbb.mono (unhide XI).2.size)).setCell (Nat.le_refl _) _).setCell (Nat.le_refl _) _⟩
        have := (hk3.set (k * 2) (.int .i64 x)).set (k * 2 + 1) (.int .i64 y)
        have e : ((partT s.acts k).toArray.setIfInBounds (k * 2) (.int .i64 x)).setIfInBounds (k * 2 + 1) (.int .i64 y) = (partT s.acts (k + 1)).toArray := by
          rw [← partT_step s.acts k hkl x y (by rw [unhide HP]; exact hxy)]
          simp
        rw [e] at this
        exact this)
      clear hb3 hbb hk3 ho0 ho1 hpl cp0 cp1 hxy
      go_wp2
      go_roundw
      case rel => exact ⟨k + 1, by omega, by go_num, unhide HR⟩
      case measure => simp [intOf]; omega
    · have hk' : k = s.acts.length := by omega
      subst hk'
      clear hkl hk
      go_wp2
      go_ret
      refine ⟨rfl, ?_, (unhide XI).2⟩
      have := (unhide XI).1
      simpa [partT] using this
end Go.Proofs.YtkkndlkelpdehaaGreatDoor

namespace Go.Proofs.YtkkndlkelpdehaaGreatDoor
open Go.RowKit
def pickP (c : Int) (n : Nat) : Nat := ((if c < 0 then -(c + 1) else c) % (n : Int)).toNat
theorem pickP_lt (c : Int) (n : Nat) (hn : 0 < n) : pickP c n < n := by
  have h1 := Int.emod_nonneg (if c < 0 then -(c + 1) else c) (show (n : Int) ≠ 0 by omega)
  have h2 := Int.emod_lt_of_pos (if c < 0 then -(c + 1) else c) (show 0 < (n : Int) by omega)
  unfold pickP
  omega
end Go.Proofs.YtkkndlkelpdehaaGreatDoor

namespace Go.Proofs.YtkkndlkelpdehaaGreatDoor
open Go.RowKit
def secK (c : Int) (k : Nat) : List Int := (List.range 256).map (fun j : Nat => if j < k then (c / 2 ^ (8 * j)) % 256 else 0)
def sectorL (c : Int) : List Int := (secK c 8).set 255 (wrap64 (c * 7) % 256)
def sectorB (c : Int) : ByteArray := strOfNums (sectorL c)
theorem secK_len (c : Int) (k : Nat) : (secK c k).length = 256 := by simp [secK]
theorem sectorL_len (c : Int) : (sectorL c).length = 256 := by simp [sectorL, secK_len]
theorem sectorB_size (c : Int) : (sectorB c).size = 256 := by rw [sectorB, strOfNums_size, sectorL_len]
theorem secK_get (c : Int) (k j : Nat) : (secK c k).getD j 0 = if j < k ∧ j < 256 then (c / 2 ^ (8 * j)) % 256 else 0 := by
  by_cases hj : j < 256
  · simp [secK, hj]
  · simp [secK, hj]
theorem secK_step (c : Int) (k : Nat) : (secK c k).set k ((c / 2 ^ (8 * k)) % 256) = secK c (k + 1) := by
  apply List.ext_getElem
  · simp [secK]
  · intro j h1 h2
    simp only [secK, List.getElem_set, List.getElem_map, List.getElem_range]
    by_cases e : k = j
    · subst e; simp
    · rw [if_neg e]
      by_cases h : j < k
      · rw [if_pos h, if_pos (by omega)]
      · rw [if_neg h, if_neg (by omega)]
theorem secK_zero (c : Int) : secK c 0 = List.replicate 256 0 := by
  refine List.eq_replicate_iff.2 ⟨secK_len c 0, fun x hx => ?_⟩
  obtain ⟨j, _, rfl⟩ := List.mem_map.1 hx
  rw [if_neg (Nat.not_lt_zero j)]
theorem sectorL_bytes (c : Int) : Bytes (sectorL c) := by
  intro j
  unfold sectorL
  simp only [List.getD_eq_getElem?_getD, List.getElem?_set]
  have h256 : ∀ x : Int, 0 ≤ x % 256 ∧ x % 256 < 256 := fun x => ⟨Int.emod_nonneg _ (by decide), Int.emod_lt_of_pos _ (by decide)⟩
  split
  · split
    · simpa using h256 _
    · simp
  · have := secK_get c 8 j
    rw [List.getD_eq_getElem?_getD] at this
    rw [this]
    split
    · exact h256 _
    · simp
end Go.Proofs.YtkkndlkelpdehaaGreatDoor
