import Derived.Test.YtnfcnpolflfpfaaGreatDoorMr09
import Derived.Test.YtnfcnpolflfpfaaGreatDoorMr00
namespace Go.Proofs.YtnfcnpolflfpfaaGreatDoor
open Go.RowKit
theorem own_row (w : World) (base g : Nat) (l : List ByteArray) (h : Blk w g (strs l).toArray 9) (hb : base ≤ g) (hl : l.length ≤ 1000000) : w.ownsRow base 9 1 (.slice (some ⟨g, 0, none⟩) l.length l.length) l.length (strs l) :=
  ⟨by simp [strs_len], .inr ⟨g, l.length, _, rfl, hb, h, Nat.le_refl _, by unfold maxLen; omega, by simp [strs_len], by rw [Nat.mul_one]; exact List.take_of_length_le (by simp [strs_len])⟩⟩
theorem clone_any (w : World) (base : Nat) (v : Value) (l : List ByteArray) (h : w.ownsRow base 9 1 v l.length (strs l)) (hl : 0 < l.length) (hl2 : l.length ≤ 1000000) :
    Calls Tryz.prog 49 #[v] w fun e w' => ∃ v', e = .returned v' ∧ w'.ownsRow w.heap.size 9 1 v' l.length (strs l) ∧ Below w.heap.size w w' := by
  obtain ⟨g, cap, rfl, _, _⟩ := h.form hl
  refine (Tryz.slices_Clone_string g 0 l.length cap l w (Nat.le_refl _) (by omega) (fun j hj => by
    rw [Nat.zero_add, (own_at h rfl j hj).1]
    exact strs_at _ _ hj)).mono ?_
  rintro e w' ⟨v', h1, h2, _, h3⟩
  exact ⟨v', h1, by rw [List.take_length] at h2; exact h2, h3⟩
set_option maxRecDepth 100000 in
set_option maxHeartbeats 1000000 in
theorem image_any (w : World) (base b : Nat) (v : DV) (s : DSt) (h : Dk w base b v s) (hl : 0 < s.last.length) (hl2 : s.last.length ≤ 1024) :
    Calls Tryz.prog 13 #[.pointer (some ⟨b, 0, none⟩)] w fun e w' => ∃ v', e = .returned v' ∧ w'.ownsRow w.heap.size 9 1 v' s.last.length (strs s.last) ∧ Below w.heap.size w w' := by
  obtain ⟨g, cap, e, _⟩ := h.rl.form hl
  have c0 : w.cell? ⟨b, 0, none⟩ = some (.slice (some ⟨g, 0, none⟩) s.last.length cap) := by rw [h.blk.cell 0, ← e]; rfl
  have HR := hide (show w.ownsRow base 9 1 (.slice (some ⟨g, 0, none⟩) s.last.length cap) s.last.length (strs s.last) by rw [← e]; exact h.rl)
  clear h e
  go_enter Tryz.func13, Tryz.ntmps13
  go_wp2_with fail
  refine (clone_any w base _ s.last (unhide HR) hl (by omega)).mono ?_
  rintro ev x1 ⟨v', rfl, hr, hb⟩
  obtain ⟨g1, cap1, rfl, _⟩ := hr.form hl
  have H1 := hide hr
  have H2 := hide hb
  clear hr hb
  go_wp2
  go_ret
  exact ⟨_, rfl, unhide H1, unhide H2⟩
theorem load_blk {W : World} {b : Nat} {cur : Array Value} {T : TypeId} (ty : TypeId) (d : TypeDesc) (h : Blk W b cur T) (hu : Tryz.prog.underlying ty = some d) (hd : d.isRow = true) (hi : (Tryz.prog.info? ty).map (·.size) = some cur.size) : (loadVar ty ⟨b, 0, none⟩).run Tryz.prog W = .ok (.agg cur) W := by
  have := run_loadVar_mid (P := Tryz.prog) W b 0 ty cur.toList d (fun j v hv => by rw [Nat.zero_add, h.cell j]; simpa using hv) hu hd (by simpa using hi)
  simpa using this
set_option maxRecDepth 100000 in
set_option maxHeartbeats 1000000 in
theorem holding_any (w : World) (g : Nat) (l : List ByteArray) (h : Blk w g (strs l).toArray 9) (hl : 0 < l.length) (hl2 : l.length ≤ 1024) :
    Calls Tryz.prog 68 #[.slice (some ⟨g, 0, none⟩) l.length l.length] w fun e w' => ∃ g1 cap1, e = .returned (.agg #[.slice (some ⟨g, 0, none⟩) l.length l.length, .slice (some ⟨g1, 0, none⟩) l.length cap1, .slice none 0 0]) ∧ w'.ownsRow w.heap.size 9 1 (.slice (some ⟨g1, 0, none⟩) l.length cap1) l.length (strs l) ∧ Below w.heap.size w w' := by
  have HR := hide (own_row w 0 g l h (Nat.zero_le _) (by omega))
  clear h
  go_enter Tryz.func68, Tryz.ntmps68
  go_wp2_with fail
  refine (clone_any (w.alloc (Obj.cells #[Value.slice none 0 0, Value.slice none 0 0, Value.slice none 0 0] 39)) 0 _ l ((unhide HR).alloc _) hl (by omega)).mono ?_
  rintro ev x1 ⟨v', rfl, hr, hb⟩
  have hx : x1.heap[w.heap.size]? = some (.cells #[Value.slice none 0 0, Value.slice none 0 0, Value.slice none 0 0] 39 (0, 0)) := (hb.block w.heap.size (by simp)).trans (Blk.new w 39 #[Value.slice none 0 0, Value.slice none 0 0, Value.slice none 0 0])
  obtain ⟨g1, cap1, rfl, hg1, _⟩ := hr.form hl
  have q0 : x1.cell? ⟨w.heap.size, 0, none⟩ = some (.slice none 0 0) := Blk.cell hx 0
  have q1 : x1.cell? ⟨w.heap.size, 1, none⟩ = some (.slice none 0 0) := Blk.cell hx 1
  have q2 : x1.cell? ⟨w.heap.size, 2, none⟩ = some (.slice none 0 0) := Blk.cell hx 2
  have p0 : x1.frozen? ⟨w.heap.size, 0, none⟩ = false := Blk.frozen hx 0
  have p1 : x1.frozen? ⟨w.heap.size, 1, none⟩ = false := Blk.frozen hx 1
  have p2 : x1.frozen? ⟨w.heap.size, 2, none⟩ = false := Blk.frozen hx 2
  have H1 := hide hr
  have H2 := hide hb
  have H3 := hide hx
  clear hr hb hx
  go_wp2
  have B3 := ((Blk.set (unhide H3) 0 (.slice (some ⟨g, 0, none⟩) l.length l.length)).set 1 (.slice (some ⟨g1, 0, none⟩) l.length cap1)).set 2 (.slice none 0 0)
  have hld := load_blk 39 _ B3 Tryz.underlying39 rfl (by kernel_rfl)
  refine bodyPost_ret (v := .agg #[.slice (some ⟨g, 0, none⟩) l.length l.length, .slice (some ⟨g1, 0, none⟩) l.length cap1, .slice none 0 0]) ?_ rfl ⟨g1, cap1, rfl, ?_, ?_⟩
  · exact results_cell rfl _ _ _ ⟨w.heap.size, 0, none⟩ rfl _ hld
  · have hne : (Value.slice (some ⟨g1, 0, none⟩) l.length cap1).ownBlock ≠ some w.heap.size := by
      simp [Value.ownBlock]
      simp at hg1
      omega
    exact owns_base (owns_setO (owns_setO (owns_setO (unhide H1) _ _ hne) _ _ hne) _ _ hne) (by simp)
  · exact ((((Below.refl _ w).alloc (Nat.le_refl _) _).trans ((unhide H2).mono (by simp))).setCell (Nat.le_refl _) _ |>.setCell (Nat.le_refl _) _ |>.setCell (Nat.le_refl _) _)
def freshS (l : List ByteArray) : DSt := ⟨l, l, [], [], 0, false⟩
def zero256 : ByteArray := ⟨(List.replicate 256 0).toArray⟩
theorem rep_zero4 : (⟨(Lib.repeatL (ByteArray.mk #[0]).data.toList 256).toArray⟩ : ByteArray) = zero256 := by
  have h : Lib.repeatL (ByteArray.mk #[0]).data.toList 256 = List.replicate 256 0 := by
    have := Lib.repeatL_replicate 0 1 256
    rw [Nat.mul_one] at this
    exact this
  rw [h, zero256]
def NewPost (n : Int) (w : World) (e : Ending) (w' : World) : Prop :=
  if 128 ≤ n ∧ n ≤ 1024 then ∃ b v, e = .returned (.tuple #[.pointer (some ⟨b, 0, none⟩), .int .i64 0]) ∧ Dk w' w.heap.size b v (freshS (List.replicate n.toNat zero256)) ∧ Below w.heap.size w w'
  else e = .returned (.tuple #[.pointer none, .int .i64 40]) ∧ w' = w
set_option maxRecDepth 100000 in
set_option maxHeartbeats 1000000 in
theorem new_any (n : Int) (w : World) : Calls Tryz.prog 73 #[.int .i64 n] w (NewPost n w) := by
  by_cases hn : 128 ≤ n ∧ n ≤ 1024
  · have e : decide (128 ≤ n ∧ n ≤ 1024) = true := by simpa using hn
    obtain ⟨m, rfl⟩ := Int.eq_ofNat_of_zero_le (show 0 ≤ n by omega)
    have hm1 : 128 ≤ m := by omega
    have hm2 : m ≤ 1024 := by omega
    have HN := hide hn
    clear hn
    go_enter Tryz.func73, Tryz.ntmps73
    go_wp2_with fail
    refine (isSize_any _ _).mono ?_
    rintro ev x1 ⟨rfl, rfl⟩
    rw [e]
    clear e
    go_wp2_with fail
    have hrep := Tryz.strings_Repeat ⟨#[0]⟩ 256 x1 (by decide) (by decide)
    rw [rep_zero4] at hrep
    refine hrep.mono ?_
    rintro ev x2 ⟨rfl, hb2⟩
    generalize hZ : zero256 = Z at *
    have HZ := hide hZ
    clear hZ
    have HB2 := hide hb2
    have hs2 := hb2.size
    clear hb2 hrep
    go_wp2_with fail
    refine (srepeat_any Z m (by omega) hm2 _ x2.heap.size (by simp) (by simp)).mono ?_
    rintro ev x3 ⟨rfl, hk3, hb3⟩
    obtain ⟨L, hL⟩ : ∃ L, L = List.replicate m Z := ⟨_, rfl⟩
    have hLm : L.length = m := by rw [hL]; simp
    rw [← hL] at hk3
    have HL := hide hL
    have hg : (x2.alloc (Obj.cells #[Value.string Z] 9)).heap.size = x2.heap.size + 1 := by simp
    rw [hg] at hk3 hb3 ⊢
    have HK3 := hide hk3
    have HB3 := hide (show Below x1.heap.size x1 x3 from ((unhide HB2).alloc hs2 _).trans (hb3.mono (by omega)))
    have hs3 := hb3.size
    rw [hg] at hs3
    clear hL hk3 hb3 hg HB2
    subst hLm
    go_wp2_with fail
    refine (holding_any _ _ L (unhide HK3) (by omega) hm2).mono ?_
    rintro ev x4 ⟨g1, cap1, rfl, hr4, hb4⟩
    have hk4 := (unhide HK3).below hb4 (unhide HK3).lt
    have D := hide (show Dk (x4.alloc (Obj.cells #[.slice (some ⟨x2.heap.size + 1, 0, none⟩) L.length L.length, .slice (some ⟨g1, 0, none⟩) L.length cap1, .slice none 0 0, .slice none 0 0, .int .i64 0, .bool false] 42)) x1.heap.size x4.heap.size ⟨.slice (some ⟨x2.heap.size + 1, 0, none⟩) L.length L.length, .slice (some ⟨g1, 0, none⟩) L.length cap1, .slice none 0 0, .slice none 0 0⟩ (freshS L) from by
      have hg1 := (hr4.lt g1 rfl).1
      have hlt := (unhide HK3).lt
      refine ⟨Blk.new _ _ _, (own_row x4 x1.heap.size _ L hk4 (by omega) (by omega)).alloc _, (owns_base hr4 (by omega)).alloc _, World.ownsRow_nil _ _ _ _, World.ownsRow_nil _ _ _ _, fun k hk1 hk2 => ?_, ?_⟩
      · simp [Value.ownBlock] at hk1 hk2
        omega
      · have := hb4.size
        omega)
    have HB4 := hide ((unhide HB3).trans (hb4.mono (unhide HB3).size))
    clear hr4 hb4 hk4 HK3 HB3
    go_wp2
    go_ret2
    rw [NewPost, if_pos (unhide HN)]
    have D2 := unhide D
    have e2 : freshS L = freshS (List.replicate (L.length : Int).toNat zero256) := by
      rw [Int.toNat_natCast, unhide HZ, ← unhide HL]
    rw [e2] at D2
    exact ⟨_, _, rfl, D2, (unhide HB4).alloc (unhide HB4).size _⟩
  · have e : decide (128 ≤ n ∧ n ≤ 1024) = false := by simpa using hn
    have HN := hide hn
    clear hn
    go_enter Tryz.func73, Tryz.ntmps73
    go_wp2_with fail
    refine (isSize_any _ _).mono ?_
    rintro ev x1 ⟨rfl, rfl⟩
    rw [e]
    clear e
    go_wp2
    go_ret2
    rw [NewPost, if_neg (unhide HN)]
    exact ⟨rfl, rfl⟩
end Go.Proofs.YtnfcnpolflfpfaaGreatDoor

namespace Go.Proofs.YtnfcnpolflfpfaaGreatDoor
open Go.RowKit
/-- A slice of texts that was handed in. -/
def Strs (w : World) (p : Option Addr) (l : List ByteArray) : Prop := ∀ j, j < l.length → ∃ g o, p = some ⟨g, o, none⟩ ∧ g < w.heap.size ∧ w.cell? ⟨g, o + j, none⟩ = some (.string (l.getD j ByteArray.empty))
def LoadPost (l : List ByteArray) (w : World) (e : Ending) (w' : World) : Prop :=
  if 128 ≤ l.length ∧ l.length ≤ 1024 then
    (if ∀ t ∈ l, t.size = 256 then ∃ b v, e = .returned (.tuple #[.pointer (some ⟨b, 0, none⟩), .int .i64 0]) ∧ Dk w' w.heap.size b v (freshS l) ∧ Below w.heap.size w w'
     else e = .returned (.tuple #[.pointer none, .int .i64 42]) ∧ Below w.heap.size w w')
  else e = .returned (.tuple #[.pointer none, .int .i64 40]) ∧ w' = w
def partL (l : List ByteArray) (k : Nat) : List ByteArray := l.take k ++ List.replicate (l.length - k) ⟨#[]⟩
theorem partL_len (l : List ByteArray) (k : Nat) (h : k ≤ l.length) : (partL l k).length = l.length := by simp [partL]; omega
theorem partL_step (l : List ByteArray) (k : Nat) (h : k < l.length) : (partL l k).set k (l.getD k ByteArray.empty) = partL l (k + 1) := by
  have e1 : l.take (k + 1) = l.take k ++ [l.getD k ByteArray.empty] := by
    rw [List.take_succ_eq_append_getElem h]
    simp [List.getD_eq_getElem?_getD, h]
  have e2 : List.replicate (l.length - k) (⟨#[]⟩ : ByteArray) = ⟨#[]⟩ :: List.replicate (l.length - (k + 1)) ⟨#[]⟩ := by
    rw [show l.length - k = (l.length - (k + 1)) + 1 by omega, List.replicate_succ]
  rw [partL, partL, e1, e2, List.set_append]
  have hl : (l.take k).length = k := by simp; omega
  simp [hl]
def LdI (w : World) (l : List ByteArray) (k : Nat) (wr : World) : Prop := Blk wr w.heap.size (strs (partL l k)).toArray 9 ∧ Below w.heap.size w wr ∧ ∀ t ∈ l.take k, t.size = 256
theorem LdI.step {w wr x : World} {l : List ByteArray} {k : Nat} (h : LdI w l k wr) (hk : k < l.length) (hb : Below wr.heap.size wr x) (ht : (l.getD k ByteArray.empty).size = 256) : LdI w l (k + 1) (x.setCell ⟨w.heap.size, k, none⟩ (.string (l.getD k ByteArray.empty))) := by
  refine ⟨?_, (h.2.1.trans (hb.mono h.2.1.size)).setCell (Nat.le_refl _) _, fun t hm => ?_⟩
  · have := (h.1.below hb h.1.lt).set k (.string (l.getD k ByteArray.empty))
    have e : (strs (partL l k)).toArray.setIfInBounds k (.string (l.getD k ByteArray.empty)) = (strs (partL l (k + 1))).toArray := by
      rw [← partL_step l k hk, ← strs_set]
      simp
    rw [e] at this
    exact this
  · rw [List.take_succ_eq_append_getElem hk] at hm
    rcases List.mem_append.1 hm with hm | hm
    · exact h.2.2 t hm
    · simp at hm
      subst hm
      simpa [List.getD_eq_getElem?_getD, hk] using ht
set_option maxRecDepth 100000 in
set_option maxHeartbeats 2000000 in
theorem load_any (p : Option Addr) (c : Nat) (l : List ByteArray) (w : World) (h : Strs w p l) : Calls Tryz.prog 24 #[.slice p l.length c] w (LoadPost l w) := by
  have H := hide h
  clear h
  by_cases hn : 128 ≤ l.length ∧ l.length ≤ 1024
  · have e : decide (128 ≤ (l.length : Int) ∧ (l.length : Int) ≤ 1024) = true := by simp; omega
    have hm1 := hn.1
    have hm2 := hn.2
    have HN := hide hn
    clear hn
    go_enter Tryz.func24, Tryz.ntmps24
    go_wp2_with fail
    refine (isSize_any _ _).mono ?_
    rintro ev x1 ⟨rfl, rfl⟩
    rw [e]
    clear e
    have hmk := run_make_s l.length (by omega) x1
    have X0 := hide (show LdI x1 l 0 (x1.alloc (.cells (strs (List.replicate l.length ⟨#[]⟩)).toArray 9)) from ⟨by simpa [partL] using Blk.new x1 9 (strs (List.replicate l.length ⟨#[]⟩)).toArray, (Below.refl _ _).alloc (Nat.le_refl _) _, fun t ht => by simp at ht⟩)
    generalize hx2 : x1.alloc (.cells (strs (List.replicate l.length ⟨#[]⟩)).toArray 9) = x2 at *
    clear hx2
    go_wp2
    clear hmk
    go_loopw [16] (fun i wr => ∃ k : Nat, k ≤ l.length ∧ i = .int .i64 (k : Int) ∧ LdI x1 l k wr) (fun i _ => l.length - (intOf i).toNat)
    case atStart => exact ⟨0, by omega, rfl, unhide X0⟩
    case round =>
      obtain ⟨k, hk, rfl, hI⟩ := hrel
      obtain ⟨wo, rfl⟩ : ∃ wo, wo = wr := ⟨_, rfl⟩
      have XI := hide hI
      clear hI X0
      by_cases hkl : k < l.length
      · obtain ⟨g, o, rfl, hg, hc⟩ := unhide H k hkl
        have ck : wo.cell? ⟨g, o + k, none⟩ = some (.string (l.getD k ByteArray.empty)) := by rw [(unhide XI).2.1.cell (p := ⟨g, o + k, none⟩) hg]; exact hc
        have HM := hide (show l.getD k ByteArray.empty ∈ l by simp [List.getD_eq_getElem?_getD, hkl])
        have HST := hide (fun x (hb : Below wo.heap.size wo x) (ht : (l.getD k ByteArray.empty).size = 256) => (unhide XI).step hkl hb ht)
        have HB := hide (unhide XI).2.1
        have hbk := (unhide XI).1
        have hpl := partL_len l k hk
        have hold : ∃ ov, (strs (partL l k))[k]? = some ov := ⟨_, strs_at _ _ (by omega)⟩
        obtain ⟨ov, hov⟩ := hold
        have HK := hide hbk
        clear hc hbk XI
        generalize l.getD k ByteArray.empty = t at *
        by_cases ht : t.size = 256
        · have e2 : decide (t.size = 256) = true := by simpa using ht
          have HT := hide ht
          clear ht
          go_wp2_with fail
          refine (isSector_any t _).mono ?_
          rintro ev x2 ⟨rfl, rfl⟩
          rw [e2]
          clear e2
          go_wp2_with fail
          refine (own_any t _ (by rw [unhide HT]; decide)).mono ?_
          rintro ev x3 ⟨rfl, hb3⟩
          have hk3 := (unhide HK).below hb3 (unhide HK).lt
          have cx : x3.cell? ⟨x1.heap.size, k, none⟩ = some ov := by rw [hk3.cell k]; simpa using hov
          have fx := hk3.frozen k
          have HR := hide (unhide HST x3 hb3 (unhide HT))
          clear hb3 hk3 hov ck
          go_wp2
          go_roundw
          case rel => exact ⟨k + 1, by omega, by go_num, unhide HR⟩
          case measure => simp [intOf]; omega
        · have e2 : decide (t.size = 256) = false := by simpa using ht
          have HE := hide (show ¬ ∀ t ∈ l, t.size = 256 from fun h => ht (h t (unhide HM)))
          clear ht hov
          go_wp2_with fail
          refine (isSector_any t _).mono ?_
          rintro ev x2 ⟨rfl, rfl⟩
          rw [e2]
          clear e2
          go_wp2
          go_ret2
          rw [LoadPost, if_pos (unhide HN), if_neg (unhide HE)]
          exact ⟨rfl, unhide HB⟩
      · have hk' : k = l.length := by omega
        subst hk'
        have hall : ∀ t ∈ l, t.size = 256 := by have := (unhide XI).2.2; rwa [List.take_length] at this
        have HA := hide hall
        have hk3 : Blk wo x1.heap.size (strs l).toArray 9 := by have := (unhide XI).1; simpa [partL] using this
        have HK3 := hide hk3
        have HB3 := hide (unhide XI).2.1
        have hs3 := (unhide XI).2.1.size
        clear hall hk3 XI hkl hk
        go_wp2_with fail
        refine (holding_any _ _ l (unhide HK3) (by omega) hm2).mono ?_
        rintro ev x4 ⟨g1, cap1, rfl, hr4, hb4⟩
        have hk4 := (unhide HK3).below hb4 (unhide HK3).lt
        have D := hide (show Dk (x4.alloc (Obj.cells #[.slice (some ⟨x1.heap.size, 0, none⟩) l.length l.length, .slice (some ⟨g1, 0, none⟩) l.length cap1, .slice none 0 0, .slice none 0 0, .int .i64 0, .bool false] 42)) x1.heap.size x4.heap.size ⟨.slice (some ⟨x1.heap.size, 0, none⟩) l.length l.length, .slice (some ⟨g1, 0, none⟩) l.length cap1, .slice none 0 0, .slice none 0 0⟩ (freshS l) from by
          have hg1 := (hr4.lt g1 rfl).1
          have hlt := (unhide HK3).lt
          refine ⟨Blk.new _ _ _, (own_row x4 x1.heap.size _ l hk4 (by omega) (by omega)).alloc _, (owns_base hr4 (by omega)).alloc _, World.ownsRow_nil _ _ _ _, World.ownsRow_nil _ _ _ _, fun k hk1 hk2 => ?_, ?_⟩
          · simp [Value.ownBlock] at hk1 hk2
            omega
          · have := hb4.size
            omega)
        have HB4 := hide ((unhide HB3).trans (hb4.mono (unhide HB3).size))
        clear hr4 hb4 hk4 HK3 HB3
        go_wp2
        go_ret2
        rw [LoadPost, if_pos (unhide HN), if_pos (unhide HA)]
        exact ⟨_, _, rfl, unhide D, (unhide HB4).alloc (unhide HB4).size _⟩
  · have e : decide (128 ≤ (l.length : Int) ∧ (l.length : Int) ≤ 1024) = false := by simp; omega
    have HN := hide hn
    clear hn
    go_enter Tryz.func24, Tryz.ntmps24
    go_wp2_with fail
    refine (isSize_any _ _).mono ?_
    rintro ev x1 ⟨rfl, rfl⟩
    rw [e]
    clear e
    go_wp2
    go_ret2
    rw [LoadPost, if_neg (unhide HN)]
    exact ⟨rfl, rfl⟩
/-- The acts as they are told. -/
def tel1 (p : Nat × Nat) : List Value := if p.1 = 1 then [.int .i64 2, .int .i64 0] else [.int .i64 1, .int .i64 (p.2 : Int)]
def tels : List (Nat × Nat) → List Value
  | [] => []
  | p :: r => tel1 p ++ tels r
end Go.Proofs.YtnfcnpolflfpfaaGreatDoor

namespace Go.Proofs.YtnfcnpolflfpfaaGreatDoor
open Go.RowKit
theorem infoT : (Tryz.prog.info? 146).map (fun i => (i.zero, i.size, i.bytes)) = some (some (.agg #[.int .i64 0, .int .i64 0]), 2, 16) := by kernel_rfl
set_option maxRecDepth 100000 in
theorem run_make_t (l : Nat) (hc : l ≤ 1000000000) (w : World) : (Instr.makeSlice 142 (.int .i64 (l : Int)) (.int .i64 (l : Int))).run Tryz.prog w = .ok (.slice (some ⟨w.heap.size, 0, none⟩) l l) (w.alloc (.cells (List.replicate (l * 2) (.int .i64 0)).toArray 146)) := by
  obtain ⟨i0, hi, hz0, hz1, hz2⟩ := info_parts infoT
  have := run_make (P := Tryz.prog) w 142 146 i0 (.agg #[.int .i64 0, .int .i64 0]) Tryz.underlying142 hi hz0 .i64 .i64 (l : Int) (l : Int) (by omega) (by omega) (by rw [hz2]; omega) (by omega)
  rw [this, hz1]
  simp only [Int.toNat_natCast]
  congr 3
  apply Array.ext
  · simp [size_madeCells]
  · intro j h1 h2
    have : j % 2 = 0 ∨ j % 2 = 1 := by omega
    rcases this with h | h <;> simp [madeCells, Value.cells, h]
theorem acs_at : ∀ (l : List (Nat × Nat)) (k : Nat) (hk : k < l.length), (acs l)[k * 2]? = some (.int .u8 ((l[k].1 : Nat) : Int)) ∧ (acs l)[k * 2 + 1]? = some (.int .u16 ((l[k].2 : Nat) : Int))
  | p :: r, 0, _ => by simp [acs]
  | p :: r, k + 1, hk => by
    have := acs_at r k (by simpa using hk)
    rw [show (k + 1) * 2 = k * 2 + 1 + 1 by omega]
    simpa [acs] using this
theorem tel1_len (p : Nat × Nat) : (tel1 p).length = 2 := by unfold tel1; split <;> rfl
theorem tels_len : ∀ l : List (Nat × Nat), (tels l).length = l.length * 2
  | [] => rfl
  | p :: r => by simp [tels, tels_len r, tel1_len]; omega
theorem tels_app : ∀ l m : List (Nat × Nat), tels (l ++ m) = tels l ++ tels m
  | [], m => rfl
  | p :: r, m => by simp [tels, tels_app r m]
def partT (l : List (Nat × Nat)) (k : Nat) : List Value := tels (l.take k) ++ List.replicate ((l.length - k) * 2) (.int .i64 0)
theorem partT_len (l : List (Nat × Nat)) (k : Nat) (h : k ≤ l.length) : (partT l k).length = l.length * 2 := by simp [partT, tels_len]; omega
theorem partT_step (l : List (Nat × Nat)) (k : Nat) (h : k < l.length) (x y : Int) (hxy : tel1 l[k] = [.int .i64 x, .int .i64 y]) : ((partT l k).set (k * 2) (.int .i64 x)).set (k * 2 + 1) (.int .i64 y) = partT l (k + 1) := by
  have e1 : l.take (k + 1) = l.take k ++ [l[k]] := List.take_succ_eq_append_getElem h
  have e2 : List.replicate ((l.length - k) * 2) (Value.int .i64 0) = .int .i64 0 :: .int .i64 0 :: List.replicate ((l.length - (k + 1)) * 2) (.int .i64 0) := by
    rw [show (l.length - k) * 2 = ((l.length - (k + 1)) * 2 + 1) + 1 by omega, List.replicate_succ, List.replicate_succ]
  have hl : (tels (l.take k)).length = k * 2 := by rw [tels_len]; simp; omega
  rw [partT, partT, e1, e2, tels_app, List.set_append, if_neg (by omega), List.set_append, if_neg (by omega), hl]
  have e3 : tels [l[k]] = [.int .i64 x, .int .i64 y] := by simp [tels, hxy]
  rw [e3]
  simp
def TrI (w : World) (l : List (Nat × Nat)) (k : Nat) (wr : World) : Prop := Blk wr w.heap.size (partT l k).toArray 146 ∧ Below w.heap.size w wr
end Go.Proofs.YtnfcnpolflfpfaaGreatDoor

namespace Go.Proofs.YtnfcnpolflfpfaaGreatDoor
open Go.RowKit
def pickP (c : Int) (n : Nat) : Nat := ((if c < 0 then -(c + 1) else c) % (n : Int)).toNat
theorem pickP_lt (c : Int) (n : Nat) (hn : 0 < n) : pickP c n < n := by
  have h1 := Int.emod_nonneg (if c < 0 then -(c + 1) else c) (show (n : Int) ≠ 0 by omega)
  have h2 := Int.emod_lt_of_pos (if c < 0 then -(c + 1) else c) (show 0 < (n : Int) by omega)
  unfold pickP
  omega
end Go.Proofs.YtnfcnpolflfpfaaGreatDoor

namespace Go.Proofs.YtnfcnpolflfpfaaGreatDoor
open Go.RowKit
def secK (c : Int) (k : Nat) : List Int := (List.range 256).map (fun j : Nat => if j < k then (c / 2 ^ (8 * j)) % 256 else 0)
def sectorL (c : Int) : List Int := (secK c 8).set 255 (wrap64 (c * 7) % 256)
def sectorB (c : Int) : ByteArray := strOfNums (sectorL c)
theorem secK_len (c : Int) (k : Nat) : (secK c k).length = 256 := by simp [secK]
theorem sectorL_len (c : Int) : (sectorL c).length = 256 := by simp [sectorL, secK_len]
theorem sectorB_size (c : Int) : (sectorB c).size = 256 := by rw [sectorB, strOfNums_size, sectorL_len]
theorem secK_get (c : Int) (k j : Nat) : (secK c k).getD j 0 = if j < k ∧ j < 256 then (c / 2 ^ (8 * j)) % 256 else 0 := by
  by_cases hj : j < 256
  · simp [secK, hj]
  · simp [secK, hj]
theorem secK_step (c : Int) (k : Nat) : (secK c k).set k ((c / 2 ^ (8 * k)) % 256) = secK c (k + 1) := by
  apply List.ext_getElem
  · simp [secK]
  · intro j h1 h2
    simp only [secK, List.getElem_set, List.getElem_map, List.getElem_range]
    by_cases e : k = j
    · subst e; simp
    · rw [if_neg e]
      by_cases h : j < k
      · rw [if_pos h, if_pos (by omega)]
      · rw [if_neg h, if_neg (by omega)]
theorem secK_zero (c : Int) : secK c 0 = List.replicate 256 0 := by
  refine List.eq_replicate_iff.2 ⟨secK_len c 0, fun x hx => ?_⟩
  obtain ⟨j, _, rfl⟩ := List.mem_map.1 hx
  rw [if_neg (Nat.not_lt_zero j)]
theorem sectorL_bytes (c : Int) : Bytes (sectorL c) := by
  intro j
  unfold sectorL
  simp only [List.getD_eq_getElem?_getD, List.getElem?_set]
  have h256 : ∀ x : Int, 0 ≤ x % 256 ∧ x % 256 < 256 := fun x => ⟨Int.emod_nonneg _ (by decide), Int.emod_lt_of_pos _ (by decide)⟩
  split
  · split
    · simpa using h256 _
    · simp
  · have := secK_get c 8 j
    rw [List.getD_eq_getElem?_getD] at this
    rw [this]
    split
    · exact h256 _
    · simp
end Go.Proofs.YtnfcnpolflfpfaaGreatDoor

namespace Go.Proofs.YtnfcnpolflfpfaaGreatDoor
open Go.RowKit
theorem Dk.fd {w : World} {base b : Nat} {v : DV} {s : DSt} (h : Dk w base b v s) (k : Nat) (hk : Fd b v k) : base ≤ k ∧ k < w.heap.size := by
  rcases hk with rfl | hk | hk | hk | hk
  · exact ⟨h.lo, h.blk.lt⟩
  · exact h.rl.lt k hk
  · exact h.rn.lt k hk
  · exact h.rp.lt k hk
  · exact h.ra.lt k hk
theorem Sane.write {s : DSt} (h : Sane s) (i : Int) (t : ByteArray) : Sane (writeS s i t) := by
  unfold writeS
  split
  · rename_i hi
    split
    · split
      · exact h.dies
      · have hj : i.toNat < s.last.length := by have := hi.1; have := hi.2; omega
        refine ⟨?_, ?_, ?_, ?_, ?_, ?_⟩
        · show 0 < (diesS s).last.length; rw [diesS_last]; exact h.pos
        · show (diesS s).last.length ≤ 1024; rw [diesS_last]; exact h.cap
        · show (s.now.set i.toNat t).length = (diesS s).last.length; rw [diesS_last, List.length_set]; exact h.same
        · intro p hp
          show p.1 < (diesS s).last.length
          rw [diesS_last]
          rcases List.mem_append.1 hp with hp | hp
          · exact h.pend p hp
          · simp at hp; subst hp; exact hj
        · exact (diesS_fuse s h.fuse)
        · intro p hp
          rcases List.mem_append.1 hp with hp | hp
          · exact h.acts p hp
          · simp at hp; subst hp; have := h.cap; show i.toNat < 1024; omega
    · exact h
  · exact h
theorem Sane.flush {s : DSt} (h : Sane s) : Sane (flushS s) := by
  unfold flushS
  split
  · exact h.dies
  · refine ⟨?_, ?_, ?_, ?_, diesS_fuse s h.fuse, ?_⟩
    · show 0 < (layP s.last s.pend).length; rw [layP_len]; exact h.pos
    · show (layP s.last s.pend).length ≤ 1024; rw [layP_len]; exact h.cap
    · show (diesS s).now.length = (layP s.last s.pend).length; rw [layP_len, diesS_now]; exact h.same
    · intro p hp; cases hp
    · intro p hp
      rcases List.mem_append.1 hp with hp | hp
      · exact h.acts p hp
      · simp at hp; subst hp; decide
theorem Sane.arm {s : DSt} (h : Sane s) (n : Int) (hn : n ≤ 9223372036854775807) : Sane (armS s n) := by
  unfold armS
  split
  · exact h
  · split
    · exact h
    · exact ⟨h.pos, h.cap, h.same, h.pend, ⟨by show 0 ≤ n; omega, hn⟩, h.acts⟩
theorem Sane.crash {s : DSt} (h : Sane s) (l : List Int) : Sane (crashS s l) := by
  unfold crashS
  split
  · refine ⟨?_, ?_, rfl, ?_, ?_, h.acts⟩
    · show 0 < (layP s.last _).length; rw [layP_len]; exact h.pos
    · show (layP s.last _).length ≤ 1024; rw [layP_len]; exact h.cap
    · intro p hp; cases hp
    · exact ⟨show (0 : Int) ≤ 0 by decide, show (0 : Int) ≤ 9223372036854775807 by decide⟩
  · exact h
theorem Sane.fresh (l : List ByteArray) (h1 : 0 < l.length) (h2 : l.length ≤ 1024) : Sane (freshS l) :=
  ⟨h1, h2, rfl, fun p hp => (by cases hp), ⟨show (0 : Int) ≤ 0 by decide, show (0 : Int) ≤ 9223372036854775807 by decide⟩, fun p hp => (by cases hp)⟩
/-- A disk that was made behind w0, and nothing else of what w0 had has changed. -/
def DI (w0 w : World) (b : Nat) (s : DSt) : Prop := ∃ v, Dk w w0.heap.size b v s ∧ Below w0.heap.size w0 w ∧ Sane s
theorem DI.below {w0 w w' : World} {b : Nat} {s : DSt} (h : DI w0 w b s) (hb : Below w.heap.size w w') : DI w0 w' b s := by
  obtain ⟨v, h1, h2, h3⟩ := h
  exact ⟨v, h1.below hb, h2.trans (hb.mono h2.size), h3⟩
theorem DI.drew {w0 w : World} {b : Nat} {s : DSt} (h : DI w0 w b s) : DI w0 w.drew b s := h.below ((Below.refl _ w).drew)
theorem DI.size {w0 w : World} {b : Nat} {s : DSt} (h : DI w0 w b s) : w0.heap.size ≤ w.heap.size := by
  obtain ⟨v, h1, h2, h3⟩ := h
  exact h2.size
theorem DI.bel {w0 w : World} {b : Nat} {s : DSt} (h : DI w0 w b s) : Below w0.heap.size w0 w := by
  obtain ⟨v, h1, h2, h3⟩ := h
  exact h2
theorem DI.sane {w0 w : World} {b : Nat} {s : DSt} (h : DI w0 w b s) : Sane s := by
  obtain ⟨v, h1, h2, h3⟩ := h
  exact h3
theorem DI.only {w0 w w' : World} {b : Nat} {v : DV} {s : DSt} (h1 : Dk w w0.heap.size b v s) (h2 : Below w0.heap.size w0 w) (ho : Only (Fd b v) w w') : Below w0.heap.size w0 w' :=
  h2.trans (ho.below h2.size (fun k hk q => by have := (h1.fd k q).1; omega))
theorem writeD {w0 w : World} {b : Nat} {s : DSt} (h : DI w0 w b s) (hp : s.pend.length ≤ 1000000000) (ha : s.acts.length ≤ 1000000000) (i : Int) (t : ByteArray) :
    Calls Tryz.prog 75 #[.pointer (some ⟨b, 0, none⟩), .int .i64 i, .string t] w fun e w' => e = .returned (.int .i64 (writeE s i t)) ∧ DI w0 w' b (writeS s i t) := by
  obtain ⟨v, h1, h2, h3⟩ := h
  refine (write_any w _ b v s h1 h2.size h3 hp ha i t).mono ?_
  rintro ev w' ⟨rfl, v', g1, g2, _⟩
  exact ⟨rfl, v', g1, DI.only h1 h2 g2, h3.write i t⟩
theorem flushD {w0 w : World} {b : Nat} {s : DSt} (h : DI w0 w b s) (hp : s.pend.length ≤ 1000000000) (ha : s.acts.length ≤ 1000000000) :
    Calls Tryz.prog 76 #[.pointer (some ⟨b, 0, none⟩)] w fun e w' => e = .returned (.int .i64 (flushE s)) ∧ DI w0 w' b (flushS s) := by
  obtain ⟨v, h1, h2, h3⟩ := h
  refine (flush_any w _ b v s h1 h2.size h3 hp ha).mono ?_
  rintro ev w' ⟨rfl, v', g1, g2, _⟩
  exact ⟨rfl, v', g1, DI.only h1 h2 g2, h3.flush⟩
theorem armD {w0 w : World} {b : Nat} {s : DSt} (h : DI w0 w b s) (n : Int) (hn : n ≤ 9223372036854775807) :
    Calls Tryz.prog 27 #[.pointer (some ⟨b, 0, none⟩), .int .i64 n] w fun e w' => e = .returned (.int .i64 (armE s n)) ∧ DI w0 w' b (armS s n) := by
  obtain ⟨v, h1, h2, h3⟩ := h
  refine (arm_any w _ b v s h1 n).mono ?_
  rintro ev w' ⟨rfl, g1, g2⟩
  exact ⟨rfl, v, g1, DI.only h1 h2 g2, h3.arm n hn⟩
theorem crashD {w0 w : World} {b : Nat} {s : DSt} (h : DI w0 w b s) (hp : s.pend.length ≤ 1000000000) (p : Option Addr) (l : List Int) (n c : Nat) (hn : n = l.length) (hl : Ints w p l) (hll : l.length ≤ 9223372036854775807) :
    Calls Tryz.prog 30 #[.pointer (some ⟨b, 0, none⟩), .slice p n c] w fun e w' => e = .returned (.int .i64 (crashE s l)) ∧ DI w0 w' b (crashS s l) := by
  subst hn
  obtain ⟨v, h1, h2, h3⟩ := h
  refine (crash_any w _ b v s h1 h2.size h3 hp p l c hl hll).mono ?_
  rintro ev w' ⟨rfl, v', g1, g2, _⟩
  exact ⟨rfl, v', g1, DI.only h1 h2 g2, h3.crash l⟩
theorem readD {w0 w : World} {b : Nat} {s : DSt} (h : DI w0 w b s) (i : Int) :
    Calls Tryz.prog 125 #[.pointer (some ⟨b, 0, none⟩), .int .i64 i] w fun e w' => e = .returned (.tuple #[.string (readT s i), .int .i64 (readE s i)]) ∧ w' = w := by
  obtain ⟨v, h1, h2, h3⟩ := h
  exact read_any w _ b v s h1 h3.same i
theorem pendingD {w0 w : World} {b : Nat} {s : DSt} (h : DI w0 w b s) :
    Calls Tryz.prog 29 #[.pointer (some ⟨b, 0, none⟩)] w fun e w' => e = .returned (.int .i64 (s.pend.length : Int)) ∧ w' = w := by
  obtain ⟨v, h1, h2, h3⟩ := h
  exact pending_any w _ b v s h1
theorem sizeD {w0 w : World} {b : Nat} {s : DSt} (h : DI w0 w b s) :
    Calls Tryz.prog 96 #[.pointer (some ⟨b, 0, none⟩)] w fun e w' => e = .returned (.int .i64 (s.last.length : Int)) ∧ w' = w := by
  obtain ⟨v, h1, h2, h3⟩ := h
  exact size_any w _ b v s h1
/-- A disk that lives and is not armed. -/
def Alive (s : DSt) : Prop := s.fuse = 0 ∧ s.dead = false
theorem Alive.dies {s : DSt} (h : Alive s) : diesS s = s := by rw [diesS, if_neg (by rw [h.1]; decide)]
theorem writeA {s : DSt} (h : Alive s) (j : Nat) (hj : j < s.last.length) (t : ByteArray) (ht : t.size = 256) : writeE s (j : Int) t = 0 ∧ writeS s (j : Int) t = { s with now := s.now.set j t, pend := s.pend ++ [(j, t)], acts := s.acts ++ [(0, j)] } := by
  have hi : isOk s (j : Int) := ⟨by omega, by omega⟩
  have hd : ¬ (diesS s).dead = true := by rw [h.dies, h.2]; decide
  rw [writeE, writeS, if_pos hi, if_pos hi, if_pos ht, if_pos ht, if_neg hd, if_neg hd, h.dies, Int.toNat_natCast]
  exact ⟨rfl, rfl⟩
theorem flushA {s : DSt} (h : Alive s) : flushE s = 0 ∧ flushS s = { s with last := layP s.last s.pend, pend := [], acts := s.acts ++ [(1, 0)] } := by
  have hd : ¬ (diesS s).dead = true := by rw [h.dies, h.2]; decide
  rw [flushE, flushS, if_neg hd, if_neg hd, h.dies]
  exact ⟨rfl, rfl⟩
theorem readA {s : DSt} (h : Alive s) (j : Nat) (hj : j < s.last.length) : readE s (j : Int) = 0 ∧ readT s (j : Int) = s.now.getD j ByteArray.empty := by
  have hi : isOk s (j : Int) := ⟨by omega, by omega⟩
  have hd : ¬ s.dead = true := by rw [h.2]; decide
  rw [readE, readT, if_pos hi, if_pos hi, if_neg hd, if_neg hd, Int.toNat_natCast]
  exact ⟨rfl, rfl⟩
theorem keepP_none : ∀ (l : List (Nat × ByteArray)), keepP l (List.replicate l.length false) = []
  | [] => rfl
  | p :: r => by simp [List.replicate_succ, keepP, keepP_none r]
theorem crash_nil (s : DSt) : crashE s [] = 0 ∧ crashS s [] = { s with last := s.last, now := s.last, pend := [], fuse := 0, dead := false } := by
  have h : ∀ z ∈ ([] : List Int), pickOk s.pend.length z := fun z hz => by cases hz
  rw [crashE, crashS, if_pos h, if_pos h, keptL_nil, keepP_none]
  exact ⟨rfl, rfl⟩
theorem Ints.nil (w : World) (p : Option Addr) : Ints w p [] := fun j hj => by cases hj
end Go.Proofs.YtnfcnpolflfpfaaGreatDoor
