import Derived.Test.YtaedoagcbkgmbaaDsm
namespace Go.Proofs.Ytaedoagcbkgmbaa
open Go.RowKit
/-- A slice of texts that was handed in. -/
def Strs (w : World) (p : Option Addr) (l : List ByteArray) : Prop := ∀ j, j < l.length → ∃ g o, p = some ⟨g, o, none⟩ ∧ g < w.heap.size ∧ w.cell? ⟨g, o + j, none⟩ = some (.string (l.getD j ByteArray.empty))
def LoadPost (l : List ByteArray) (w : World) (e : Ending) (w' : World) : Prop :=
  if 128 ≤ l.length ∧ l.length ≤ 1024 then
    (if ∀ t ∈ l, t.size = 256 then ∃ b v, e = .returned (.tuple #[.pointer (some ⟨b, 0, none⟩), .int .i64 0]) ∧ Dk w' w.heap.size b v (freshS l) ∧ Below w.heap.size w w'
     else e = .returned (.tuple #[.pointer none, .int .i64 42]) ∧ Below w.heap.size w w')
  else e = .returned (.tuple #[.pointer none, .int .i64 40]) ∧ w' = w
def partL (l : List ByteArray) (k : Nat) : List ByteArray := l.take k ++ List.replicate (l.length - k) ⟨#[]⟩
theorem partL_len (l : List ByteArray) (k : Nat) (h : k ≤ l.length) : (partL l k).length = l.length := by simp [partL]; omega
theorem partL_step (l : List ByteArray) (k : Nat) (h : k < l.length) : (partL l k).set k (l.getD k ByteArray.empty) = partL l (k + 1) := by
  have e1 : l.take (k + 1) = l.take k ++ [l.getD k ByteArray.empty] := by
    rw [List.take_succ_eq_append_getElem h]
    simp [List.getD_eq_getElem?_getD, h]
  have e2 : List.replicate (l.length - k) (⟨#[]⟩ : ByteArray) = ⟨#[]⟩ :: List.replicate (l.length - (k + 1)) ⟨#[]⟩ := by
    rw [show l.length - k = (l.length - (k + 1)) + 1 by omega, List.replicate_succ]
  rw [partL, partL, e1, e2, List.set_append]
  have hl : (l.take k).length = k := by simp; omega
  simp [hl]
def LdI (w : World) (l : List ByteArray) (k : Nat) (wr : World) : Prop := Blk wr w.heap.size (strs (partL l k)).toArray 9 ∧ Below w.heap.size w wr ∧ ∀ t ∈ l.take k, t.size = 256
theorem LdI.step {w wr x : World} {l : List ByteArray} {k : Nat} (h : LdI w l k wr) (hk : k < l.length) (hb : Below wr.heap.size wr x) (ht : (l.getD k ByteArray.empty).size = 256) : LdI w l (k + 1) (x.setCell ⟨w.heap.size, k, none⟩ (.string (l.getD k ByteArray.empty))) := by
  refine ⟨?_, (h.2.1.trans (hb.mono h.2.1.size)).setCell (Nat.le_refl _) _, fun t hm => ?_⟩
  · have := (h.1.below hb h.1.lt).set k (.string (l.getD k ByteArray.empty))
    have e : (strs (partL l k)).toArray.setIfInBounds k (.string (l.getD k ByteArray.empty)) = (strs (partL l (k + 1))).toArray := by
      rw [← partL_step l k hk, ← strs_set]
      simp
    rw [e] at this
    exact this
  · rw [List.take_succ_eq_append_getElem hk] at hm
    rcases List.mem_append.1 hm with hm | hm
    · exact h.2.2 t hm
    · simp at hm
      subst hm
      simpa [List.getD_eq_getElem?_getD, hk] using ht
set_option maxRecDepth 100000 in
set_option maxHeartbeats 2000000 in
theorem load_any (p : Option Addr) (c : Nat) (l : List ByteArray) (w : World) (h : Strs w p l) : Calls Try.prog 22 #[.slice p l.length c] w (LoadPost l w) := by
  have H := hide h
  clear h
  by_cases hn : 128 ≤ l.length ∧ l.length ≤ 1024
  · have e : decide (128 ≤ (l.length : Int) ∧ (l.length : Int) ≤ 1024) = true := by simp; omega
    have hm1 := hn.1
    have hm2 := hn.2
    have HN := hide hn
    clear hn
    go_enter Try.func22, Try.ntmps22
    go_wp2_with fail
    refine (isSize_any _ _).mono ?_
    rintro ev x1 ⟨rfl, rfl⟩
    rw [e]
    clear e
    have hmk := run_make_s l.length (by omega) x1
    have X0 := hide (show LdI x1 l 0 (x1.alloc (.cells (strs (List.replicate l.length ⟨#[]⟩)).toArray 9)) from ⟨by simpa [partL] using Blk.new x1 9 (strs (List.replicate l.length ⟨#[]⟩)).toArray, (Below.refl _ _).alloc (Nat.le_refl _) _, fun t ht => by simp at ht⟩)
    generalize hx2 : x1.alloc (.cells (strs (List.replicate l.length ⟨#[]⟩)).toArray 9) = x2 at *
    clear hx2
    go_wp2
    clear hmk
    go_loopw [16] (fun i wr => ∃ k : Nat, k ≤ l.length ∧ i = .int .i64 (k : Int) ∧ LdI x1 l k wr) (fun i _ => l.length - (intOf i).toNat)
    case atStart => exact ⟨0, by omega, rfl, unhide X0⟩
    case round =>
      obtain ⟨k, hk, rfl, hI⟩ := hrel
      obtain ⟨wo, rfl⟩ : ∃ wo, wo = wr := ⟨_, rfl⟩
      have XI := hide hI
      clear hI X0
      by_cases hkl : k < l.length
      · obtain ⟨g, o, rfl, hg, hc⟩ := unhide H k hkl
        have ck : wo.cell? ⟨g, o + k, none⟩ = some (.string (l.getD k ByteArray.empty)) := by rw [(unhide XI).2.1.cell (p := ⟨g, o + k, none⟩) hg]; exact hc
        have HM := hide (show l.getD k ByteArray.empty ∈ l by simp [List.getD_eq_getElem?_getD, hkl])
        have HST := hide (fun x (hb : Below wo.heap.size wo x) (ht : (l.getD k ByteArray.empty).size = 256) => (unhide XI).step hkl hb ht)
        have HB := hide (unhide XI).2.1
        have hbk := (unhide XI).1
        have hpl := partL_len l k hk
        have hold : ∃ ov, (strs (partL l k))[k]? = some ov := ⟨_, strs_at _ _ (by omega)⟩
        obtain ⟨ov, hov⟩ := hold
        have HK := hide hbk
        clear hc hbk XI
        generalize l.getD k ByteArray.empty = t at *
        by_cases ht : t.size = 256
        · have e2 : decide (t.size = 256) = true := by simpa using ht
          have HT := hide ht
          clear ht
          go_wp2_with fail
          refine (isSector_any t _).mono ?_
          rintro ev x2 ⟨rfl, rfl⟩
          rw [e2]
          clear e2
          go_wp2_with fail
          refine (own_any t _ (by rw [unhide HT]; decide)).mono ?_
          rintro ev x3 ⟨rfl, hb3⟩
          have hk3 := (unhide HK).below hb3 (unhide HK).lt
          have cx : x3.cell? ⟨x1.heap.size, k, none⟩ = some ov := by rw [hk3.cell k]; simpa using hov
          have fx := hk3.frozen k
          have HR := hide (unhide HST x3 hb3 (unhide HT))
          clear hb3 hk3 hov ck
          go_wp2
          go_roundw
          case rel => exact ⟨k + 1, by omega, by go_num, unhide HR⟩
          case measure => simp [intOf]; omega
        · have e2 : decide (t.size = 256) = false := by simpa using ht
          have HE := hide (show ¬ ∀ t ∈ l, t.size = 256 from fun h => ht (h t (unhide HM)))
          clear ht hov
          go_wp2_with fail
          refine (isSector_any t _).mono ?_
          rintro ev x2 ⟨rfl, rfl⟩
          rw [e2]
          clear e2
          go_wp2
          go_ret2
          rw [LoadPost, if_pos (unhide HN), if_neg (unhide HE)]
          exact ⟨rfl, unhide HB⟩
      · have hk' : k = l.length := by omega
        subst hk'
        have hall : ∀ t ∈ l, t.size = 256 := by have := (unhide XI).2.2; rwa [List.take_length] at this
        have HA := hide hall
        have hk3 : Blk wo x1.heap.size (strs l).toArray 9 := by have := (unhide XI).1; simpa [partL] using this
        have HK3 := hide hk3
        have HB3 := hide (unhide XI).2.1
        have hs3 := (unhide XI).2.1.size
        clear hall hk3 XI hkl hk
        go_wp2_with fail
        refine (holding_any _ _ l (unhide HK3) (by omega) hm2).mono ?_
        rintro ev x4 ⟨g1, cap1, rfl, hr4, hb4⟩
        have hk4 := (unhide HK3).below hb4 (unhide HK3).lt
        have D := hide (show Dk (x4.alloc (Obj.cells #[.slice (some ⟨x1.heap.size, 0, none⟩) l.length l.length, .slice (some ⟨g1, 0, none⟩) l.length cap1, .slice none 0 0, .slice none 0 0, .int .i64 0, .bool false] 45)) x1.heap.size x4.heap.size ⟨.slice (some ⟨x1.heap.size, 0, none⟩) l.length l.length, .slice (some ⟨g1, 0, none⟩) l.length cap1, .slice none 0 0, .slice none 0 0⟩ (freshS l) from by
          have hg1 := (hr4.lt g1 rfl).1
          have hlt := (unhide HK3).lt
          refine ⟨Blk.new _ _ _, (own_row x4 x1.heap.size _ l hk4 (by omega) (by omega)).alloc _, (owns_base hr4 (by omega)).alloc _, World.ownsRow_nil _ _ _ _, World.ownsRow_nil _ _ _ _, fun k hk1 hk2 => ?_, ?_⟩
          · simp [Value.ownBlock] at hk1 hk2
            omega
          · have := hb4.size
            omega)
        have HB4 := hide ((unhide HB3).trans (hb4.mono (unhide HB3).size))
        clear hr4 hb4 hk4 HK3 HB3
        go_wp2
        go_ret2
        rw [LoadPost, if_pos (unhide HN), if_pos (unhide HA)]
        exact ⟨_, _, rfl, unhide D, (unhide HB4).alloc (unhide HB4).size _⟩
  · have e : decide (128 ≤ (l.length : Int) ∧ (l.length : Int) ≤ 1024) = false := by simp; omega
    have HN := hide hn
    clear hn
    go_enter Try.func22, Try.ntmps22
    go_wp2_with fail
    refine (isSize_any _ _).mono ?_
    rintro ev x1 ⟨rfl, rfl⟩
    rw [e]
    clear e
    go_wp2
    go_ret2
    rw [LoadPost, if_neg (unhide HN)]
    exact ⟨rfl, rfl⟩
/-- The acts as they are told. -/
def tel1 (p : Nat × Nat) : List Value := if p.1 = 1 then [.int .i64 2, .int .i64 0] else [.int .i64 1, .int .i64 (p.2 : Int)]
def tels : List (Nat × Nat) → List Value
  | [] => []
  | p :: r => tel1 p ++ tels r
end Go.Proofs.Ytaedoagcbkgmbaa
