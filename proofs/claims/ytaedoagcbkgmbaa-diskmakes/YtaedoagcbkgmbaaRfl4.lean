import Derived.Test.YtaedoagcbkgmbaaRfk
namespace Go.Proofs.Ytaedoagcbkgmbaa
open Go.RowKit
def RLoadPost (l : List ByteArray) (w : World) (e : Ending) (w' : World) : Prop :=
  if 128 ≤ l.length ∧ l.length ≤ 1024 then
    (if ∀ t ∈ l, t.size = 256 then ∃ b v, e = .returned (.tuple #[.pointer (some ⟨b, 0, none⟩), .int .i64 0]) ∧ Rk0 w' w.heap.size b v l ∧ Below w.heap.size w w'
     else e = .returned (.tuple #[.pointer none, .int .i64 42]) ∧ Below w.heap.size w w')
  else e = .returned (.tuple #[.pointer none, .int .i64 40]) ∧ Below w.heap.size w w'
def RlI (w : World) (l : List ByteArray) (k : Nat) (wr : World) : Prop := Below w.heap.size w wr ∧ ∀ t ∈ l.take k, t.size = 256
set_option maxRecDepth 100000 in
set_option maxHeartbeats 2000000 in
theorem rload_any (p : Option Addr) (c : Nat) (l : List ByteArray) (w : World) (h : Strs w p l) (hl : l.length ≤ 1000000) : Calls Try.prog 27 #[.slice p l.length c] w (RLoadPost l w) := by
  have H := hide h
  clear h
  by_cases hn : 128 ≤ l.length ∧ l.length ≤ 1024
  · have hm1 := hn.1
    have hm2 := hn.2
    have HN := hide hn
    clear hn
    go_enter Try.func27, Try.ntmps27
    go_wp2
    go_loopw [4] (fun i wr => ∃ k : Nat, k ≤ l.length ∧ i = .int .i64 (k : Int) ∧ RlI w l k wr) (fun i _ => l.length - (intOf i).toNat)
    case atStart => exact ⟨0, by omega, rfl, Below.refl _ _, fun t ht => by simp at ht⟩
    case round =>
      obtain ⟨k, hk, rfl, hb, hA⟩ := hrel
      obtain ⟨wo, rfl⟩ : ∃ wo, wo = wr := ⟨_, rfl⟩
      have XB := hide hb
      have XA := hide hA
      clear hb hA
      by_cases hkl : k < l.length
      · obtain ⟨g, o, rfl, hg, hc⟩ := unhide H k hkl
        have ck : wo.cell? ⟨g, o + k, none⟩ = some (.string (l.getD k ByteArray.empty)) := by rw [(unhide XB).cell (p := ⟨g, o + k, none⟩) hg]; exact hc
        have HM := hide (show l.getD k ByteArray.empty ∈ l by simp [List.getD_eq_getElem?_getD, hkl])
        have HT := hide (show l.take (k + 1) = l.take k ++ [l.getD k ByteArray.empty] by rw [List.take_succ_eq_append_getElem hkl]; simp [List.getD_eq_getElem?_getD, hkl])
        generalize l.getD k ByteArray.empty = t at *
        have i0 : 0 ≤ (k : Int) := by omega
        have i1 : (k : Int) < (l.length : Int) := by omega
        clear hc
        by_cases ht : t.size = 256
        · have HTS := hide ht
          have hte : ((t.size : Int) == 256) = true := by rw [ht]; rfl
          have hte2 : ((t.size : Int) != 256) = false := by rw [ht]; rfl
          clear ht
          go_wp2
          go_roundw
          case rel =>
            refine ⟨k + 1, by omega, by go_num, unhide XB, fun u hu => ?_⟩
            rw [unhide HT] at hu
            rcases List.mem_append.1 hu with hu | hu
            · exact unhide XA u hu
            · simp at hu; subst hu; exact unhide HTS
          case measure => simp [intOf]; omega
        · have HE := hide (show ¬ ∀ t ∈ l, t.size = 256 from fun h => ht (h t (unhide HM)))
          have hti : ¬ (t.size : Int) = 256 := by omega
          clear ht
          go_wp2
          go_ret2
          rw [RLoadPost, if_pos (unhide HN), if_neg (unhide HE)]
          exact ⟨rfl, unhide XB⟩
      · have hk' : l.length = k := by omega
        have hall : ∀ t ∈ l, t.size = 256 := by have := unhide XA; rw [← hk', List.take_length] at this; exact this
        have HA := hide hall
        obtain ⟨g, o, rfl, hg, _⟩ := unhide H 0 (by omega)
        obtain ⟨W0, hW0⟩ : ∃ W0, W0 = wo.alloc (Obj.cells #[.slice none 0 0, .slice none 0 0, .int .i64 0, .bool false, .slice none 0 0] 75) := ⟨_, rfl⟩
        have B0 : Blk W0 wo.heap.size #[.slice none 0 0, .slice none 0 0, .int .i64 0, .bool false, .slice none 0 0] 75 := by rw [hW0]; exact Blk.new _ _ _
        have hsz := (unhide XB).size
        have BB0 : Below wo.heap.size wo W0 := by rw [hW0]; exact (Below.refl _ _).alloc (Nat.le_refl _) _
        have hs0 : W0.heap.size = wo.heap.size + 1 := by rw [hW0]; simp
        have HST := hide (show ∀ j u, (strs l)[j]? = some u → W0.cell? (Addr.add ⟨g, o, none⟩ j) = some u from fun j u hu => by
          have hj : j < l.length := by
            have := (List.getElem?_eq_some_iff.1 hu).1
            rwa [strs_len] at this
          obtain ⟨g', o', e1, hg', hc'⟩ := unhide H j hj
          simp at e1
          obtain ⟨rfl, rfl⟩ := e1
          rw [Addr.add_mid, BB0.cell (p := ⟨g, o + j, none⟩) (by show g < wo.heap.size; omega), (unhide XB).cell (p := ⟨g, o + j, none⟩) hg', hc', ← hu]
          exact (strs_at l j hj).symm)
        obtain ⟨i0, hi0, hz0, hz1, hz2⟩ := info_parts infoS
        have HI := hide (And.intro hi0 (And.intro hz0 (And.intro hz1 hz2)))
        have HB0 := hide B0
        have HBB := hide BB0
        have HS0 := hide hs0
        have HW0 := hide hW0
        clear hk' hall XA hk hi0 hz0 hz1 hz2 B0 BB0 hs0 hW0
        go_wp2_with (refine wpList_append_lies _ rfl (.tmp 32) (.tmp 33) 39 rfl w.heap.size 9 i0 (.string ⟨#[]⟩) 1 16 Try.underlying39 (unhide HI).1 (unhide HI).2.1 (unhide HI).2.2.1 (unhide HI).2.2.2 rfl (by decide) _ 0 [] rfl (World.ownsRow_nil _ _ _ _) ⟨g, o, none⟩ l.length c (strs l) rfl (by rw [strs_len, Nat.mul_one]) (by rw [← unhide HW0]; exact unhide HST) (by simp [strs, Value.oneCell']) (by omega) (by unfold maxLen; omega) (by omega) (by simp; omega) _ rfl ?_)
        rw [← unhide HW0]
        intro g2 cap' w1 ho hgr hor hlt
        have hO := grown_only hgr
        have B1 : Blk w1 wo.heap.size _ _ := (unhide HB0).only hO (by simp [Value.ownBlock])
        have c0' : w1.cell? ⟨wo.heap.size, 0, none⟩ = some (.slice none 0 0) := by rw [B1.cell 0]; rfl
        have f0' := B1.frozen 0
        have HR := hide (show Rk0 (w1.setCell ⟨wo.heap.size, 0, none⟩ (.slice (some ⟨g2, 0, none⟩) l.length cap')) w.heap.size wo.heap.size (.slice (some ⟨g2, 0, none⟩) l.length cap') l ∧ Below w.heap.size w (w1.setCell ⟨wo.heap.size, 0, none⟩ (.slice (some ⟨g2, 0, none⟩) l.length cap')) from by
          refine ⟨⟨B1.set 0 _, ?_, by omega⟩, ?_⟩
          · have hne := B1.not_row (by decide) ho
            have := owns_setO ho ⟨wo.heap.size, 0, none⟩ (.slice (some ⟨g2, 0, none⟩) l.length cap') hne
            simpa using this
          · exact (((unhide XB).trans ((unhide HBB).mono hsz)).grown hgr (by have := unhide HS0; omega) (fun q hq => by cases hq)).setCell (by omega) _)
        clear ho hgr hor hlt hO B1
        go_wp2
        go_ret2
        rw [RLoadPost, if_pos (unhide HN), if_pos (unhide HA)]
        exact ⟨_, _, rfl, (unhide HR).1, (unhide HR).2⟩
  · have HN := hide hn
    by_cases h1 : l.length < 128
    · clear hn
      go_enter Try.func27, Try.ntmps27
      go_wp2
      go_ret2
      rw [RLoadPost, if_neg (unhide HN)]
      exact ⟨rfl, Below.refl _ _⟩
    · have h2 : 1024 < l.length := by omega
      clear hn
      go_enter Try.func27, Try.ntmps27
      go_wp2
      go_ret2
      rw [RLoadPost, if_neg (unhide HN)]
      exact ⟨rfl, Below.refl _ _⟩
/-- Reading the document's disk that is fresh: as the program's that is. -/
theorem is_any (w : World) (base b : Nat) (v : Value) (l : List ByteArray) (h : Rk0 w base b v l) (i : Int) :
    Calls Try.prog 61 #[.pointer (some ⟨b, 0, none⟩), .int .i64 i] w fun e w' => e = .returned (.bool (decide (0 ≤ i ∧ i < (l.length : Int)))) ∧ w' = w := by
  obtain ⟨p, cap, ev, hc⟩ := row_form h.2.1
  have c0 : w.cell? ⟨b, 0, none⟩ = some (.slice p l.length cap) := by rw [h.1.cell 0, ← ev]; rfl
  clear h ev
  by_cases h0 : 0 ≤ i
  · go_enter Try.func61, Try.ntmps61
    go_wp2
    go_ret
    exact ⟨by simp [h0], rfl⟩
  · go_enter Try.func61, Try.ntmps61
    go_wp2
    go_ret
    exact ⟨by simp; omega, rfl⟩
set_option maxRecDepth 100000 in
set_option maxHeartbeats 2000000 in
theorem now_any (w : World) (base b : Nat) (v : Value) (l : List ByteArray) (h : Rk0 w base b v l) (j : Nat) (hj : j < l.length) :
    Calls Try.prog 62 #[.pointer (some ⟨b, 0, none⟩), .int .i64 (j : Int)] w fun e w' => e = .returned (.string (l.getD j ByteArray.empty)) ∧ Below w.heap.size w w' := by
  obtain ⟨g, cap, ev, _⟩ := h.2.1.form (by omega)
  have hgn : v.ownBlock = some g := by rw [ev]; rfl
  have c0 : w.cell? ⟨b, 0, none⟩ = some (.slice (some ⟨g, 0, none⟩) l.length cap) := by rw [h.1.cell 0, ← ev]; rfl
  have c1 : w.cell? ⟨b, 1, none⟩ = some (.slice none 0 0) := by rw [h.1.cell 1]; rfl
  have cj : w.cell? ⟨g, j, none⟩ = some (.string (l.getD j ByteArray.empty)) := by rw [(own_at h.2.1 hgn j hj).1]; exact strs_at _ _ hj
  generalize l.getD j ByteArray.empty = T at *
  clear h ev hgn
  go_enter Try.func62, Try.ntmps62
  go_wp2
  go_loopw [5] (fun i wr => i = .int .i64 (-1) ∧ wr = w) (fun _ _ => 0)
  case atStart => exact ⟨rfl, rfl⟩
  case round =>
    obtain ⟨rfl, rfl⟩ := hrel
    go_wp2
    go_ret
    exact ⟨rfl, Below.refl _ _⟩
def rreadE (l : List ByteArray) (i : Int) : Int := if 0 ≤ i ∧ i < (l.length : Int) then 0 else 41
def rreadT (l : List ByteArray) (i : Int) : ByteArray := if 0 ≤ i ∧ i < (l.length : Int) then l.getD i.toNat ByteArray.empty else ⟨#[]⟩
set_option maxRecDepth 100000 in
set_option maxHeartbeats 2000000 in
theorem rread_any (w : World) (base b : Nat) (v : Value) (l : List ByteArray) (h : Rk0 w base b v l) (i : Int) :
    Calls Try.prog 46 #[.pointer (some ⟨b, 0, none⟩), .int .i64 i] w fun e w' => e = .returned (.tuple #[.string (rreadT l i), .int .i64 (rreadE l i)]) ∧ Below w.heap.size w w' := by
  have c3 : w.cell? ⟨b, 3, none⟩ = some (.bool false) := by rw [h.1.cell 3]; rfl
  have H := hide h
  clear h
  by_cases hi : 0 ≤ i ∧ i < (l.length : Int)
  · rw [rreadT, rreadE, if_pos hi, if_pos hi]
    have e : decide (0 ≤ i ∧ i < (l.length : Int)) = true := by simpa using hi
    obtain ⟨j, rfl⟩ := Int.eq_ofNat_of_zero_le hi.1
    have hj : j < l.length := by omega
    rw [Int.toNat_natCast]
    clear hi
    go_enter Try.func46, Try.ntmps46
    go_wp2_with fail
    refine (is_any w base b v l (unhide H) (j : Int)).mono ?_
    rintro ev x1 ⟨rfl, rfl⟩
    rw [e]
    clear e
    go_wp2_with fail
    refine (now_any _ base b v l (unhide H) j hj).mono ?_
    rintro ev x2 ⟨rfl, hb⟩
    have HB := hide hb
    generalize hT : l.getD j ByteArray.empty = T at *
    have HT := hide hT
    clear hb hT
    go_wp2
    go_ret2
    obtain rfl := unhide HT
    exact ⟨rfl, unhide HB⟩
  · rw [rreadT, rreadE, if_neg hi, if_neg hi]
    have e : decide (0 ≤ i ∧ i < (l.length : Int)) = false := by simpa using hi
    clear hi
    go_enter Try.func46, Try.ntmps46
    go_wp2_with fail
    refine (is_any w base b v l (unhide H) i).mono ?_
    rintro ev x1 ⟨rfl, rfl⟩
    rw [e]
    clear e
    go_wp2
    go_ret2
    exact ⟨rfl, Below.refl _ _⟩
end Go.Proofs.Ytaedoagcbkgmbaa
