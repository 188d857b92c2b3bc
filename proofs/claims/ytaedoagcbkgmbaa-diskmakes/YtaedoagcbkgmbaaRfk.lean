import Derived.Test.YtaedoagcbkgmbaaTwo
namespace Go.Proofs.Ytaedoagcbkgmbaa
open Go.RowKit
/-- At block b lies the document's disk, fresh: these sectors. -/
def Rk0 (w : World) (base b : Nat) (v : Value) (l : List ByteArray) : Prop :=
  Blk w b #[v, .slice none 0 0, .int .i64 0, .bool false, .slice none 0 0] 75 ∧ w.ownsRow base 9 1 v l.length (strs l) ∧ base ≤ b
theorem Rk0.below {w w' : World} {base b : Nat} {v : Value} {l : List ByteArray} (h : Rk0 w base b v l) (hb : Below w.heap.size w w') : Rk0 w' base b v l :=
  ⟨h.1.below hb h.1.lt, owns_only h.2.1 (Only.of_below (P := fun _ => False) hb) (fun _ _ q => q), h.2.2⟩
theorem Rk0.drew {w : World} {base b : Nat} {v : Value} {l : List ByteArray} (h : Rk0 w base b v l) : Rk0 w.drew base b v l := h.below ((Below.refl _ w).drew)
def RNewPost (n : Int) (w : World) (e : Ending) (w' : World) : Prop :=
  if 128 ≤ n ∧ n ≤ 1024 then ∃ b v, e = .returned (.tuple #[.pointer (some ⟨b, 0, none⟩), .int .i64 0]) ∧ Rk0 w' w.heap.size b v (List.replicate n.toNat zero256) ∧ Below w.heap.size w w'
  else e = .returned (.tuple #[.pointer none, .int .i64 40]) ∧ w' = w
theorem zero_nums : strOfNums (List.replicate 256 0) = zero256 := by
  rw [strOfNums, List.map_replicate]
  rfl
theorem news_one (w : World) (T : TypeId) (x : Value) (j : Nat) (u : Value) (hu : [x][j]? = some u) : (w.alloc (.cells #[x] T)).cell? (Addr.add ⟨w.heap.size, 0, none⟩ j) = some u := by
  rw [Addr.add_mid, Nat.zero_add, (Blk.new w T #[x]).cell j, ← hu]
  simp
/-- The sectors are being laid down. -/
def RnI (w : World) (b : Nat) (t : ByteArray) (k : Nat) (wr : World) : Prop := ∃ v, Rk0 wr w.heap.size b v (List.replicate k t) ∧ Below w.heap.size w wr
set_option maxRecDepth 100000 in
set_option maxHeartbeats 2000000 in
theorem rnew_any (n : Int) (w : World) : Calls Try.prog 45 #[.int .i64 n] w (RNewPost n w) := by
  by_cases hn : 128 ≤ n ∧ n ≤ 1024
  · obtain ⟨m, rfl⟩ := Int.eq_ofNat_of_zero_le (show 0 ≤ n by omega)
    have hm1 : 128 ≤ m := by omega
    have hm2 : m ≤ 1024 := by omega
    have HN := hide hn
    clear hn
    obtain ⟨W0, hW0⟩ : ∃ W0, W0 = w.alloc (Obj.cells #[.slice none 0 0, .slice none 0 0, .int .i64 0, .bool false, .slice none 0 0] 75) := ⟨_, rfl⟩
    have R0 : Rk0 W0 w.heap.size w.heap.size (.slice none 0 0) [] := by rw [hW0]; exact ⟨Blk.new _ _ _, World.ownsRow_nil _ _ _ _, Nat.le_refl _⟩
    have BB0 : Below w.heap.size w W0 := by rw [hW0]; exact (Below.refl _ _).alloc (Nat.le_refl _) _
    have hs0 : W0.heap.size = w.heap.size + 1 := by rw [hW0]; simp
    have hmk := run_make_u8 256 256 (by omega) (by omega) W0
    have ha := arr_new W0 .u8 (List.replicate 256 (0 : Int)) 5 _ rfl
    have hb1 : Below W0.heap.size W0 (W0.alloc (.cells ((List.replicate 256 (0 : Int)).map (Value.int .u8)).toArray 5)) := (Below.refl _ _).alloc (Nat.le_refl _) _
    generalize W0.alloc (.cells ((List.replicate 256 (0 : Int)).map (Value.int .u8)).toArray 5) = W1 at *
    have hcv := run_convert_bytes_arg (P := Try.prog) W1 88 5 Try.underlying88 Try.underlying5 W0.heap.size 0 256 256 (List.replicate 256 (0 : Int)) (List.length_replicate) (fun i hi => ha.get i (by rw [List.length_replicate]; omega)) 9 Try.underlying9
    rw [zero_nums] at hcv
    simp only [Int.cast_ofNat_Int] at hmk
    rw [hs0] at hmk hcv
    have X0 := hide (show RnI w w.heap.size zero256 0 W1 from ⟨_, R0.below hb1, BB0.trans (hb1.mono BB0.size)⟩)
    generalize hZ : zero256 = Z at *
    have HZ := hide hZ
    have HW0 := hide hW0
    clear R0 BB0 ha hb1 hZ hs0
    go_enter Try.func45, Try.ntmps45
    rw [hW0] at hmk
    clear hW0
    go_wp2
    clear hmk hcv HW0
    go_loopw [6] (fun i wr => ∃ k : Nat, k ≤ m ∧ i = .int .i64 (k : Int) ∧ RnI w w.heap.size Z k wr) (fun i _ => m - (intOf i).toNat)
    case atStart => exact ⟨0, by omega, rfl, unhide X0⟩
    case round =>
      obtain ⟨k, hk, rfl, v, hR, hb⟩ := hrel
      obtain ⟨wo, rfl⟩ : ∃ wo, wo = wr := ⟨_, rfl⟩
      have XR := hide hR
      have XB := hide hb
      clear hR hb X0
      by_cases hkm : k < m
      · obtain ⟨p, cap, ev, hcap⟩ := row_form (unhide XR).2.1
        rw [List.length_replicate] at ev hcap
        have c0 : wo.cell? ⟨w.heap.size, 0, none⟩ = some (.slice p k cap) := by rw [(unhide XR).1.cell 0, ← ev]; rfl
        have H := hide ((unhide XR).below ((Below.refl _ wo).alloc (Nat.le_refl _) (Obj.cells #[.string Z] 9)))
        have HE := hide ev
        have hsz := (unhide XB).size
        obtain ⟨i0, hi0, hz0, hz1, hz2⟩ := info_parts infoS
        have HI := hide (And.intro hi0 (And.intro hz0 (And.intro hz1 hz2)))
        have HNB := hide (show v.ownBlock ≠ some w.heap.size from (unhide XR).1.not_row (by decide) (unhide XR).2.1)
        clear ev hi0 hz0 hz1 hz2
        go_wp2_with (refine wpList_append_lies _ rfl (.tmp 26) (.tmp 28) 39 rfl w.heap.size 9 i0 (.string ⟨#[]⟩) 1 16 Try.underlying39 (unhide HI).1 (unhide HI).2.1 (unhide HI).2.2.1 (unhide HI).2.2.2 rfl (by decide) _ k (strs (List.replicate k Z)) (unhide HE).symm (by have := (unhide H).2.1; rw [List.length_replicate] at this; exact this) ⟨wo.heap.size, 0, none⟩ 1 1 [.string Z] rfl rfl (fun j u hu => news_one wo _ _ j u hu) (by simp [Value.oneCell']) (by decide) (by unfold maxLen; omega) (by omega) (by simp; omega) _ rfl ?_)
        intro g cap' w1 ho hg hor hlt
        have hO := grown_only hg
        have B1 : Blk w1 w.heap.size _ _ := (unhide H).1.only hO (unhide HNB)
        have c0' : w1.cell? ⟨w.heap.size, 0, none⟩ = some v := by rw [B1.cell 0]; rfl
        have f0' := B1.frozen 0
        have HR := hide (show RnI w w.heap.size Z (k + 1) (w1.setCell ⟨w.heap.size, 0, none⟩ (.slice (some ⟨g, 0, none⟩) (k + 1) cap')) from by
          refine ⟨.slice (some ⟨g, 0, none⟩) (k + 1) cap', ⟨B1.set 0 _, ?_, Nat.le_refl _⟩, ?_⟩
          · have hne := B1.not_row (by decide) ho
            have := owns_setO ho ⟨w.heap.size, 0, none⟩ (.slice (some ⟨g, 0, none⟩) (k + 1) cap') hne
            rw [List.length_replicate, List.replicate_succ']
            simpa [strs] using this
          · exact (((unhide XB).alloc hsz _).grown hg (by simp; omega) (fun q hq => ((unhide H).2.1.lt q hq).1)).setCell (Nat.le_refl _) _)
        clear ho hg hor hlt hO B1
        go_wp2
        go_roundw
        case rel => exact ⟨k + 1, by omega, by go_num, unhide HR⟩
        case measure => simp [intOf]; omega
      · have hk' : m = k := by omega
        subst hk'
        go_wp2
        go_ret2
        rw [RNewPost, if_pos (unhide HN)]
        exact ⟨_, v, rfl, by rw [Int.toNat_natCast, unhide HZ]; exact unhide XR, unhide XB⟩
  · have HN := hide hn
    by_cases h1 : n < 128
    · clear hn
      go_enter Try.func45, Try.ntmps45
      go_wp2
      go_ret2
      rw [RNewPost, if_neg (unhide HN)]
      exact ⟨rfl, rfl⟩
    · have h2 : 1024 < n := by omega
      clear hn
      go_enter Try.func45, Try.ntmps45
      go_wp2
      go_ret2
      rw [RNewPost, if_neg (unhide HN)]
      exact ⟨rfl, rfl⟩
end Go.Proofs.Ytaedoagcbkgmbaa
