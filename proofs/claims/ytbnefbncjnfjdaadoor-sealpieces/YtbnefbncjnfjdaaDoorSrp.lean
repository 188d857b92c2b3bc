import Derived.Test.YtbnefbncjnfjdaaDoorSsl
import Derived.Test.YtbnefbncjnfjdaaDoorRmc
import Derived.Laws.AppendOwn
namespace Go.Proofs.YtbnefbncjnfjdaaDoor
open Go.RowKit
/-- The slice v is the call's own, and holds the bytes L. -/
def Usl (w : World) (base : Nat) (v : Value) (L : List Int) : Prop := w.ownsRow base 5 1 v L.length (L.map (Value.int .u8))
theorem Usl.form {w : World} {base : Nat} {v : Value} {L : List Int} (h : Usl w base v L) (hne : 0 < L.length) : ∃ g cap, v = .slice (some ⟨g, 0, none⟩) L.length cap ∧ base ≤ g ∧ g < w.heap.size ∧ Arr w g 0 .u8 L := by
  obtain ⟨_, h | ⟨g, cap, cur, rfl, hg, hh, hn, hc, hs, hx⟩⟩ := h
  · omega
  · rw [Nat.mul_one] at hs hx
    have hcell : ∀ j, w.cell? ⟨g, j, none⟩ = cur[j]? := fun j => cell_of_row w g j cur 5 (0, 0) hh
    have hlt : g < w.heap.size := by
      rcases Nat.lt_or_ge g w.heap.size with h | h
      · exact h
      · rw [Array.getElem?_eq_none h] at hh; cases hh
    have hfr : ∀ j, w.frozen? ⟨g, j, none⟩ = false := fun j => by simp [World.frozen?, hh]
    refine ⟨g, cap, rfl, hg, hlt, fun j hj => ?_⟩
    rw [Nat.zero_add, hcell]
    refine ⟨?_, hfr j⟩
    have e : cur.toList[j]? = (L.map (Value.int .u8))[j]? := by rw [← hx, List.getElem?_take, if_pos hj]
    rw [← Array.getElem?_toList, e]
    simp [hj]
theorem Usl.len {w : World} {base : Nat} {v : Value} {L : List Int} (h : Usl w base v L) : ∃ a cap, v = .slice a L.length cap := by
  obtain ⟨_, ⟨rfl, h0⟩ | ⟨g, cap, cur, rfl, _⟩⟩ := h
  · exact ⟨none, 0, by rw [h0]⟩
  · exact ⟨_, cap, rfl⟩
theorem Usl.below {w w' : World} {base : Nat} {v : Value} {L : List Int} (h : Usl w base v L) (hb : Below w.heap.size w w') : Usl w' base v L := by
  refine World.ownsRow.kept h (grown_below hb none) ?_
  rcases hv : v.ownBlock with _ | x
  · exact .inl rfl
  · exact .inr (by simp)
theorem wpList_appU (w : World) {ops : Array Oper} {rest : List Oper} {o : Oper} {a : Act} {Q : Exit → Act → World → Prop}
    (hg : o.guard = none) (s x : Operand) (hop : o.op = Op.call { callee := Callee.builtin Builtin.append, args := #[s, x], argTypes := #[37, 37] })
    (base : Nat) (v : Value) (L : List Int) (hs : a.eval s = v) (hB : Usl w base v L) (hbase : base ≤ w.heap.size)
    (g : Nat) (y : Int) (hx : a.eval x = .slice (some ⟨g, 0, none⟩) 1 1) (hc : w.cell? ⟨g, 0, none⟩ = some (.int .u8 y)) (hsz : L.length < 100000)
    (h : ∀ v' w', Usl w' base v' (L ++ [y]) → Below base w w' → wpList Tryd.prog ops Q rest (a.put o.dst v') w') : wpList Tryd.prog ops Q (o :: rest) a w := by
  obtain ⟨i0, hi, hz0, hz1, hz2⟩ := info_parts info5
  refine wpList_append_own w hg s x 37 hop base 5 i0 (.int .u8 0) 1 1 Tryd.underlying37 hi hz0 hz1 hz2 rfl (by decide) v L.length (L.map (Value.int .u8)) hs hB ⟨g, 0, none⟩ 1 1 [.int .u8 y] hx rfl (fun j u hu => ?_) (by simp [Value.oneCell']) (by unfold maxLen; omega) (by omega) hbase (fun v' w' ho hgr _ => ?_)
  · cases j with
    | zero => simp at hu; subst hu; rw [Addr.add_mid]; exact hc
    | succ j => simp at hu
  · refine h v' w' (by simpa [Usl] using ho) ((Below.refl base w).grown hgr hbase (fun k hk => (World.ownsRow.lt hB k hk).1))
set_option maxRecDepth 100000 in
set_option maxHeartbeats 1000000 in
theorem rpart_any (key : ByteArray) (f n : Nat) (hkz : key.size ≤ 64) (hfn : f + n ≤ 65536) (w : World) :
    Calls Tryd.prog 37 #[.string key, .int .i64 (f : Int), .int .i64 (n : Int)] w fun e w' => e = .returned (.string (strOfNums (partP (nums key) f n))) ∧ Below w.heap.size w w' := by
  go_enter Tryd.func37, Tryd.ntmps37
  go_wp2
  go_loopw [7, 8, 9, 10] (fun v p a i wr => ∃ (k I : Nat) (pb : ByteArray) (av : Int), I = f + k ∧ k ≤ n ∧ i = .int .i64 (I : Int) ∧ p = .string pb ∧ a = .int .i64 av ∧ Hid (∀ m : Nat, av = (m : Int) → pb = pieceB key m) ∧ Usl wr w.heap.size v (partP (nums key) f k) ∧ Below w.heap.size w wr ∧ Hid (k = 0 → v = .slice none 0 0)) (fun _ _ _ i _ => f + n - (intOf i).toNat)
  case atStart => exact ⟨0, f, ⟨#[]⟩, -1, by omega, by omega, rfl, rfl, rfl, (fun m h => by omega), World.ownsRow_nil _ _ _ _, Below.refl _ _, (fun _ => rfl)⟩
  case round =>
    obtain ⟨k, I, pb, av, hIk, hk, rfl, rfl, rfl, HP, hU, hb, HN⟩ := hrel
    by_cases hlt : k < n
    · have hlt2 : (I : Int) < (f : Int) + (n : Int) := by omega
      obtain ⟨j, hj⟩ : ∃ j, j = I / 32 := ⟨_, rfl⟩
      obtain ⟨r, hr⟩ : ∃ r, r = I % 32 := ⟨_, rfl⟩
      have hdiv : Int.tdiv (I : Int) 32 = (j : Int) := by rw [Int.tdiv_eq_ediv_of_nonneg (by omega)]; omega
      have hmod : Int.tmod (I : Int) 32 = (r : Int) := by rw [Int.tmod_eq_emod_of_nonneg (by omega)]; omega
      have hyv : (nums (pieceB key j)).getD r 0 = sbyte (nums key) (f + k) := by rw [nums_pieceB, sbyte, ← hIk, ← hj, ← hr]
      have hr32 : r < 32 := by omega
      have hj48 : j ≤ 2048 := by omega
      have hI48 : I ≤ 65536 := by omega
      have hlen : (partP (nums key) f k).length < 100000 := by rw [partP_len]; omega
      obtain ⟨va, cap, rfl⟩ := hU.len
      have hps := partP_snoc (nums key) f k
      rw [← hyv] at hps
      have HPS := hide hps
      have HU := hide hU
      have HB := hide hb
      have HIK := hide hIk
      have hix := index_str (pieceB key j) r (by rw [pieceB_size]; exact hr32)
      generalize hy : (nums (pieceB key j)).getD r 0 = y at *
      clear hps hU hb hIk hj hr hyv hy
      by_cases hav : (j : Int) = av
      · have hpb := unhide HP j hav.symm
        have hne : ((j : Int) != av) = false := by simp [hav]
        rw [← hpb] at hix
        clear hpb hav
        go_wp2_with (at_builtin; refine wpList_appU (wr.alloc (Obj.cells #[.int .u8 y] 5)) rfl (.tmp 30) (.tmp 35) rfl w.heap.size _ _ rfl ((unhide HU).alloc _) (by have := (unhide HB).size; simp; omega) wr.heap.size y rfl (by simp) hlen ?_; intro v1 W1 hB1 hb1; have HB1 := hide hB1; have Hb1 := hide (((unhide HB).alloc (unhide HB).size _).trans hb1); clear hB1 hb1)
        go_roundw
        case rel => exact ⟨k + 1, I + 1, pb, av, by have := unhide HIK; omega, by omega, by go_num, rfl, rfl, HP, by rw [unhide HPS]; exact unhide HB1, unhide Hb1, (fun h => by omega)⟩
        case measure => simp [intOf]; omega
      · have hne : ((j : Int) != av) = true := by simp [hav]
        have nb : nums (strOfNums (numB (j : Int) 8)) = numB (j : Int) 8 := nums_strOfNums _ (numB_bytes _ _)
        have nz : (strOfNums (numB (j : Int) 8)).size = 8 := by rw [← nums_len, nb, numB_len]
        have hadd : ¬ 9223372036854775807 < key.size + 8 := by omega
        have hnk : nums (key ++ strOfNums (numB (j : Int) 8)) = nums key ++ numB (j : Int) 8 := by rw [nums_app, nb]
        have HPC := hide (show strOfNums (sha (nums (key ++ strOfNums (numB (j : Int) 8)))) = pieceB key j by rw [hnk]; rfl)
        have HNUM := hide (rnumber_any (j : Int) 8 (by omega) (by omega) (by omega) wr)
        have HSUM := hide (fun W => rsum_any (key ++ strOfNums (numB (j : Int) 8)) (by rw [ByteArray.size_append, nz]; omega) W)
        generalize hq : pieceB key j = q at *
        have HQ := hide hq
        generalize strOfNums (numB (j : Int) 8) = nbj at *
        clear nb hnk hav hq HP
        go_wp2_with fail
        refine (unhide HNUM).mono ?_
        rintro e w1 ⟨rfl, hb1⟩
        have HX1 := hide hb1
        clear hb1 HNUM
        go_wp2_with fail
        refine (unhide HSUM w1).mono ?_
        rintro e w2 ⟨rfl, hb2⟩
        rw [unhide HPC]
        have hB2 := (unhide HX1).trans (hb2.mono (unhide HX1).size)
        have HU2 := hide (show Usl w2 w.heap.size (.slice va (partP (nums key) f k).length cap) (partP (nums key) f k) from (unhide HU).below hB2)
        have HBB := hide ((unhide HB).trans (hB2.mono (unhide HB).size))
        clear hb2 hB2 HSUM HPC HX1 HU HB
        go_wp2_with (at_builtin; refine wpList_appU (w2.alloc (Obj.cells #[.int .u8 y] 5)) rfl (.tmp 30) (.tmp 35) rfl w.heap.size _ _ rfl ((unhide HU2).alloc _) (by have := (unhide HBB).size; simp; omega) w2.heap.size y rfl (by simp) hlen ?_; intro v1 W1 hB1 hb1; have HB1 := hide hB1; have Hb1 := hide (((unhide HBB).alloc (unhide HBB).size _).trans hb1); clear hB1 hb1)
        go_roundw
        case rel => exact ⟨k + 1, I + 1, q, j, by have := unhide HIK; omega, by omega, by go_num, rfl, rfl, (fun m h => by rw [← unhide HQ, show j = m by omega]), by rw [unhide HPS]; exact unhide HB1, unhide Hb1, (fun h => by omega)⟩
        case measure => simp [intOf]; omega
    · have ek : k = n := by omega
      rw [ek] at hU
      have hge : (f : Int) + (n : Int) ≤ (I : Int) := by omega
      have HB := hide hb
      obtain ⟨P, hP⟩ : ∃ P, P = partP (nums key) f n := ⟨_, rfl⟩
      have hPl := partP_len (nums key) f n
      rw [← hP] at hU hPl
      have HP2 := hide hP
      rcases Nat.eq_zero_or_pos n with hn | hn
      · have hP0 : P = [] := List.eq_nil_of_length_eq_zero (by omega)
        subst hP0
        obtain rfl := unhide HN (by omega)
        have hcv := run_convert_bytes_nil (P := Tryd.prog) wr 37 5 Tryd.underlying37 Tryd.underlying5 0 0 9 Tryd.underlying9
        clear hIk hb hP hU
        go_wp2
        go_ret
        exact ⟨rfl, unhide HB⟩
      · obtain ⟨g, cap, rfl, _, _, hA⟩ := hU.form (by omega)
        have hcv := run_convert_bytes_arg (P := Tryd.prog) wr 37 5 Tryd.underlying37 Tryd.underlying5 g 0 P.length cap P rfl (fun i hi => hA.get i hi) 9 Tryd.underlying9
        clear hIk hb hP hA hU hPl
        go_wp2
        go_ret
        exact ⟨by rw [← unhide HP2]; rfl, unhide HB⟩
end Go.Proofs.YtbnefbncjnfjdaaDoor
