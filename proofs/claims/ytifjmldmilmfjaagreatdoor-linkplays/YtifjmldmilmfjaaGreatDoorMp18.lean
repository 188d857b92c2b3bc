import Derived.Test.YtifjmldmilmfjaaGreatDoorMp17
import Derived.Test.YtifjmldmilmfjaaGreatDoorMp06
import Derived.Laws.AppendOwn
import Derived.Test.YtifjmldmilmfjaaGreatDoorMp15
namespace Go.Proofs.YtifjmldmilmfjaaGreatDoor
open Go.RowKit
/-- The slice v is the call's own, and holds the bytes L. -/
def Usl (w : World) (base : Nat) (v : Value) (L : List Int) : Prop := w.ownsRow base 5 1 v L.length (L.map (Value.int .u8))
theorem Usl.form {w : World} {base : Nat} {v : Value} {L : List Int} (h : Usl w base v L) (hne : 0 < L.length) : ∃ g cap, v = .slice (some ⟨g, 0, none⟩) L.length cap ∧ base ≤ g ∧ g < w.heap.size ∧ Arr w g 0 .u8 L := by
  obtain ⟨_, h | ⟨g, cap, cur, rfl, hg, hh, hn, hc, hs, hx⟩⟩ := h
  · omega
  · rw [Nat.mul_one] at hs hx
    have hcell : ∀ j, w.cell? ⟨g, j, none⟩ = cur[j]? := fun j => cell_of_row w g j cur 5 (0, 0) hh
    have hlt : g < w.heap.size := by
      rcases Nat.lt_or_ge g w.heap.size with h | h
      · exact h
      · rw [Array.getElem?_eq_none h] at hh; cases hh
    have hfr : ∀ j, w.frozen? ⟨g, j, none⟩ = false := fun j => by simp [World.frozen?, hh]
    refine ⟨g, cap, rfl, hg, hlt, fun j hj => ?_⟩
    rw [Nat.zero_add, hcell]
    refine ⟨?_, hfr j⟩
    have e : cur.toList[j]? = (L.map (Value.int .u8))[j]? := by rw [← hx, List.getElem?_take, if_pos hj]
    rw [← Array.getElem?_toList, e]
    simp [hj]
theorem Usl.len {w : World} {base : Nat} {v : Value} {L : List Int} (h : Usl w base v L) : ∃ a cap, v = .slice a L.length cap := by
  obtain ⟨_, ⟨rfl, h0⟩ | ⟨g, cap, cur, rfl, _⟩⟩ := h
  · exact ⟨none, 0, by rw [h0]⟩
  · exact ⟨_, cap, rfl⟩
theorem Usl.below {w w' : World} {base : Nat} {v : Value} {L : List Int} (h : Usl w base v L) (hb : Below w.heap.size w w') : Usl w' base v L := by
  refine World.ownsRow.kept h (grown_below hb none) ?_
  rcases hv : v.ownBlock with _ | x
  · exact .inl rfl
  · exact .inr (by simp)
theorem wpList_appU (w : World) {ops : Array Oper} {rest : List Oper} {o : Oper} {a : Act} {Q : Exit → Act → World → Prop}
    (hg : o.guard = none) (s x : Operand) (hop : o.op = Op.call { callee := Callee.builtin Builtin.append, args := #[s, x], argTypes := #[86, 86] })
    (base : Nat) (v : Value) (L : List Int) (hs : a.eval s = v) (hB : Usl w base v L) (hbase : base ≤ w.heap.size)
    (g : Nat) (y : Int) (hx : a.eval x = .slice (some ⟨g, 0, none⟩) 1 1) (hc : w.cell? ⟨g, 0, none⟩ = some (.int .u8 y)) (hsz : L.length < 100000)
    (h : ∀ v' w', Usl w' base v' (L ++ [y]) → Below base w w' → wpList Tryz.prog ops Q rest (a.put o.dst v') w') : wpList Tryz.prog ops Q (o :: rest) a w := by
  obtain ⟨i0, hi, hz0, hz1, hz2⟩ := info_parts info5
  refine wpList_append_own w hg s x 86 hop base 5 i0 (.int .u8 0) 1 1 Tryz.underlying86 hi hz0 hz1 hz2 rfl (by decide) v L.length (L.map (Value.int .u8)) hs hB ⟨g, 0, none⟩ 1 1 [.int .u8 y] hx rfl (fun j u hu => ?_) (by simp [Value.oneCell']) (by unfold maxLen; omega) (by omega) hbase (fun v' w' ho hgr _ => ?_)
  · cases j with
    | zero => simp at hu; subst hu; rw [Addr.add_mid]; exact hc
    | succ j => simp at hu
  · refine h v' w' (by simpa [Usl] using ho) ((Below.refl base w).grown hgr hbase (fun k hk => (World.ownsRow.lt hB k hk).1))
set_option maxRecDepth 100000 in
set_option maxHeartbeats 1000000 in
theorem rpart_any (key : ByteArray) (f n : Nat) (hkz : key.size ≤ 64) (hfn : f + n ≤ 65536) (w : World) :
    Calls Tryz.prog 97 #[.string key, .int .i64 (f : Int), .int .i64 (n : Int)] w fun e w' => e = .returned (.string (strOfNums (partP (nums key) f n))) ∧ Below w.heap.size w w' := by
  go_enter Tryz.func97, Tryz.ntmps97
  go_wp2
  go_loopw [7, 8, 9, 10] (fun v p a i wr => ∃ (k I : Nat) (pb : ByteArray) (av : Int), I = f + k ∧ k ≤ n ∧ i = .int .i64 (I : Int) ∧ p = .string pb ∧ a = .int .i64 av ∧ Hid (∀ m : Nat, av = (m : Int) → pb = pieceB key m) ∧ Usl wr w.heap.size v (partP (nums key) f k) ∧ Below w.heap.size w wr ∧ Hid (k = 0 → v = .slice none 0 0)) (fun _ _ _ i _ => f + n - (intOf i).toNat)
  case atStart => exact ⟨0, f, ⟨#[]⟩, -1, by omega, by omega, rfl, rfl, rfl, (fun m h => by omega), World.ownsRow_nil _ _ _ _, Below.refl _ _, (fun _ => rfl)⟩
  case round =>
    obtain ⟨k, I, pb, av, hIk, hk, rfl, rfl, rfl, HP, hU, hb, HN⟩ := hrel
    by_cases hlt : k < n
    · have hlt2 : (I : Int) < (f : Int) + (n : Int) := by omega
      obtain ⟨j, hj⟩ : ∃ j, j = I / 32 := ⟨_, rfl⟩
      obtain ⟨r, hr⟩ : ∃ r, r = I % 32 := ⟨_, rfl⟩
      have hdiv : Int.tdiv (I : Int) 32 = (j : Int) := by rw [Int.tdiv_eq_ediv_of_nonneg (by omega)]; omega
      have hmod : Int.tmod (I : Int) 32 = (r : Int) := by rw [Int.tmod_eq_emod_of_nonneg (by omega)]; omega
      have hyv : (nums (pieceB key j)).getD r 0 = sbyte (nums key) (f + k) := by rw [nums_pieceB, sbyte, ← hIk, ← hj, ← hr]
      have hr32 : r < 32 := by omega
      have hj48 : j ≤ 2048 := by omega
      have hI48 : I ≤ 65536 := by omega
      have hlen : (partP (nums key) f k).length < 100000 := by rw [partP_len]; omega
      obtain ⟨va, cap, rfl⟩ := hU.len
      have hps := partP_snoc (nums key) f k
      rw [← hyv] at hps
      have HPS := hide hps
      have HU := hide hU
      have HB := hide hb
      have HIK := hide hIk
      have hix := index_str (pieceB key j) r (by rw [pieceB_size]; exact hr32)
      generalize hy : (nums (pieceB key j)).getD r 0 = y at *
      clear hps hU hb hIk hj hr hyv hy
      by_cases hav : (j : Int) = av
      · have hpb := unhide HP j hav.symm
        have hne : ((j : Int) != av) = false := by simp [hav]
        rw [← hpb] at hix
        clear hpb hav
        go_wp2_with (at_builtin; refine wpList_appU (wr.alloc (Obj.cells #[.int .u8 y] 5)) rfl (.tmp 30) (.tmp 35) rfl w.heap.size _ _ rfl ((unhide HU).alloc _) (by have := (unhide HB).size; simp; omega) wr.heap.size y rfl (by simp) hlen ?_; intro v1 W1 hB1 hb1; have HB1 := hide hB1; have Hb1 := hide (((unhide HB).alloc (unhide HB).size _).trans hb1); clear hB1 hb1)
        go_roundw
        case rel => exact ⟨k + 1, I + 1, pb, av, by have := unhide HIK; omega, by omega, by go_num, rfl, rfl, HP, by rw [unhide HPS]; exact unhide HB1, unhide Hb1, (fun h => by omega)⟩
        case measure => simp [intOf]; omega
      · have hne : ((j : Int) != av) = true := by simp [hav]
        have nb : nums (strOfNums (numB (j : Int) 8)) = numB (j : Int) 8 := nums_strOfNums _ (numB_bytes _ _)
        have nz : (strOfNums (numB (j : Int) 8)).size = 8 := by rw [← nums_len, nb, numB_len]
        have hadd : ¬ 9223372036854775807 < key.size + 8 := by omega
        have hnk : nums (key ++ strOfNums (numB (j : Int) 8)) = nums key ++ numB (j : Int) 8 := by rw [nums_app, nb]
        have HPC := hide (show strOfNums (sha (nums (key ++ strOfNums (numB (j : Int) 8)))) = pieceB key j by rw [hnk]; rfl)
        have HNUM := hide (rnumber_any (j : Int) 8 (by omega) (by omega) (by omega) wr)
        have HSUM := hide (fun W => rsum_any (key ++ strOfNums (numB (j : Int) 8)) (by rw [ByteArray.size_append, nz]; omega) W)
        generalize hq : pieceB key j = q at *
        have HQ := hide hq
        generalize strOfNums (numB (j : Int) 8) = nbj at *
        clear nb hnk hav hq HP
        go_wp2_with fail
        refine (unhide HNUM).mono ?_
        rintro e w1 ⟨rfl, hb1⟩
        have HX1 := hide hb1
        clear hb1 HNUM
        go_wp2_with fail
        refine (unhide HSUM w1).mono ?_
        rintro e w2 ⟨rfl, hb2⟩
        rw [unhide HPC]
        have hB2 := (unhide HX1).trans (hb2.mono (unhide HX1).size)
        have HU2 := hide (show Usl w2 w.heap.size (.slice va (partP (nums key) f k).length cap) (partP (nums key) f k) from (unhide HU).below hB2)
        have HBB := hide ((unhide HB).trans (hB2.mono (unhide HB).size))
        clear hb2 hB2 HSUM HPC HX1 HU HB
        go_wp2_with (at_builtin; refine wpList_appU (w2.alloc (Obj.cells #[.int .u8 y] 5)) rfl (.tmp 30) (.tmp 35) rfl w.heap.size _ _ rfl ((unhide HU2).alloc _) (by have := (unhide HBB).size; simp; omega) w2.heap.size y rfl (by simp) hlen ?_; intro v1 W1 hB1 hb1; have HB1 := hide hB1; have Hb1 := hide (((unhide HBB).alloc (unhide HBB).size _).trans hb1); clear hB1 hb1)
        go_roundw
        case rel => exact ⟨k + 1, I + 1, q, j, by have := unhide HIK; omega, by omega, by go_num, rfl, rfl, (fun m h => by rw [← unhide HQ, show j = m by omega]), by rw [unhide HPS]; exact unhide HB1, unhide Hb1, (fun h => by omega)⟩
        case measure => simp [intOf]; omega
    · have ek : k = n := by omega
      rw [ek] at hU
      have hge : (f : Int) + (n : Int) ≤ (I : Int) := by omega
      have HB := hide hb
      obtain ⟨P, hP⟩ : ∃ P, P = partP (nums key) f n := ⟨_, rfl⟩
      have hPl := partP_len (nums key) f n
      rw [← hP] at hU hPl
      have HP2 := hide hP
      rcases Nat.eq_zero_or_pos n with hn | hn
      · have hP0 : P = [] := List.eq_nil_of_length_eq_zero (by omega)
        subst hP0
        obtain rfl := unhide HN (by omega)
        have hcv := run_convert_bytes_nil (P := Tryz.prog) wr 86 5 Tryz.underlying86 Tryz.underlying5 0 0 9 Tryz.underlying9
        clear hIk hb hP hU
        go_wp2
        go_ret
        exact ⟨rfl, unhide HB⟩
      · obtain ⟨g, cap, rfl, _, _, hA⟩ := hU.form (by omega)
        have hcv := run_convert_bytes_arg (P := Tryz.prog) wr 86 5 Tryz.underlying86 Tryz.underlying5 g 0 P.length cap P rfl (fun i hi => hA.get i hi) 9 Tryz.underlying9
        clear hIk hb hP hA hU hPl
        go_wp2
        go_ret
        exact ⟨by rw [← unhide HP2]; rfl, unhide HB⟩
end Go.Proofs.YtifjmldmilmfjaaGreatDoor

namespace Go.Proofs.YtifjmldmilmfjaaGreatDoor
open Go.RowKit
set_option maxRecDepth 100000 in
set_option maxHeartbeats 1000000 in
theorem rlaid2_any (a b : ByteArray) (hab : a.size ≤ b.size) (ha : a.size ≤ 140737488355328) (w : World) :
    Calls Tryz.prog 83 #[.string a, .string b] w fun e w' => e = .returned (.string (strOfNums (laidP (nums a) (nums b)))) ∧ Below w.heap.size w w' := by
  have hmk := fun W => run_make_u8 a.size a.size (by omega) (by omega) W
  have hL := laidP_len (nums a) (nums b)
  have hLg := fun t => laidP_getD (nums a) (nums b) t
  obtain ⟨Lx, hLx⟩ : ∃ Lx, Lx = laidP (nums a) (nums b) := ⟨_, rfl⟩
  rw [← hLx] at hL hLg ⊢
  rw [nums_len] at hL hLg
  clear hLx
  go_enter Tryz.func83, Tryz.ntmps83
  go_wp2
  clear hmk
  go_loopw [6] (fun i wr => ∃ t : Nat, t ≤ a.size ∧ i = .int .i64 (t : Int) ∧ Hid (KeyInv w (Lx.take t ++ (List.replicate a.size 0).drop t) wr)) (fun i _ => a.size - (intOf i).toNat)
  case atStart =>
    have h : KeyInv w (List.replicate a.size 0) (w.alloc (Obj.cells (Array.replicate a.size (Value.int .u8 0)) 5)) := ⟨arr_new w .u8 (List.replicate a.size 0) 5 _ (by simp), (Below.refl _ _).alloc (Nat.le_refl _) _, by simp⟩
    exact ⟨0, by omega, rfl, hide (by simpa using h)⟩
  case round =>
    obtain ⟨t, ht, rfl, HI⟩ := hrel
    by_cases htl : t < a.size
    · have hI := unhide HI
      have hlen : (Lx.take t ++ (List.replicate a.size (0 : Int)).drop t).length = a.size := by simp [hL]; omega
      have c1 := hI.1.get0 t (by omega)
      have f1 := hI.1.free0 t (by omega)
      rw [getD_take_drop _ _ _ (by omega), zeros_at] at c1
      have hix := index_str a t htl
      have hiy := index_str b t (by omega)
      have HE := hide (take_set Lx (List.replicate a.size 0) t _ (by omega) (by simp; omega) (hLg t htl).symm)
      have HLEN := hide hlen
      clear hI hlen hLg hL
      generalize (nums a).getD t 0 = x at *
      generalize (nums b).getD t 0 = y at *
      have i0 : 0 ≤ (t : Int) := by omega
      have i1 : (t : Int) < (a.size : Int) := by omega
      have i2 : (t : Int) < (b.size : Int) := by omega
      go_wp2
      go_still_tail 10, (by kernel_rfl)
      change wpList _ _ _ _ _ wr.drew
      go_wp2
      go_roundw
      case rel =>
        have h := (unhide HI).put t (by rw [unhide HLEN]; omega) _ (unhide HE)
        exact ⟨t + 1, by omega, by go_num, ⟨h.1.drew, h.2.1.drew, h.2.2⟩⟩
      case measure => simp [intOf]; omega
    · have e64 : t = a.size := by omega
      have hI := unhide HI
      rw [List.take_of_length_le (by omega), List.drop_of_length_le (by simp; omega), List.append_nil] at hI
      have hcv := run_convert_bytes_arg (P := Tryz.prog) wr 86 5 Tryz.underlying86 Tryz.underlying5 w.heap.size 0 a.size a.size Lx (by omega) (fun i hi => hI.1.get i (by omega)) 9 Tryz.underlying9
      have HB := hide hI.2.1
      clear hI HI hLg
      go_wp2
      go_ret
      exact ⟨rfl, unhide HB⟩
end Go.Proofs.YtifjmldmilmfjaaGreatDoor

namespace Go.Proofs.YtifjmldmilmfjaaGreatDoor
open Go.RowKit
def wthn (f n : Int) : Bool := decide (0 ≤ f ∧ 0 ≤ n ∧ f + n ≤ 65536)
set_option maxHeartbeats 400000 in
theorem within_any (f n : Int) (w : World) :
    Calls Tryz.prog 96 #[.int .i64 f, .int .i64 n] w fun e w' => e = .returned (.bool (wthn f n)) ∧ w' = w := by
  by_cases h1 : 0 ≤ f
  · by_cases h2 : 0 ≤ n
    · by_cases h3 : f ≤ 65536
      · by_cases h4 : n ≤ 65536 - f
        · have HD := hide (show wthn f n = true by simp [wthn]; omega)
          go_enter Tryz.func96, Tryz.ntmps96
          go_wp2
          go_ret
          exact ⟨by rw [unhide HD]; rfl, rfl⟩
        · have HD := hide (show wthn f n = false by simp [wthn]; omega)
          have h4' : 65536 - f < n := by omega
          go_enter Tryz.func96, Tryz.ntmps96
          go_wp2
          go_ret
          exact ⟨by rw [unhide HD]; rfl, rfl⟩
      · have HD := hide (show wthn f n = false by simp [wthn]; omega)
        have h3' : 65536 < f := by omega
        go_enter Tryz.func96, Tryz.ntmps96
        go_wp2
        go_ret
        exact ⟨by rw [unhide HD]; rfl, rfl⟩
    · have HD := hide (show wthn f n = false by simp [wthn]; omega)
      have h2' : n < 0 := by omega
      go_enter Tryz.func96, Tryz.ntmps96
      go_wp2
      go_ret
      exact ⟨by rw [unhide HD]; rfl, rfl⟩
  · have HD := hide (show wthn f n = false by simp [wthn]; omega)
    have h1' : f < 0 := by omega
    go_enter Tryz.func96, Tryz.ntmps96
    go_wp2
    go_ret
    exact ⟨by rw [unhide HD]; rfl, rfl⟩
set_option maxHeartbeats 400000 in
theorem rstream_any (key : ByteArray) (f n : Int) (w : World) :
    Calls Tryz.prog 82 #[.string key, .int .i64 f, .int .i64 n] w fun e w' => e = .returned (.tuple #[.string (streamB key f n), .int .i64 (errP key f n)]) ∧ Below w.heap.size w w' := by
  by_cases h1 : key.size = 32
  · have h1' : ((key.size : Int) != 32) = false := by simp; omega
    by_cases h2 : 0 ≤ f ∧ 0 ≤ n ∧ f + n ≤ 65536
    · have he : errP key f n = 0 := errP_zero.2 ⟨h1, h2⟩
      have hd : wthn f n = true := by simp [wthn, h2]
      obtain ⟨h2a, h2b, h2c⟩ := h2
      obtain ⟨F, rfl⟩ := Int.eq_ofNat_of_zero_le h2a
      obtain ⟨N, rfl⟩ := Int.eq_ofNat_of_zero_le h2b
      have HS := hide (show streamB key F N = strOfNums (partP (nums key) F N) by rw [streamB, if_pos he]; rfl)
      have HP := hide (rpart_any key F N (by omega) (by omega) w)
      rw [unhide HS, he]
      have HD := hide hd
      clear h2a h2b h2c he h1 hd
      go_enter Tryz.func82, Tryz.ntmps82
      go_wp2_with fail
      refine (within_any F N w).mono ?_
      rintro e w1 ⟨rfl, rfl⟩
      rw [unhide HD]
      go_wp2_with fail
      refine (unhide HP).mono ?_
      rintro e w2 ⟨rfl, hB⟩
      have HB := hide hB
      clear hB
      go_wp2
      go_ret2
      exact ⟨rfl, unhide HB⟩
    · have he : errP key f n = 21 := errP_21 h1 h2
      have hd : wthn f n = false := by simp only [wthn, decide_eq_false_iff_not]; exact h2
      have HS := hide (show streamB key f n = ⟨#[]⟩ by rw [streamB, if_neg (by omega)])
      rw [unhide HS, he]
      have HD := hide hd
      clear he h1 hd h2
      go_enter Tryz.func82, Tryz.ntmps82
      go_wp2_with fail
      refine (within_any f n w).mono ?_
      rintro e w1 ⟨rfl, rfl⟩
      rw [unhide HD]
      go_wp2
      go_ret2
      exact ⟨rfl, Below.refl _ _⟩
  · have h1' : ((key.size : Int) != 32) = true := ne_int h1
    have he : errP key f n = 20 := errP_20 h1
    have HS := hide (show streamB key f n = ⟨#[]⟩ by rw [streamB, if_neg (by omega)])
    rw [unhide HS, he]
    clear he h1
    go_enter Tryz.func82, Tryz.ntmps82
    go_wp2
    go_ret2
    exact ⟨rfl, Below.refl _ _⟩
end Go.Proofs.YtifjmldmilmfjaaGreatDoor

namespace Go.Proofs.YtifjmldmilmfjaaGreatDoor
open Go.RowKit
end Go.Proofs.YtifjmldmilmfjaaGreatDoor

namespace Go.Proofs.YtifjmldmilmfjaaGreatDoor
open Go.RowKit
set_option maxHeartbeats 400000 in
theorem rxor_any (key : ByteArray) (f : Int) (s : ByteArray) (hs : s.size ≤ 140737488355328) (w : World) :
    Calls Tryz.prog 62 #[.string key, .int .i64 f, .string s] w fun e w' => e = .returned (.tuple #[.string (xorB key f s), .int .i64 (errP key f s.size)]) ∧ Below w.heap.size w w' := by
  have HC := hide (rstream_any key f s.size w)
  by_cases h : errP key f s.size = 0
  · have hst : streamB key f s.size = strOfNums (partP (nums key) f.toNat s.size) := by rw [streamB, if_pos h]; rfl
    have hxo : xorB key f s = strOfNums (laidP (nums s) (partP (nums key) f.toNat s.size)) := by rw [xorB, if_pos h]
    have hnp : nums (strOfNums (partP (nums key) f.toNat s.size)) = partP (nums key) f.toNat s.size := nums_strOfNums _ (partP_bytes _ _ _)
    have hsp : (strOfNums (partP (nums key) f.toNat s.size)).size = s.size := by rw [← nums_len, hnp, partP_len]
    have HL := hide (fun W => rlaid2_any s (strOfNums (partP (nums key) f.toNat s.size)) (by omega) (by omega) W)
    rw [hnp] at HL
    rw [h, hst] at HC
    rw [h, hxo]
    clear h hst hxo hnp hsp
    generalize strOfNums (partP (nums key) f.toNat s.size) = pt at *
    generalize strOfNums (laidP (nums s) (partP (nums key) f.toNat s.size)) = ct at *
    go_enter Tryz.func62, Tryz.ntmps62
    go_wp2_with fail
    refine (unhide HC).mono ?_
    rintro e w1 ⟨rfl, hB1⟩
    have HB1 := hide hB1
    clear hB1 HC
    go_wp2_with fail
    refine (unhide HL w1).mono ?_
    rintro e w2 ⟨rfl, hB2⟩
    have HB2 := hide ((unhide HB1).trans (hB2.mono (unhide HB1).size))
    clear hB2 HL
    go_wp2
    go_ret2
    exact ⟨rfl, unhide HB2⟩
  · have hst : streamB key f s.size = ⟨#[]⟩ := by rw [streamB, if_neg h]
    have hxo : xorB key f s = ⟨#[]⟩ := by rw [xorB, if_neg h]
    rw [hst] at HC
    rw [hxo]
    clear hst hxo
    generalize errP key f s.size = E at *
    go_enter Tryz.func62, Tryz.ntmps62
    go_wp2_with fail
    refine (unhide HC).mono ?_
    rintro e w1 ⟨rfl, hB1⟩
    have HB1 := hide hB1
    clear hB1 HC
    go_wp2
    go_ret2
    exact ⟨rfl, unhide HB1⟩
end Go.Proofs.YtifjmldmilmfjaaGreatDoor

namespace Go.Proofs.YtifjmldmilmfjaaGreatDoor
open Go.RowKit
theorem xor8_twice (x y : Int) (hx : 0 ≤ x ∧ x < 256) (hy : 0 ≤ y ∧ y < 256) : bits .xor .u8 (bits .xor .u8 x y) y = x := by
  obtain ⟨X, rfl⟩ := Int.eq_ofNat_of_zero_le hx.1
  obtain ⟨Y, rfl⟩ := Int.eq_ofNat_of_zero_le hy.1
  have hb : X ^^^ Y < 256 := Nat.xor_lt_two_pow (n := 8) (by omega) (by omega)
  rw [u8_xor_nat X Y (by omega) (by omega), u8_xor_nat (X ^^^ Y) Y hb (by omega), Nat.xor_assoc, Nat.xor_self, Nat.xor_zero]
theorem laid_laid (a b : List Int) (ha : Bytes a) (hb : Bytes b) : laidP (laidP a b) b = a := by
  have hl : (laidP (laidP a b) b).length = a.length := by rw [laidP_len, laidP_len]
  apply List.ext_getElem?
  intro j
  by_cases hj : j < a.length
  · have h1 := laidP_getD (laidP a b) b j (by rw [laidP_len]; exact hj)
    rw [laidP_getD a b j hj, xor8_twice _ _ (ha j) (hb j)] at h1
    rw [List.getD_eq_getElem?_getD, List.getElem?_eq_getElem (by omega), List.getD_eq_getElem?_getD, List.getElem?_eq_getElem hj] at h1
    simp only [Option.getD_some] at h1
    rw [List.getElem?_eq_getElem (by omega), List.getElem?_eq_getElem hj, h1]
  · rw [List.getElem?_eq_none (by omega), List.getElem?_eq_none (by omega)]
theorem xorB_twice (key : ByteArray) (f : Int) (s : ByteArray) (h : errP key f s.size = 0) : (xorB key f s).size = s.size ∧ xorB key f (xorB key f s) = s := by
  have h1 : xorB key f s = strOfNums (laidP (nums s) (partP (nums key) f.toNat s.size)) := by rw [xorB, if_pos h]
  have h2 : nums (xorB key f s) = laidP (nums s) (partP (nums key) f.toNat s.size) := by rw [h1]; exact nums_strOfNums _ (laidP_bytes _ _)
  have h3 : (xorB key f s).size = s.size := by rw [← nums_len, h2, laidP_len, nums_len]
  refine ⟨h3, ?_⟩
  rw [xorB, h3, if_pos h, h2, laid_laid _ _ (nums_bytes s) (partP_bytes _ _ _), strOfNums_nums]
end Go.Proofs.YtifjmldmilmfjaaGreatDoor

namespace Go.Proofs.YtifjmldmilmfjaaGreatDoor
open Go.RowKit
set_option maxRecDepth 100000
/-- what Send says, and what an end is behind it -/
def LE.snE (e : LE) (m : ByteArray) : Int := if e.r = false ∨ 4611686018427387904 ≤ e.s then 211 else if 4096 < m.size then 214 else 0
def LE.snF (e : LE) (m : ByteArray) : ByteArray := if e.snE m = 0 then frB (e.h e.i) (e.z e.i) (e.s : Int) m else ⟨#[]⟩
def LE.snN (e : LE) (m : ByteArray) : LE := if e.snE m = 0 then { e with s := e.s + 1 } else e
theorem hdB_size (hi : ByteArray) (n : Int) (m : ByteArray) (h : m.size ≤ 65536) : (hdB hi n m).size = m.size := by
  refine (xorB_twice (mcB hi (nuB n)) 0 m ?_).1
  exact errP_zero.2 ⟨mcB_size _ _, by omega, by omega, by omega⟩
theorem hdB_twice (hi : ByteArray) (n : Int) (m : ByteArray) (h : m.size ≤ 65536) : hdB hi n (hdB hi n m) = m := by
  refine (xorB_twice (mcB hi (nuB n)) 0 m ?_).2
  exact errP_zero.2 ⟨mcB_size _ _, by omega, by omega, by omega⟩
set_option maxHeartbeats 4000000 in
theorem lsend_any (g : Nat) (e : LE) (m : ByteArray) (hm : m.size ≤ 140737488355000) (w : World) (hE : EndM w g e) (hK : KTab w) : Calls Tryz.prog 10 #[.pointer (some ⟨g, 0, none⟩), .string m] w fun ev w' => ev = .returned (.tuple #[.string (e.snF m), .int .i64 (e.snE m)]) ∧ EndM w' g (e.snN m) ∧ Only (fun k => k = g) w w' := by
  obtain ⟨E9, hE9⟩ : ∃ z, e.snE m = z := ⟨_, rfl⟩
  obtain ⟨e9, he9⟩ : ∃ z, e.snN m = z := ⟨_, rfl⟩
  obtain ⟨F9, hF9⟩ : ∃ z, e.snF m = z := ⟨_, rfl⟩
  rw [hE9, he9, hF9]
  have HM := hide (maySend_any g e w hE)
  have HE := hide hE
  cases hr : e.r
  · have h9 : E9 = 211 := by rw [← hE9, LE.snE, if_pos (.inl hr)]
    have h8 : e9 = e := by rw [← he9, LE.snN, hE9, h9]; rfl
    have h7 : F9 = ⟨#[]⟩ := by rw [← hF9, LE.snF, hE9, h9]; rfl
    rw [hr] at HM
    subst h8
    rw [h9, h7]
    clear hE hE9 he9 hF9 h9 h7 hr hK
    go_enter Tryz.func10, Tryz.ntmps10
    go_wp2_with fail
    refine (unhide HM).mono ?_
    rintro ev y ⟨rfl, hb⟩
    have HB := hide (And.intro ((unhide HE).below hb (unhide HE).lt) (Only.of_below (P := fun k => k = g) hb))
    clear hb
    go_wp2
    go_ret2
    exact ⟨rfl, (unhide HB).1, (unhide HB).2⟩
  rw [hr] at HM
  have HC2 := hide (show ∀ W, Below w.heap.size w W → W.cell? ⟨g, 2, none⟩ = some (.int .i64 (e.s : Int)) from fun W hW => (hE.1.below hW hE.lt).cell 2)
  have hs9 := hE.2.s
  by_cases hs : 4611686018427387904 ≤ e.s
  · have h9 : E9 = 211 := by rw [← hE9, LE.snE, if_pos (.inr hs)]
    have h8 : e9 = e := by rw [← he9, LE.snN, hE9, h9]; rfl
    have h7 : F9 = ⟨#[]⟩ := by rw [← hF9, LE.snF, hE9, h9]; rfl
    subst h8
    rw [h9, h7]
    have e1 : decide ((4611686018427387904 : Int) ≤ (e9.s : Int)) = true := decide_eq_true (by omega)
    clear hE hE9 he9 hF9 h9 h7 hr hK hs hs9
    go_enter Tryz.func10, Tryz.ntmps10
    go_wp2_with fail
    refine (unhide HM).mono ?_
    rintro ev y ⟨rfl, hb⟩
    have HB := hide (And.intro ((unhide HE).below hb (unhide HE).lt) (Only.of_below (P := fun k => k = g) hb))
    have c2 := unhide HC2 y hb
    clear hb
    go_wp2
    go_ret2
    exact ⟨rfl, (unhide HB).1, (unhide HB).2⟩
  have e1 : decide ((4611686018427387904 : Int) ≤ (e.s : Int)) = false := decide_eq_false (by omega)
  by_cases hl : 4096 < m.size
  · have h9 : E9 = 214 := by rw [← hE9, LE.snE, if_neg (by rw [hr]; simp; omega), if_pos hl]
    have h8 : e9 = e := by rw [← he9, LE.snN, hE9, h9]; rfl
    have h7 : F9 = ⟨#[]⟩ := by rw [← hF9, LE.snF, hE9, h9]; rfl
    subst h8
    rw [h9, h7]
    have e2 : (m.size : Int) > 4096 := by omega
    clear hE hE9 he9 hF9 h9 h7 hr hK hs hs9
    go_enter Tryz.func10, Tryz.ntmps10
    go_wp2_with fail
    refine (unhide HM).mono ?_
    rintro ev y ⟨rfl, hb⟩
    have HB := hide (And.intro ((unhide HE).below hb (unhide HE).lt) (Only.of_below (P := fun k => k = g) hb))
    have c2 := unhide HC2 y hb
    clear hb
    go_wp2
    go_ret2
    exact ⟨rfl, (unhide HB).1, (unhide HB).2⟩
  have h9 : E9 = 0 := by rw [← hE9, LE.snE, if_neg (by rw [hr]; simp; omega), if_neg hl]
  have h8 : e9 = { e with s := e.s + 1 } := by rw [← he9, LE.snN, hE9, h9]; rfl
  have h7 : F9 = frB (e.h e.i) (e.z e.i) (e.s : Int) m := by rw [← hF9, LE.snF, hE9, h9]; rfl
  rw [h9, h8, h7]
  have hle := e.hle e.i
  have HFR := hide (fun W (hW : KTab W) => frame_any (e.h e.i) (e.z e.i) (by omega) (by omega) e.s (by omega) m (by omega) (by rw [hdB_size _ _ _ (by omega)]; omega) W hW)
  obtain ⟨F, hF⟩ : ∃ z, frB (e.h e.i) (e.z e.i) (e.s : Int) m = z := ⟨_, rfl⟩
  rw [hF] at HFR ⊢
  have HZ := hide (show ∀ W, Blk W g (e.cs.setIfInBounds 2 (.int .i64 ((e.s : Int) + 1))) 50 → EndM W g { e with s := e.s + 1 } from fun W hW => ⟨by
    rw [show ((e.s : Int) + 1) = ((e.s + 1 : Nat) : Int) by omega] at hW
    exact hW, hE.2.k, hE.2.n, hE.2.o, hE.2.i, by show e.s + 1 ≤ 4611686018427387904; omega, hE.2.t, hE.2.m, hE.2.q⟩)
  have HKB := hide (show ∀ W, Below w.heap.size w W → KTab W from fun W hW => hK.below hW hK.1)
  have HBK := hide (show ∀ W, Below w.heap.size w W → Blk W g e.cs 50 from fun W hW => hE.1.below hW hE.lt)
  have HCI := hide (show e.cs[0]? = some (Value.string (e.h e.i)) ∧ e.cs[1]? = some (Value.string (e.z e.i)) ∧ e.cs[2]? = some (Value.int .i64 (e.s : Int)) from ⟨rfl, rfl, rfl⟩)
  have ew : wrap64 ((e.s : Int) + 1) = (e.s : Int) + 1 := wrap64_eq _ (by omega) (by omega)
  have e2 : ¬ (m.size : Int) > 4096 := by omega
  clear hE hE9 he9 hF9 h9 h8 h7 hr hK hs hs9 hle hF HE hl
  obtain ⟨A, hA⟩ : ∃ z, e.h e.i = z := ⟨_, rfl⟩
  obtain ⟨B, hB⟩ : ∃ z, e.z e.i = z := ⟨_, rfl⟩
  obtain ⟨s, hs⟩ : ∃ z, e.s = z := ⟨_, rfl⟩
  obtain ⟨cs, hcs⟩ : ∃ z, e.cs = z := ⟨_, rfl⟩
  rw [hA, hB, hs] at HFR
  rw [hA, hB, hs, hcs] at HCI
  rw [hs] at HC2 e1 ew
  rw [hs, hcs] at HZ
  rw [hcs] at HBK
  rw [hs]
  clear hA hB hs hcs
  go_enter Tryz.func10, Tryz.ntmps10
  go_wp2_with fail
  refine (unhide HM).mono ?_
  rintro ev y ⟨rfl, hb⟩
  have c2 := unhide HC2 y hb
  have hBy := unhide HBK y hb
  have c0 : y.cell? ⟨g, 0, none⟩ = some (.string A) := (hBy.cell 0).trans (unhide HCI).1
  have c1 : y.cell? ⟨g, 1, none⟩ = some (.string B) := (hBy.cell 1).trans (unhide HCI).2.1
  have HF := hide (unhide HFR y.drew (unhide HKB y hb))
  have HF9 := hide (show ∀ z, Below y.drew.heap.size y.drew z → Blk z g cs 50 ∧ Only (fun k => k = g) w z ∧ (z.cell? ⟨g, 0, none⟩ = some (.string A) ∧ z.cell? ⟨g, 1, none⟩ = some (.string B) ∧ z.cell? ⟨g, 2, none⟩ = some (.int .i64 (s : Int))) ∧ z.cell? ⟨g, 2, none⟩ = some (.int .i64 (s : Int)) ∧ z.frozen? ⟨g, 2, none⟩ = false from fun z hz => by
    have h1 : Below w.heap.size w z := hb.trans ((Below.refl _ y).drew.trans hz |>.mono hb.size)
    have h2 := unhide HBK z h1
    exact ⟨h2, Only.of_below h1, ⟨(h2.cell 0).trans (unhide HCI).1, (h2.cell 1).trans (unhide HCI).2.1, (h2.cell 2).trans (unhide HCI).2.2⟩, (h2.cell 2).trans (unhide HCI).2.2, h2.frozen 2⟩)
  clear hb hBy HM HC2 HBK HKB HFR
  go_wp2_with fail
  refine wp_region_held_drew (S := fun W => W.cell? ⟨g, 0, none⟩ = some (.string A) ∧ W.cell? ⟨g, 1, none⟩ = some (.string B) ∧ W.cell? ⟨g, 2, none⟩ = some (.int .i64 (s : Int))) (by kernel_rfl) ⟨c0, c1, c2⟩ ?_
  intro hS
  refine wpAnyH_takeD 0 (some 20) (.pointer (some ⟨g, 0, none⟩)) rfl rfl (by kernel_rfl) (by kernel_rfl) (by kernel_rfl) (fun _ _ _ h => h) (Or.inl ⟨by rfl, fun w hSw => by have hq1 := hSw.1; have hq2 := hSw.2.1; have hq3 := hSw.2.2; clear hSw; go_simp⟩) hS ?_
  simp only [Act.put, List.setIfInBounds_toArray, List.set_cons_zero, List.set_cons_succ]
  refine wpAnyH_takeD 1 (some 21) (.pointer (some ⟨g, 0, none⟩)) rfl rfl (by kernel_rfl) (by kernel_rfl) (by kernel_rfl) (fun _ _ _ h => h) (Or.inl ⟨by rfl, fun w hSw => by have hq1 := hSw.1; have hq2 := hSw.2.1; have hq3 := hSw.2.2; clear hSw; go_simp⟩) hS ?_
  simp only [Act.put, List.setIfInBounds_toArray, List.set_cons_zero, List.set_cons_succ]
  refine wpAnyH_takeD 2 (some 22) (.pointer (some ⟨g, 0, none⟩)) rfl rfl (by kernel_rfl) (by kernel_rfl) (by kernel_rfl) (fun _ _ _ h => h) (Or.inl ⟨by rfl, fun w hSw => by have hq1 := hSw.1; have hq2 := hSw.2.1; have hq3 := hSw.2.2; clear hSw; go_simp⟩) hS ?_
  simp only [Act.put, List.setIfInBounds_toArray, List.set_cons_zero, List.set_cons_succ]
  refine wpAnyH_takeD 3 (some 23) (.agg #[.string A, .string B]) rfl rfl (by kernel_rfl) (by kernel_rfl) (by kernel_rfl) (fun _ _ _ h => h) (Or.inl ⟨by rfl, fun w hSw => by have hq1 := hSw.1; have hq2 := hSw.2.1; have hq3 := hSw.2.2; clear hSw; go_simp⟩) hS ?_
  simp only [Act.put, List.setIfInBounds_toArray, List.set_cons_zero, List.set_cons_succ]
  refine wpAnyH_takeD 4 (some 24) (.pointer (some ⟨g, 0, none⟩)) rfl rfl (by kernel_rfl) (by kernel_rfl) (by kernel_rfl) (fun _ _ _ h => h) (Or.inl ⟨by rfl, fun w hSw => by have hq1 := hSw.1; have hq2 := hSw.2.1; have hq3 := hSw.2.2; clear hSw; go_simp⟩) hS ?_
  simp only [Act.put, List.setIfInBounds_toArray, List.set_cons_zero, List.set_cons_succ]
  refine wpAnyH_takeD 5 (some 25) (.pointer (some ⟨g, 0, none⟩)) rfl rfl (by kernel_rfl) (by kernel_rfl) (by kernel_rfl) (fun _ _ _ h => h) (Or.inl ⟨by rfl, fun w hSw => by have hq1 := hSw.1; have hq2 := hSw.2.1; have hq3 := hSw.2.2; clear hSw; go_simp⟩) hS ?_
  simp only [Act.put, List.setIfInBounds_toArray, List.set_cons_zero, List.set_cons_succ]
  refine wpAnyH_takeD 6 (some 26) (.pointer (some ⟨g, 2, none⟩)) rfl rfl (by kernel_rfl) (by kernel_rfl) (by kernel_rfl) (fun _ _ _ h => h) (Or.inl ⟨by rfl, fun w hSw => by have hq1 := hSw.1; have hq2 := hSw.2.1; have hq3 := hSw.2.2; clear hSw; go_simp⟩) hS ?_
  simp only [Act.put, List.setIfInBounds_toArray, List.set_cons_zero, List.set_cons_succ]
  refine wpAnyH_takeD 7 (some 27) (.int .i64 (s : Int)) rfl rfl (by kernel_rfl) (by kernel_rfl) (by kernel_rfl) (fun _ _ _ h => h) (Or.inl ⟨by rfl, fun w hSw => by have hq1 := hSw.1; have hq2 := hSw.2.1; have hq3 := hSw.2.2; clear hSw; go_simp⟩) hS ?_
  simp only [Act.put, List.setIfInBounds_toArray, List.set_cons_zero, List.set_cons_succ]
  refine wpAnyH_takeD 8 (some 28) (.string m) rfl rfl (by kernel_rfl) (by kernel_rfl) (by kernel_rfl) (fun _ _ _ h => h) (Or.inl ⟨by rfl, fun w hSw => by have hq1 := hSw.1; have hq2 := hSw.2.1; have hq3 := hSw.2.2; clear hSw; go_simp⟩) hS ?_
  simp only [Act.put, List.setIfInBounds_toArray, List.set_cons_zero, List.set_cons_succ]
  refine wpAnyH_ready (rs := [9]) (by kernel_rfl) (by simp) ?_
  refine AllReadyH.cons rfl (fun K hK => ?_) AllReadyH.nil
  simp only [List.getElem_toArray, List.getElem_cons_succ, List.getElem_cons_zero]
  go_simp
  refine (unhide HF).mono ?_
  rintro ev y5 ⟨rfl, hb⟩
  obtain ⟨hB5, hO5, hS9, d2, f2⟩ := unhide HF9 _ hb
  clear hb
  refine hK.out _ _ hS9 (fun hS => ?_)
  clear hK K
  refine wpAnyH_takeD 10 (some 6) (.string F) rfl rfl (by kernel_rfl) (by kernel_rfl) (by kernel_rfl) (fun _ _ _ h => h) (Or.inl ⟨by rfl, fun w hSw => by have hq1 := hSw.1; have hq2 := hSw.2.1; have hq3 := hSw.2.2; clear hSw; go_simp⟩) hS ?_
  simp only [Act.put, List.setIfInBounds_toArray, List.set_cons_zero, List.set_cons_succ]
  refine wpAnyH_done (by kernel_rfl) ?_ _
  have HE8 := hide (show EndM (y5.setCell ⟨g, 2, none⟩ (.int .i64 ((s : Int) + 1))) g { e with s := s + 1 } from unhide HZ _ (hB5.set 2 _))
  have HO8 := hide (show Only (fun k => k = g) w (y5.setCell ⟨g, 2, none⟩ (.int .i64 ((s : Int) + 1))) from hO5.setCell _ _ (fun _ => rfl))
  clear hB5 hO5 hS hS9 c0 c1 c2 e1 e2
  go_wp2
  go_ret2
  exact ⟨rfl, unhide HE8, unhide HO8⟩
end Go.Proofs.YtifjmldmilmfjaaGreatDoor
